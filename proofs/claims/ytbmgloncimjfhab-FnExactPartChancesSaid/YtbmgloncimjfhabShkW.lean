/-
  Contracts: SharedShock, in the program and in its model. Conditions: the lists read as lists of numbers.
-/
import Derived.Test.YtbmgloncimjfhabShk
import Derived.Deep.RegionHeld3
namespace Go.Proofs.Ytbmgloncimjfhab
open Go.RowKit Go.Shelf Dec Flt Syl Sep Chn
set_option maxRecDepth 40000 in
set_option maxHeartbeats 4000000 in
theorem iSharedShock_any (p : Int) (a : Option Addr) (len cap : Nat) (zs : List Int) (b : Option Addr) (lb cb : Nat) (cs : List Nat) (x : Int) (s : Nat) (w : World) (h : IRow w a len zs) (hcf : FRow w b lb cs) (hcap : len ≤ cap) (_ : lb ≤ cb) (hs32 : s < 4294967296) :
    Calls Try.prog 31 #[.agg #[.int .i64 p, .slice a len cap], .slice b lb cb, .int .i64 x, .float .f32 s] w fun e w' => e = .returned (.tuple #[.float .f32 (shkA p zs cs x s), .bool (shkB p zs cs x s)]) ∧ Below w.heap.size w w' := by
  have H := Lib.hid h
  have HC := Lib.hid hcf
  have HLN := Lib.hid hcf.1
  clear h hcf
  go_enter Try.func31, Try.ntmps31
  go_wp2_with fail
  have b0 : Below w.heap.size w (w.alloc (.cells #[.int .i64 p, .slice a len cap] 30)) := (Below.refl _ _).alloc (Nat.le_refl _) _
  have k0 : SVar 30 (w.alloc (.cells #[.int .i64 p, .slice a len cap] 30)) w.heap.size p a len cap := Blk.Blk.new _ _ _
  refine (haveChances_any p a len cap zs b lb cb cs _ (H.out.keep b0) hcap (frow_keep HC.out b0)).mono ?_
  rintro e w1 ⟨rfl, b1⟩
  have B1 := Lib.hid (b0.trans (b1.mono b0.size))
  have K1 := Lib.hid (k0.keep b1)
  clear b0 b1 k0
  cases hs : hvB p zs cs with
  | false =>
    have HP : Hid (shkA p zs cs x s = 0 ∧ shkB p zs cs x s = false) := by show _ ∧ _; unfold shkA shkB; rw [hs]; exact ⟨rfl, rfl⟩
    clear hs
    go_wp2_with fail
    go_ret2
    rw [HP.out.1, HP.out.2]
    exact ⟨rfl, B1.out⟩
  | true =>
    have HE : Hid (shkB p zs cs x s = (setB p x && shB s)) := by show _ = _; unfold shkB; rw [hs]; rfl
    have hh := hvB_parts hs
    have hp := sysB_parts hh.1
    have HU := Lib.hid (chs_unis HC.out.2.2.1 hh.2.2)
    have hlen : lb ≤ 10 := by have := HC.out.1; omega
    have h0 : 0 < lb := by have := HC.out.1; omega
    obtain ⟨⟨v0, v1⟩, _, _⟩ := K1.out.two
    clear hs hh
    go_wp2_with fail
    refine (isSet_any p x _ hp.1 hp.2).mono ?_
    rintro e w2 ⟨rfl, rfl⟩
    cases hq : setB p x with
    | false =>
      have HP : Hid (shkA p zs cs x s = 0 ∧ shkB p zs cs x s = false) := by show _ ∧ _; unfold shkA; rw [HE.out, hq]; exact ⟨rfl, rfl⟩
      clear hq
      go_wp2_with fail
      go_ret2
      rw [HP.out.1, HP.out.2]
      exact ⟨rfl, B1.out⟩
    | true =>
      have HE2 : Hid (shkB p zs cs x s = shB s) := by show _ = _; rw [HE.out, hq]; rfl
      clear hq
      go_wp2_with fail
      refine (isChance_any s _).mono ?_
      rintro e w2 ⟨rfl, rfl⟩
      cases hq : shB s with
      | false =>
        have HP : Hid (shkA p zs cs x s = 0 ∧ shkB p zs cs x s = false) := by show _ ∧ _; unfold shkA; rw [HE2.out, hq]; exact ⟨rfl, rfl⟩
        clear hq
        go_wp2_with fail
        go_ret2
        rw [HP.out.1, HP.out.2]
        exact ⟨rfl, B1.out⟩
      | true =>
        have HP : Hid (shkA p zs cs x s = shkV p zs cs x s ∧ shkB p zs cs x s = true) := by show _ ∧ _; unfold shkA; rw [HE2.out, hq]; exact ⟨rfl, rfl⟩
        have hsu := uni_of hs32 hq
        obtain ⟨pn, rfl⟩ : ∃ pn : Nat, p = pn := ⟨p.toNat, by omega⟩
        have hwu := wiC_unis HU.out x (v := 0) (.inl (Nat.zero_le _)) lb
        have hok := shV_ok hsu (chV_bd hwu hp.2 zs) (chV_bd HU.out hp.2 zs)
        have HX : Hid (chV (pn : Int) zs (wiC cs x 0 lb) = suS (wiC cs x 0 lb) (2 ^ pn) (worksB zs) (2 ^ pn)) := by show _ = _; unfold chV; rw [Int.toNat_natCast]
        have HY : Hid (chV (pn : Int) zs cs = suS cs (2 ^ pn) (worksB zs) (2 ^ pn)) := by show _ = _; unfold chV; rw [Int.toNat_natCast]
        have HV : Hid (shkV (pn : Int) zs cs x s = shV s (chV (pn : Int) zs (wiC cs x 0 lb)) (chV (pn : Int) zs cs)) := by show _ = _; unfold shkV; rw [HLN.out]
        have HWU := Lib.hid hwu
        obtain ⟨X, hX⟩ : ∃ X, chV (pn : Int) zs (wiC cs x 0 lb) = X := ⟨_, rfl⟩
        obtain ⟨Y, hY⟩ : ∃ Y, chV (pn : Int) zs cs = Y := ⟨_, rfl⟩
        rw [hX, hY] at hok HV
        rw [hX] at HX
        rw [hY] at HY
        clear hX hY
        have hr1 : ∀ w, (binOp .mul 27 (.float .f32 s) (.float .f32 X)).run Try.prog w = .ok (.float .f32 (mulC s X)) w := fun w => run_float_arith w .mul 27 .f32 _ _ _ hok.1
        have hr2 : ∀ w, (binOp .sub 27 (.float .f32 1065353216) (.float .f32 s)).run Try.prog w = .ok (.float .f32 (subC 1065353216 s)) w := fun w => run_float_arith w .sub 27 .f32 _ _ _ hok.2.1
        have hr3 : ∀ w, (binOp .mul 27 (.float .f32 (subC 1065353216 s)) (.float .f32 Y)).run Try.prog w = .ok (.float .f32 (mulC (subC 1065353216 s) Y)) w := fun w => run_float_arith w .mul 27 .f32 _ _ _ hok.2.2.1
        have hr4 : ∀ w, (binOp .add 27 (.float .f32 (mulC s X)) (.float .f32 (mulC (subC 1065353216 s) Y))).run Try.prog w = .ok (.float .f32 (shV s X Y)) w := fun w => run_float_arith w .add 27 .f32 _ _ _ hok.2.2.2.1
        clear hok hq hwu v0 v1
        go_wp2_with fail
        have K2 : Hid (SVar 30 w1.drew w.heap.size (pn : Int) a len cap) := K1.out
        have B2 : Hid (Below w.heap.size w w1.drew) := B1.out.drew
        have S1 := Lib.hid K2.out.two
        clear K1 B1
        go_region_held3 (fun W => W.cell? ⟨w.heap.size, 0, none⟩ = some (.int .i64 (pn : Int)) ∧ W.cell? ⟨w.heap.size, 1, none⟩ = some (.slice a len cap))
          (first | exact S1.out.1 | exact S3.out.1 | exact S4.out.1 | exact S5.out.1)
          (first
            | (go_at_call 77; refine (withChance_any x 0 b lb cb cs _ (frow_keep HC.out B2.out) h0 hlen).mono ?_; rintro e w3 ⟨⟨g3, c3, rfl, hg3, hh3⟩, b3⟩; have A3 := Lib.hid hh3; have K3 := Lib.hid (K2.out.keep b3); have B3 := Lib.hid (B2.out.trans (b3.mono B2.out.size)); have S3 := Lib.hid K3.out.two; clear hg3 hh3 b3)
            | (have A9 := A3; go_at_call 74; refine (sumOf_any pn (2 ^ pn) rfl a len cap zs (some ⟨g3, 0, none⟩) lb c3 (wiC cs x 0 lb) _ (H.out.keep B3.out) (A3.out.row (by omega) (fun z hz => uni_lt (HWU.out z hz))) HWU.out (by omega) (by omega) hlen).mono ?_; rintro e w4 ⟨rfl, b4⟩; rw [← HX.out]; have K4 := Lib.hid (K3.out.keep b4); have B4 := Lib.hid (B3.out.trans (b4.mono B3.out.size)); have S4 := Lib.hid K4.out.two; clear b4 A3 A9)
            | (go_at_call 74; refine (sumOf_any pn (2 ^ pn) rfl a len cap zs b lb cb cs _ (H.out.keep B4.out) (frow_keep HC.out B4.out) HU.out (by omega) (by omega) hlen).mono ?_; rintro e w5 ⟨rfl, b5⟩; rw [← HY.out]; have K5 := Lib.hid (K4.out.keep b5); have B5 := Lib.hid (B4.out.trans (b5.mono B4.out.size)); have S5 := Lib.hid K5.out.two; clear b5))
        go_wp2_with fail
        go_ret2
        rw [HP.out.1, HP.out.2, HV.out]
        first
          | exact ⟨rfl, B5.out⟩
          | exact ⟨⟨_, rfl⟩, B5.out⟩
set_option maxRecDepth 40000 in
set_option maxHeartbeats 4000000 in
theorem sSharedShock_any (p : Int) (a : Option Addr) (len cap : Nat) (zs : List Int) (b : Option Addr) (lb cb : Nat) (cs : List Nat) (x : Int) (s : Nat) (w : World) (h : IRow w a len zs) (hcf : FRow w b lb cs) (hs32 : s < 4294967296) :
    Calls Try.prog 30 #[.agg #[.int .i64 p, .slice a len cap], .slice b lb cb, .int .i64 x, .float .f32 s] w fun e w' => e = .returned (.tuple #[.float .f32 (shkA p zs cs x s), .bool (shkB p zs cs x s)]) ∧ Below w.heap.size w w' := by
  have H := Lib.hid h
  have HC := Lib.hid hcf
  have HLN := Lib.hid hcf.1
  clear h hcf
  go_enter Try.func30, Try.ntmps30
  go_wp2_with fail
  have b0 : Below w.heap.size w (w.alloc (.cells #[.int .i64 p, .slice a len cap] 30)) := (Below.refl _ _).alloc (Nat.le_refl _) _
  have k0 : SVar 30 (w.alloc (.cells #[.int .i64 p, .slice a len cap] 30)) w.heap.size p a len cap := Blk.Blk.new _ _ _
  refine (specIs_any w.heap.size p a len cap zs _ k0 (H.out.keep b0)).mono ?_
  rintro e w1 ⟨rfl, d1⟩
  have B1 := Lib.hid (b0.trans (d1.below _))
  have K1 := Lib.hid (k0.keep (d1.below _))
  clear b0 d1 k0
  cases hs : sysB p zs with
  | false =>
    have HP : Hid (shkA p zs cs x s = 0 ∧ shkB p zs cs x s = false) := by show _ ∧ _; unfold shkA shkB hvB; rw [hs]; exact ⟨rfl, rfl⟩
    clear hs
    go_wp2_with fail
    go_ret2
    rw [HP.out.1, HP.out.2]
    exact ⟨rfl, B1.out⟩
  | true =>
    have HE : Hid (hvB p zs cs = (decide ((cs.length : Int) = p) && chsB cs)) := by show _ = _; unfold hvB; rw [hs]; rfl
    obtain ⟨⟨v0, v1⟩, _, _⟩ := K1.out.two
    have hp := sysB_parts hs
    clear hs
    go_wp2_with fail
    refine (specChances_any p b lb cb cs _ (frow_keep HC.out B1.out)).mono ?_
    rintro e w2 ⟨rfl, rfl⟩
    cases hq : (decide ((cs.length : Int) = p) && chsB cs) with
    | false =>
      have HP : Hid (shkA p zs cs x s = 0 ∧ shkB p zs cs x s = false) := by show _ ∧ _; unfold shkA shkB; rw [HE.out, hq]; exact ⟨rfl, rfl⟩
      clear hq
      go_wp2_with fail
      go_ret2
      rw [HP.out.1, HP.out.2]
      exact ⟨rfl, B1.out⟩
    | true =>
      have HV1 : Hid (hvB p zs cs = true) := by show _ = _; rw [HE.out, hq]
      have HE1 : Hid (shkB p zs cs x s = (setB p x && shB s)) := by show _ = _; unfold shkB; rw [HV1.out]; rfl
      have hh := hvB_parts HV1.out
      have HU := Lib.hid (chs_unis HC.out.2.2.1 hh.2.2)
      have hlen : lb ≤ 10 := by have := HC.out.1; omega
      have h0 : 0 < lb := by have := HC.out.1; omega
      clear hq hh
      go_wp2_with fail
      refine (specSet_any x w.heap.size p a len cap _ K1.out hp.1 hp.2).mono ?_
      rintro e w2 ⟨rfl, rfl⟩
      cases hq : setB p x with
      | false =>
        have HP : Hid (shkA p zs cs x s = 0 ∧ shkB p zs cs x s = false) := by show _ ∧ _; unfold shkA; rw [HE1.out, hq]; exact ⟨rfl, rfl⟩
        clear hq
        go_wp2_with fail
        go_ret2
        rw [HP.out.1, HP.out.2]
        exact ⟨rfl, B1.out⟩
      | true =>
        have HE2 : Hid (shkB p zs cs x s = shB s) := by show _ = _; rw [HE1.out, hq]; rfl
        clear hq
        go_wp2_with fail
        refine (specShare_any s _).mono ?_
        rintro e w2 ⟨rfl, rfl⟩
        cases hq : shB s with
        | false =>
          have HP : Hid (shkA p zs cs x s = 0 ∧ shkB p zs cs x s = false) := by show _ ∧ _; unfold shkA; rw [HE2.out, hq]; exact ⟨rfl, rfl⟩
          clear hq
          go_wp2_with fail
          go_ret2
          rw [HP.out.1, HP.out.2]
          exact ⟨rfl, B1.out⟩
        | true =>
          have HP : Hid (shkA p zs cs x s = shkV p zs cs x s ∧ shkB p zs cs x s = true) := by show _ ∧ _; unfold shkA; rw [HE2.out, hq]; exact ⟨rfl, rfl⟩
          have hsu := uni_of hs32 hq
          obtain ⟨pn, rfl⟩ : ∃ pn : Nat, p = pn := ⟨p.toNat, by omega⟩
          have hwu := wiC_unis HU.out x (v := 0) (.inl (Nat.zero_le _)) lb
          have hok := shV_ok hsu (chV_bd hwu hp.2 zs) (chV_bd HU.out hp.2 zs)
          have HX : Hid (chV (pn : Int) zs (wiC cs x 0 lb) = suS (wiC cs x 0 lb) (2 ^ pn) (worksB zs) (2 ^ pn)) := by show _ = _; unfold chV; rw [Int.toNat_natCast]
          have HY : Hid (chV (pn : Int) zs cs = suS cs (2 ^ pn) (worksB zs) (2 ^ pn)) := by show _ = _; unfold chV; rw [Int.toNat_natCast]
          have HV : Hid (shkV (pn : Int) zs cs x s = shV s (chV (pn : Int) zs (wiC cs x 0 lb)) (chV (pn : Int) zs cs)) := by show _ = _; unfold shkV; rw [HLN.out]
          have HWU := Lib.hid hwu
          obtain ⟨X, hX⟩ : ∃ X, chV (pn : Int) zs (wiC cs x 0 lb) = X := ⟨_, rfl⟩
          obtain ⟨Y, hY⟩ : ∃ Y, chV (pn : Int) zs cs = Y := ⟨_, rfl⟩
          rw [hX, hY] at hok HV
          rw [hX] at HX
          rw [hY] at HY
          clear hX hY
          have hr1 : ∀ w, (binOp .mul 27 (.float .f32 s) (.float .f32 X)).run Try.prog w = .ok (.float .f32 (mulC s X)) w := fun w => run_float_arith w .mul 27 .f32 _ _ _ hok.1
          have hr2 : ∀ w, (binOp .sub 27 (.float .f32 1065353216) (.float .f32 s)).run Try.prog w = .ok (.float .f32 (subC 1065353216 s)) w := fun w => run_float_arith w .sub 27 .f32 _ _ _ hok.2.1
          have hr3 : ∀ w, (binOp .mul 27 (.float .f32 (subC 1065353216 s)) (.float .f32 Y)).run Try.prog w = .ok (.float .f32 (mulC (subC 1065353216 s) Y)) w := fun w => run_float_arith w .mul 27 .f32 _ _ _ hok.2.2.1
          have hr4 : ∀ w, (binOp .add 27 (.float .f32 (mulC s X)) (.float .f32 (mulC (subC 1065353216 s) Y))).run Try.prog w = .ok (.float .f32 (shV s X Y)) w := fun w => run_float_arith w .add 27 .f32 _ _ _ hok.2.2.2.1
          have hrow := frow_keep HC.out B1.out
          obtain ⟨bb, off, rfl, hbl, _⟩ := hrow.2.2.2 0 h0
          have HR := Lib.hid hrow
          obtain ⟨i0, hi, hz0, hz1, hz2⟩ := info_parts (show (Try.prog.info? 27).map (fun i => (i.zero, i.size, i.bytes)) = some (some (.float .f32 0), 1, 4) by kernel_rfl)
          clear hok hq hwu v0 v1 hrow
          go_wp2_with (at_builtin; refine wpList_append_own _ rfl _ _ 25 rfl w1.heap.size 27 i0 (.float .f32 0) 1 4 Try.underlying25 hi hz0 hz1 hz2 rfl (by decide) _ _ _ rfl (World.ownsRow_made w1 #[] 0 (Nat.le_refl _) (Nat.zero_le _) rfl) ⟨bb, off, none⟩ lb cb (fv cs) rfl ?qc1 ?qc2 ?qc3 ?qc4 ?qc5 ?qc6 ?_)
          case qc1 => simp [fv, HLN.out]
          case qc2 =>
            intro j u hj
            have hjn : j < (fv cs).length := (List.getElem?_eq_some_iff.1 hj).1
            have hjl : j < cs.length := by simpa [fv] using hjn
            rw [Addr.add_lit]
            refine Lib.cell?_alloc_some _ ?_
            obtain ⟨b', off', e1, _, q1⟩ := HR.out.2.2.2 j (by rw [← HLN.out]; exact hjl)
            cases e1
            have : (fv cs)[j]? = some (.float .f32 (cs.getD j 0)) := by simp [fv, List.getD, hjl]
            rw [this] at hj; cases hj; exact q1
          case qc3 => intro u hu; unfold fv at hu; obtain ⟨x, _, rfl⟩ := List.mem_map.1 hu; rfl
          case qc4 => unfold maxLen; omega
          case qc5 => omega
          case qc6 => simp
          intro v' w2 hown hgrow hnil
          obtain ⟨g, c, rfl, hg, hgc, hA⟩ := fheld_of_owned (l := cs) (n := lb) (by simpa using hown) HLN.out h0
          have b2 : Below w1.heap.size w1 w2 := ((Below.refl _ w1).alloc (Nat.le_refl _) _).grown hgrow (by simp) (by intro k hk; simp [Value.ownBlock] at hk; omega)
          have A2 : Hid (FHeld 27 w2 g lb (wiC cs x 0 0)) := by show FHeld _ _ _ _ _; rw [wiC_zero]; exact hA
          have HG : Hid (w1.heap.size ≤ g) := hg
          have HC1 := Lib.hid hgc
          have B2 : Hid (Below w1.heap.size w1 w2) := b2
          have hl9 : lb ≤ 9223372036854775807 := by omega
          have hpn := hp.2
          clear hown hgrow hnil hg hgc hA b2
          go_wp2_with fail
          go_loopg [11, 36] lb (fun q i8 i13 wr => ∃ k : Nat, i13 = .int .i64 k ∧ Hid (k + q = lb) ∧ k ≤ lb ∧ Hid (FHeld 27 wr g lb (wiC cs x 0 k)) ∧ Hid (Below w1.heap.size w1 wr))
          case atStart => exact ⟨0, by simp, by show _ = _; omega, Nat.zero_le _, A2.out, B2.out⟩
          case round =>
            clear A2 B2
            obtain ⟨k, rfl, hk, hkl, hA, hB⟩ := hrel
            by_cases hlt : k < lb
            · have HJ : Hid (k + 1 + (gk - 1) = lb) := by have := hk.out; show _ = _; omega
              have HG2 : Hid (gk - 1 < gk) := by have := hk.out; show _ < _; omega
              obtain ⟨u, hu⟩ := hA.out.1.cell hlt
              have hfr := hA.out.1.frozen k
              have hcv : IntKind.u64.wrap (k : Int) = k := by have : IntKind.u64.wrap (k : Int) = (k : Int) % 18446744073709551616 := rfl; omega
              cases hp : partB x (k : Int) with
              | true =>
                have HN := Lib.hid (wiC_yes (v := 0) (show k < cs.length by rw [HLN.out]; exact hlt) hp)
                have HA2 : Hid (FHeld 27 (wr.setCell ⟨g, k, none⟩ (.float .f32 0)) g lb (wiC cs x 0 (k + 1))) := by show FHeld _ _ _ _ _; rw [HN.out]; exact hA.out.set hlt 0
                have HB2 := Lib.hid (hB.out.setCell (p := ⟨g, k, none⟩) HG.out (.float .f32 0))
                unfold partB at hp
                rw [Int.toNat_natCast] at hp
                go_wp2_with fail
                go_roundg (gk - 1)
                case measure => exact HG2.out
                case rel => exact ⟨k + 1, by go_num, HJ, by omega, HA2.out, HB2.out⟩
              | false =>
                have HN := Lib.hid (wiC_no (cs := cs) (v := 0) hp)
                have HA2 : Hid (FHeld 27 wr g lb (wiC cs x 0 (k + 1))) := by show FHeld _ _ _ _ _; rw [HN.out]; exact hA.out
                unfold partB at hp
                rw [Int.toNat_natCast] at hp
                go_wp2_with fail
                go_roundg (gk - 1)
                case measure => exact HG2.out
                case rel => exact ⟨k + 1, by go_num, HJ, by omega, HA2.out, hB.out⟩
            · obtain rfl : k = lb := by have := hk.out; omega
              have K3 := Lib.hid (K1.out.keep hB.out)
              have B3 := Lib.hid (B1.out.trans (hB.out.mono B1.out.size))
              clear hlt
              go_wp2_with fail
              refine (specChance_any w.heap.size pn (2 ^ pn) rfl a len cap zs (some ⟨g, 0, none⟩) k c (wiC cs x 0 k) _ K3.out (H.out.keep B3.out) (hA.out.row (by omega) (fun z hz => uni_lt (HWU.out z hz))) HWU.out (by omega) (by omega) hlen).mono ?_
              rintro e w4 ⟨rfl, d4⟩
              rw [← HX.out]
              have K4 := Lib.hid (K3.out.keep (d4.below _))
              have B4 := Lib.hid (B3.out.trans (d4.below _))
              clear d4
              go_wp2_with fail
              refine (specChance_any w.heap.size pn (2 ^ pn) rfl a len cap zs (some ⟨bb, off, none⟩) k cb cs _ K4.out (H.out.keep B4.out) (frow_keep HC.out B4.out) HU.out (by omega) (by omega) hlen).mono ?_
              rintro e w5 ⟨rfl, d5⟩
              rw [← HY.out]
              have B5 := Lib.hid (B4.out.trans (d5.below _))
              clear d5
              go_wp2_with fail
              go_ret2
              rw [HP.out.1, HP.out.2, HV.out]
              first
                | exact ⟨rfl, B5.out⟩
                | exact ⟨⟨_, rfl⟩, B5.out⟩
end Go.Proofs.Ytbmgloncimjfhab
