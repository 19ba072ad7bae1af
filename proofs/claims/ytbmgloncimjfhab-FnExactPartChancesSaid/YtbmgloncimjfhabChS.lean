/-
  Contracts: how likely a system works, in the program and in its model. Conditions: the system is valid, and the chances are such.
-/
import Derived.Test.YtbmgloncimjfhabChW
namespace Go.Proofs.Ytbmgloncimjfhab
open Go.RowKit Go.Shelf Dec Flt Syl Sep Chn
attribute [local go_sem] Oper.semAt_some
set_option maxRecDepth 40000 in
set_option maxHeartbeats 4000000 in
theorem specChance_any (g pn T : Nat) (hT : 2 ^ pn = T) (a : Option Addr) (len cap : Nat) (zs : List Int) (b : Option Addr) (lb cb : Nat) (cs : List Nat) (w : World) (hv : SVar 30 w g (pn : Int) a len cap) (h : IRow w a len zs) (hc : FRow w b lb cs) (hu : unis cs) (h1 : 1 ≤ pn) (h2 : pn ≤ 10) (hl : lb ≤ 10) :
    Calls Try.prog 72 #[.pointer (some ⟨g, 0, none⟩), .slice b lb cb] w fun e w' => e = .returned (.float .f32 (suS cs T (worksB zs) T)) ∧ Drawn w w' := by
  have H := Lib.hid h
  have HV := Lib.hid hv
  have HC := Lib.hid hc
  have HU := Lib.hid hu
  have HLN := Lib.hid hc.1
  have hTT : two (pn : Int) = (T : Int) := by unfold two; rw [← hT, Int.toNat_natCast]; simp
  have ht := two_bd (pn : Int) (by omega) (by omega)
  rw [hTT] at ht
  have hpow : (2 : Int) ^ pn = (T : Int) := by rw [← hT]; simp
  have hw1 : IntKind.i64.wrap (1 * 2 ^ pn) = (T : Int) := by rw [Int.one_mul, hpow]; exact wrap_i64 _ (by omega) (by omega)
  have hw2 : IntKind.i64.wrap (2 ^ pn) = (T : Int) := by rw [hpow]; exact wrap_i64 _ (by omega) (by omega)
  clear h hv hc hu hpow hTT hT
  go_enter Try.func72, Try.ntmps72
  go_wp2_with fail
  go_loopg [5, 6, 7, 8] T (fun q i5 i6 i7 i8 wr => ∃ k : Nat, i6 = .int .i64 k ∧ i5 = .float .f32 (suS cs T (worksB zs) k) ∧ Hid (k + q = T) ∧ k ≤ T ∧ Hid (Drawn w wr))
  case atStart => exact ⟨0, rfl, rfl, by show _ = _; omega, Nat.zero_le _, Drawn.refl _⟩
  case round =>
    obtain ⟨k, rfl, rfl, hk, hkl, hD⟩ := hrel
    have hS := HV.out.keep (hD.out.below _)
    have HF := Lib.hid (frow_keep HC.out (hD.out.below _))
    obtain ⟨⟨v0, v1⟩, _, _⟩ := hS.two
    by_cases hlt : k < T
    · have HJ : Hid (k + 1 + (gk - 1) = T) := by have := hk.out; show _ = _; omega
      have HG : Hid (gk - 1 < gk) := by have := hk.out; show _ < _; omega
      obtain ⟨go, hgo⟩ : ∃ go, gk - 1 = go := ⟨_, rfl⟩
      rw [hgo] at HJ HG
      clear hgo
      have hlti : (k : Int) < (T : Int) := by omega
      cases hq : worksB zs (k : Int) with
      | false =>
        have HN := Lib.hid (suS_no (cs := cs) (is := worksB zs) hlt hq)
        go_wp2_with fail
        refine (specWorks_any (k : Int) g (pn : Int) a len cap zs _ hS (H.out.keep (hD.out.below _))).mono ?_
        rintro e w2 ⟨rfl, d2⟩
        rw [hq]
        have D2 := Lib.hid (hD.out.trans d2)
        clear hq hS d2
        go_wp2_with fail
        go_roundg go
        case measure => exact HG.out
        case rel => exact ⟨k + 1, by go_num, by rw [HN.out], HJ, by omega, D2.out⟩
      | true =>
        have hy := suS_yes (cs := cs) HU.out (is := worksB zs) hlt hq
        rw [HLN.out] at hy
        have hr2 : ∀ w, (binOp .add 27 (.float .f32 (suS cs T (worksB zs) k)) (.float .f32 (chP cs (k : Int) lb))).run Try.prog w = .ok (.float .f32 (suS cs T (worksB zs) (k + 1))) w := fun w => run_float_arith w .add 27 .f32 _ _ _ hy
        go_wp2_with fail
        refine (specWorks_any (k : Int) g (pn : Int) a len cap zs _ hS (H.out.keep (hD.out.below _))).mono ?_
        rintro e w2 ⟨rfl, d2⟩
        rw [hq]
        have D2 := Lib.hid (hD.out.trans d2)
        have HF2 := Lib.hid (frow_keep HF.out (d2.below _))
        clear hq hS d2 v0 v1 HF
        go_wp2_with fail
        go_loopg [7, 8, 24] lb (fun q2 i7 i8 i24 wr2 => ∃ j : Nat, i24 = .int .i64 j ∧ i7 = .float .f32 (chP cs (k : Int) j) ∧ Hid (j + q2 = lb) ∧ j ≤ lb ∧ w2 = wr2)
        case atStart => exact ⟨0, rfl, rfl, by show _ = _; omega, Nat.zero_le _, rfl⟩
        case round =>
          obtain ⟨j, rfl, rfl, hj, hjl, rfl⟩ := hrel
          by_cases hlt2 : j < lb
          · obtain ⟨gg, off, rfl, hbl, hc⟩ := HF2.out.2.2.2 j hlt2
            have HJ2 : Hid (j + 1 + (gk - 1) = lb) := by have := hj.out; show _ = _; omega
            have HG2 : Hid (gk - 1 < gk) := by have := hj.out; show _ < _; omega
            have hn := chP_next HU.out (k : Int) (k := j) (by rw [HLN.out]; exact hlt2)
            have hz := unis_at HU.out (k := j) (by rw [HLN.out]; exact hlt2)
            unfold tkC at hn
            obtain ⟨z, hz0⟩ : ∃ z, cs.getD j 0 = z := ⟨_, rfl⟩
            rw [hz0] at hc hn hz
            clear hz0
            have hcv : IntKind.u64.wrap (j : Int) = j := by have : IntKind.u64.wrap (j : Int) = (j : Int) % 18446744073709551616 := rfl; omega
            cases hp : partB (k : Int) (j : Int) with
            | true =>
              rw [hp] at hn
              simp only [↓reduceIte] at hn
              have hr1 : ∀ w, (binOp .mul 27 (.float .f32 (chP cs (k : Int) j)) (.float .f32 z)).run Try.prog w = .ok (.float .f32 (chP cs (k : Int) (j + 1))) w := fun w => run_float_arith w .mul 27 .f32 _ _ _ hn
              unfold partB at hp
              rw [Int.toNat_natCast] at hp
              go_wp2_with fail
              go_roundg (gk - 1)
              case measure => exact HG2.out
              case rel => exact ⟨j + 1, by go_num, rfl, HJ2, by omega, rfl⟩
            | false =>
              rw [hp] at hn
              simp only [Bool.false_eq_true, ↓reduceIte] at hn
              have hsb := (subC_ok hz).1
              have hr0 : ∀ w, (binOp .sub 27 (.float .f32 1065353216) (.float .f32 z)).run Try.prog w = .ok (.float .f32 (subC 1065353216 z)) w := fun w => run_float_arith w .sub 27 .f32 _ _ _ hsb
              have hr1 : ∀ w, (binOp .mul 27 (.float .f32 (chP cs (k : Int) j)) (.float .f32 (subC 1065353216 z))).run Try.prog w = .ok (.float .f32 (chP cs (k : Int) (j + 1))) w := fun w => run_float_arith w .mul 27 .f32 _ _ _ hn
              unfold partB at hp
              rw [Int.toNat_natCast] at hp
              go_wp2_with fail
              go_roundg (gk - 1)
              case measure => exact HG2.out
              case rel => exact ⟨j + 1, by go_num, rfl, HJ2, by omega, rfl⟩
          · obtain rfl : j = lb := by have := hj.out; omega
            clear hlt2
            go_wp2_with fail
            go_roundg go
            case measure => exact HG.out
            case rel => exact ⟨k + 1, by go_num, rfl, HJ, by omega, D2.out⟩
    · obtain rfl : k = T := by have := hk.out; omega
      have hge : ¬ ((k : Int) < (k : Int)) := by omega
      clear hlt hS
      go_wp2_with fail
      go_ret
      exact ⟨rfl, hD.out⟩
set_option maxRecDepth 100000 in
set_option maxHeartbeats 4000000 in
theorem sumOf_any (pn T : Nat) (hT : 2 ^ pn = T) (a : Option Addr) (len cap : Nat) (zs : List Int) (b : Option Addr) (lb cb : Nat) (cs : List Nat) (w : World) (h : IRow w a len zs) (hcf : FRow w b lb cs) (hu : unis cs) (h1 : 1 ≤ pn) (h2 : pn ≤ 10) (hl : lb ≤ 10) :
    Calls Try.prog 74 #[.agg #[.int .i64 (pn : Int), .slice a len cap], .slice b lb cb] w fun e w' => e = .returned (.float .f32 (suS cs T (worksB zs) T)) ∧ Below w.heap.size w w' := by
  have H := Lib.hid h
  have HCF := Lib.hid hcf
  have HU := Lib.hid hu
  have HLN := Lib.hid hcf.1
  clear h hcf hu
  refine (callsIn_wide (n := 5)).1 ?_
  refine callsIn_of_wp_marks Try.func74 rfl trivial ?_ rfl
  simp only [Try.ntmps74, List.size_toArray, List.length_cons, List.length_nil, Nat.reduceAdd, Nat.reduceSub, Array.replicate_succ, Array.replicate_zero, List.push_toArray, List.append_toArray, List.nil_append, List.cons_append]
  gi_wp2
  obtain ⟨W2, hW2⟩ : ∃ W2, W2 = ((w.alloc (.cells #[.int .i64 (pn : Int), .slice a len cap] 30)).alloc (.cells #[.slice b lb cb] 25)).alloc (.cells #[.float .f32 0] 27) := ⟨_, rfl⟩
  have b2 : Below w.heap.size w W2 := by rw [hW2]; exact (((Below.refl _ _).alloc (Nat.le_refl _) _).alloc (by simp) _).alloc (by simp; omega) _
  have K2 : Hid (SVar 30 W2 w.heap.size (pn : Int) a len cap) := by rw [hW2]; exact ((Blk.Blk.new _ _ _).alloc _).alloc _
  have X2 : Hid (Blk.Blk W2 (w.heap.size + 1) [.slice b lb cb] 25) := by
    rw [hW2]
    have hh := Blk.Blk.new (w.alloc (.cells #[.int .i64 (pn : Int), .slice a len cap] 30)) #[.slice b lb cb] 25
    rw [World.size_alloc] at hh
    exact hh.alloc _
  have C2 : Hid (Blk.Blk W2 (w.heap.size + 2) [.float .f32 (suT cs ([] : List (Fin T)))] 27) := by
    rw [hW2]
    have hh := Blk.Blk.new ((w.alloc (.cells #[.int .i64 (pn : Int), .slice a len cap] 30)).alloc (.cells #[.slice b lb cb] 25)) #[.float .f32 0] 27
    simp only [World.size_alloc] at hh
    exact hh
  have HZ2 : Hid (W2.heap.size = w.heap.size + 3) := by rw [hW2]; show _ = _; simp
  rw [← hW2]
  clear hW2
  obtain ⟨⟨v0, v1⟩, _, _⟩ := K2.out.two
  have hmx : Try.prog.follows .mixedOrders = true := by kernel_rfl
  have K2d : Hid (SVar 30 W2.drew w.heap.size (pn : Int) a len cap) := K2.out
  have C2d : Hid (Blk.Blk W2.drew (w.heap.size + 2) [.float .f32 (suT cs ([] : List (Fin T)))] 27) := C2.out
  have X2d : Hid (Blk.Blk W2.drew (w.heap.size + 1) [.slice b lb cb] 25) := X2.out
  have B2d : Hid (Below w.heap.size w W2.drew) := b2.drew
  clear b2
  refine wpIn_mono (Q := NoPanic _) ?_ NoPanic.imp
  gi_region_with_o (first | (refine ⟨trivial, ?_⟩; gi_at_call 85; refine (callsIn_wide.2 (worksOf_any (pn : Int) a len cap _)).mono ?_; rintro e w3 ⟨rfl, k3, b3⟩; have K3 := Lib.hid k3; have K23 := Lib.hid (K2d.out.keep b3); have B3 := Lib.hid (B2d.out.trans (b3.mono B2d.out.size)); have C3 := Lib.hid (C2d.out.keep b3); have X3 := Lib.hid (X2d.out.keep b3); have HZ3 : Hid (W2.heap.size ≤ w3.heap.size) := b3.size; obtain ⟨⟨z0, z1⟩, _, _⟩ := K23.out.two; clear k3 b3) | (refine ⟨trivial, ?_⟩; gi_at_call 86; refine (callsIn_wide.2 (setsWhere_any (pn : Int) _ _ _)).mono ?_; rintro e w4 ⟨rfl, rfl⟩))
  all_goals refine NoPanic.normal ?_
  all_goals gi_wp2
  all_goals
    obtain ⟨W0, hW0⟩ : ∃ W0, W0 = (w3.alloc (.cells #[.int .i64 (pn : Int)] 2)).alloc (.cells #[.func (.func 128) #[] #[.pointer (some ⟨W2.heap.size, 0, none⟩)]] 96) := ⟨_, rfl⟩
    have b5 : Below w3.heap.size w3 W0 := by rw [hW0]; exact ((Below.refl _ _).alloc (Nat.le_refl _) _).alloc (by simp) _
    have B0 : Below w.heap.size w W0 := B3.out.trans (b5.mono B3.out.size)
    have HZ : W0.heap.size = w3.heap.size + 2 := by rw [hW0]; simp
    have HZW : w.heap.size + 3 ≤ w3.heap.size := by have := HZ2.out; have := HZ3.out; omega
    have K1' : Blk.Blk W0 w3.heap.size [.int .i64 (pn : Int)] 2 := by rw [hW0]; exact (Blk.Blk.new _ _ _).alloc _
    have K2' : W0.heap[w3.heap.size + 1]? = some (.cells #[.func (.func 128) #[] #[.pointer (some ⟨W2.heap.size, 0, none⟩)]] 96 (0, 0)) := by
      rw [hW0]
      have hh := heap_alloc_new (w3.alloc (.cells #[.int .i64 (pn : Int)] 2)) (.cells #[.func (.func 128) #[] #[.pointer (some ⟨W2.heap.size, 0, none⟩)]] 96)
      simp only [World.size_alloc] at hh
      exact hh
    have C0 := C3.out.keep b5
    have X0 := X3.out.keep b5
    have KS0 := K23.out.keep b5
    obtain ⟨C, hCdef⟩ : ∃ C : World → Prop, C = fun W => Below w.heap.size w W ∧ SVar 30 W W2.heap.size (pn : Int) a len cap := ⟨_, rfl⟩
    have CM : Hid (∀ W, C W ↔ (Below w.heap.size w W ∧ SVar 30 W W2.heap.size (pn : Int) a len cap)) := by rw [hCdef]; exact fun _ => Iff.rfl
    clear hCdef
    have HIS : Hid (TestsC (two (pn : Int)) (worksB zs) 128 #[.pointer (some ⟨W2.heap.size, 0, none⟩)] C) := fun W t _ _ hb => worksOf1_any t _ _ a len cap zs W ((CM.out W).1 hb).2 (H.out.keep ((CM.out W).1 hb).1)
    have HCB : ∀ W W' : World, Below W.heap.size W W' → C W → C W' := fun W W' hb h => (CM.out W').2 ⟨((CM.out W).1 h).1.trans (hb.mono ((CM.out W).1 h).1.size), ((CM.out W).1 h).2.keep hb⟩
    have HCP : ∀ (W : World) (l : Nat) (o o' : Obj), W0.heap.size ≤ l → W.heap[l]? = some o → o.isCells = false → C W → C (W.putObj l o') := fun W l o o' hl ho hc h => (CM.out _).2 ⟨belowP w.heap.size w W0 B0.size W l o o' hl ho hc ((CM.out W).1 h).1, Blk.Blk.grown ((CM.out W).1 h).2 (grownBy_putObj' W l o') (fun r e => by cases e; exact ⟨o, ho, hc⟩)⟩
    have HC0 : C W0 := (CM.out W0).2 ⟨B0, K3.out.keep b5⟩
    rw [← hW0]
    clear hW0 z0 z1 v0 v1
    refine wpIn_rangeFunc_ownF rfl (by omega) (gf := 129) (lb := #[.pointer (some ⟨w3.heap.size, 0, none⟩), .pointer (some ⟨w3.heap.size + 1, 0, none⟩)]) rfl trivial (enters_of Try.func129 (by kernel_rfl) rfl)
      (sets_stops 4 (by omega) pn T hT (worksB zs) 128 #[.pointer (some ⟨W2.heap.size, 0, none⟩)] (by intro args w; kernel_rfl) C HCB (by omega) (by omega) HIS.out w3.heap.size (w3.heap.size + 1) W0 HC0 K1' K2') kpZ_t (kpZ_b HCP (by omega) (by omega)) (Below.refl _ _) (fun _ => rfl)
      (fun pre W => (Blk.Blk W (w.heap.size + 2) [.float .f32 (suT cs pre)] 27 ∧ Blk.Blk W (w.heap.size + 1) [.slice b lb cb] 25 ∧ w3.heap.size + 2 ≤ W.heap.size) ∧ Below w.heap.size w W)
      (fun _ _ _ => False)
      (OwnFrom.and (Own.from (fun s A B row hs hg hr => ⟨Blk.Blk.grown hs.1 hg hr, Blk.Blk.grown hs.2.1 hg hr, Nat.le_trans hs.2.2 hg.size⟩) _) (ownFrom_below (Nat.le_refl _) (by omega)))
      (fun _ _ _ _ _ hs _ _ => hs)
      ⟨⟨C0, X0, by omega⟩, B0⟩
      (fun x => { tmps := #[.agg #[.int .i64 (pn : Int), .slice a len cap], .slice b lb cb, .pointer (some ⟨w.heap.size, 0, none⟩), .pointer (some ⟨w.heap.size + 1, 0, none⟩), .float .f32 0, .pointer (some ⟨w.heap.size + 1 + 1, 0, none⟩), .int .i64 (x.val : Int), .pointer (some ⟨w.heap.size, 0, none⟩), .int .i64 (pn : Int), .agg #[.int .i64 (pn : Int), .slice a len cap], .func (.func 128) #[] #[.pointer (some ⟨W2.heap.size, 0, none⟩)], .func (.func 129) #[] #[.pointer (some ⟨w3.heap.size, 0, none⟩), .pointer (some ⟨w3.heap.size + 1, 0, none⟩)], .int .i64 (x.val : Int), undef, undef, undef, undef, undef, undef], defers := [] }) ?_ ?_ ?_ ?_
    · intro l x W K hK
      gi_wp2
      exact hK
    · rintro l pre x W ⟨⟨hc, hb, hz⟩, hB⟩ hlen
      have hx := x.2
      have hcell := hc.cell 0
      have hb0 := hb.cell 0
      have hfr := Blk.Blk.frozen hc 0
      have hn := suT_next HU.out pre x
      rw [HLN.out] at hn
      have hr2 : ∀ w, (binOp .add 27 (.float .f32 (suT cs pre)) (.float .f32 (chP cs (x.val : Int) lb))).run Try.prog w = .ok (.float .f32 (suT cs (pre ++ [x]))) w := fun w => run_float_arith w .add 27 .f32 _ _ _ hn
      have HPD : Calls Try.prog 125 #[.int .i64 (x.val : Int), .slice b lb cb] W.drew fun e w' => e = .returned (.float .f32 (chP cs (x.val : Int) lb)) ∧ W.drew = w' := by
        have := chanceOfSet_any (x.val : Int) b lb cb cs W.drew (frow_keep HCF.out hB.drew) HU.out hl
        rw [HLN.out] at this
        exact this
      have HX := Lib.hid (hc.set 0 (.float .f32 (suT cs (pre ++ [x]))))
      have HBX := Lib.hid (hb.other (k := w.heap.size + 2) 0 (.float .f32 (suT cs (pre ++ [x]))) (by omega))
      have HBW := Lib.hid (hB.setCell (p := ⟨w.heap.size + 2, 0, none⟩) (by show w.heap.size ≤ w.heap.size + 2; omega) (.float .f32 (suT cs (pre ++ [x]))))
      have HCS : Hid (C W → C (W.setCell ⟨w.heap.size + 2, 0, none⟩ (.float .f32 (suT cs (pre ++ [x]))))) := fun h => (CM.out _).2 ⟨((CM.out W).1 h).1.setCell (by show w.heap.size ≤ w.heap.size + 2; omega) _, ((CM.out W).1 h).2.other (k := w.heap.size + 2) 0 _ (by have := HZ2.out; omega)⟩
      have HCD : Hid (∀ W : World, C W → C W.drew) := fun W h => (CM.out _).2 ⟨((CM.out W).1 h).1.drew, ((CM.out W).1 h).2⟩
      obtain ⟨s2, hs2⟩ : ∃ s2, suT cs (pre ++ [x]) = s2 := ⟨_, rfl⟩
      have HS2 := Lib.hid hs2
      rw [hs2] at hn hr2 HX HBX HBW HCS
      clear hs2
      generalize suT cs pre = s1 at *
      generalize chP cs (x.val : Int) lb = y at *
      clear hc hb hn HCB HCP
      gi_wp2
      gi_region_with_o (refine ⟨trivial, ?_⟩; gi_at_call 125; refine (CallsIn.inRound l (callsIn_wide.2 HPD)).mono ?_; rintro e w' ⟨rfl, rfl⟩)
      all_goals gi_wp2
      all_goals exact ⟨(KeepsOthers.setCell _ _ _).trans (KeepsOthers.drew _), ⟨kpS_drew HCD.out (kpS_set W 0 _ HCS.out (by omega) (by omega)), by show _ ≤ (W.setCell _ _).heap.size; rw [World.size_setCell]; exact Nat.le_refl _⟩, ⟨by show Blk.Blk _ _ [.float .f32 (suT cs (pre ++ [x]))] _; rw [HS2.out]; exact HX.out, HBX.out, by show _ ≤ (W.setCell _ _).heap.size; rw [World.size_setCell]; exact hz⟩, HBW.out.drew⟩
    · rintro D ys W hD rfl ⟨⟨hc, hb, hz⟩, hB⟩ hK
      have hc0 := hc.cell 0
      gi_wp2
      refine ⟨by simp, .inl ⟨_, _, rfl, run_takeDeferred hK, ?_⟩⟩
      exact ⟨_, results_tmp rfl _ _ _, rfl, hB.trans (belowK_b (w := w) (Nat.le_refl _) W D _ _ (by have := B0.size; omega) hK rfl rfl)⟩
    · rintro D c pre W _ _ h _
      exact h.elim
end Go.Proofs.Ytbmgloncimjfhab
