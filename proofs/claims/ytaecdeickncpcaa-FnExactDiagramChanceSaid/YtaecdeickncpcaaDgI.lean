/-
  How likely the top of a diagram fails, in the program. Conditions: the lists read as lists of numbers.
-/
import Derived.Test.YtaecdeickncpcaaDgS
import Derived.Test.YtaecdeickncpcaaHld
namespace Flt.Dg
open Go Flt Chn Syl
def nodI (g bd od len cap N k ib x : Nat) (vA vB : Int) (o1 o2 : Option Nat) : Nat → Value → Prop
  | 0, v => v = .slice (some ⟨g, 0, none⟩) N N
  | 1, v => v = .int .i64 (k : Int)
  | 2, v => v = .float .f32 x
  | 3, v => ∃ zz, v = .float .f32 zz ∧ F32.Is (F32.opO .sub (some 1065353216) (some x)) zz ∧ zz < 4294967296
  | 4, v => v = .slice (some ⟨g, 0, none⟩) N N
  | 5, v => v = .slice (some ⟨bd, od + ib, none⟩) (len - ib) (cap - ib)
  | 6, v => v = .pointer (some ⟨bd, od + ib + 1, none⟩)
  | 7, v => v = .int .i64 vA
  | 8, v => ∃ zz, v = .float .f32 zz ∧ F32.Is o1 zz ∧ zz < 4294967296
  | 9, v => ∃ zz, v = .float .f32 zz ∧ F32.Is (F32.opO .mul (F32.opO .sub (some 1065353216) (some x)) o1) zz ∧ zz < 4294967296
  | 10, v => v = .float .f32 x
  | 11, v => v = .slice (some ⟨g, 0, none⟩) N N
  | 12, v => v = .slice (some ⟨bd, od + ib, none⟩) (len - ib) (cap - ib)
  | 13, v => v = .pointer (some ⟨bd, od + ib + 2, none⟩)
  | 14, v => v = .int .i64 vB
  | 15, v => ∃ zz, v = .float .f32 zz ∧ F32.Is o2 zz ∧ zz < 4294967296
  | 16, v => ∃ zz, v = .float .f32 zz ∧ F32.Is (F32.opO .mul (some x) o2) zz ∧ zz < 4294967296
  | 17, v => ∃ zz, v = .float .f32 zz ∧ F32.Is (F32.opO .add (F32.opO .mul (F32.opO .sub (some 1065353216) (some x)) o1) (F32.opO .mul (some x) o2)) zz ∧ zz < 4294967296
  | 18, v => v = .pointer (some ⟨g, k, none⟩)
  | _, _ => True
theorem dg_no_nod {d : List Int} {cs : List Nat} (h : nodB d (cs.length : Int) = false) : dgB d cs = false := by unfold dgB; rw [h]; simp
end Flt.Dg
namespace Go.Proofs.Ytaecdeickncpcaa
open Go.RowKit Dec Flt Syl Sep Chn Dg Cm Cr Hld
theorem chanceIs_any {o : Option Nat} (a : Option Addr) (len cap : Nat) (M : List Nat) (v : Int) (w : World) (h : FRow w a len M) (h1 : -2 ≤ v) (h2 : v < len) (h3 : F32.Is o (atV M v)) (h4 : atV M v < 4294967296) :
    Calls Try.prog 86 #[.slice a len cap, .int .i64 v] w fun e w' => (∃ x, e = .returned (.float .f32 x) ∧ F32.Is o x ∧ x < 4294967296) ∧ Drawn w w' :=
  (chanceAt_any a len cap M v w h h1 h2).mono fun _ w' ⟨e1, e2⟩ => ⟨⟨_, e1, h3, h4⟩, by rw [e2]; exact Drawn.refl w'⟩
theorem at_is {d : List Int} {cs M : List Nat} {k : Nat} (hM : ∀ j, j < k → F32.Is (dgO d cs (j + 2)) (M.getD j 0) ∧ M.getD j 0 < 4294967296) {v : Int} {n : Nat} (e : v + 2 = (n : Int)) (hn : n < k + 2) :
    F32.Is (dgO d cs n) (atV M v) ∧ atV M v < 4294967296 := by
  unfold atV
  by_cases e1 : v = -1
  · obtain rfl : n = 1 := by omega
    rw [if_pos e1, (dgO_zero d cs).2]
    exact ⟨⟨rfl, by decide, by decide⟩, by decide⟩
  · by_cases e2 : v = -2
    · obtain rfl : n = 0 := by omega
      rw [if_neg e1, if_pos e2, (dgO_zero d cs).1]
      exact ⟨⟨rfl, by decide, by decide⟩, by decide⟩
    · rw [if_neg e1, if_neg e2]
      have := hM v.toNat (by omega)
      rw [show v.toNat + 2 = n by omega] at this
      exact this
set_option maxRecDepth 100000 in
set_option maxHeartbeats 3000000 in
theorem iDiagramChance_any (a : Option Addr) (len cap : Nat) (d : List Int) (b : Option Addr) (lb cb : Nat) (cs : List Nat) (w : World) (h : IRow w a len d) (hc : FRow w b lb cs) (hcap : len ≤ cap) (_hcap2 : lb ≤ cb) :
    Calls Try.prog 42 #[.slice a len cap, .slice b lb cb] w fun e w' => (∃ v, e = .returned (.tuple #[.float .f32 v, .bool (dgB d cs)]) ∧ F32.Is (dgE d cs) v ∧ v < 4294967296) ∧ Below w.heap.size w w' := by
  have H := Lib.hid h
  have HC := Lib.hid hc
  have HL := Lib.hid h.1
  have HLC := Lib.hid hc.1
  have hlm : len ≤ 9223372036854775807 := by have := h.2.1; unfold maxLen at this; exact this
  have hlc : lb ≤ 9223372036854775807 := by have := hc.2.1; unfold maxLen at this; exact this
  clear h hc
  cases hp : partsB (lb : Int) with
  | false =>
    have HN := Lib.hid (dg_no_parts (d := d) (cs := cs) (by rw [HLC.out]; exact hp))
    have HE := Lib.hid (dgE_no HN.out)
    have HP := Lib.hid hp
    clear hp
    go_enter Try.func42, Try.ntmps42
    go_wp2_with fail
    refine (areParts_any (lb : Int) _).mono ?_
    rintro e w1 ⟨rfl, rfl⟩
    rw [HP.out]
    go_wp2_with fail
    go_ret2
    rw [HN.out, HE.out]
    exact ⟨⟨0, rfl, is_zero, by decide⟩, Below.refl _ _⟩
  | true =>
    have HP := Lib.hid hp
    have hp := of_decide_eq_true hp
    have hlb : lb ≤ 10 := by omega
    cases hq : chsB cs with
    | false =>
      have HN := Lib.hid (dg_no_ch (d := d) hq)
      have HE := Lib.hid (dgE_no HN.out)
      have HQ := Lib.hid hq
      clear hp hq
      go_enter Try.func42, Try.ntmps42
      go_wp2_with fail
      refine (areParts_any (lb : Int) _).mono ?_
      rintro e w1 ⟨rfl, rfl⟩
      rw [HP.out]
      go_wp2_with fail
      refine (areChances_any b lb cb cs _ HC.out).mono ?_
      rintro e w1 ⟨rfl, b1⟩
      rw [HQ.out]
      have B1 := Lib.hid b1
      clear b1
      go_wp2_with fail
      go_ret2
      rw [HN.out, HE.out]
      exact ⟨⟨0, rfl, is_zero, by decide⟩, B1.out⟩
    | true =>
      have HQ := Lib.hid hq
      cases hn : nodB d (lb : Int) with
      | false =>
        have HN := Lib.hid (dg_no_nod (d := d) (cs := cs) (by rw [HLC.out]; exact hn))
        have HE := Lib.hid (dgE_no HN.out)
        have HNB := Lib.hid hn
        clear hp hq hn
        go_enter Try.func42, Try.ntmps42
        go_wp2_with fail
        refine (areParts_any (lb : Int) _).mono ?_
        rintro e w1 ⟨rfl, rfl⟩
        rw [HP.out]
        go_wp2_with fail
        refine (areChances_any b lb cb cs _ HC.out).mono ?_
        rintro e w1 ⟨rfl, b1⟩
        rw [HQ.out]
        have B1 := Lib.hid b1
        clear b1
        go_wp2_with fail
        refine (areNodes_any a len cap d lb _ (H.out.keep B1.out) (by omega)).mono ?_
        rintro e w2 ⟨rfl, rfl⟩
        rw [HNB.out]
        go_wp2_with fail
        go_ret2
        rw [HN.out, HE.out]
        exact ⟨⟨0, rfl, is_zero, by decide⟩, B1.out⟩
      | true =>
        have HNB := Lib.hid hn
        have hnod : dgB d cs = true := by unfold dgB; rw [HLC.out, HP.out, HQ.out, hn]; rfl
        have HN := Lib.hid hnod
        have hlen : lenB len = true := by unfold nodB at hn; rw [Bool.and_eq_true, HL.out] at hn; exact hn.1
        unfold lenB at hlen
        simp only [Bool.and_eq_true, decide_eq_true_eq] at hlen
        obtain ⟨h1, h2, h3⟩ := hlen
        obtain ⟨N, hN⟩ : ∃ N, len / 3 = N := ⟨_, rfl⟩
        have HDV : Hid (len = 3 * N) := by show _ = _; omega
        have HE : Hid (dgE d cs = dgO d cs (N + 1)) := by show _ = _; unfold dgE; rw [hnod, if_pos rfl, HL.out, hN]
        have HU : Hid (∀ n, n < lb → nan .f32 (cs.getD n 0) = false ∧ cs.getD n 0 < 4294967296) := Lib.hid fun n hn => by
          have hm : cs.getD n 0 ∈ cs := by simp [List.getD, HC.out.1, hn]
          have := chs_unis HC.out.2.2.1 hq _ hm
          exact ⟨uni_num this, uni_lt this⟩
        have hN1 : 1 ≤ N := by omega
        have hN2 : N ≤ 1024 := by omega
        have htd : (len : Int).tdiv 3 = (N : Int) := by rw [show (len : Int).tdiv 3 = ((len / 3 : Nat) : Int) from (Int.ofNat_tdiv len 3).symm, hN]
        have hmk : ∀ w, (Instr.makeSlice 50 (.int .i64 (N : Int)) (.int .i64 (N : Int))).run Try.prog w = .ok (.slice (some ⟨w.heap.size, 0, none⟩) N N) (w.alloc (.cells (madeCells (Value.float .f32 0).cells (N * 1)) 51)) := by
          intro w
          obtain ⟨i, hi, hz0, hz1, hz2⟩ := info_parts (show (Try.prog.info? 51).map (fun i => (i.zero, i.size, i.bytes)) = some (some (.float .f32 0), 1, 4) by kernel_rfl)
          have := run_make (P := Try.prog) w 50 51 i (.float .f32 0) Try.underlying50 hi hz0 .i64 .i64 N N (by omega) (Int.le_refl _) (by rw [hz2]; omega) (by omega)
          rw [this, hz1, Int.toNat_natCast]
        have HMD : Hid (∀ w : World, FHd 51 (w.alloc (.cells (madeCells (Value.float .f32 0).cells (N * 1)) 51)) w.heap.size N (List.replicate N 0)) := Lib.hid fun w => FHd.made w 51 N
        generalize madeCells (Value.float .f32 0).cells (N * 1) = C0 at *
        clear hp hq hn hnod h3 hN
        go_enter Try.func42, Try.ntmps42
        go_wp2_with fail
        refine (areParts_any (lb : Int) _).mono ?_
        rintro e w1 ⟨rfl, rfl⟩
        rw [HP.out]
        go_wp2_with fail
        refine (areChances_any b lb cb cs _ HC.out).mono ?_
        rintro e w1 ⟨rfl, b1⟩
        rw [HQ.out]
        have B1 := Lib.hid b1
        clear b1
        go_wp2_with fail
        refine (areNodes_any a len cap d lb _ (H.out.keep B1.out) (by omega)).mono ?_
        rintro e w2 ⟨rfl, rfl⟩
        rw [HNB.out]
        have HF0 := Lib.hid (HMD.out w1)
        have HB0 := Lib.hid (B1.out.alloc B1.out.size (.cells C0 51))
        have hg : w.heap.size ≤ w1.heap.size := B1.out.size
        clear HMD
        go_wp2_with fail
        go_loopg [7, 8, 9, 32] N (fun q _ _ _ i wr => ∃ (k : Nat) (M : List Nat), i = .int .i64 k ∧ Hid (k + q = N) ∧ k ≤ N ∧ Hid (FHd 51 wr w1.heap.size N M) ∧ Hid (∀ z ∈ M, z < 4294967296) ∧ Hid (∀ j, j < k → F32.Is (dgO d cs (j + 2)) (M.getD j 0)) ∧ Hid (Below w.heap.size w wr))
        case atStart => exact ⟨0, _, rfl, by show _ = _; omega, Nat.zero_le _, HF0, (by show ∀ z ∈ List.replicate N 0, _; intro z hz; rw [List.eq_of_mem_replicate hz]; decide), (by show ∀ j, _; intro j hj; omega), HB0⟩
        case round =>
          obtain ⟨k, M, rfl, hk, hkl, hF, hZ, hM, hB⟩ := hrel
          by_cases hlt : k < N
          · obtain ⟨ib, hib⟩ : ∃ ib, ib = 3 * k := ⟨_, rfl⟩
            have HI := Lib.hid hib
            have hil : ib + 2 < len := by have := HDV.out; omega
            have hwi : IntKind.i64.wrap (3 * (k : Int)) = (ib : Int) := by rw [show 3 * (k : Int) = (ib : Int) by omega]; exact IntWalk.i64_in _ (by omega)
            have HJ : Hid (k + 1 + (gk - 1) = N) := by have := hk.out; show _ = _; omega
            have HG : Hid (gk - 1 < gk) := by have := hk.out; show _ < _; omega
            have hrow := H.out.keep hB.out
            obtain ⟨bd, od, rfl, hbd, c0⟩ := hrow.2.2.2 ib (by omega)
            obtain ⟨_, _, e1, _, c1⟩ := hrow.2.2.2 (ib + 1) (by omega)
            cases e1
            obtain ⟨_, _, e2, _, c2⟩ := hrow.2.2.2 (ib + 2) hil
            cases e2
            have hll : ib + 2 < d.length := by rw [HL.out]; exact hil
            obtain ⟨n0, n1, n2, e0, l0, e1, l1, e2, l2⟩ := node_of hib (nod_at HNB.out (by omega)) (nod_at HNB.out (by omega)) (nod_at HNB.out hll)
            have hn0 : n0 < lb := by omega
            have HNODE : Hid (dgO d cs (k + 2) = F32.opO .add (F32.opO .mul (F32.opO .sub (some 1065353216) (some (cs.getD n0 0))) (dgO d cs n1)) (F32.opO .mul (some (cs.getD n0 0)) (dgO d cs n2))) := by
              have := dgO_node d cs k (by rw [← hib, e1]; omega) (by rw [← hib, e2]; omega)
              rw [← hib, e0, e1, e2, Int.toNat_natCast, Int.toNat_natCast, Int.toNat_natCast] at this
              exact this
            obtain ⟨bc, oc, rfl, hbc, cx⟩ := (HC.out.keep hB.out).2.2.2 n0 hn0
            have HMM : Hid (∀ j, j < k → F32.Is (dgO d cs (j + 2)) (M.getD j 0) ∧ M.getD j 0 < 4294967296) := Lib.hid fun j hj => ⟨hM.out j hj, hZ.out _ (by simp [List.getD, show j < M.length by have := hF.out.2.1; omega])⟩
            have A1 := Lib.hid (at_is HMM.out e1 l1)
            have A2 := Lib.hid (at_is HMM.out e2 l2)
            have HMR := Lib.hid (hF.out.row (by omega) hZ.out)
            rw [e0] at c0
            have HU0 := Lib.hid (HU.out n0 hn0)
            have hA1 : -2 ≤ d.getD (ib + 1) 0 := by omega
            have hA2 : d.getD (ib + 1) 0 < (N : Int) := by omega
            have hB1 : -2 ≤ d.getD (ib + 2) 0 := by omega
            have hB2 : d.getD (ib + 2) 0 < (N : Int) := by omega
            generalize d.getD (ib + 1) 0 = vA at *
            generalize d.getD (ib + 2) 0 = vB at *
            generalize cs.getD n0 0 = x at *
            generalize dgO d cs n1 = o1 at *
            generalize dgO d cs n2 = o2 at *
            have hnl : (n0 : Int) < (lb : Int) := by omega
            have hl1 : (ib : Int) ≤ (len : Int) := by omega
            have hl2 : (len : Int) ≤ (cap : Int) := by omega
            have hl3 : (0 : Int) < (len : Int) - (ib : Int) := by omega
            have hl4 : ib < len := by omega
            clear hrow hib e0 e1 e2 hk
            go_wp2_with fail
            obtain ⟨g, hgg⟩ : ∃ g, w1.heap.size = g := ⟨_, rfl⟩
            rw [hgg]
            rw [hgg] at hF HMR
            have HGG := Lib.hid hgg
            clear hgg
            have HX := Lib.hid (show F32.Is (some x) x from ⟨rfl, HU0.out.1, HU0.out.2⟩)
            have HONE := Lib.hid (show F32.Is (some 1065353216) 1065353216 from ⟨rfl, by decide, by decide⟩)
            have hDd : Drawn wr wr.drew := Drawn.one wr
            have HBD := Lib.hid hbd
            have hp1 : ib + 1 < len := by omega
            have hp2 : (1 : Int) < ((len - ib : Nat) : Int) := by omega
            have hp3 : (2 : Int) < ((len - ib : Nat) : Int) := by omega
            refine wp_region_head 19 19 (C := fun _ w' => Drawn wr w') (V := nodI g bd od len cap N k ib x vA vB o1 o2) (by kernel_rfl) hDd (by kernel_rfl) ?_ ?_
            · intro i o hin ho A W bb hbb hC hdep hbase
              have m0 : W.cell? ⟨bd, od + ib + 1, none⟩ = some (.int .i64 vA) := by rw [hC.cell]; exact c1
              have m1 : W.cell? ⟨bd, od + ib + 2, none⟩ = some (.int .i64 vB) := by rw [hC.cell]; exact c2
              have hRW := HMR.out.keep ((show Drawn wr W from hC).below _)
              rcases i with _ | _ | _ | _ | _ | _ | _ | _ | _ | _ | _ | _ | _ | _ | _ | _ | _ | _ | _ | i
              · obtain rfl := Option.some.inj ho
                have b0 : A.tmps.getD 6 undef = .slice (some ⟨g, 0, none⟩) N N := hbase 6 (by kernel_rfl)
                refine stepH (b := bb) (C := fun _ w' => Drawn wr w') (.slice (some ⟨g, 0, none⟩) N N) W rfl hC fun K hK => ?_
                simp only [Array.getD_eq_getD_getElem?] at b0
                unfold Oper.wp
                go_simp
                exact hK
              · obtain rfl := Option.some.inj ho
                have b0 : A.tmps.getD 7 undef = .int .i64 (k : Int) := hbase 7 (by kernel_rfl)
                refine stepH (b := bb) (C := fun _ w' => Drawn wr w') (.int .i64 (k : Int)) W rfl hC fun K hK => ?_
                simp only [Array.getD_eq_getD_getElem?] at b0
                unfold Oper.wp
                go_simp
                exact hK
              · obtain rfl := Option.some.inj ho
                have b0 : A.tmps.getD 9 undef = .float .f32 x := hbase 9 (by kernel_rfl)
                refine stepH (b := bb) (C := fun _ w' => Drawn wr w') (.float .f32 x) W rfl hC fun K hK => ?_
                simp only [Array.getD_eq_getD_getElem?] at b0
                unfold Oper.wp
                go_simp
                exact hK
              · obtain rfl := Option.some.inj ho
                have b0 : A.tmps.getD 47 undef = .float .f32 x := hdep ⟨2, .data⟩ (by simp) rfl 47 rfl
                obtain ⟨zr, W', hr, iz, lz, dz⟩ := F32.arith_ex (P := Try.prog) (op := .sub) (.inr (.inl rfl)) 51 (HONE.out) (HX.out) W
                refine stepH (b := bb) (C := fun _ w' => Drawn wr w') (.float .f32 zr) W' ⟨zr, rfl, iz, lz⟩ (hC.trans dz) fun K hK => ?_
                simp only [Array.getD_eq_getD_getElem?] at b0
                unfold Oper.wp
                go_simp
                exact hK
              · obtain rfl := Option.some.inj ho
                have b0 : A.tmps.getD 6 undef = .slice (some ⟨g, 0, none⟩) N N := hbase 6 (by kernel_rfl)
                refine stepH (b := bb) (C := fun _ w' => Drawn wr w') (.slice (some ⟨g, 0, none⟩) N N) W rfl hC fun K hK => ?_
                simp only [Array.getD_eq_getD_getElem?] at b0
                unfold Oper.wp
                go_simp
                exact hK
              · obtain rfl := Option.some.inj ho
                have b0 : A.tmps.getD 8 undef = .slice (some ⟨bd, od + ib, none⟩) (len - ib) (cap - ib) := hbase 8 (by kernel_rfl)
                refine stepH (b := bb) (C := fun _ w' => Drawn wr w') (.slice (some ⟨bd, od + ib, none⟩) (len - ib) (cap - ib)) W rfl hC fun K hK => ?_
                simp only [Array.getD_eq_getD_getElem?] at b0
                unfold Oper.wp
                go_simp
                exact hK
              · obtain rfl := Option.some.inj ho
                have b0 : A.tmps.getD 50 undef = .slice (some ⟨bd, od + ib, none⟩) (len - ib) (cap - ib) := hdep ⟨5, .data⟩ (by simp) rfl 50 rfl
                refine stepH (b := bb) (C := fun _ w' => Drawn wr w') (.pointer (some ⟨bd, od + ib + 1, none⟩)) W rfl hC fun K hK => ?_
                simp only [Array.getD_eq_getD_getElem?] at b0
                unfold Oper.wp
                go_simp
                exact hK
              · obtain rfl := Option.some.inj ho
                have b0 : A.tmps.getD 51 undef = .pointer (some ⟨bd, od + ib + 1, none⟩) := hdep ⟨6, .data⟩ (by simp) rfl 51 rfl
                refine stepH (b := bb) (C := fun _ w' => Drawn wr w') (.int .i64 vA) W rfl hC fun K hK => ?_
                simp only [Array.getD_eq_getD_getElem?] at b0
                unfold Oper.wp
                go_simp
                exact hK
              · obtain rfl := Option.some.inj ho
                have b0 : A.tmps.getD 49 undef = .slice (some ⟨g, 0, none⟩) N N := hdep ⟨4, .data⟩ (by simp) rfl 49 rfl
                have b1 : A.tmps.getD 52 undef = .int .i64 vA := hdep ⟨7, .data⟩ (by simp) rfl 52 rfl
                simp only [Array.getD_eq_getD_getElem?] at b0 b1
                unfold Oper.wp
                go_simp
                refine (chanceIs_any _ N N M vA W hRW hA1 hA2 A1.out.1 A1.out.2).mono ?_
                rintro e w' ⟨⟨v, rfl, hi, hlt⟩, hd2⟩
                exact ⟨_, ⟨v, rfl, hi, hlt⟩, hC.trans hd2, rfl⟩
              · obtain rfl := Option.some.inj ho
                obtain ⟨y0, b0, j0, k0⟩ := hdep ⟨3, .data⟩ (by simp) rfl 48 rfl
                obtain ⟨y1, b1, j1, k1⟩ := hdep ⟨8, .data⟩ (by simp) rfl 53 rfl
                obtain ⟨zr, W', hr, iz, lz, dz⟩ := F32.arith_ex (P := Try.prog) (op := .mul) (.inr (.inr (.inl rfl))) 51 j0 j1 W
                refine stepH (b := bb) (C := fun _ w' => Drawn wr w') (.float .f32 zr) W' ⟨zr, rfl, iz, lz⟩ (hC.trans dz) fun K hK => ?_
                simp only [Array.getD_eq_getD_getElem?] at b0 b1
                unfold Oper.wp
                go_simp
                exact hK
              · obtain rfl := Option.some.inj ho
                have b0 : A.tmps.getD 9 undef = .float .f32 x := hbase 9 (by kernel_rfl)
                refine stepH (b := bb) (C := fun _ w' => Drawn wr w') (.float .f32 x) W rfl hC fun K hK => ?_
                simp only [Array.getD_eq_getD_getElem?] at b0
                unfold Oper.wp
                go_simp
                exact hK
              · obtain rfl := Option.some.inj ho
                have b0 : A.tmps.getD 6 undef = .slice (some ⟨g, 0, none⟩) N N := hbase 6 (by kernel_rfl)
                refine stepH (b := bb) (C := fun _ w' => Drawn wr w') (.slice (some ⟨g, 0, none⟩) N N) W rfl hC fun K hK => ?_
                simp only [Array.getD_eq_getD_getElem?] at b0
                unfold Oper.wp
                go_simp
                exact hK
              · obtain rfl := Option.some.inj ho
                have b0 : A.tmps.getD 8 undef = .slice (some ⟨bd, od + ib, none⟩) (len - ib) (cap - ib) := hbase 8 (by kernel_rfl)
                refine stepH (b := bb) (C := fun _ w' => Drawn wr w') (.slice (some ⟨bd, od + ib, none⟩) (len - ib) (cap - ib)) W rfl hC fun K hK => ?_
                simp only [Array.getD_eq_getD_getElem?] at b0
                unfold Oper.wp
                go_simp
                exact hK
              · obtain rfl := Option.some.inj ho
                have b0 : A.tmps.getD 57 undef = .slice (some ⟨bd, od + ib, none⟩) (len - ib) (cap - ib) := hdep ⟨12, .data⟩ (by simp) rfl 57 rfl
                refine stepH (b := bb) (C := fun _ w' => Drawn wr w') (.pointer (some ⟨bd, od + ib + 2, none⟩)) W rfl hC fun K hK => ?_
                simp only [Array.getD_eq_getD_getElem?] at b0
                unfold Oper.wp
                go_simp
                exact hK
              · obtain rfl := Option.some.inj ho
                have b0 : A.tmps.getD 58 undef = .pointer (some ⟨bd, od + ib + 2, none⟩) := hdep ⟨13, .data⟩ (by simp) rfl 58 rfl
                refine stepH (b := bb) (C := fun _ w' => Drawn wr w') (.int .i64 vB) W rfl hC fun K hK => ?_
                simp only [Array.getD_eq_getD_getElem?] at b0
                unfold Oper.wp
                go_simp
                exact hK
              · obtain rfl := Option.some.inj ho
                have b0 : A.tmps.getD 56 undef = .slice (some ⟨g, 0, none⟩) N N := hdep ⟨11, .data⟩ (by simp) rfl 56 rfl
                have b1 : A.tmps.getD 59 undef = .int .i64 vB := hdep ⟨14, .data⟩ (by simp) rfl 59 rfl
                simp only [Array.getD_eq_getD_getElem?] at b0 b1
                unfold Oper.wp
                go_simp
                refine (chanceIs_any _ N N M vB W hRW hB1 hB2 A2.out.1 A2.out.2).mono ?_
                rintro e w' ⟨⟨v, rfl, hi, hlt⟩, hd2⟩
                exact ⟨_, ⟨v, rfl, hi, hlt⟩, hC.trans hd2, rfl⟩
              · obtain rfl := Option.some.inj ho
                have b0 : A.tmps.getD 55 undef = .float .f32 x := hdep ⟨10, .data⟩ (by simp) rfl 55 rfl
                obtain ⟨y1, b1, j1, k1⟩ := hdep ⟨15, .data⟩ (by simp) rfl 60 rfl
                obtain ⟨zr, W', hr, iz, lz, dz⟩ := F32.arith_ex (P := Try.prog) (op := .mul) (.inr (.inr (.inl rfl))) 51 (HX.out) j1 W
                refine stepH (b := bb) (C := fun _ w' => Drawn wr w') (.float .f32 zr) W' ⟨zr, rfl, iz, lz⟩ (hC.trans dz) fun K hK => ?_
                simp only [Array.getD_eq_getD_getElem?] at b0 b1
                unfold Oper.wp
                go_simp
                exact hK
              · obtain rfl := Option.some.inj ho
                obtain ⟨y0, b0, j0, k0⟩ := hdep ⟨9, .data⟩ (by simp) rfl 54 rfl
                obtain ⟨y1, b1, j1, k1⟩ := hdep ⟨16, .data⟩ (by simp) rfl 61 rfl
                obtain ⟨zr, W', hr, iz, lz, dz⟩ := F32.arith_ex (P := Try.prog) (op := .add) (.inl rfl) 51 j0 j1 W
                refine stepH (b := bb) (C := fun _ w' => Drawn wr w') (.float .f32 zr) W' ⟨zr, rfl, iz, lz⟩ (hC.trans dz) fun K hK => ?_
                simp only [Array.getD_eq_getD_getElem?] at b0 b1
                unfold Oper.wp
                go_simp
                exact hK
              · obtain rfl := Option.some.inj ho
                have b0 : A.tmps.getD 45 undef = .slice (some ⟨g, 0, none⟩) N N := hdep ⟨0, .data⟩ (by simp) rfl 45 rfl
                have b1 : A.tmps.getD 46 undef = .int .i64 (k : Int) := hdep ⟨1, .data⟩ (by simp) rfl 46 rfl
                refine stepH (b := bb) (C := fun _ w' => Drawn wr w') (.pointer (some ⟨g, k, none⟩)) W rfl hC fun K hK => ?_
                simp only [Array.getD_eq_getD_getElem?] at b0 b1
                unfold Oper.wp
                go_simp
                exact hK
              · exact absurd hin (by omega)
            · intro vals W hC hlen hV
              match vals, hlen with
              | [v0, v1, v2, v3, v4, v5, v6, v7, v8, v9, v10, v11, v12, v13, v14, v15, v16, v17, v18], _ =>
                obtain rfl : v0 = _ := hV 0 (by simp)
                obtain rfl : v1 = _ := hV 1 (by simp)
                obtain rfl : v2 = _ := hV 2 (by simp)
                have h3 : nodI g bd od len cap N k ib x vA vB o1 o2 3 v3 := hV 3 (by simp)
                obtain ⟨x3, rfl, i3, l3⟩ := h3
                obtain rfl : v4 = _ := hV 4 (by simp)
                obtain rfl : v5 = _ := hV 5 (by simp)
                obtain rfl : v6 = _ := hV 6 (by simp)
                obtain rfl : v7 = _ := hV 7 (by simp)
                have h8 : nodI g bd od len cap N k ib x vA vB o1 o2 8 v8 := hV 8 (by simp)
                obtain ⟨x8, rfl, i8, l8⟩ := h8
                have h9 : nodI g bd od len cap N k ib x vA vB o1 o2 9 v9 := hV 9 (by simp)
                obtain ⟨x9, rfl, i9, l9⟩ := h9
                obtain rfl : v10 = _ := hV 10 (by simp)
                obtain rfl : v11 = _ := hV 11 (by simp)
                obtain rfl : v12 = _ := hV 12 (by simp)
                obtain rfl : v13 = _ := hV 13 (by simp)
                obtain rfl : v14 = _ := hV 14 (by simp)
                have h15 : nodI g bd od len cap N k ib x vA vB o1 o2 15 v15 := hV 15 (by simp)
                obtain ⟨x15, rfl, i15, l15⟩ := h15
                have h16 : nodI g bd od len cap N k ib x vA vB o1 o2 16 v16 := hV 16 (by simp)
                obtain ⟨x16, rfl, i16, l16⟩ := h16
                have h17 : nodI g bd od len cap N k ib x vA vB o1 o2 17 v17 := hV 17 (by simp)
                obtain ⟨x17, rfl, i17, l17⟩ := h17
                obtain rfl : v18 = _ := hV 18 (by simp)
                clear hV hlen
                simp only [puts, Act.put, List.zip_cons_cons, List.zip_nil_right, List.take_succ_cons, List.take_zero, List.drop_succ_cons, List.drop_zero, List.foldl_cons, List.foldl_nil, List.setIfInBounds_toArray, List.set_cons_zero, List.set_cons_succ]
                obtain ⟨nn, rfl⟩ := (show Drawn wr W from hC)
                have hF2 : FHd 51 (wr.drewN nn) g N M := hF.out.keep (below_drewN (Below.refl _ wr) nn)
                have HF3 := Lib.hid (hF2.set hlt x17)
                have HB3 := Lib.hid ((below_drewN hB.out nn).setCell (p := ⟨g, k, none⟩) (by rw [← HGG.out]; exact hg) (.float .f32 x17))
                have hfr := hF2.1.frozen k
                obtain ⟨u0, hu0⟩ := hF2.1.cell hlt
                have HZ2 : Hid (∀ z ∈ M.set k x17, z < 4294967296) := by
                  show ∀ z ∈ M.set k x17, z < 4294967296
                  intro z hz
                  rcases List.mem_or_eq_of_mem_set hz with h | h
                  · exact hZ.out z h
                  · rw [h]; exact l17
                have HM2 : Hid (∀ j, j < k + 1 → F32.Is (dgO d cs (j + 2)) ((M.set k x17).getD j 0)) := by
                  show ∀ j, _
                  intro j hj
                  have hml : k < M.length := by have := hF.out.2.1; omega
                  by_cases e : j = k
                  · subst e
                    rw [HNODE.out]
                    simp only [List.getD]
                    rw [List.getElem?_set_self hml]
                    exact i17
                  · simp only [List.getD]
                    rw [List.getElem?_set_ne (fun h => e h.symm)]
                    exact hM.out j (by omega)
                clear hC i3 l3 i8 l8 i9 l9 i15 l15 i16 l16 i17 hF hM hZ hB hF2
                generalize wr.drewN nn = wq at *
                go_wp2_with fail
                have hgg := HGG.out
                clear HGG
                subst hgg
                go_roundg (gk - 1)
                case measure => exact HG.out
                case rel => exact ⟨k + 1, M.set k x17, by go_num, HJ, by omega, HF3, HZ2, HM2, HB3⟩
          · obtain rfl : k = N := by have := hk.out; omega
            have HMR := Lib.hid (hF.out.row (by omega) hZ.out)
            obtain ⟨_, _, e3, _, cm⟩ := HMR.out.2.2.2 (k - 1) (by omega)
            cases e3
            obtain ⟨K1, hK1⟩ : ∃ K1, k - 1 = K1 := ⟨_, rfl⟩
            have hs : (k : Int) - 1 = (K1 : Int) := by omega
            have hs2 : K1 < k := by omega
            have ML := Lib.hid (hM.out K1 hs2)
            have MZ : Hid (M.getD K1 0 < 4294967296) := hZ.out _ (by simp [List.getD, show K1 < M.length by have := hF.out.2.1; omega])
            rw [Nat.zero_add] at cm
            have cm2 : wr.cell? ⟨w1.heap.size, k - 1, none⟩ = some (.float .f32 (M.getD K1 0)) := by rw [← hK1]; exact cm
            rw [hK1] at cm
            have HE2 : Hid (dgE d cs = dgO d cs (K1 + 2)) := by show _ = _; rw [HE.out, show k + 1 = K1 + 2 by omega]
            generalize M.getD K1 0 = u at *
            clear hK1 hlt hk
            go_wp2_with fail
            go_ret2
            rw [HN.out, HE2.out]
            exact ⟨⟨u, rfl, ML.out, MZ.out⟩, hB.out⟩
end Go.Proofs.Ytaecdeickncpcaa
