/-
  Failures of a test in the model; sums of growth, in both. Conditions: the lists read as lists of numbers.
-/
import Derived.Test.YtppkeabkjabhdaaGro
namespace We
open Go Flt Dec
theorem _root_.Flt.FRow.belowH {w w' : World} {a : Option Addr} {len : Nat} {zs : List Nat} (h : FRow w a len zs) (hb : Go.RowKit.Below w.heap.size w w') : FRow w' a len zs := h.keep hb
end We
namespace Go.Proofs.Ytppkeabkjabhdaa
open Go.RowKit Flt Dec Cm We Cr Liv Hld
set_option maxRecDepth 100000 in
set_option maxHeartbeats 3200000 in
theorem sTimes_any (a : Option Addr) (len cap : Nat) (T : List Nat) (to : Nat) (w : World) (h : FRow w a len T) :
    Calls Try.prog 80 #[.slice a len cap, .float .f32 to] w fun e w' => e = .returned (.bool (gs0 T to)) ∧ Drawn w w' := by
  have HTL := Lib.hid h.1
  have HT := Lib.hid h
  by_cases hl : 1 ≤ len ∧ len ≤ 48
  · have q1 : ¬ ((len : Int) < 1) := by omega
    have q2 : ¬ ((len : Int) > 48) := by omega
    cases h2 : fin .f32 to with
    | false =>
      have HN := Lib.hid (gs_to (T := T) h2)
      have H2 := Lib.hid h2
      clear h h2 hl
      go_enter Try.func80, Try.ntmps80
      go_wp2_with fail
      refine (specFinite_any to _).mono ?_
      rintro e w2 ⟨rfl, d2⟩
      rw [H2.out]
      have D2 := Lib.hid d2
      clear d2
      go_wp2_with fail
      go_ret
      exact ⟨congrArg (fun b => Ending.returned (.bool b)) HN.out.symm, D2.out⟩
    | true =>
      have H2 := Lib.hid h2
      have HYS : Hid ((∀ i, i < len → gsOk T to i = true) → gs0 T to = true) := Lib.hid fun g => gs_yes (by rw [HTL.out]; exact hl) h2 (by rw [HTL.out]; exact g)
      have HNS : Hid (∀ i, i < len → gsOk T to i = false → gs0 T to = false) := Lib.hid fun i hi g => gs_at (by rw [HTL.out]; exact hi) g
      obtain ⟨R, hR⟩ : ∃ r, gs0 T to = r := ⟨_, rfl⟩
      rw [hR] at HYS HNS ⊢
      clear h h2 hR
      go_enter Try.func80, Try.ntmps80
      go_wp2_with fail
      refine (specFinite_any to _).mono ?_
      rintro e w2 ⟨rfl, d2⟩
      rw [H2.out]
      have D2 := Lib.hid d2
      clear d2
      go_wp2_with fail
      go_loopg [21] len (fun n i wr => ∃ k : Nat, i = .int .i64 (k : Int) ∧ Hid (k + n = len) ∧ k ≤ len ∧ Hid (∀ i, i < k → gsOk T to i = true) ∧ Hid (Drawn w wr))
      case atStart => exact ⟨0, rfl, by show _ = _; omega, Nat.zero_le _, (show Hid _ from fun i hi => absurd hi (Nat.not_lt_zero _)), D2.out⟩
      case round =>
        clear D2
        obtain ⟨k, rfl, hk, hkl, hA, hD⟩ := hrel
        by_cases hlt : k < len
        · have HJ : Hid (k + 1 + (gk - 1) = len) := by have := hk.out; show _ = _; omega
          have HG : Hid (gk - 1 < gk) := by have := hk.out; show _ < _; omega
          obtain ⟨b1, o1, rfl, hb1, hc1⟩ := (frow_drawn HT.out hD.out).2.2.2 k hlt
          have HNO := Lib.hid (HNS.out k hlt)
          have HYE : Hid (gsOk T to k = true → ∀ i, i < k + 1 → gsOk T to i = true) := Lib.hid fun hq i hi => by
            by_cases e : i = k
            · subst e; exact hq
            · exact hA.out i (by omega)
          by_cases h0 : k = 0
          · subst h0
            obtain ⟨z, hz⟩ : ∃ z, T.getD 0 0 = z := ⟨_, rfl⟩
            have HZ := Lib.hid hz
            rw [hz, Nat.add_zero] at hc1
            have hcm : ∀ m, (wr.drewN m).cell? ⟨b1, o1, none⟩ = some (.float .f32 z) := fun m => hc1
            clear hz hb1
            cases h1 : pos z with
            | false =>
              have H1 := Lib.hid h1
              have HN := Lib.hid (HNO.out (by unfold gsOk; rw [HZ.out, h1]; rfl))
              clear h1
              go_wp2_with fail
              go_quiet ((go_at_call 89; exact (c_specAbove z _).mono fun e w' ⟨h1, ⟨n, h2⟩⟩ => ⟨h1.trans (by rw [H1.out]), ⟨_, h2.trans (Flt.drewN_drewN _ _ _)⟩⟩))
              go_wp2_with fail
              go_ret
              exact ⟨congrArg (fun b => Ending.returned (.bool b)) HN.out.symm, hD.out.trans ⟨_, rfl⟩⟩
            | true =>
              have H1 := Lib.hid h1
              cases h2 : gtW z to with
              | true =>
                have HN := Lib.hid (HNO.out (by unfold gsOk; rw [HZ.out, h2]; simp))
                unfold gtW at h2
                clear h1
                go_wp2_with fail
                go_quiet ((go_at_call 89; exact (c_specAbove z _).mono fun e w' ⟨h1, ⟨n, h2⟩⟩ => ⟨h1.trans (by rw [H1.out]), ⟨_, h2.trans (Flt.drewN_drewN _ _ _)⟩⟩))
                go_wp2_with fail
                go_ret
                exact ⟨congrArg (fun b => Ending.returned (.bool b)) HN.out.symm, hD.out.trans ⟨_, rfl⟩⟩
              | false =>
                have hok : gsOk T to 0 = true := by unfold gsOk; rw [HZ.out, h1, h2]; rfl
                unfold gtW at h2
                clear h1
                have HX := Lib.hid (HYE.out hok)
                go_wp2_with fail
                go_quiet ((go_at_call 89; exact (c_specAbove z _).mono fun e w' ⟨h1, ⟨n, h2⟩⟩ => ⟨h1.trans (by rw [H1.out]), ⟨_, h2.trans (Flt.drewN_drewN _ _ _)⟩⟩))
                go_wp2_with fail
                go_roundg (gk - 1)
                case measure => exact HG.out
                case rel => exact ⟨0 + 1, by go_num, HJ, by omega, HX.out, hD.out.trans ⟨_, rfl⟩⟩
          · obtain ⟨m, rfl⟩ : ∃ m, k = m + 1 := ⟨k - 1, by omega⟩
            obtain ⟨b2, o2, he2, hb2, hc2⟩ := (frow_drawn HT.out hD.out).2.2.2 m (by omega)
            cases he2
            have hzz : ((m : Int) + 1) > 0 := by omega
            obtain ⟨z, hz⟩ : ∃ z, T.getD (m + 1) 0 = z := ⟨_, rfl⟩
            have HZ := Lib.hid hz
            obtain ⟨zp, hzp⟩ : ∃ z, T.getD m 0 = z := ⟨_, rfl⟩
            have HZP : Hid (T.getD (m + 1 - 1) 0 = zp) := by show _ = _; rw [Nat.add_sub_cancel]; exact hzp
            rw [hz] at hc1
            rw [hzp] at hc2
            have hcm : ∀ q, (wr.drewN q).cell? ⟨b1, o1 + (m + 1), none⟩ = some (.float .f32 z) := fun m => hc1
            have hcp : ∀ q, (wr.drewN q).cell? ⟨b1, o1 + m, none⟩ = some (.float .f32 zp) := fun m => hc2
            clear hz hzp hb1 hb2 h0
            cases h1 : pos z with
            | false =>
              have H1 := Lib.hid h1
              have HN := Lib.hid (HNO.out (by unfold gsOk; rw [HZ.out, h1]; rfl))
              clear h1
              go_wp2_with fail
              go_quiet ((go_at_call 89; exact (c_specAbove z _).mono fun e w' ⟨h1, ⟨n, h2⟩⟩ => ⟨h1.trans (by rw [H1.out]), ⟨_, h2.trans (Flt.drewN_drewN _ _ _)⟩⟩))
              go_wp2_with fail
              go_ret
              exact ⟨congrArg (fun b => Ending.returned (.bool b)) HN.out.symm, hD.out.trans ⟨_, rfl⟩⟩
            | true =>
              have H1 := Lib.hid h1
              cases h2 : gtW z to with
              | true =>
                have HN := Lib.hid (HNO.out (by unfold gsOk; rw [HZ.out, h2]; simp))
                unfold gtW at h2
                clear h1
                go_wp2_with fail
                go_quiet ((go_at_call 89; exact (c_specAbove z _).mono fun e w' ⟨h1, ⟨n, h2⟩⟩ => ⟨h1.trans (by rw [H1.out]), ⟨_, h2.trans (Flt.drewN_drewN _ _ _)⟩⟩))
                go_wp2_with fail
                go_ret
                exact ⟨congrArg (fun b => Ending.returned (.bool b)) HN.out.symm, hD.out.trans ⟨_, rfl⟩⟩
              | false =>
                cases h3 : ltW z zp with
                | true =>
                  have HN := Lib.hid (HNO.out (by unfold gsOk; rw [HZ.out, HZP.out, h3]; simp))
                  unfold gtW at h2
                  unfold ltW at h3
                  clear h1
                  go_wp2_with fail
                  go_quiet ((go_at_call 89; exact (c_specAbove z _).mono fun e w' ⟨h1, ⟨n, h2⟩⟩ => ⟨h1.trans (by rw [H1.out]), ⟨_, h2.trans (Flt.drewN_drewN _ _ _)⟩⟩))
                  go_wp2_with fail
                  go_ret
                  exact ⟨congrArg (fun b => Ending.returned (.bool b)) HN.out.symm, hD.out.trans ⟨_, rfl⟩⟩
                | false =>
                  have hok : gsOk T to (m + 1) = true := by unfold gsOk; rw [HZ.out, HZP.out, h1, h2, h3]; rfl
                  unfold gtW at h2
                  unfold ltW at h3
                  clear h1
                  have HX := Lib.hid (HYE.out hok)
                  go_wp2_with fail
                  go_quiet ((go_at_call 89; exact (c_specAbove z _).mono fun e w' ⟨h1, ⟨n, h2⟩⟩ => ⟨h1.trans (by rw [H1.out]), ⟨_, h2.trans (Flt.drewN_drewN _ _ _)⟩⟩))
                  go_wp2_with fail
                  go_roundg (gk - 1)
                  case measure => exact HG.out
                  case rel => exact ⟨(m + 1) + 1, by go_num, HJ, by omega, HX.out, hD.out.trans ⟨_, rfl⟩⟩
        · obtain rfl : k = len := by omega
          have HY := Lib.hid (HYS.out hA.out)
          clear hlt hk
          go_wp2_with fail
          go_ret
          exact ⟨congrArg (fun b => Ending.returned (.bool b)) HY.out.symm, hD.out⟩
  · have HN := Lib.hid (gs_len (T := T) (to := to) (by rw [HTL.out]; exact hl))
    clear h
    by_cases q1 : (len : Int) < 1
    all_goals
      go_enter Try.func80, Try.ntmps80
      go_wp2_with fail
      go_ret
      exact ⟨congrArg (fun b => Ending.returned (.bool b)) HN.out.symm, Drawn.refl _⟩
set_option maxRecDepth 100000 in
set_option maxHeartbeats 8000000 in
theorem sGrowthSums_any (a : Option Addr) (len cap : Nat) (T : List Nat) (to : Nat) (w : World) (h : FRow w a len T) :
    Calls Try.prog 33 #[.slice a len cap, .float .f32 to] w fun e w' => (∃ a' c', e = .returned (.tuple #[.slice a' (gsA T to).length c', .bool (gsB T to)]) ∧ FRow w' a' (gsA T to).length (gsA T to)) ∧ Below w.heap.size w w' := by
  have HT := Lib.hid h
  cases h0 : gs0 T to with
  | false =>
    have HA := Lib.hid (tail_no h0)
    have H0 := Lib.hid h0
    clear h h0
    go_enter Try.func33, Try.ntmps33
    go_wp2_with fail
    refine (sTimes_any a len cap T to _ HT.out).mono ?_
    rintro e w1 ⟨rfl, d1⟩
    rw [H0.out]
    have D := Lib.hid d1
    clear d1
    go_wp2_with fail
    go_ret2
    rw [HA.out.1, HA.out.2]
    exact ⟨⟨_, _, rfl, frow_nil _ _⟩, D.out.below _⟩
  | true =>
    have H0 := Lib.hid h0
    have hl := (gs_parts h0).1
    rw [h.1] at hl
    have HTV : Hid (∀ k, k < len → F32.Is (at_ T k) (T.getD k 0)) := Lib.hid fun k hk => at_is (gs_fin h0) h hk
    have HYA : Hid (gsA T to = okA true (gsO T) len ∧ gsB T to = okL true (gsO T) len) := by unfold gsA gsB; rw [h0, h.1]; exact ⟨rfl, rfl⟩
    obtain ⟨A, hA⟩ : ∃ l, gsA T to = l := ⟨_, rfl⟩
    obtain ⟨B, hB⟩ : ∃ l, gsB T to = l := ⟨_, rfl⟩
    rw [hA, hB] at HYA
    rw [hA, hB]
    obtain ⟨i0, hi, hz0, hz1, hz2⟩ := info_parts (show (Try.prog.info? 31).map (fun i => (i.zero, i.size, i.bytes)) = some (some (.float .f32 0), 1, 4) by kernel_rfl)
    clear h h0 hA hB
    go_enter Try.func33, Try.ntmps33
    go_wp2_with fail
    refine (sTimes_any a len cap T to _ HT.out).mono ?_
    rintro e w1 ⟨rfl, d1⟩
    rw [H0.out]
    have D1 := Lib.hid d1
    have HGE : Hid (w.heap.size ≤ w1.heap.size) := (d1.below w.heap.size).size
    have HB1 : Hid (Below w.heap.size w (w1.alloc (.cells #[] 31))) := Lib.hid ((d1.below w.heap.size).alloc HGE.out _)
    clear d1
    go_wp2_with fail
    go_loopg [6, 15] len (fun q v6 i wr => ∃ (k c3 : Nat) (a3 : Option Addr) (zs : List Nat), v6 = .slice a3 k c3 ∧ i = .int .i64 (k : Int) ∧ Hid (k + q = len) ∧ k ≤ len ∧ Hid (zs.length = k) ∧ Hid (∀ j, j < k → F32.Is (gsO T j) (zs.getD j 0) ∧ zs.getD j 0 < 4294967296) ∧ Hid (wr.ownsRow w1.heap.size 31 1 (.slice a3 k c3) k (fv zs)) ∧ Hid (w1.heap.size ≤ wr.heap.size) ∧ Hid (Below w.heap.size w wr))
    case atStart => exact ⟨0, _, _, [], rfl, rfl, by show _ = _; omega, Nat.zero_le _, rfl, (show Hid _ from fun j hj => absurd hj (Nat.not_lt_zero _)), World.ownsRow_made w1 #[] 0 (Nat.le_refl _) (Nat.zero_le _) rfl, (by show _ ≤ _; simp), HB1.out⟩
    case round =>
      clear D1 HB1
      obtain ⟨k, c3, a3, zs, rfl, rfl, hk, hkl, hzl, hI, hO, HBB, hB⟩ := hrel
      by_cases hlt : k < len
      · have HJ : Hid (k + 1 + (gk - 1) = len) := by have := hk.out; show _ = _; omega
        have HG : Hid (gk - 1 < gk) := by have := hk.out; show _ < _; omega
        obtain ⟨b, off, rfl, hbl, hc⟩ := (FRow.belowH HT.out hB.out).2.2.2 k hlt
        have i1 := HTV.out k hlt
        generalize T.getD k 0 = z1 at *
        obtain ⟨x1, v1, r1, j1, l1, e1⟩ := F32.arith_ex (P := Try.prog) (op := .quo) (.inr (.inr (.inr rfl))) 31 (whole_is (k + 1) (by omega)) i1 wr
        have DV := Lib.hid e1
        have HX : Hid (F32.Is (gsO T k) x1 ∧ x1 < 4294967296) := ⟨j1, l1⟩
        have hcv := hc
        clear j1 l1 e1
        clear i1 hbl
        try rw [show ((k + 1 : Nat) : Int) = (k : Int) + 1 from rfl] at r1
        have HO4 := Lib.hid (owned_drawn hO.out DV.out)
        have HB4 := Lib.hid (hB.out.trans (DV.out.below w.heap.size))
        have HCELL : Hid (∀ (j : Nat) (u : Value), [Value.float .f32 x1][j]? = some u → (v1.alloc (.cells #[.float .f32 x1] 31)).cell? ((⟨v1.heap.size, 0, none⟩ : Addr).add j) = some u) := Lib.hid (Cm.cell_new1 v1 31 (.float .f32 x1))
        have HO1 := Lib.hid (HO4.out.alloc (.cells #[.float .f32 x1] 31))
        have HB1 := Lib.hid (HB4.out.alloc HB4.out.size (.cells #[.float .f32 x1] 31))
        have HBS : Hid (w1.heap.size ≤ (v1.alloc (.cells #[.float .f32 x1] 31)).heap.size) := by show _ ≤ _; obtain ⟨nd, hnd⟩ := DV.out; rw [hnd]; simp; exact Nat.le_trans HBB.out (Nat.le_succ _)
        have HLE : Hid (k + 1 ≤ maxLen ∧ (k + 1) * 4 ≤ 140737488355328) := by show _ ∧ _; unfold maxLen; omega
        clear hO hB HO4 HB4 
        go_wp2_with (at_builtin; refine wpList_append_own _ rfl _ _ 30 rfl (w1.heap.size) 31 i0 (.float .f32 0) 1 4 Try.underlying30 hi hz0 hz1 hz2 rfl (by decide) (.slice a3 k c3) k (fv zs) rfl HO1.out ⟨v1.heap.size, 0, none⟩ 1 1 [.float .f32 x1] rfl rfl HCELL.out (by intro u hu; simp at hu; subst hu; rfl) HLE.out.1 HLE.out.2 HBS.out ?_)
        intro v' w6 hown' hgrow _
        have HO3 : Hid (w6.ownsRow (w1.heap.size) 31 1 v' (k + 1) (fv (zs ++ [x1]))) := by
          show World.ownsRow _ _ _ _ _ _ _
          rw [Cm.fv_snoc]; exact hown'
        have HB3 : Hid (Below w.heap.size w w6) := Lib.hid (HB1.out.grown hgrow HB1.out.size (fun q hq => Nat.le_trans HGE.out (HO1.out.lt q hq).1))
        have HBB3 : Hid (w1.heap.size ≤ w6.heap.size) := Lib.hid (Nat.le_trans HBS.out hgrow.size)
        clear hown' hgrow HO1 HB1 HCELL HBS HBB
        obtain ⟨a5, c5, rfl⟩ := Cm.owns_shape HO3.out
        have HZ2 : Hid ((zs ++ [x1]).length = k + 1) := by show _ = _; rw [List.length_append, hzl.out]; rfl
        have HI2 : Hid (∀ j, j < k + 1 → F32.Is (gsO T j) ((zs ++ [x1]).getD j 0) ∧ (zs ++ [x1]).getD j 0 < 4294967296) := by
          show ∀ j, _
          intro j hj
          by_cases ej : j = k
          · subst ej; rw [snoc_last zs x1 hzl.out]; exact HX.out
          · rw [snoc_old zs x1 (by rw [hzl.out]; omega)]; exact hI.out j (by omega)
        go_wp2_with fail
        go_roundg (gk - 1)
        case measure => exact HG.out
        case rel => exact ⟨k + 1, c5, a5, zs ++ [x1], rfl, by go_num, HJ, by omega, HZ2.out, HI2.out, HO3.out, HBB3.out, HB3.out⟩
      · obtain rfl : k = len := by omega
        have hrow := Cm.row_owned hO.out hzl.out (by omega) (lt_mem hzl.out fun j hj => (hI.out j hj).2)
        have HR := Lib.hid hrow
        obtain ⟨g1, g2⟩ := F32.all_is hzl.out (fun j hj => (hI.out j hj).1)
        have G1 := Lib.hid g1
        have G2 := Lib.hid g2
        generalize wr = w3 at *
        clear hlt hO hrow hk g1 g2
        go_wp2_with fail
        refine (specFinD_any a3 k c3 zs _ HR.out (by omega)).mono ?_
        rintro e w7 ⟨rfl, d7⟩
        rw [G1.out]
        have R7 := Lib.hid (frow_drawn HR.out d7)
        have B7 := Lib.hid (hB.out.trans (d7.below w.heap.size))
        clear d7 hB
        cases hq : F32.oks (gsO T) k with
        | true =>
          have HY : Hid (A = zs ∧ B = true) := by
            have := okl_yes (c := true) rfl hq
            exact ⟨by rw [HYA.out.1, this.2, G2.out hq], by rw [HYA.out.2, this.1]⟩
          clear hq
          go_wp2_with fail
          go_ret2
          rw [HY.out.1, HY.out.2, hzl.out]
          first | exact ⟨⟨_, _, rfl, R7.out⟩, B7.out⟩ | exact ⟨⟨_, ⟨_, rfl⟩, R7.out⟩, B7.out⟩
        | false =>
          have HY : Hid (A = [] ∧ B = false) := by
            have := okl_bad (c := true) hq
            exact ⟨by rw [HYA.out.1, this.2], by rw [HYA.out.2, this.1]⟩
          clear hq
          go_wp2_with fail
          go_ret2
          rw [HY.out.1, HY.out.2]
          first | exact ⟨⟨_, _, rfl, frow_nil _ _⟩, B7.out⟩ | exact ⟨⟨_, ⟨_, rfl⟩, frow_nil _ _⟩, B7.out⟩
set_option maxRecDepth 100000 in
set_option maxHeartbeats 8000000 in
theorem iGrowthSums_any (a : Option Addr) (len cap : Nat) (T : List Nat) (to : Nat) (w : World) (h : FRow w a len T) (_hc : len ≤ cap) :
    Calls Try.prog 34 #[.slice a len cap, .float .f32 to] w fun e w' => (∃ a' c', e = .returned (.tuple #[.slice a' (gsA T to).length c', .bool (gsB T to)]) ∧ FRow w' a' (gsA T to).length (gsA T to) ∧ Dec.Own w' w.heap.size a' (gsA T to).length 31) ∧ Below w.heap.size w w' := by
  have HT := Lib.hid h
  cases h0 : gs0 T to with
  | false =>
    have HA := Lib.hid (tail_no h0)
    have H0 := Lib.hid h0
    clear h h0
    go_enter Try.func34, Try.ntmps34
    go_wp2_with fail
    refine (areFail_any a len cap T to _ HT.out).mono ?_
    rintro e w1 ⟨rfl, d1⟩
    rw [H0.out]
    have D := Lib.hid d1
    clear d1
    go_wp2_with fail
    go_ret2
    rw [HA.out.1, HA.out.2]
    first | exact ⟨⟨_, _, rfl, frow_nil _ _, .inl rfl⟩, D.out.below _⟩ | exact ⟨⟨_, ⟨_, rfl⟩, frow_nil _ _, .inl rfl⟩, D.out.below _⟩
  | true =>
    have H0 := Lib.hid h0
    have hl := (gs_parts h0).1
    rw [h.1] at hl
    have HTV : Hid (∀ k, k < len → F32.Is (at_ T k) (T.getD k 0)) := Lib.hid fun k hk => at_is (gs_fin h0) h hk
    have HYA : Hid (gsA T to = okA true (gsO T) len ∧ gsB T to = okL true (gsO T) len) := by unfold gsA gsB; rw [h0, h.1]; exact ⟨rfl, rfl⟩
    obtain ⟨A, hA⟩ : ∃ l, gsA T to = l := ⟨_, rfl⟩
    obtain ⟨B, hB⟩ : ∃ l, gsB T to = l := ⟨_, rfl⟩
    rw [hA, hB] at HYA
    rw [hA, hB]
    have hmk : ∀ w, (Instr.makeSlice 30 (.int .i64 (len : Int)) (.int .i64 (len : Int))).run Try.prog w = .ok (.slice (some ⟨w.heap.size, 0, none⟩) len len) (w.alloc (.cells (madeCells (Value.float .f32 0).cells (len * 1)) 31)) := by
      intro w
      obtain ⟨i, hi, hz0, hz1, hz2⟩ := info_parts (show (Try.prog.info? 31).map (fun i => (i.zero, i.size, i.bytes)) = some (some (.float .f32 0), 1, 4) by kernel_rfl)
      have := run_make (P := Try.prog) w 30 31 i (.float .f32 0) Try.underlying30 hi hz0 .i64 .i64 (len : Int) (len : Int) (by omega) (Int.le_refl _) (by rw [hz2]; omega) (by omega)
      rw [hz1, Int.toNat_natCast] at this
      exact this
    have HMD : Hid (∀ w : World, Hld.FHd 31 (w.alloc (.cells (madeCells (Value.float .f32 0).cells (len * 1)) 31)) w.heap.size len (List.replicate len 0)) := Lib.hid fun w => Hld.FHd.made w 31 len
    generalize madeCells (Value.float .f32 0).cells (len * 1) = C0 at *
    clear h h0 hA hB
    go_enter Try.func34, Try.ntmps34
    go_wp2_with fail
    refine (areFail_any a len cap T to _ HT.out).mono ?_
    rintro e w1 ⟨rfl, d1⟩
    rw [H0.out]
    have D1 := Lib.hid d1
    have HGE : Hid (w.heap.size ≤ w1.heap.size) := (d1.below w.heap.size).size
    have HB1 : Hid (Below w.heap.size w (w1.alloc (.cells C0 31))) := Lib.hid ((d1.below w.heap.size).alloc HGE.out _)
    have HM1 := Lib.hid (HMD.out w1)
    clear d1
    go_wp2_with fail
    go_loopg [18] len (fun q i wr => ∃ (k : Nat) (L : List Nat), i = .int .i64 (k : Int) ∧ Hid (k + q = len) ∧ k ≤ len ∧ Hid (FHd 31 wr w1.heap.size len L) ∧ Hid (∀ j, j < len → (j < k → F32.Is (gsO T j) (L.getD j 0)) ∧ L.getD j 0 < 4294967296) ∧ Hid (Below w.heap.size w wr))
    case atStart => exact ⟨0, _, rfl, by show _ = _; omega, Nat.zero_le _, HM1.out, (show Hid _ from fun j hj => ⟨fun h => absurd h (Nat.not_lt_zero _), by simp [List.getD, hj]⟩), HB1.out⟩
    case round =>
      clear D1 HB1 HM1 HMD
      obtain ⟨k, L, rfl, hk, hkl, hS, hI, hB⟩ := hrel
      by_cases hlt : k < len
      · have HJ : Hid (k + 1 + (gk - 1) = len) := by have := hk.out; show _ = _; omega
        have HG : Hid (gk - 1 < gk) := by have := hk.out; show _ < _; omega
        obtain ⟨b, off, rfl, hbl, hc⟩ := (FRow.belowH HT.out hB.out).2.2.2 k hlt
        have i1 := HTV.out k hlt
        generalize T.getD k 0 = z1 at *
        obtain ⟨x1, v1, r1, j1, l1, e1⟩ := F32.arith_ex (P := Try.prog) (op := .quo) (.inr (.inr (.inr rfl))) 31 (whole_is (k + 1) (by omega)) i1 wr
        have DV := Lib.hid e1
        have HX : Hid (F32.Is (gsO T k) x1 ∧ x1 < 4294967296) := ⟨j1, l1⟩
        clear j1 l1 e1
        clear i1 hbl
        try rw [show ((k + 1 : Nat) : Int) = (k : Int) + 1 from rfl] at r1
        have hs4 := Cr.fhd_drawn hS.out DV.out
        have HB4 := Lib.hid (hB.out.trans (DV.out.below w.heap.size))
        obtain ⟨u4, hu4⟩ := hs4.1.cell (show k < len by omega)
        have hfr4 := hs4.1.frozen (k)
        have HS5 := Lib.hid (hs4.set (show k < len by omega) x1)
        have HB5 := Lib.hid (HB4.out.setCell (p := ⟨w1.heap.size, k, none⟩) HGE.out (.float .f32 x1))
        have HLL := Lib.hid hs4.2.1
        have HI5 : Hid (∀ j, j < len → (j < k + 1 → F32.Is (gsO T j) ((L.set (k) x1).getD j 0)) ∧ (L.set (k) x1).getD j 0 < 4294967296) := by
          show ∀ j, _
          intro j hj
          by_cases ej : j = k
          · have : (L.set (k) x1).getD (k) 0 = x1 := by simp [List.getD, show k < L.length by rw [HLL.out]; omega]
            rw [ej, this]; exact ⟨fun _ => HX.out.1, HX.out.2⟩
          · have : (L.set (k) x1).getD j 0 = L.getD j 0 := by simp [List.getD, show ¬ k = j by omega]
            rw [this]; exact ⟨fun h => (hI.out j hj).1 (by omega), (hI.out j hj).2⟩
        clear hS hB hs4 HB4
        go_wp2_with fail
        go_roundg (gk - 1)
        case measure => exact HG.out
        case rel => exact ⟨k + 1, L.set k x1, by go_num, HJ, by omega, HS5.out, HI5.out, HB5.out⟩
      · obtain rfl : k = len := by omega
        have HR := Lib.hid (hS.out.row (by omega) (lt_mem hS.out.2.1 fun j hj => (hI.out j hj).2))
        obtain ⟨g1, g2⟩ := F32.all_is hS.out.2.1 (fun j hj => (hI.out j hj).1 hj)
        have G1 := Lib.hid g1
        have G2 := Lib.hid g2
        have HSL := Lib.hid hS.out.1
        have HYL := Lib.hid hS.out.2.1
        generalize wr = w3 at *
        clear hlt hS hk g1 g2
        go_wp2_with fail
        refine (onlyFin_any _ k k L _ HR.out).mono ?_
        rintro e w7 ⟨rfl, b7⟩
        rw [G1.out]
        have R7 := Lib.hid (HR.out.keep b7)
        have S7 := Lib.hid (HSL.out.keep b7)
        have B7 := Lib.hid (hB.out.trans (b7.mono hB.out.size))
        clear b7 hB
        cases hq : F32.oks (gsO T) k with
        | true =>
          have HY : Hid (A = L ∧ B = true) := by
            have := okl_yes (c := true) rfl hq
            exact ⟨by rw [HYA.out.1, this.2, G2.out hq], by rw [HYA.out.2, this.1]⟩
          clear hq
          rw [if_pos rfl]
          go_wp2_with fail
          go_ret2
          rw [HY.out.1, HY.out.2, HYL.out]
          first | exact ⟨⟨_, _, rfl, R7.out, .inr ⟨_, rfl, HGE.out, S7.out⟩⟩, B7.out⟩ | exact ⟨⟨_, ⟨_, rfl⟩, R7.out, .inr ⟨_, rfl, HGE.out, S7.out⟩⟩, B7.out⟩
        | false =>
          have HY : Hid (A = [] ∧ B = false) := by
            have := okl_bad (c := true) hq
            exact ⟨by rw [HYA.out.1, this.2], by rw [HYA.out.2, this.1]⟩
          clear hq
          rw [if_neg (by decide)]
          go_wp2_with fail
          go_ret2
          rw [HY.out.1, HY.out.2]
          first | exact ⟨⟨_, _, rfl, frow_nil _ _, .inl rfl⟩, B7.out⟩ | exact ⟨⟨_, ⟨_, rfl⟩, frow_nil _ _, .inl rfl⟩, B7.out⟩
end Go.Proofs.Ytppkeabkjabhdaa
