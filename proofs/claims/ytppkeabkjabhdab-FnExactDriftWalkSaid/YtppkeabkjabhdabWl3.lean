/-
  Particles, in the model. Conditions: numbers are words.
-/
import Derived.Test.YtppkeabkjabhdabWlk
namespace Go.Proofs.Ytppkeabkjabhdab
open Go.RowKit Flt Dec Cm We Cr Liv Hld
set_option maxRecDepth 100000 in
set_option maxHeartbeats 8000000 in
theorem sParticles_any (c0 s0 : Int) (lo up : Nat) (w : World) (hlo : lo < 4294967296) (hhi : up < 4294967296) :
    Calls Try.prog 9 #[.int .i64 c0, .int .i64 s0, .float .f32 lo, .float .f32 up] w fun e w' => (∃ a' c', e = .returned (.tuple #[.slice a' (ptA c0 s0 lo up).length c', .int .i64 (ptS c0 s0 lo up), .bool (ptB c0 s0 lo up)]) ∧ FRow w' a' (ptA c0 s0 lo up).length (ptA c0 s0 lo up)) ∧ Below w.heap.size w w' := by
  obtain ⟨i0, hi, hz0, hz1, hz2⟩ := info_parts (show (Try.prog.info? 22).map (fun i => (i.zero, i.size, i.bytes)) = some (some (.float .f32 0), 1, 4) by kernel_rfl)
  have HB0 : Hid (Below w.heap.size w (w.alloc (.cells #[.int .i64 s0] 2))) := (Below.refl _ _).alloc (Nat.le_refl _) _
  have HS0 : Hid (Blk.Blk (w.alloc (.cells #[.int .i64 s0] 2)) w.heap.size [.int .i64 s0] 2) := Blk.Blk.new _ _ _
  have hsc0 := cell_of HS0.out
  go_enter Try.func9, Try.ntmps9
  go_wp2_with fail
  refine (c_In c0 1 64 _).mono ?_
  rintro e w1 ⟨rfl, rfl⟩
  have HB1 := HB0
  have HS1 := HS0
  have hsc1 := cell_of HS1.out
  cases h1 : decide (1 ≤ c0 ∧ c0 ≤ 64) with
  | false =>
    have HM := Lib.hid (pt_no (show pt0 c0 s0 lo up = false by unfold pt0; rw [h1]; simp))
    skip
    go_wp2_with fail
    go_ret3
    rw [HM.out.1, HM.out.2.1, HM.out.2.2]
    first | exact ⟨⟨_, _, rfl, frow_nil _ _⟩, HB1.out⟩ | exact ⟨⟨_, ⟨_, rfl⟩, frow_nil _ _⟩, HB1.out⟩
  | true =>
    go_wp2_with fail
    refine (sSeed_any s0 _).mono ?_
    rintro e w2 ⟨rfl, rfl⟩
    have HB2 := HB1
    have HS2 := HS1
    have hsc2 := cell_of HS2.out
    cases h2 : isSd s0 with
    | false =>
      have HM := Lib.hid (pt_no (show pt0 c0 s0 lo up = false by unfold pt0; rw [h2]; simp))
      skip
      go_wp2_with fail
      go_ret3
      rw [HM.out.1, HM.out.2.1, HM.out.2.2]
      first | exact ⟨⟨_, _, rfl, frow_nil _ _⟩, HB2.out⟩ | exact ⟨⟨_, ⟨_, rfl⟩, frow_nil _ _⟩, HB2.out⟩
    | true =>
      go_wp2_with fail
      refine (specFinite_any lo _).mono ?_
      rintro e w3 ⟨rfl, d3⟩
      have HB3 := Lib.hid (HB2.out.trans (d3.below _))
      have HS3 := Lib.hid (blk_drawn HS2.out d3)
      clear d3
      have hsc3 := cell_of HS3.out
      cases h3 : fin .f32 lo with
      | false =>
        have HM := Lib.hid (pt_no (show pt0 c0 s0 lo up = false by unfold pt0; rw [h3]; simp))
        skip
        go_wp2_with fail
        go_ret3
        rw [HM.out.1, HM.out.2.1, HM.out.2.2]
        first | exact ⟨⟨_, _, rfl, frow_nil _ _⟩, HB3.out⟩ | exact ⟨⟨_, ⟨_, rfl⟩, frow_nil _ _⟩, HB3.out⟩
      | true =>
        go_wp2_with fail
        refine (specFinite_any up _).mono ?_
        rintro e w4 ⟨rfl, d4⟩
        have HB4 := Lib.hid (HB3.out.trans (d4.below _))
        have HS4 := Lib.hid (blk_drawn HS3.out d4)
        clear d4
        have hsc4 := cell_of HS4.out
        cases h4 : fin .f32 up with
        | false =>
          have HM := Lib.hid (pt_no (show pt0 c0 s0 lo up = false by unfold pt0; rw [h4]; simp))
          skip
          go_wp2_with fail
          go_ret3
          rw [HM.out.1, HM.out.2.1, HM.out.2.2]
          first | exact ⟨⟨_, _, rfl, frow_nil _ _⟩, HB4.out⟩ | exact ⟨⟨_, ⟨_, rfl⟩, frow_nil _ _⟩, HB4.out⟩
        | true =>
          cases h5 : leW lo up with
          | false =>
            have HM := Lib.hid (pt_no (show pt0 c0 s0 lo up = false by unfold pt0; rw [h5]; simp))
            unfold leW at h5
            go_wp2_with fail
            go_ret3
            rw [HM.out.1, HM.out.2.1, HM.out.2.2]
            first | exact ⟨⟨_, _, rfl, frow_nil _ _⟩, HB4.out⟩ | exact ⟨⟨_, ⟨_, rfl⟩, frow_nil _ _⟩, HB4.out⟩
          | true =>
            have h0 : pt0 c0 s0 lo up = true := by unfold pt0; rw [h1, h2, h3, h4, h5]; rfl
            have h1 := of_decide_eq_true h1
            have h2 := of_decide_eq_true h2
            unfold leW at h5
            obtain ⟨s, rfl⟩ : ∃ n : Nat, s0 = n := ⟨s0.toNat, by omega⟩
            obtain ⟨c, rfl⟩ : ∃ n : Nat, c0 = n := ⟨c0.toNat, by omega⟩
            have hs : s < 4294967296 := by omega
            have HLO := Lib.hid (fin_isN h3 hlo)
            have HHI := Lib.hid (fin_isN h4 hhi)
            have HEND := Lib.hid (fun (Z : List Nat) (hl : Z.length = c) g => pt_end h0 hl g)
            have HGE : Hid (w.heap.size ≤ w4.heap.size) := HB4.out.size
            have HGB : Hid (w.heap.size < w4.heap.size) := HS4.out.lt
            have HB5 : Hid (Below w.heap.size w (w4.alloc (.cells #[] 22))) := Lib.hid (HB4.out.alloc HGE.out _)
            have HS5 := Lib.hid (HS4.out.alloc (.cells #[] 22))
            clear h0 h2 h3 h4 hsc3 hsc4 hsc0 hsc1 hsc2 HB0 HB1 HB2 HB3 HS0 HS1 HS2 HS3
            go_wp2_with fail
            clear h5
            go_loopg [0, 11] c (fun q v0 v11 wr => ∃ (k c3 : Nat) (a3 : Option Addr) (zs : List Nat), v0 = .int .i64 ((c : Int) - (k : Int)) ∧ v11 = .slice a3 k c3 ∧ Hid (k + q = c) ∧ k ≤ c ∧ Hid (zs.length = k) ∧ Hid (∀ j, j < k → F32.Is (ptO lo up s j) (zs.getD j 0) ∧ zs.getD j 0 < 4294967296) ∧ Hid (wr.ownsRow w4.heap.size 22 1 (.slice a3 k c3) k (fv zs)) ∧ Hid (w4.heap.size ≤ wr.heap.size) ∧ Hid (Blk.Blk wr w.heap.size [.int .i64 ((nxk s k : Nat) : Int)] 2) ∧ Hid (Below w.heap.size w wr))
            case atStart => exact ⟨0, _, _, [], by simp, rfl, by show _ = _; omega, Nat.zero_le _, rfl, (show Hid _ from fun j hj => absurd hj (Nat.not_lt_zero _)), World.ownsRow_made w4 #[] 0 (Nat.le_refl _) (Nat.zero_le _) rfl, (by show _ ≤ _; simp), HS5.out, HB5.out⟩
            case round =>
              clear HB4 HB5 HS4 HS5
              obtain ⟨k, c3, a3, zs, rfl, rfl, hk, hkl, hzl, hI, hO, HBB, hS, hB⟩ := hrel
              by_cases hlt : k < c
              · have HJ : Hid (k + 1 + (gk - 1) = c) := by have := hk.out; show _ = _; omega
                have HG : Hid (gk - 1 < gk) := by have := hk.out; show _ < _; omega
                have hcz : (c : Int) - (k : Int) > 0 := by omega
                have hcz1 : (c : Int) - (k : Int) - 1 = (c : Int) - ((k + 1 : Nat) : Int) := by omega
                obtain ⟨x1, v1, r1, j1, l1, e1⟩ := F32.arith_ex (P := Try.prog) (op := .sub) (.inr (.inl rfl)) 22 HHI.out HLO.out wr
                have DA := Lib.hid e1
                have hX1 := j1
                have hSv := blk_drawn hS.out e1
                go_wp2_with fail
                refine (sDraw_any w.heap.size (nxk s k) _ (nxk_lt hs _) hSv).mono ?_
                rintro e w5 ⟨⟨y, rfl, iy, ly⟩, hs5, ho5⟩
                clear r1
                obtain ⟨x2, v2, r2, j2, l2, e2⟩ := F32.arith_ex (P := Try.prog) (op := .mul) (.inr (.inr (.inl rfl))) 22 hX1 iy w5
                obtain ⟨x3, v3, r3, j3, l3, e3⟩ := F32.arith_ex (P := Try.prog) (op := .add) (.inl rfl) 22 HLO.out j2 v2
                have DC := Lib.hid (e2.trans e3)
                have HX : Hid (F32.Is (ptO lo up s k) x3 ∧ x3 < 4294967296) := ⟨j3, l3⟩
                have hon := only_drawn (only_trans (drawn_only (g := w.heap.size) DA.out) ho5) DC.out
                have hO2 := Lib.hid (owns_only hO.out hon HGB.out)
                have hB2 := Lib.hid (hB.out.trans (only_below hon (Nat.le_refl _)))
                have HBB2 : Hid (w4.heap.size ≤ v3.heap.size) := Nat.le_trans HBB.out hon.size
                have hS2 : Hid (Blk.Blk v3 w.heap.size [.int .i64 ((nxk s (k + 1) : Nat) : Int)] 2) := blk_drawn hs5 DC.out
                clear hO hB HBB hS hon hs5 ho5 hSv iy ly hX1
                clear j2 l2 e2 j3 l3 e3
                clear j1 l1 e1 DA DC
                have hO := hO2
                have hB := hB2
                have HBB := HBB2
                have hS := hS2
                clear hO2 hB2 HBB2 hS2
                have DV := Lib.hid (Drawn.refl v3)
                have HO4 := Lib.hid (owned_drawn hO.out DV.out)
                have HB4 := Lib.hid (hB.out.trans (DV.out.below w.heap.size))
                have HCELL : Hid (∀ (j : Nat) (u : Value), [Value.float .f32 x3][j]? = some u → (v3.alloc (.cells #[.float .f32 x3] 22)).cell? ((⟨v3.heap.size, 0, none⟩ : Addr).add j) = some u) := Lib.hid (Cm.cell_new1 v3 22 (.float .f32 x3))
                have HO1 := Lib.hid (HO4.out.alloc (.cells #[.float .f32 x3] 22))
                have HB1 := Lib.hid (HB4.out.alloc HB4.out.size (.cells #[.float .f32 x3] 22))
                have HBS : Hid (w4.heap.size ≤ (v3.alloc (.cells #[.float .f32 x3] 22)).heap.size) := by show _ ≤ _; obtain ⟨nd, hnd⟩ := DV.out; rw [hnd]; simp; exact Nat.le_trans HBB.out (Nat.le_succ _)
                have HLE : Hid (k + 1 ≤ maxLen ∧ (k + 1) * 4 ≤ 140737488355328) := by show _ ∧ _; unfold maxLen; omega
                clear hO hB HO4 HB4 
                go_wp2_with (at_builtin; refine wpList_append_own _ rfl _ _ 23 rfl (w4.heap.size) 22 i0 (.float .f32 0) 1 4 Try.underlying23 hi hz0 hz1 hz2 rfl (by decide) (.slice a3 k c3) k (fv zs) rfl HO1.out ⟨v3.heap.size, 0, none⟩ 1 1 [.float .f32 x3] rfl rfl HCELL.out (by intro u hu; simp at hu; subst hu; rfl) HLE.out.1 HLE.out.2 HBS.out ?_)
                intro v' w6 hown' hgrow _
                have HO3 : Hid (w6.ownsRow (w4.heap.size) 22 1 v' (k + 1) (fv (zs ++ [x3]))) := by
                  show World.ownsRow _ _ _ _ _ _ _
                  rw [Cm.fv_snoc]; exact hown'
                have HB3 : Hid (Below w.heap.size w w6) := Lib.hid (HB1.out.grown hgrow HB1.out.size (fun q hq => Nat.le_trans HGE.out (HO1.out.lt q hq).1))
                have HS3 : Hid (Blk.Blk w6 (w.heap.size) [.int .i64 ((nxk s (k + 1) : Nat) : Int)] 2) := Lib.hid (blk_grown (hS.out.alloc _) hgrow (fun hq => by have h1 := (HO1.out.lt _ hq).1; have h2 := HGB.out; omega))
                have HBB3 : Hid (w4.heap.size ≤ w6.heap.size) := Lib.hid (Nat.le_trans HBS.out hgrow.size)
                clear hown' hgrow HO1 HB1 HCELL HBS HBB
                obtain ⟨a5, c5, rfl⟩ := Cm.owns_shape HO3.out
                have HZ2 : Hid ((zs ++ [x3]).length = k + 1) := by show _ = _; rw [List.length_append, hzl.out]; rfl
                have HI2 : Hid (∀ j, j < k + 1 → F32.Is (ptO lo up s j) ((zs ++ [x3]).getD j 0) ∧ (zs ++ [x3]).getD j 0 < 4294967296) := by
                  show ∀ j, _
                  intro j hj
                  by_cases ej : j = k
                  · subst ej; rw [snoc_last zs x3 hzl.out]; exact HX.out
                  · rw [snoc_old zs x3 (by rw [hzl.out]; omega)]; exact hI.out j (by omega)
                go_wp2_with fail
                go_roundg (gk - 1)
                case measure => exact HG.out
                case rel => exact ⟨k + 1, c5, a5, zs ++ [x3], by go_num, rfl, HJ, by omega, HZ2.out, HI2.out, HO3.out, HBB3.out, HS3.out, HB3.out⟩
              · obtain rfl : k = c := by omega
                have hcz : ¬ ((k : Int) - (k : Int) > 0) := by omega
                clear hlt
                have hrow := Cm.row_owned hO.out hzl.out (by omega) (lt_mem hzl.out fun j hj => (hI.out j hj).2)
                have HR := Lib.hid hrow
                have HE := Lib.hid (HEND.out zs hzl.out (fun j hj => (hI.out j hj).1))
                have HAL := Lib.hid (F32.all_is hzl.out (fun j hj => (hI.out j hj).1)).1
                generalize wr = w5 at *
                clear hO hrow hk
                go_wp2_with fail
                refine (specFinD_any a3 k c3 zs _ HR.out (by omega)).mono ?_
                rintro e w7 ⟨rfl, d7⟩
                rw [HAL.out]
                have R7 := Lib.hid (frow_drawn HR.out d7)
                have S7 := Lib.hid (blk_drawn hS.out d7)
                have B7 := Lib.hid (hB.out.trans (d7.below w.heap.size))
                clear d7 hB hS
                cases hq : F32.oks (ptO lo up s) k with
                | true =>
                  have HY := Lib.hid (HE.out.1 hq)
                  have hcm : ∀ m, (w7.drewN m).cell? ⟨w.heap.size, 0, none⟩ = some (.int .i64 ((nxk s k : Nat) : Int)) := fun m => cell_of S7.out
                  have hcm0 := hcm 0
                  clear hq
                  go_wp2_with fail
                  go_quiet (fail)
                  go_wp2_with fail
                  go_ret3
                  rw [HY.out.1, HY.out.2.1, HY.out.2.2, hzl.out]
                  first | exact ⟨⟨_, _, rfl, frow_drawn R7.out ⟨_, rfl⟩⟩, B7.out.trans (Drawn.below ⟨_, rfl⟩ _)⟩ | exact ⟨⟨_, ⟨_, rfl⟩, frow_drawn R7.out ⟨_, rfl⟩⟩, B7.out.trans (Drawn.below ⟨_, rfl⟩ _)⟩
                | false =>
                  have HY := Lib.hid (HE.out.2 hq)
                  clear hq
                  go_wp2_with fail
                  go_ret3
                  rw [HY.out.1, HY.out.2.1, HY.out.2.2]
                  first | exact ⟨⟨_, _, rfl, frow_nil _ _⟩, B7.out⟩ | exact ⟨⟨_, ⟨_, rfl⟩, frow_nil _ _⟩, B7.out⟩
end Go.Proofs.Ytppkeabkjabhdab
