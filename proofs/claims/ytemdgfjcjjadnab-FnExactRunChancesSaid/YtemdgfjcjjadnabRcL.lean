/-
  The exact law of how likely a run has been seen. No conditions beyond the statement's own.
-/
import Derived.Test.YtemdgfjcjjadnabRcI
import Derived.Test.YtemdgfjcjjadnabMkF
import Derived.Deep.RegionHeld3
namespace Go.Proofs.Ytemdgfjcjjadnab
open Go.RowKit Dec Flt Syl Sep Cm We Sq
set_option maxRecDepth 40000 in
set_option maxHeartbeats 8000000 in
theorem fnExactRunChances_walk (n0 : Nat) (_wn0 : (Lit.float .f32 n0).wf = true) (n1 : Int) (_wn1 : (Lit.int .i64 n1).wf = true) (n2 : Int) (_wn2 : (Lit.int .i64 n2).wf = true) (w : World)  :
    Calls Try.prog 5 #[.float .f32 n0, .int .i64 n1, .int .i64 n2] w fun e w' => e = .returned (.bool true) ∧ Below w.heap.size w w' := by
  have hxb : ∀ x : Bool, (x != x) = false := by simp
  have hxi : ∀ x : Int, (x != x) = false := by simp
  obtain ⟨ts, hts⟩ : ∃ ts, rcA n0 n1 n2 = ts := ⟨_, rfl⟩
  obtain ⟨n, hnl⟩ : ∃ n, ts.length = n := ⟨_, rfl⟩
  have hsml : n ≤ 1023 := by rw [← hnl, ← hts]; exact rcA_len n0 n1 n2
  have hbig : n ≤ 1048576 := by omega
  have HTS := Lib.hid hts
  have HNL := Lib.hid hnl
  clear hts hnl
  have hk0 : ¬ ((1 : Int) + (n : Int) < 0) := by omega
  obtain ⟨bv, hbv⟩ : ∃ bv, rcB n0 n1 n2 = bv := ⟨_, rfl⟩
  have HBV := Lib.hid hbv
  clear hbv
  have hs0 : n0 < 4294967296 := by simpa [Lit.wf] using _wn0
  go_enter Try.func5, Try.ntmps5
  go_wp2_with fail
  refine (sRunChances_any (n0) (n1) (n2) _  hs0 ).mono ?_
  rintro e w1 ⟨⟨ar1, cr1, rfl, hr1⟩, bb1⟩
  rw [HTS.out, HNL.out] at hr1
  rw [HTS.out, HNL.out, HBV.out]
  have R1_1 := Lib.hid hr1
  clear hr1
  have B_1 := Lib.hid bb1
  clear bb1
  go_wp2_with fail
  have PR1_1 := Lib.hid R1_1.out.lt
  refine (iRunChances_any (n0) (n1) (n2) _  hs0 ).mono ?_
  rintro e w2 ⟨⟨ar2, cr2, rfl, hr2, ho2⟩, bb2⟩
  rw [HTS.out, HNL.out] at hr2 ho2
  rw [HTS.out, HNL.out, HBV.out]
  have R2_2 := Lib.hid hr2
  have O3_2 := Lib.hid (Mid.of_own ho2)
  clear hr2 ho2
  have F1_2 : Hid (w2.heap.size ≤ w2.heap.size) := Nat.le_refl _
  have W1 : Hid (w.heap.size ≤ w1.heap.size) := B_1.out.size
  have R1_2 := Lib.hid (R1_1.out.keep bb2)
  have B_2 := Lib.hid (B_1.out.trans (bb2.mono B_1.out.size))
  clear R1_1 B_1 bb2
  go_wp2_with fail
  refine (eqFl_any _ _ n _ _ ts _ R2_2.out R1_2.out hbig).mono ?_
  rintro e w3 ⟨rfl, bb3⟩
  have R1_3 := Lib.hid (R1_2.out.keep bb3)
  have R2_3 := Lib.hid (R2_2.out.keep bb3)
  have O3_3 := Lib.hid (O3_2.out.keep bb3)
  have F1_3 : Hid (w2.heap.size ≤ w3.heap.size) := Nat.le_trans F1_2.out bb3.size
  have B_3 := Lib.hid (B_2.out.trans (bb3.mono B_2.out.size))
  clear R1_2 R2_2 O3_2 F1_2 B_2 bb3
  go_wp2_with fail
  refine (mkFl_any (w1.heap.size) (w2.heap.size) 1 _ n _ _ O3_3.out hbig (by omega)).mono ?_
  rintro e w4 ⟨rfl, mm4, ss4⟩
  have R1_4 := Lib.hid (R1_3.out.sepL ss4 PR1_1.out)
  have F1_4 : Hid (w2.heap.size ≤ w4.heap.size) := Nat.le_trans F1_3.out ss4.size
  have B_4 := Lib.hid (B_3.out.trans (ss4.below W1.out B_3.out.size))
  have M4_4 := Lib.hid mm4
  clear R1_3 F1_3 B_3 R2_3 O3_3 mm4 ss4
  have hk4 : ¬ (1 + (n : Int) < 0) := by omega
  go_wp2_with fail
  refine (hdFl_any 1 _ n _ _ M4_4.out hsml rfl).mono ?_
  rintro e w5 ⟨rfl, bb5⟩
  have R1_5 := Lib.hid (R1_4.out.keep bb5)
  have M4_5 := Lib.hid (M4_4.out.keep bb5)
  have F1_5 : Hid (w2.heap.size ≤ w5.heap.size) := Nat.le_trans F1_4.out bb5.size
  have B_5 := Lib.hid (B_4.out.trans (bb5.mono B_4.out.size))
  clear R1_4 M4_4 F1_4 B_4 bb5
  go_wp2_with fail
  have PR1_2 := Lib.hid R1_5.out.lt
  refine (iRunChances_any (n0) (n1) (n2) _  hs0 ).mono ?_
  rintro e w6 ⟨⟨ar6, cr6, rfl, hr6, ho6⟩, bb6⟩
  rw [HTS.out, HNL.out] at hr6 ho6
  rw [HTS.out, HNL.out, HBV.out]
  have R5_6 := Lib.hid hr6
  have O6_6 := Lib.hid (Mid.of_own ho6)
  clear hr6 ho6
  have F2_6 : Hid (w6.heap.size ≤ w6.heap.size) := Nat.le_refl _
  have W2 : Hid (w.heap.size ≤ w5.heap.size) := B_5.out.size
  have PR5_1 := Lib.hid (O6_6.out.ge F1_5.out)
  have PO6_1 : Hid (w2.heap.size ≤ w5.heap.size) := F1_5.out
  have R1_6 := Lib.hid (R1_5.out.keep bb6)
  have M4_6 := Lib.hid (M4_5.out.keep bb6)
  have F1_6 : Hid (w2.heap.size ≤ w6.heap.size) := Nat.le_trans F1_5.out bb6.size
  have B_6 := Lib.hid (B_5.out.trans (bb6.mono B_5.out.size))
  clear R1_5 M4_5 F1_5 B_5 bb6
  go_wp2_with fail
  refine (eqFl_any _ _ n _ _ ts _ R5_6.out R1_6.out hbig).mono ?_
  rintro e w7 ⟨rfl, bb7⟩
  have R1_7 := Lib.hid (R1_6.out.keep bb7)
  have M4_7 := Lib.hid (M4_6.out.keep bb7)
  have R5_7 := Lib.hid (R5_6.out.keep bb7)
  have O6_7 := Lib.hid (O6_6.out.keep bb7)
  have F1_7 : Hid (w2.heap.size ≤ w7.heap.size) := Nat.le_trans F1_6.out bb7.size
  have F2_7 : Hid (w6.heap.size ≤ w7.heap.size) := Nat.le_trans F2_6.out bb7.size
  have B_7 := Lib.hid (B_6.out.trans (bb7.mono B_6.out.size))
  clear R1_6 M4_6 R5_6 O6_6 F1_6 F2_6 B_6 bb7
  clear R5_7
  clear O6_7
  clear R1_7
  go_wp2_with fail
  refine (hdFl_any 1 _ n _ _ M4_7.out hsml rfl).mono ?_
  rintro e w8 ⟨rfl, bb8⟩
  have M4_8 := Lib.hid (M4_7.out.keep bb8)
  have F1_8 : Hid (w2.heap.size ≤ w8.heap.size) := Nat.le_trans F1_7.out bb8.size
  have F2_8 : Hid (w6.heap.size ≤ w8.heap.size) := Nat.le_trans F2_7.out bb8.size
  have B_8 := Lib.hid (B_7.out.trans (bb8.mono B_7.out.size))
  clear M4_7 F1_7 F2_7 B_7 bb8
  go_wp2_with fail
  go_ret
  exact ⟨rfl, B_8.out⟩
end Go.Proofs.Ytemdgfjcjjadnab
