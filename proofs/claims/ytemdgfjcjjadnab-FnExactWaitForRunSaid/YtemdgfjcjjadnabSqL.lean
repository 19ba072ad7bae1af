/-
  The exact laws of how long a run takes, and of the bars of a test. No conditions beyond the statements' own.
-/
import Derived.Test.YtemdgfjcjjadnabSqA
import Derived.Test.YtemdgfjcjjadnabMkF
import Derived.Deep.RegionHeld3
namespace Go.Proofs.Ytemdgfjcjjadnab
open Go.RowKit Dec Flt Syl Sep Cm We Sq
set_option maxRecDepth 40000 in
set_option maxHeartbeats 8000000 in
theorem fnExactWaitForRun_walk (n0 : Nat) (_wn0 : (Lit.float .f32 n0).wf = true) (n1 : Int) (_wn1 : (Lit.int .i64 n1).wf = true) (w : World)  :
    Calls Try.prog 4 #[.float .f32 n0, .int .i64 n1] w fun e w' => e = .returned (.bool true) ∧ Below w.heap.size w w' := by
  have hxb : ∀ x : Bool, (x != x) = false := by simp
  have hxi : ∀ x : Int, (x != x) = false := by simp
  have hs0 : n0 < 4294967296 := by simpa [Lit.wf] using _wn0
  have hnv0 := okV_num (wf0 n0 n1) (wfE n0 n1)
  have hcv0 := conv_num _ hnv0
  go_enter Try.func4, Try.ntmps4
  go_wp2_with fail
  refine (sWaitForRun_any (n0) (n1) _  hs0 ).mono ?_
  rintro e w1 ⟨rfl, bb1⟩
  have B_1 := Lib.hid bb1
  clear bb1
  go_wp2_with fail
  refine (iWaitForRun_any (n0) (n1) _  hs0 ).mono ?_
  rintro e w2 ⟨rfl, bb2⟩
  have B_2 := Lib.hid (B_1.out.trans (bb2.mono B_1.out.size))
  clear B_1 bb2
  go_wp2_with fail
  refine (samF_any ((okV (wf0 n0 n1) (wfE n0 n1))) _ (by first | exact hnv0 | exact hnv1 | exact hnv2)).mono ?_
  rintro e w3 ⟨rfl, bb3⟩
  have B_3 := Lib.hid (B_2.out.trans (bb3.mono B_2.out.size))
  clear B_2 bb3
  go_wp2_with fail
  go_ret
  exact ⟨rfl, B_3.out⟩
set_option maxRecDepth 40000 in
set_option maxHeartbeats 8000000 in
theorem fnExactSequenceBars_walk (n0 : Nat) (_wn0 : (Lit.float .f32 n0).wf = true) (n1 : Nat) (_wn1 : (Lit.float .f32 n1).wf = true) (w : World)  :
    Calls Try.prog 6 #[.float .f32 n0, .float .f32 n1] w fun e w' => e = .returned (.bool true) ∧ Below w.heap.size w w' := by
  have hxb : ∀ x : Bool, (x != x) = false := by simp
  have hxi : ∀ x : Int, (x != x) = false := by simp
  have hs0 : n0 < 4294967296 := by simpa [Lit.wf] using _wn0
  have hs1 : n1 < 4294967296 := by simpa [Lit.wf] using _wn1
  have hnv0 := sqV_num n0 n1 (fun h => (sqB_parts h).2.1)
  have hcv0 := conv_num _ hnv0
  have hnv1 := sqV_num n0 n1 (fun h => (sqB_parts h).2.2)
  have hcv1 := conv_num _ hnv1
  go_enter Try.func6, Try.ntmps6
  go_wp2_with fail
  refine (sSequenceBars_any (n0) (n1) _  hs0 hs1 ).mono ?_
  rintro e w1 ⟨rfl, bb1⟩
  have B_1 := Lib.hid bb1
  clear bb1
  go_wp2_with fail
  refine (iSequenceBars_any (n0) (n1) _  hs0 hs1 ).mono ?_
  rintro e w2 ⟨rfl, bb2⟩
  have B_2 := Lib.hid (B_1.out.trans (bb2.mono B_1.out.size))
  clear B_1 bb2
  go_wp2_with fail
  refine (samF_any ((sqV n0 n1 (sqL n0 n1))) _ (by first | exact hnv0 | exact hnv1 | exact hnv2)).mono ?_
  rintro e w3 ⟨rfl, bb3⟩
  have B_3 := Lib.hid (B_2.out.trans (bb3.mono B_2.out.size))
  clear B_2 bb3
  go_wp2_with fail
  refine (samF_any ((sqV n0 n1 (sqH n0 n1))) _ (by first | exact hnv0 | exact hnv1 | exact hnv2)).mono ?_
  rintro e w4 ⟨rfl, bb4⟩
  have B_4 := Lib.hid (B_3.out.trans (bb4.mono B_3.out.size))
  clear B_3 bb4
  go_wp2_with fail
  go_ret
  exact ⟨rfl, B_4.out⟩
end Go.Proofs.Ytemdgfjcjjadnab
