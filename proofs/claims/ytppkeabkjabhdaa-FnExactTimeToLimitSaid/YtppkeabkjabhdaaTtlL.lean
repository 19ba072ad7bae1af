/-
  The exact law of when a line is at a limit. No conditions beyond the statement's own.
-/
import Derived.Test.YtppkeabkjabhdaaTtl
import Derived.Test.YtppkeabkjabhdaaMkF
import Derived.Deep.RegionHeld3
namespace Go.Proofs.Ytppkeabkjabhdaa
open Go.RowKit Dec Flt Syl Sep Cm We
set_option maxRecDepth 40000 in
set_option maxHeartbeats 8000000 in
theorem fnExactTimeToLimit_walk (n0 : Nat) (_wn0 : (Lit.float .f32 n0).wf = true) (n1 : Nat) (_wn1 : (Lit.float .f32 n1).wf = true) (n2 : Nat) (_wn2 : (Lit.float .f32 n2).wf = true) (w : World)  :
    Calls Try.prog 7 #[.float .f32 n0, .float .f32 n1, .float .f32 n2] w fun e w' => e = .returned (.bool true) ∧ Below w.heap.size w w' := by
  have hxb : ∀ x : Bool, (x != x) = false := by simp
  have hxi : ∀ x : Int, (x != x) = false := by simp
  have hs0 : n0 < 4294967296 := by simpa [Lit.wf] using _wn0
  have hs1 : n1 < 4294967296 := by simpa [Lit.wf] using _wn1
  have hs2 : n2 < 4294967296 := by simpa [Lit.wf] using _wn2
  have hnv0 := okV_num (tt0 n0 n1 n2) (ttO n0 n1 n2)
  have hcv0 := conv_num _ hnv0
  go_enter Try.func7, Try.ntmps7
  go_wp2_with fail
  refine (sTimeToLimit_any (n0) (n1) (n2) _  hs0 hs1 hs2 ).mono ?_
  rintro e w1 ⟨rfl, bb1⟩
  have B_1 := Lib.hid bb1
  clear bb1
  go_wp2_with fail
  refine (iTimeToLimit_any (n0) (n1) (n2) _  hs0 hs1 hs2 ).mono ?_
  rintro e w2 ⟨rfl, bb2⟩
  have B_2 := Lib.hid (B_1.out.trans (bb2.mono B_1.out.size))
  clear B_1 bb2
  go_wp2_with fail
  refine (samF_any ((okV (tt0 n0 n1 n2) (ttO n0 n1 n2))) _ (by first | exact hnv0 | exact hnv1 | exact hnv2)).mono ?_
  rintro e w3 ⟨rfl, bb3⟩
  have B_3 := Lib.hid (B_2.out.trans (bb3.mono B_2.out.size))
  clear B_2 bb3
  go_wp2_with fail
  go_ret
  exact ⟨rfl, B_3.out⟩
end Go.Proofs.Ytppkeabkjabhdaa
