/-
  The exact laws of how many parts are looked at in the mean, and of the least plan with small risks. No conditions beyond the statements' own.
-/
import Derived.Test.YtemdgfjcjjadnaaPlM
import Derived.Test.YtemdgfjcjjadnaaPlB
import Derived.Test.YtemdgfjcjjadnaaMkF
import Derived.Deep.RegionHeld3
namespace Go.Proofs.Ytemdgfjcjjadnaa
open Go.RowKit Dec Flt Syl Sep Pl
set_option maxRecDepth 40000 in
set_option maxHeartbeats 8000000 in
theorem fnExactMeanLooks_walk (n0 : Int) (_wn0 : (Lit.int .i64 n0).wf = true) (n1 : Int) (_wn1 : (Lit.int .i64 n1).wf = true) (p2 : Int) (_wp2 : (Lit.int .i64 p2).wf = true) (q2 : Int) (_wq2 : (Lit.int .i64 q2).wf = true) (w : World)  :
    Calls Try.prog 9 #[.int .i64 n0, .int .i64 n1, .agg #[.int .i64 p2, .int .i64 q2]] w fun e w' => e = .returned (.bool true) ∧ Below w.heap.size w w' := by
  have hxb : ∀ x : Bool, (x != x) = false := by simp
  have hxi : ∀ x : Int, (x != x) = false := by simp
  go_enter Try.func9, Try.ntmps9
  go_wp2_with fail
  obtain ⟨w1, hW1⟩ : ∃ W, W = (w.alloc (.cells #[.int .i64 p2, .int .i64 q2] 23)) := ⟨_, rfl⟩
  have bb1 : Below w.heap.size w w1 := by rw [hW1]; exact ((Below.refl _ _).alloc (Nat.le_refl _) _)
  have K1_1 : Hid (Blk.Blk w1 (w.heap.size) [.int .i64 p2, .int .i64 q2] 23) := by
    rw [hW1]
    have hh := Blk.Blk.new w #[.int .i64 p2, .int .i64 q2] 23
    exact hh
  rw [← hW1]
  clear hW1
  have B_1 := Lib.hid bb1
  clear bb1
  refine (toPlan_any p2 q2 _).mono ?_
  rintro e w2 ⟨rfl, bb2⟩
  have K1_2 := Lib.hid (K1_1.out.keep bb2)
  have B_2 := Lib.hid (B_1.out.trans (bb2.mono B_1.out.size))
  clear K1_1 B_1 bb2
  go_wp2_with fail
  refine (sMeanLooks_any (n0) (n1) p2 q2 _  ).mono ?_
  rintro e w3 ⟨rfl, bb3⟩
  have K1_3 := Lib.hid (K1_2.out.keep bb3)
  have B_3 := Lib.hid (B_2.out.trans (bb3.mono B_2.out.size))
  clear K1_2 B_2 bb3
  obtain ⟨⟨cK10, cK11⟩, _, _⟩ := K1_3.out.two
  go_wp2_with fail
  clear cK10 cK11
  refine (toPlan_any p2 q2 _).mono ?_
  rintro e w4 ⟨rfl, bb4⟩
  have K1_4 := Lib.hid (K1_3.out.keep bb4)
  have B_4 := Lib.hid (B_3.out.trans (bb4.mono B_3.out.size))
  clear K1_3 B_3 bb4
  go_wp2_with fail
  refine (iMeanLooks_any (n0) (n1) p2 q2 _  ).mono ?_
  rintro e w5 ⟨rfl, bb5⟩
  have K1_5 := Lib.hid (K1_4.out.keep bb5)
  have B_5 := Lib.hid (B_4.out.trans (bb5.mono B_4.out.size))
  clear K1_4 B_4 bb5
  go_wp2_with fail
  go_ret
  exact ⟨rfl, B_5.out⟩
set_option maxRecDepth 40000 in
set_option maxHeartbeats 8000000 in
theorem fnExactBestPlan_walk (n0 : Int) (_wn0 : (Lit.int .i64 n0).wf = true) (n1 : Int) (_wn1 : (Lit.int .i64 n1).wf = true) (n2 : Int) (_wn2 : (Lit.int .i64 n2).wf = true) (n3 : Int) (_wn3 : (Lit.int .i64 n3).wf = true) (n4 : Int) (_wn4 : (Lit.int .i64 n4).wf = true) (w : World)  :
    Calls Try.prog 7 #[.int .i64 n0, .int .i64 n1, .int .i64 n2, .int .i64 n3, .int .i64 n4] w fun e w' => e = .returned (.bool true) ∧ Below w.heap.size w w' := by
  have hxb : ∀ x : Bool, (x != x) = false := by simp
  have hxi : ∀ x : Int, (x != x) = false := by simp
  go_enter Try.func7, Try.ntmps7
  go_wp2_with fail
  refine (sBestPlan_any (n0) (n1) (n2) (n3) (n4) _  ).mono ?_
  rintro e w1 ⟨rfl, bb1⟩
  have B_1 := Lib.hid bb1
  clear bb1
  go_wp2_with fail
  obtain ⟨w2, hW2⟩ : ∃ W, W = (w1.alloc (.cells #[.int .i64 (bpS n0 n1 n2 n3 n4), .int .i64 (bpA n0 n1 n2 n3 n4)] 25)) := ⟨_, rfl⟩
  have bb2 : Below w1.heap.size w1 w2 := by rw [hW2]; exact ((Below.refl _ _).alloc (Nat.le_refl _) _)
  have K1_2 : Hid (Blk.Blk w2 (w1.heap.size) [.int .i64 (bpS n0 n1 n2 n3 n4), .int .i64 (bpA n0 n1 n2 n3 n4)] 25) := by
    rw [hW2]
    have hh := Blk.Blk.new w1 #[.int .i64 (bpS n0 n1 n2 n3 n4), .int .i64 (bpA n0 n1 n2 n3 n4)] 25
    exact hh
  rw [← hW2]
  clear hW2
  have B_2 := Lib.hid (B_1.out.trans (bb2.mono B_1.out.size))
  clear B_1 bb2
  refine (iBestPlan_any (n0) (n1) (n2) (n3) (n4) _  ).mono ?_
  rintro e w3 ⟨rfl, bb3⟩
  have K1_3 := Lib.hid (K1_2.out.keep bb3)
  have B_3 := Lib.hid (B_2.out.trans (bb3.mono B_2.out.size))
  clear K1_2 B_2 bb3
  obtain ⟨⟨cK10, cK11⟩, _, _⟩ := K1_3.out.two
  go_wp2_with fail
  clear cK10 cK11
  obtain ⟨w4, hW4⟩ : ∃ W, W = (w3.alloc (.cells #[.int .i64 (bpS n0 n1 n2 n3 n4), .int .i64 (bpA n0 n1 n2 n3 n4)] 25)) := ⟨_, rfl⟩
  have bb4 : Below w3.heap.size w3 w4 := by rw [hW4]; exact ((Below.refl _ _).alloc (Nat.le_refl _) _)
  have K2_4 : Hid (Blk.Blk w4 (w3.heap.size) [.int .i64 (bpS n0 n1 n2 n3 n4), .int .i64 (bpA n0 n1 n2 n3 n4)] 25) := by
    rw [hW4]
    have hh := Blk.Blk.new w3 #[.int .i64 (bpS n0 n1 n2 n3 n4), .int .i64 (bpA n0 n1 n2 n3 n4)] 25
    exact hh
  rw [← hW4]
  clear hW4
  have K1_4 := Lib.hid (K1_3.out.keep bb4)
  have B_4 := Lib.hid (B_3.out.trans (bb4.mono B_3.out.size))
  clear K1_3 B_3 bb4
  refine (eqPlan_any _ _ _).mono ?_
  rintro e w5 ⟨rfl, bb5⟩
  have K1_5 := Lib.hid (K1_4.out.keep bb5)
  have K2_5 := Lib.hid (K2_4.out.keep bb5)
  have B_5 := Lib.hid (B_4.out.trans (bb5.mono B_4.out.size))
  clear K1_4 K2_4 B_4 bb5
  go_wp2_with fail
  go_ret
  exact ⟨rfl, B_5.out⟩
end Go.Proofs.Ytemdgfjcjjadnaa
