/-
  The exact law of the share with the most bad parts that go out. No conditions beyond the statement's own.
-/
import Derived.Test.YtemdgfjcjjadnabWoW
import Derived.Test.YtemdgfjcjjadnabMkF
import Derived.Deep.RegionHeld3
namespace Go.Proofs.Ytemdgfjcjjadnab
open Go.RowKit Dec Flt Syl Sep Pl
set_option maxRecDepth 40000 in
set_option maxHeartbeats 8000000 in
theorem fnExactWorstOutgoing_walk (n0 : Int) (_wn0 : (Lit.int .i64 n0).wf = true) (p1 : Int) (_wp1 : (Lit.int .i64 p1).wf = true) (q1 : Int) (_wq1 : (Lit.int .i64 q1).wf = true) (n2 : Int) (_wn2 : (Lit.int .i64 n2).wf = true) (w : World)  :
    Calls Try.prog 3 #[.int .i64 n0, .agg #[.int .i64 p1, .int .i64 q1], .int .i64 n2] w fun e w' => e = .returned (.bool true) ∧ Below w.heap.size w w' := by
  have hxb : ∀ x : Bool, (x != x) = false := by simp
  have hxi : ∀ x : Int, (x != x) = false := by simp
  have hnv0 := (woV_num n0 p1 q1 n2).1
  have hcv0 := conv_num _ hnv0
  have hnv1 := (woV_num n0 p1 q1 n2).2
  have hcv1 := conv_num _ hnv1
  go_enter Try.func3, Try.ntmps3
  go_wp2_with fail
  obtain ⟨w1, hW1⟩ : ∃ W, W = (w.alloc (.cells #[.int .i64 p1, .int .i64 q1] 23)) := ⟨_, rfl⟩
  have bb1 : Below w.heap.size w w1 := by rw [hW1]; exact ((Below.refl _ _).alloc (Nat.le_refl _) _)
  have K1_1 : Hid (Blk.Blk w1 (w.heap.size) [.int .i64 p1, .int .i64 q1] 23) := by
    rw [hW1]
    have hh := Blk.Blk.new w #[.int .i64 p1, .int .i64 q1] 23
    exact hh
  rw [← hW1]
  clear hW1
  have B_1 := Lib.hid bb1
  clear bb1
  refine (toPlan_any p1 q1 _).mono ?_
  rintro e w2 ⟨rfl, bb2⟩
  have K1_2 := Lib.hid (K1_1.out.keep bb2)
  have B_2 := Lib.hid (B_1.out.trans (bb2.mono B_1.out.size))
  clear K1_1 B_1 bb2
  go_wp2_with fail
  refine (sWorstOutgoing_any (n0) p1 q1 (n2) _  ).mono ?_
  rintro e w3 ⟨rfl, bb3⟩
  have K1_3 := Lib.hid (K1_2.out.keep bb3)
  have B_3 := Lib.hid (B_2.out.trans (bb3.mono B_2.out.size))
  clear K1_2 B_2 bb3
  obtain ⟨⟨cK10, cK11⟩, _, _⟩ := K1_3.out.two
  go_wp2_with fail
  clear cK10 cK11
  refine (toPlan_any p1 q1 _).mono ?_
  rintro e w4 ⟨rfl, bb4⟩
  have K1_4 := Lib.hid (K1_3.out.keep bb4)
  have B_4 := Lib.hid (B_3.out.trans (bb4.mono B_3.out.size))
  clear K1_3 B_3 bb4
  go_wp2_with fail
  refine (iWorstOutgoing_any (n0) p1 q1 (n2) _  ).mono ?_
  rintro e w5 ⟨rfl, bb5⟩
  have K1_5 := Lib.hid (K1_4.out.keep bb5)
  have B_5 := Lib.hid (B_4.out.trans (bb5.mono B_4.out.size))
  clear K1_4 B_4 bb5
  go_wp2_with fail
  refine (samF_any ((woV n0 p1 q1 n2).1) _ (by first | exact hnv0 | exact hnv1 | exact hnv2)).mono ?_
  rintro e w6 ⟨rfl, bb6⟩
  have K1_6 := Lib.hid (K1_5.out.keep bb6)
  have B_6 := Lib.hid (B_5.out.trans (bb6.mono B_5.out.size))
  clear K1_5 B_5 bb6
  go_wp2_with fail
  refine (samF_any ((woV n0 p1 q1 n2).2) _ (by first | exact hnv0 | exact hnv1 | exact hnv2)).mono ?_
  rintro e w7 ⟨rfl, bb7⟩
  have K1_7 := Lib.hid (K1_6.out.keep bb7)
  have B_7 := Lib.hid (B_6.out.trans (bb7.mono B_6.out.size))
  clear K1_6 B_6 bb7
  go_wp2_with fail
  go_ret
  exact ⟨rfl, B_7.out⟩
end Go.Proofs.Ytemdgfjcjjadnab
