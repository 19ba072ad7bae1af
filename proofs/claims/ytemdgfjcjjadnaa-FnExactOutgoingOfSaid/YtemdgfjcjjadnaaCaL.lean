/-
  The exact laws of how likely parts with a share are accepted, and of the share of bad parts that go out. No conditions beyond the statements' own.
-/
import Derived.Test.YtemdgfjcjjadnaaCaV
import Derived.Test.YtemdgfjcjjadnaaMkF
import Derived.Deep.RegionHeld3
namespace Go.Proofs.Ytemdgfjcjjadnaa
open Go.RowKit Dec Flt Syl Sep Cm Pl We
set_option maxRecDepth 40000 in
set_option maxHeartbeats 8000000 in
theorem fnExactChanceAccept_walk (p0 : Int) (_wp0 : (Lit.int .i64 p0).wf = true) (q0 : Int) (_wq0 : (Lit.int .i64 q0).wf = true) (n1 : Nat) (_wn1 : (Lit.float .f32 n1).wf = true) (w : World)  :
    Calls Try.prog 11 #[.agg #[.int .i64 p0, .int .i64 q0], .float .f32 n1] w fun e w' => e = .returned (.bool true) ∧ Below w.heap.size w w' := by
  have hxb : ∀ x : Bool, (x != x) = false := by simp
  have hxi : ∀ x : Int, (x != x) = false := by simp
  have hs0 : n1 < 4294967296 := by simpa [Lit.wf] using _wn1
  have hnv0 := okV_num (ca0 p0 q0 n1) (caE p0 q0 n1)
  have hcv0 := conv_num _ hnv0
  go_enter Try.func11, Try.ntmps11
  go_wp2_with fail
  obtain ⟨w1, hW1⟩ : ∃ W, W = (w.alloc (.cells #[.int .i64 p0, .int .i64 q0] 23)) := ⟨_, rfl⟩
  have bb1 : Below w.heap.size w w1 := by rw [hW1]; exact ((Below.refl _ _).alloc (Nat.le_refl _) _)
  have K1_1 : Hid (Blk.Blk w1 (w.heap.size) [.int .i64 p0, .int .i64 q0] 23) := by
    rw [hW1]
    have hh := Blk.Blk.new w #[.int .i64 p0, .int .i64 q0] 23
    exact hh
  rw [← hW1]
  clear hW1
  have B_1 := Lib.hid bb1
  clear bb1
  refine (toPlan_any p0 q0 _).mono ?_
  rintro e w2 ⟨rfl, bb2⟩
  have K1_2 := Lib.hid (K1_1.out.keep bb2)
  have B_2 := Lib.hid (B_1.out.trans (bb2.mono B_1.out.size))
  clear K1_1 B_1 bb2
  go_wp2_with fail
  refine (sChanceAccept_any p0 q0 (n1) _  hs0 ).mono ?_
  rintro e w3 ⟨rfl, bb3⟩
  have K1_3 := Lib.hid (K1_2.out.keep bb3)
  have B_3 := Lib.hid (B_2.out.trans (bb3.mono B_2.out.size))
  clear K1_2 B_2 bb3
  obtain ⟨⟨cK10, cK11⟩, _, _⟩ := K1_3.out.two
  go_wp2_with fail
  clear cK10 cK11
  refine (toPlan_any p0 q0 _).mono ?_
  rintro e w4 ⟨rfl, bb4⟩
  have K1_4 := Lib.hid (K1_3.out.keep bb4)
  have B_4 := Lib.hid (B_3.out.trans (bb4.mono B_3.out.size))
  clear K1_3 B_3 bb4
  go_wp2_with fail
  refine (iChanceAccept_any p0 q0 (n1) _  hs0 ).mono ?_
  rintro e w5 ⟨rfl, bb5⟩
  have K1_5 := Lib.hid (K1_4.out.keep bb5)
  have B_5 := Lib.hid (B_4.out.trans (bb5.mono B_4.out.size))
  clear K1_4 B_4 bb5
  go_wp2_with fail
  refine (samF_any ((okV (ca0 p0 q0 n1) (caE p0 q0 n1))) _ (by first | exact hnv0 | exact hnv1 | exact hnv2)).mono ?_
  rintro e w6 ⟨rfl, bb6⟩
  have K1_6 := Lib.hid (K1_5.out.keep bb6)
  have B_6 := Lib.hid (B_5.out.trans (bb6.mono B_5.out.size))
  clear K1_5 B_5 bb6
  go_wp2_with fail
  go_ret
  exact ⟨rfl, B_6.out⟩
set_option maxRecDepth 40000 in
set_option maxHeartbeats 8000000 in
theorem fnExactOutgoingOf_walk (n0 : Int) (_wn0 : (Lit.int .i64 n0).wf = true) (p1 : Int) (_wp1 : (Lit.int .i64 p1).wf = true) (q1 : Int) (_wq1 : (Lit.int .i64 q1).wf = true) (n2 : Nat) (_wn2 : (Lit.float .f32 n2).wf = true) (w : World)  :
    Calls Try.prog 12 #[.int .i64 n0, .agg #[.int .i64 p1, .int .i64 q1], .float .f32 n2] w fun e w' => e = .returned (.bool true) ∧ Below w.heap.size w w' := by
  have hxb : ∀ x : Bool, (x != x) = false := by simp
  have hxi : ∀ x : Int, (x != x) = false := by simp
  have hs0 : n2 < 4294967296 := by simpa [Lit.wf] using _wn2
  have hnv0 := okV_num (og0 n0 p1 q1 n2) (ogE n0 p1 q1 n2)
  have hcv0 := conv_num _ hnv0
  go_enter Try.func12, Try.ntmps12
  go_wp2_with fail
  obtain ⟨w1, hW1⟩ : ∃ W, W = (w.alloc (.cells #[.int .i64 p1, .int .i64 q1] 23)) := ⟨_, rfl⟩
  have bb1 : Below w.heap.size w w1 := by rw [hW1]; exact ((Below.refl _ _).alloc (Nat.le_refl _) _)
  have K1_1 : Hid (Blk.Blk w1 (w.heap.size) [.int .i64 p1, .int .i64 q1] 23) := by
    rw [hW1]
    have hh := Blk.Blk.new w #[.int .i64 p1, .int .i64 q1] 23
    exact hh
  rw [← hW1]
  clear hW1
  have B_1 := Lib.hid bb1
  clear bb1
  refine (toPlan_any p1 q1 _).mono ?_
  rintro e w2 ⟨rfl, bb2⟩
  have K1_2 := Lib.hid (K1_1.out.keep bb2)
  have B_2 := Lib.hid (B_1.out.trans (bb2.mono B_1.out.size))
  clear K1_1 B_1 bb2
  go_wp2_with fail
  refine (sOutgoingOf_any (n0) p1 q1 (n2) _  hs0 ).mono ?_
  rintro e w3 ⟨rfl, bb3⟩
  have K1_3 := Lib.hid (K1_2.out.keep bb3)
  have B_3 := Lib.hid (B_2.out.trans (bb3.mono B_2.out.size))
  clear K1_2 B_2 bb3
  obtain ⟨⟨cK10, cK11⟩, _, _⟩ := K1_3.out.two
  go_wp2_with fail
  clear cK10 cK11
  refine (toPlan_any p1 q1 _).mono ?_
  rintro e w4 ⟨rfl, bb4⟩
  have K1_4 := Lib.hid (K1_3.out.keep bb4)
  have B_4 := Lib.hid (B_3.out.trans (bb4.mono B_3.out.size))
  clear K1_3 B_3 bb4
  go_wp2_with fail
  refine (iOutgoingOf_any (n0) p1 q1 (n2) _  hs0 ).mono ?_
  rintro e w5 ⟨rfl, bb5⟩
  have K1_5 := Lib.hid (K1_4.out.keep bb5)
  have B_5 := Lib.hid (B_4.out.trans (bb5.mono B_4.out.size))
  clear K1_4 B_4 bb5
  go_wp2_with fail
  refine (samF_any ((okV (og0 n0 p1 q1 n2) (ogE n0 p1 q1 n2))) _ (by first | exact hnv0 | exact hnv1 | exact hnv2)).mono ?_
  rintro e w6 ⟨rfl, bb6⟩
  have K1_6 := Lib.hid (K1_5.out.keep bb6)
  have B_6 := Lib.hid (B_5.out.trans (bb6.mono B_5.out.size))
  clear K1_5 B_5 bb6
  go_wp2_with fail
  go_ret
  exact ⟨rfl, B_6.out⟩
end Go.Proofs.Ytemdgfjcjjadnaa
