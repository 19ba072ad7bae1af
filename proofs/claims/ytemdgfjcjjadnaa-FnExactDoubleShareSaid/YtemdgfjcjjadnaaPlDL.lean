/-
  The exact law of with which share a lot is accepted by two samples. No conditions beyond the statement's own.
-/
import Derived.Test.YtemdgfjcjjadnaaPlD
import Derived.Test.YtemdgfjcjjadnaaMkF
import Derived.Deep.RegionHeld3
namespace Go.Proofs.Ytemdgfjcjjadnaa
open Go.RowKit Dec Flt Syl Sep Pl
set_option maxRecDepth 40000 in
set_option maxHeartbeats 8000000 in
theorem fnExactDoubleShare_walk (n0 : Int) (_wn0 : (Lit.int .i64 n0).wf = true) (n1 : Int) (_wn1 : (Lit.int .i64 n1).wf = true) (p2 : Int) (_wp2 : (Lit.int .i64 p2).wf = true) (q2 : Int) (_wq2 : (Lit.int .i64 q2).wf = true) (p3 : Int) (_wp3 : (Lit.int .i64 p3).wf = true) (q3 : Int) (_wq3 : (Lit.int .i64 q3).wf = true) (n4 : Int) (_wn4 : (Lit.int .i64 n4).wf = true) (w : World)  :
    Calls Try.prog 8 #[.int .i64 n0, .int .i64 n1, .agg #[.int .i64 p2, .int .i64 q2], .agg #[.int .i64 p3, .int .i64 q3], .int .i64 n4] w fun e w' => e = .returned (.bool true) ∧ Below w.heap.size w w' := by
  have hxb : ∀ x : Bool, (x != x) = false := by simp
  have hxi : ∀ x : Int, (x != x) = false := by simp
  have hs4 : -9223372036854775808 ≤ n4 ∧ n4 ≤ 9223372036854775807 := by
    have e1 : IntKind.i64.min = -9223372036854775808 := rfl
    have e2 : IntKind.i64.max = 9223372036854775807 := rfl
    have h := _wn4
    simp [Lit.wf] at h
    omega
  go_enter Try.func8, Try.ntmps8
  go_wp2_with fail
  obtain ⟨w1, hW1⟩ : ∃ W, W = ((w.alloc (.cells #[.int .i64 p2, .int .i64 q2] 23)).alloc (.cells #[.int .i64 p3, .int .i64 q3] 23)) := ⟨_, rfl⟩
  have bb1 : Below w.heap.size w w1 := by rw [hW1]; exact (((Below.refl _ _).alloc (Nat.le_refl _) _).alloc (by simp) _)
  have K1_1 : Hid (Blk.Blk w1 (w.heap.size) [.int .i64 p2, .int .i64 q2] 23) := by
    rw [hW1]
    have hh := Blk.Blk.new w #[.int .i64 p2, .int .i64 q2] 23
    exact Lib.hid (hh.alloc _)
  have K2_1 : Hid (Blk.Blk w1 (w.heap.size + 1) [.int .i64 p3, .int .i64 q3] 23) := by
    rw [hW1]
    have hh := Blk.Blk.new (w.alloc (.cells #[.int .i64 p2, .int .i64 q2] 23)) #[.int .i64 p3, .int .i64 q3] 23
    simp only [World.size_alloc] at hh
    exact hh
  rw [← hW1]
  clear hW1
  have B_1 := Lib.hid bb1
  clear bb1
  have bb2 : Below w1.heap.size w1 w1.drew := (Below.refl _ _).drew
  have K1_2 := Lib.hid (K1_1.out.keep bb2)
  have K2_2 := Lib.hid (K2_1.out.keep bb2)
  have B_2 := Lib.hid (B_1.out.trans (bb2.mono B_1.out.size))
  clear K1_1 K2_1 B_1 bb2
  have SK1_2 := Lib.hid K1_2.out.two
  have SK2_2 := Lib.hid K2_2.out.two
  go_region_held3 (fun W => (W.cell? ⟨w.heap.size, 0, none⟩ = some (.int .i64 p2) ∧ W.cell? ⟨w.heap.size, 1, none⟩ = some (.int .i64 q2)) ∧ (W.cell? ⟨w.heap.size + 1, 0, none⟩ = some (.int .i64 p3) ∧ W.cell? ⟨w.heap.size + 1, 1, none⟩ = some (.int .i64 q3)))
    (first | exact ⟨SK1_2.out.1, SK2_2.out.1⟩ | exact ⟨SK1_3.out.1, SK2_3.out.1⟩ | exact ⟨SK1_4.out.1, SK2_4.out.1⟩ | exact ⟨SK1_5.out.1, SK2_5.out.1⟩)
    (first | (go_at_call_of 14 (Value.agg #[.int .i64 p2, .int .i64 q2]); refine (toPlan_any p2 q2 _).mono ?_; rintro e w3 ⟨rfl, bb3⟩; have K1_3 := Lib.hid (K1_2.out.keep bb3); have K2_3 := Lib.hid (K2_2.out.keep bb3); have B_3 := Lib.hid (B_2.out.trans (bb3.mono B_2.out.size)); clear K1_2 K2_2 B_2 bb3; have SK1_3 := Lib.hid K1_3.out.two; have SK2_3 := Lib.hid K2_3.out.two) | (go_at_call_of 14 (Value.agg #[.int .i64 p3, .int .i64 q3]); refine (toPlan_any p3 q3 _).mono ?_; rintro e w4 ⟨rfl, bb4⟩; have K1_4 := Lib.hid (K1_3.out.keep bb4); have K2_4 := Lib.hid (K2_3.out.keep bb4); have B_4 := Lib.hid (B_3.out.trans (bb4.mono B_3.out.size)); clear K1_3 K2_3 B_3 bb4; have SK1_4 := Lib.hid K1_4.out.two; have SK2_4 := Lib.hid K2_4.out.two) | (go_at_call 28; refine (sDoubleShare_any (n0) (n1) p2 q2 p3 q3 (n4) _  hs4 ).mono ?_; rintro e w5 ⟨rfl, bb5⟩; have K1_5 := Lib.hid (K1_4.out.keep bb5); have K2_5 := Lib.hid (K2_4.out.keep bb5); have B_5 := Lib.hid (B_4.out.trans (bb5.mono B_4.out.size)); clear K1_4 K2_4 B_4 bb5; have SK1_5 := Lib.hid K1_5.out.two; have SK2_5 := Lib.hid K2_5.out.two))
  go_wp2_with fail
  have bb6 : Below w5.heap.size w5 w5.drew := (Below.refl _ _).drew
  have K1_6 := Lib.hid (K1_5.out.keep bb6)
  have K2_6 := Lib.hid (K2_5.out.keep bb6)
  have B_6 := Lib.hid (B_5.out.trans (bb6.mono B_5.out.size))
  clear K1_5 K2_5 B_5 bb6
  have SK1_6 := Lib.hid K1_6.out.two
  have SK2_6 := Lib.hid K2_6.out.two
  go_region_held3 (fun W => (W.cell? ⟨w.heap.size, 0, none⟩ = some (.int .i64 p2) ∧ W.cell? ⟨w.heap.size, 1, none⟩ = some (.int .i64 q2)) ∧ (W.cell? ⟨w.heap.size + 1, 0, none⟩ = some (.int .i64 p3) ∧ W.cell? ⟨w.heap.size + 1, 1, none⟩ = some (.int .i64 q3)))
    (first | exact ⟨SK1_6.out.1, SK2_6.out.1⟩ | exact ⟨SK1_7.out.1, SK2_7.out.1⟩ | exact ⟨SK1_8.out.1, SK2_8.out.1⟩ | exact ⟨SK1_9.out.1, SK2_9.out.1⟩)
    (first | (go_at_call_of 14 (Value.agg #[.int .i64 p2, .int .i64 q2]); refine (toPlan_any p2 q2 _).mono ?_; rintro e w7 ⟨rfl, bb7⟩; have K1_7 := Lib.hid (K1_6.out.keep bb7); have K2_7 := Lib.hid (K2_6.out.keep bb7); have B_7 := Lib.hid (B_6.out.trans (bb7.mono B_6.out.size)); clear K1_6 K2_6 B_6 bb7; have SK1_7 := Lib.hid K1_7.out.two; have SK2_7 := Lib.hid K2_7.out.two) | (go_at_call_of 14 (Value.agg #[.int .i64 p3, .int .i64 q3]); refine (toPlan_any p3 q3 _).mono ?_; rintro e w8 ⟨rfl, bb8⟩; have K1_8 := Lib.hid (K1_7.out.keep bb8); have K2_8 := Lib.hid (K2_7.out.keep bb8); have B_8 := Lib.hid (B_7.out.trans (bb8.mono B_7.out.size)); clear K1_7 K2_7 B_7 bb8; have SK1_8 := Lib.hid K1_8.out.two; have SK2_8 := Lib.hid K2_8.out.two) | (go_at_call 29; refine (iDoubleShare_any (n0) (n1) p2 q2 p3 q3 (n4) _  hs4 ).mono ?_; rintro e w9 ⟨rfl, bb9⟩; have K1_9 := Lib.hid (K1_8.out.keep bb9); have K2_9 := Lib.hid (K2_8.out.keep bb9); have B_9 := Lib.hid (B_8.out.trans (bb9.mono B_8.out.size)); clear K1_8 K2_8 B_8 bb9; have SK1_9 := Lib.hid K1_9.out.two; have SK2_9 := Lib.hid K2_9.out.two))
  go_wp2_with fail
  go_ret
  exact ⟨rfl, B_9.out⟩
end Go.Proofs.Ytemdgfjcjjadnaa
