/-
  The exact laws of faults that were found, and of faults that were not. No conditions beyond the statements' own.
-/
import Derived.Test.YtppkeabkjabhdaaFal
import Derived.Test.YtppkeabkjabhdaaMkF
import Derived.Deep.RegionHeld3
namespace Go.Proofs.Ytppkeabkjabhdaa
open Go.RowKit Dec Flt Syl Sep Cm We
set_option maxRecDepth 40000 in
set_option maxHeartbeats 8000000 in
theorem fnExactFoundFaults_walk (n0 : Int) (_wn0 : (Lit.int .i64 n0).wf = true) (n1 : Int) (_wn1 : (Lit.int .i64 n1).wf = true) (n2 : Int) (_wn2 : (Lit.int .i64 n2).wf = true) (w : World)  :
    Calls Try.prog 10 #[.int .i64 n0, .int .i64 n1, .int .i64 n2] w fun e w' => e = .returned (.bool true) ∧ Below w.heap.size w w' := by
  have hxb : ∀ x : Bool, (x != x) = false := by simp
  have hxi : ∀ x : Int, (x != x) = false := by simp
  go_enter Try.func10, Try.ntmps10
  go_wp2_with fail
  refine (sFoundFaults_any (n0) (n1) (n2) _  ).mono ?_
  rintro e w1 ⟨rfl, bb1⟩
  have B_1 := Lib.hid bb1
  clear bb1
  go_wp2_with fail
  refine (iFoundFaults_any (n0) (n1) (n2) _  ).mono ?_
  rintro e w2 ⟨rfl, bb2⟩
  have B_2 := Lib.hid (B_1.out.trans (bb2.mono B_1.out.size))
  clear B_1 bb2
  go_wp2_with fail
  go_ret
  exact ⟨rfl, B_2.out⟩
set_option maxRecDepth 40000 in
set_option maxHeartbeats 8000000 in
theorem fnExactFaultsLeft_walk (a0 : Option Addr) (len0 cap0 : Nat) (z0 : List Int) (w : World) (h0 : IRow w a0 len0 z0) :
    Calls Try.prog 11 #[.slice a0 len0 cap0] w fun e w' => e = .returned (.bool true) ∧ Below w.heap.size w w' := by
  have hml0 : len0 ≤ maxLen := h0.2.1
  have H0 := Lib.hid h0
  have HZ0 := Lib.hid h0.2.2.1
  have HL0 := Lib.hid h0.1
  have hxb : ∀ x : Bool, (x != x) = false := by simp
  have hxi : ∀ x : Int, (x != x) = false := by simp
  clear h0
  by_cases hn0 : (1048576 : Int) < (len0 : Int)
  · go_enter Try.func11, Try.ntmps11
    go_wp2_with fail
    go_ret
    exact ⟨rfl, by first | exact Below.refl _ _ | exact (Below.refl _ _).alloc (Nat.le_refl _) _⟩
  have hn'0 : len0 ≤ 1048576 := by omega
  go_enter Try.func11, Try.ntmps11
  go_wp2_with fail
  refine (toI64_made a0 len0 cap0 z0 _ H0.out hn'0).mono ?_
  rintro e w1 ⟨rfl, mm1, bb1, hg1⟩
  have R1_1 := Lib.hid (imade_row mm1 HL0.out hn'0 HZ0.out)
  clear mm1 hg1
  have B_1 := Lib.hid bb1
  clear bb1
  go_wp2_with fail
  refine (sFaultsLeft_any (some ⟨w.heap.size, 0, none⟩) len0 len0 z0 _ R1_1.out  ).mono ?_
  rintro e w2 ⟨rfl, bb2⟩
  have R1_2 := Lib.hid (R1_1.out.keep bb2)
  have B_2 := Lib.hid (B_1.out.trans (bb2.mono B_1.out.size))
  clear R1_1 B_1 bb2
  clear R1_2
  go_wp2_with fail
  refine (toI64_made a0 len0 cap0 z0 _ (H0.out.keep B_2.out) hn'0).mono ?_
  rintro e w3 ⟨rfl, mm3, bb3, hg3⟩
  have R3_3 := Lib.hid (imade_row mm3 HL0.out hn'0 HZ0.out)
  clear mm3 hg3
  have B_3 := Lib.hid (B_2.out.trans (bb3.mono B_2.out.size))
  clear B_2 bb3
  go_wp2_with fail
  refine (iFaultsLeft_any (some ⟨w2.heap.size, 0, none⟩) len0 len0 z0 _ R3_3.out (Nat.le_refl _) ).mono ?_
  rintro e w4 ⟨rfl, bb4⟩
  have R3_4 := Lib.hid (R3_3.out.keep bb4)
  have B_4 := Lib.hid (B_3.out.trans (bb4.mono B_3.out.size))
  clear R3_3 B_3 bb4
  go_wp2_with fail
  refine (toI64_made a0 len0 cap0 z0 _ (H0.out.keep B_4.out) hn'0).mono ?_
  rintro e w5 ⟨rfl, mm5, bb5, hg5⟩
  have R5_5 := Lib.hid (imade_row mm5 HL0.out hn'0 HZ0.out)
  clear mm5 hg5
  have R3_5 := Lib.hid (R3_4.out.keep bb5)
  have B_5 := Lib.hid (B_4.out.trans (bb5.mono B_4.out.size))
  clear R3_4 B_4 bb5
  go_wp2_with fail
  refine (eqI64_any _ _ len0 _ _ z0 _ R3_5.out R5_5.out hn'0).mono ?_
  rintro e w6 ⟨rfl, bb6⟩
  have R3_6 := Lib.hid (R3_5.out.keep bb6)
  have R5_6 := Lib.hid (R5_5.out.keep bb6)
  have B_6 := Lib.hid (B_5.out.trans (bb6.mono B_5.out.size))
  clear R3_5 R5_5 B_5 bb6
  clear R3_6
  clear R5_6
  go_wp2_with fail
  go_ret
  exact ⟨rfl, B_6.out⟩
end Go.Proofs.Ytppkeabkjabhdaa
