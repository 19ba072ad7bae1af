/-
  The exact law of the line of lives over stresses. No conditions beyond the statement's own.
-/
import Derived.Test.YtppkeabkjabhdaaSfK
import Derived.Test.YtppkeabkjabhdaaMkF
import Derived.Deep.RegionHeld3
namespace Go.Proofs.Ytppkeabkjabhdaa
open Go.RowKit Dec Flt Syl Sep Cm We
set_option maxRecDepth 40000 in
set_option maxHeartbeats 8000000 in
theorem fnExactStressFit_walk (n0 : Int) (_wn0 : (Lit.int .i64 n0).wf = true) (a1 : Option Addr) (len1 cap1 : Nat) (z1 : List Nat) (a2 : Option Addr) (len2 cap2 : Nat) (z2 : List Nat) (w : World) (h1 : FRow w a1 len1 z1) (h2 : FRow w a2 len2 z2) :
    Calls Try.prog 14 #[.int .i64 n0, .slice a1 len1 cap1, .slice a2 len2 cap2] w fun e w' => e = .returned (.bool true) ∧ Below w.heap.size w w' := by
  have hml1 : len1 ≤ maxLen := h1.2.1
  have H1 := Lib.hid h1
  have HZ1 := Lib.hid h1.2.2.1
  have HL1 := Lib.hid h1.1
  have hml2 : len2 ≤ maxLen := h2.2.1
  have H2 := Lib.hid h2
  have HZ2 := Lib.hid h2.2.2.1
  have HL2 := Lib.hid h2.1
  have hxb : ∀ x : Bool, (x != x) = false := by simp
  have hxi : ∀ x : Int, (x != x) = false := by simp
  clear h1 h2
  by_cases hn1 : (1048576 : Int) < (len1 : Int)
  · go_enter Try.func14, Try.ntmps14
    go_wp2_with fail
    go_ret
    exact ⟨rfl, by first | exact Below.refl _ _ | exact (Below.refl _ _).alloc (Nat.le_refl _) _⟩
  have hn'1 : len1 ≤ 1048576 := by omega
  by_cases hn2 : (1048576 : Int) < (len2 : Int)
  · go_enter Try.func14, Try.ntmps14
    go_wp2_with fail
    go_ret
    exact ⟨rfl, by first | exact Below.refl _ _ | exact (Below.refl _ _).alloc (Nat.le_refl _) _⟩
  have hn'2 : len2 ≤ 1048576 := by omega
  have hnv0 := sfB_num n0 z1 z2
  have hcv0 := conv_num _ hnv0
  have hnv1 := sfM_num n0 z1 z2
  have hcv1 := conv_num _ hnv1
  go_enter Try.func14, Try.ntmps14
  go_wp2_with fail
  refine (toF32_made a1 len1 cap1 z1 _ H1.out hn'1).mono ?_
  rintro e w1 ⟨rfl, mm1, bb1, hg1⟩
  have R1_1 := Lib.hid (made_row mm1 hn'1 HZ1.out)
  clear mm1 hg1
  have B_1 := Lib.hid bb1
  clear bb1
  go_wp2_with fail
  refine (toF32_made a2 len2 cap2 z2 _ (H2.out.keep B_1.out) hn'2).mono ?_
  rintro e w2 ⟨rfl, mm2, bb2, hg2⟩
  have R3_2 := Lib.hid (made_row mm2 hn'2 HZ2.out)
  clear mm2 hg2
  have R1_2 := Lib.hid (R1_1.out.keep bb2)
  have B_2 := Lib.hid (B_1.out.trans (bb2.mono B_1.out.size))
  clear R1_1 B_1 bb2
  go_wp2_with fail
  refine (sStressFit_any (n0) (some ⟨w.heap.size, 0, none⟩) len1 len1 z1 (some ⟨w1.heap.size, 0, none⟩) len2 len2 z2 _ R1_2.out R3_2.out hn'1 hn'2 ).mono ?_
  rintro e w3 ⟨rfl, bb3⟩
  have R1_3 := Lib.hid (R1_2.out.keep bb3)
  have R3_3 := Lib.hid (R3_2.out.keep bb3)
  have B_3 := Lib.hid (B_2.out.trans (bb3.mono B_2.out.size))
  clear R1_2 R3_2 B_2 bb3
  clear R1_3
  clear R3_3
  go_wp2_with fail
  refine (toF32_made a1 len1 cap1 z1 _ (H1.out.keep B_3.out) hn'1).mono ?_
  rintro e w4 ⟨rfl, mm4, bb4, hg4⟩
  have R5_4 := Lib.hid (made_row mm4 hn'1 HZ1.out)
  clear mm4 hg4
  have B_4 := Lib.hid (B_3.out.trans (bb4.mono B_3.out.size))
  clear B_3 bb4
  go_wp2_with fail
  refine (toF32_made a2 len2 cap2 z2 _ (H2.out.keep B_4.out) hn'2).mono ?_
  rintro e w5 ⟨rfl, mm5, bb5, hg5⟩
  have R7_5 := Lib.hid (made_row mm5 hn'2 HZ2.out)
  clear mm5 hg5
  have R5_5 := Lib.hid (R5_4.out.keep bb5)
  have B_5 := Lib.hid (B_4.out.trans (bb5.mono B_4.out.size))
  clear R5_4 B_4 bb5
  go_wp2_with fail
  refine (iStressFit_any (n0) (some ⟨w3.heap.size, 0, none⟩) len1 len1 z1 (some ⟨w4.heap.size, 0, none⟩) len2 len2 z2 _ R5_5.out R7_5.out (Nat.le_refl _) (Nat.le_refl _) hn'1 hn'2 ).mono ?_
  rintro e w6 ⟨rfl, bb6⟩
  have R5_6 := Lib.hid (R5_5.out.keep bb6)
  have R7_6 := Lib.hid (R7_5.out.keep bb6)
  have B_6 := Lib.hid (B_5.out.trans (bb6.mono B_5.out.size))
  clear R5_5 R7_5 B_5 bb6
  go_wp2_with fail
  refine (samF_any ((sfB n0 z1 z2)) _ (by first | exact hnv0 | exact hnv1 | exact hnv2)).mono ?_
  rintro e w7 ⟨rfl, bb7⟩
  have R5_7 := Lib.hid (R5_6.out.keep bb7)
  have R7_7 := Lib.hid (R7_6.out.keep bb7)
  have B_7 := Lib.hid (B_6.out.trans (bb7.mono B_6.out.size))
  clear R5_6 R7_6 B_6 bb7
  go_wp2_with fail
  refine (samF_any ((sfM n0 z1 z2)) _ (by first | exact hnv0 | exact hnv1 | exact hnv2)).mono ?_
  rintro e w8 ⟨rfl, bb8⟩
  have R5_8 := Lib.hid (R5_7.out.keep bb8)
  have R7_8 := Lib.hid (R7_7.out.keep bb8)
  have B_8 := Lib.hid (B_7.out.trans (bb8.mono B_7.out.size))
  clear R5_7 R7_7 B_7 bb8
  go_wp2_with fail
  refine (toF32_made a1 len1 cap1 z1 _ (H1.out.keep B_8.out) hn'1).mono ?_
  rintro e w9 ⟨rfl, mm9, bb9, hg9⟩
  have R9_9 := Lib.hid (made_row mm9 hn'1 HZ1.out)
  clear mm9 hg9
  have R5_9 := Lib.hid (R5_8.out.keep bb9)
  have R7_9 := Lib.hid (R7_8.out.keep bb9)
  have B_9 := Lib.hid (B_8.out.trans (bb9.mono B_8.out.size))
  clear R5_8 R7_8 B_8 bb9
  go_wp2_with fail
  refine (eqFl_any _ _ len1 _ _ z1 _ R5_9.out R9_9.out hn'1).mono ?_
  rintro e w10 ⟨rfl, bb10⟩
  have R5_10 := Lib.hid (R5_9.out.keep bb10)
  have R7_10 := Lib.hid (R7_9.out.keep bb10)
  have R9_10 := Lib.hid (R9_9.out.keep bb10)
  have B_10 := Lib.hid (B_9.out.trans (bb10.mono B_9.out.size))
  clear R5_9 R7_9 R9_9 B_9 bb10
  clear R5_10
  clear R9_10
  go_wp2_with fail
  refine (toF32_made a2 len2 cap2 z2 _ (H2.out.keep B_10.out) hn'2).mono ?_
  rintro e w11 ⟨rfl, mm11, bb11, hg11⟩
  have R11_11 := Lib.hid (made_row mm11 hn'2 HZ2.out)
  clear mm11 hg11
  have R7_11 := Lib.hid (R7_10.out.keep bb11)
  have B_11 := Lib.hid (B_10.out.trans (bb11.mono B_10.out.size))
  clear R7_10 B_10 bb11
  go_wp2_with fail
  refine (eqFl_any _ _ len2 _ _ z2 _ R7_11.out R11_11.out hn'2).mono ?_
  rintro e w12 ⟨rfl, bb12⟩
  have R7_12 := Lib.hid (R7_11.out.keep bb12)
  have R11_12 := Lib.hid (R11_11.out.keep bb12)
  have B_12 := Lib.hid (B_11.out.trans (bb12.mono B_11.out.size))
  clear R7_11 R11_11 B_11 bb12
  clear R7_12
  clear R11_12
  go_wp2_with fail
  go_ret
  exact ⟨rfl, B_12.out⟩
end Go.Proofs.Ytppkeabkjabhdaa
