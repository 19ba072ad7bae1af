/-
  The exact law of when a path is at a limit. No conditions beyond the statement's own.
-/
import Derived.Test.YtppkeabkjabhdaaPci
import Derived.Test.YtppkeabkjabhdaaPcs
import Derived.Test.YtppkeabkjabhdaaMkF
import Derived.Deep.RegionHeld3
namespace Go.Proofs.Ytppkeabkjabhdaa
open Go.RowKit Dec Flt Syl Sep Cm We
set_option maxRecDepth 40000 in
set_option maxHeartbeats 8000000 in
theorem fnExactPathCross_walk (a0 : Option Addr) (len0 cap0 : Nat) (z0 : List Nat) (a1 : Option Addr) (len1 cap1 : Nat) (z1 : List Nat) (n2 : Nat) (_wn2 : (Lit.float .f32 n2).wf = true) (w : World) (h0 : FRow w a0 len0 z0) (h1 : FRow w a1 len1 z1) :
    Calls Try.prog 8 #[.slice a0 len0 cap0, .slice a1 len1 cap1, .float .f32 n2] w fun e w' => e = .returned (.bool true) ∧ Below w.heap.size w w' := by
  have hml0 : len0 ≤ maxLen := h0.2.1
  have H0 := Lib.hid h0
  have HZ0 := Lib.hid h0.2.2.1
  have HL0 := Lib.hid h0.1
  have hml1 : len1 ≤ maxLen := h1.2.1
  have H1 := Lib.hid h1
  have HZ1 := Lib.hid h1.2.2.1
  have HL1 := Lib.hid h1.1
  have hxb : ∀ x : Bool, (x != x) = false := by simp
  have hxi : ∀ x : Int, (x != x) = false := by simp
  clear h0 h1
  by_cases hn0 : (1048576 : Int) < (len0 : Int)
  · go_enter Try.func8, Try.ntmps8
    go_wp2_with fail
    go_ret
    exact ⟨rfl, by first | exact Below.refl _ _ | exact (Below.refl _ _).alloc (Nat.le_refl _) _⟩
  have hn'0 : len0 ≤ 1048576 := by omega
  by_cases hn1 : (1048576 : Int) < (len1 : Int)
  · go_enter Try.func8, Try.ntmps8
    go_wp2_with fail
    go_ret
    exact ⟨rfl, by first | exact Below.refl _ _ | exact (Below.refl _ _).alloc (Nat.le_refl _) _⟩
  have hn'1 : len1 ≤ 1048576 := by omega
  have hs2 : n2 < 4294967296 := by simpa [Lit.wf] using _wn2
  have hnv0 := okV_num (pxC z0 z1 n2) (pcR z0 z1 n2)
  have hcv0 := conv_num _ hnv0
  go_enter Try.func8, Try.ntmps8
  go_wp2_with fail
  refine (toF32_made a0 len0 cap0 z0 _ H0.out hn'0).mono ?_
  rintro e w1 ⟨rfl, mm1, bb1, hg1⟩
  have R1_1 := Lib.hid (made_row mm1 hn'0 HZ0.out)
  clear mm1 hg1
  have B_1 := Lib.hid bb1
  clear bb1
  go_wp2_with fail
  refine (toF32_made a1 len1 cap1 z1 _ (H1.out.keep B_1.out) hn'1).mono ?_
  rintro e w2 ⟨rfl, mm2, bb2, hg2⟩
  have R3_2 := Lib.hid (made_row mm2 hn'1 HZ1.out)
  clear mm2 hg2
  have R1_2 := Lib.hid (R1_1.out.keep bb2)
  have B_2 := Lib.hid (B_1.out.trans (bb2.mono B_1.out.size))
  clear R1_1 B_1 bb2
  go_wp2_with fail
  refine (sPathCross_any (some ⟨w.heap.size, 0, none⟩) len0 len0 z0 (some ⟨w1.heap.size, 0, none⟩) len1 len1 z1 (n2) _ R1_2.out R3_2.out hs2 ).mono ?_
  rintro e w3 ⟨rfl, bb3⟩
  have R1_3 := Lib.hid (R1_2.out.keep bb3)
  have R3_3 := Lib.hid (R3_2.out.keep bb3)
  have B_3 := Lib.hid (B_2.out.trans (bb3.mono B_2.out.size))
  clear R1_2 R3_2 B_2 bb3
  clear R1_3
  clear R3_3
  go_wp2_with fail
  refine (toF32_made a0 len0 cap0 z0 _ (H0.out.keep B_3.out) hn'0).mono ?_
  rintro e w4 ⟨rfl, mm4, bb4, hg4⟩
  have R5_4 := Lib.hid (made_row mm4 hn'0 HZ0.out)
  clear mm4 hg4
  have B_4 := Lib.hid (B_3.out.trans (bb4.mono B_3.out.size))
  clear B_3 bb4
  go_wp2_with fail
  refine (toF32_made a1 len1 cap1 z1 _ (H1.out.keep B_4.out) hn'1).mono ?_
  rintro e w5 ⟨rfl, mm5, bb5, hg5⟩
  have R7_5 := Lib.hid (made_row mm5 hn'1 HZ1.out)
  clear mm5 hg5
  have R5_5 := Lib.hid (R5_4.out.keep bb5)
  have B_5 := Lib.hid (B_4.out.trans (bb5.mono B_4.out.size))
  clear R5_4 B_4 bb5
  go_wp2_with fail
  refine (iPathCross_any (some ⟨w3.heap.size, 0, none⟩) len0 len0 z0 (some ⟨w4.heap.size, 0, none⟩) len1 len1 z1 (n2) _ R5_5.out R7_5.out (Nat.le_refl _) (Nat.le_refl _) hs2 ).mono ?_
  rintro e w6 ⟨rfl, bb6⟩
  have R5_6 := Lib.hid (R5_5.out.keep bb6)
  have R7_6 := Lib.hid (R7_5.out.keep bb6)
  have B_6 := Lib.hid (B_5.out.trans (bb6.mono B_5.out.size))
  clear R5_5 R7_5 B_5 bb6
  go_wp2_with fail
  refine (samF_any ((okV (pxC z0 z1 n2) (pcR z0 z1 n2))) _ (by first | exact hnv0 | exact hnv1 | exact hnv2)).mono ?_
  rintro e w7 ⟨rfl, bb7⟩
  have R5_7 := Lib.hid (R5_6.out.keep bb7)
  have R7_7 := Lib.hid (R7_6.out.keep bb7)
  have B_7 := Lib.hid (B_6.out.trans (bb7.mono B_6.out.size))
  clear R5_6 R7_6 B_6 bb7
  go_wp2_with fail
  refine (toF32_made a0 len0 cap0 z0 _ (H0.out.keep B_7.out) hn'0).mono ?_
  rintro e w8 ⟨rfl, mm8, bb8, hg8⟩
  have R9_8 := Lib.hid (made_row mm8 hn'0 HZ0.out)
  clear mm8 hg8
  have R5_8 := Lib.hid (R5_7.out.keep bb8)
  have R7_8 := Lib.hid (R7_7.out.keep bb8)
  have B_8 := Lib.hid (B_7.out.trans (bb8.mono B_7.out.size))
  clear R5_7 R7_7 B_7 bb8
  go_wp2_with fail
  refine (eqFl_any _ _ len0 _ _ z0 _ R5_8.out R9_8.out hn'0).mono ?_
  rintro e w9 ⟨rfl, bb9⟩
  have R5_9 := Lib.hid (R5_8.out.keep bb9)
  have R7_9 := Lib.hid (R7_8.out.keep bb9)
  have R9_9 := Lib.hid (R9_8.out.keep bb9)
  have B_9 := Lib.hid (B_8.out.trans (bb9.mono B_8.out.size))
  clear R5_8 R7_8 R9_8 B_8 bb9
  clear R5_9
  clear R9_9
  go_wp2_with fail
  refine (toF32_made a1 len1 cap1 z1 _ (H1.out.keep B_9.out) hn'1).mono ?_
  rintro e w10 ⟨rfl, mm10, bb10, hg10⟩
  have R11_10 := Lib.hid (made_row mm10 hn'1 HZ1.out)
  clear mm10 hg10
  have R7_10 := Lib.hid (R7_9.out.keep bb10)
  have B_10 := Lib.hid (B_9.out.trans (bb10.mono B_9.out.size))
  clear R7_9 B_9 bb10
  go_wp2_with fail
  refine (eqFl_any _ _ len1 _ _ z1 _ R7_10.out R11_10.out hn'1).mono ?_
  rintro e w11 ⟨rfl, bb11⟩
  have R7_11 := Lib.hid (R7_10.out.keep bb11)
  have R11_11 := Lib.hid (R11_10.out.keep bb11)
  have B_11 := Lib.hid (B_10.out.trans (bb11.mono B_10.out.size))
  clear R7_10 R11_10 B_10 bb11
  clear R7_11
  clear R11_11
  go_wp2_with fail
  go_ret
  exact ⟨rfl, B_11.out⟩
end Go.Proofs.Ytppkeabkjabhdaa
