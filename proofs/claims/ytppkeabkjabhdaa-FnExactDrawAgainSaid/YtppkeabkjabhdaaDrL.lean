/-
  The exact law of particles drawn by weights. No conditions beyond the statement's own.
-/
import Derived.Test.YtppkeabkjabhdaaDr2
import Derived.Test.YtppkeabkjabhdaaMkF
import Derived.Deep.RegionHeld3
namespace Go.Proofs.Ytppkeabkjabhdaa
open Go.RowKit Dec Flt Syl Sep Cm We
set_option maxRecDepth 40000 in
set_option maxHeartbeats 8000000 in
theorem fnExactDrawAgain_walk (a0 : Option Addr) (len0 cap0 : Nat) (z0 : List Nat) (a1 : Option Addr) (len1 cap1 : Nat) (z1 : List Nat) (n2 : Nat) (_wn2 : (Lit.float .f32 n2).wf = true) (w : World) (h0 : FRow w a0 len0 z0) (h1 : FRow w a1 len1 z1) :
    Calls Try.prog 12 #[.slice a0 len0 cap0, .slice a1 len1 cap1, .float .f32 n2] w fun e w' => e = .returned (.bool true) ∧ Below w.heap.size w w' := by
  have hml0 : len0 ≤ maxLen := h0.2.1
  have H0 := Lib.hid h0
  have HZ0 := Lib.hid h0.2.2.1
  have HL0 := Lib.hid h0.1
  have hml1 : len1 ≤ maxLen := h1.2.1
  have H1 := Lib.hid h1
  have HZ1 := Lib.hid h1.2.2.1
  have HL1 := Lib.hid h1.1
  have hxb : ∀ x : Bool, (x != x) = false := by simp
  have hxi : ∀ x : Int, (x != x) = false := by simp
  clear h0 h1
  obtain ⟨ts, hts⟩ : ∃ ts, daA z0 z1 n2 = ts := ⟨_, rfl⟩
  obtain ⟨n, hnl⟩ : ∃ n, ts.length = n := ⟨_, rfl⟩
  have hsml : n ≤ 1023 := by rw [← hnl, ← hts]; exact daA_len z0 z1 n2
  have hbig : n ≤ 1048576 := by omega
  have HTS := Lib.hid hts
  have HNL := Lib.hid hnl
  clear hts hnl
  have hk0 : ¬ ((1 : Int) + (n : Int) < 0) := by omega
  obtain ⟨bv, hbv⟩ : ∃ bv, da0 z0 z1 n2 = bv := ⟨_, rfl⟩
  have HBV := Lib.hid hbv
  clear hbv
  by_cases hn0 : (1048576 : Int) < (len0 : Int)
  · go_enter Try.func12, Try.ntmps12
    go_wp2_with fail
    go_ret
    exact ⟨rfl, by first | exact Below.refl _ _ | exact (Below.refl _ _).alloc (Nat.le_refl _) _⟩
  have hn'0 : len0 ≤ 1048576 := by omega
  by_cases hn1 : (1048576 : Int) < (len1 : Int)
  · go_enter Try.func12, Try.ntmps12
    go_wp2_with fail
    go_ret
    exact ⟨rfl, by first | exact Below.refl _ _ | exact (Below.refl _ _).alloc (Nat.le_refl _) _⟩
  have hn'1 : len1 ≤ 1048576 := by omega
  have hs2 : n2 < 4294967296 := by simpa [Lit.wf] using _wn2
  go_enter Try.func12, Try.ntmps12
  go_wp2_with fail
  refine (toF32_made a0 len0 cap0 z0 _ H0.out hn'0).mono ?_
  rintro e w1 ⟨rfl, mm1, bb1, hg1⟩
  have R1_1 := Lib.hid (made_row mm1 hn'0 HZ0.out)
  have O2_1 : Hid (Mid w1 w.heap.size w1.heap.size (some ⟨w.heap.size, 0, none⟩) len0 31) := made_mid mm1 (Nat.le_refl _)
  have F1_1 : Hid (w1.heap.size ≤ w1.heap.size) := Nat.le_refl _
  have W1 : Hid (w.heap.size ≤ w.heap.size) := Nat.le_refl _
  clear mm1 hg1
  have B_1 := Lib.hid bb1
  clear bb1
  go_wp2_with fail
  have PR1_2 := Lib.hid R1_1.out.lt
  have PO2_2 : Hid (w1.heap.size ≤ w1.heap.size) := F1_1.out
  refine (toF32_made a1 len1 cap1 z1 _ (H1.out.keep B_1.out) hn'1).mono ?_
  rintro e w2 ⟨rfl, mm2, bb2, hg2⟩
  have R3_2 := Lib.hid (made_row mm2 hn'1 HZ1.out)
  have O4_2 : Hid (Mid w2 w1.heap.size w2.heap.size (some ⟨w1.heap.size, 0, none⟩) len1 31) := made_mid mm2 (Nat.le_refl _)
  have F2_2 : Hid (w2.heap.size ≤ w2.heap.size) := Nat.le_refl _
  have W2 : Hid (w.heap.size ≤ w1.heap.size) := B_1.out.size
  clear mm2 hg2
  have PR3_1 := Lib.hid (O4_2.out.ge F1_1.out)
  have PO4_1 : Hid (w1.heap.size ≤ w1.heap.size) := F1_1.out
  have R1_2 := Lib.hid (R1_1.out.keep bb2)
  have O2_2 := Lib.hid (O2_1.out.keep bb2)
  have F1_2 : Hid (w1.heap.size ≤ w2.heap.size) := Nat.le_trans F1_1.out bb2.size
  have B_2 := Lib.hid (B_1.out.trans (bb2.mono B_1.out.size))
  clear R1_1 O2_1 F1_1 B_1 bb2
  go_wp2_with fail
  refine (sDrawAgain_any (some ⟨w.heap.size, 0, none⟩) len0 len0 z0 (some ⟨w1.heap.size, 0, none⟩) len1 len1 z1 (n2) _ R1_2.out R3_2.out hs2 ).mono ?_
  rintro e w3 ⟨⟨ar3, cr3, rfl, hr3⟩, bb3⟩
  rw [HTS.out, HNL.out] at hr3
  rw [HTS.out, HNL.out, HBV.out]
  have R5_3 := Lib.hid hr3
  clear hr3
  have R1_3 := Lib.hid (R1_2.out.keep bb3)
  have O2_3 := Lib.hid (O2_2.out.keep bb3)
  have R3_3 := Lib.hid (R3_2.out.keep bb3)
  have O4_3 := Lib.hid (O4_2.out.keep bb3)
  have F1_3 : Hid (w1.heap.size ≤ w3.heap.size) := Nat.le_trans F1_2.out bb3.size
  have F2_3 : Hid (w2.heap.size ≤ w3.heap.size) := Nat.le_trans F2_2.out bb3.size
  have B_3 := Lib.hid (B_2.out.trans (bb3.mono B_2.out.size))
  clear R1_2 O2_2 R3_2 O4_2 F1_2 F2_2 B_2 bb3
  clear R1_3
  clear O2_3
  clear R3_3
  clear O4_3
  go_wp2_with fail
  have PR5_3 := Lib.hid R5_3.out.lt
  refine (toF32_made a0 len0 cap0 z0 _ (H0.out.keep B_3.out) hn'0).mono ?_
  rintro e w4 ⟨rfl, mm4, bb4, hg4⟩
  have R6_4 := Lib.hid (made_row mm4 hn'0 HZ0.out)
  have O7_4 : Hid (Mid w4 w3.heap.size w4.heap.size (some ⟨w3.heap.size, 0, none⟩) len0 31) := made_mid mm4 (Nat.le_refl _)
  have F3_4 : Hid (w4.heap.size ≤ w4.heap.size) := Nat.le_refl _
  have W3 : Hid (w.heap.size ≤ w3.heap.size) := B_3.out.size
  clear mm4 hg4
  have PR6_1 := Lib.hid (O7_4.out.ge F1_3.out)
  have PO7_1 : Hid (w1.heap.size ≤ w3.heap.size) := F1_3.out
  have PR6_2 := Lib.hid (O7_4.out.ge F2_3.out)
  have PO7_2 : Hid (w2.heap.size ≤ w3.heap.size) := F2_3.out
  have R5_4 := Lib.hid (R5_3.out.keep bb4)
  have F1_4 : Hid (w1.heap.size ≤ w4.heap.size) := Nat.le_trans F1_3.out bb4.size
  have F2_4 : Hid (w2.heap.size ≤ w4.heap.size) := Nat.le_trans F2_3.out bb4.size
  have B_4 := Lib.hid (B_3.out.trans (bb4.mono B_3.out.size))
  clear R5_3 F1_3 F2_3 B_3 bb4
  go_wp2_with fail
  have PR5_4 := Lib.hid R5_4.out.lt
  have PR6_4 := Lib.hid R6_4.out.lt
  have PO7_4 : Hid (w4.heap.size ≤ w4.heap.size) := F3_4.out
  refine (toF32_made a1 len1 cap1 z1 _ (H1.out.keep B_4.out) hn'1).mono ?_
  rintro e w5 ⟨rfl, mm5, bb5, hg5⟩
  have R8_5 := Lib.hid (made_row mm5 hn'1 HZ1.out)
  have O9_5 : Hid (Mid w5 w4.heap.size w5.heap.size (some ⟨w4.heap.size, 0, none⟩) len1 31) := made_mid mm5 (Nat.le_refl _)
  have F4_5 : Hid (w5.heap.size ≤ w5.heap.size) := Nat.le_refl _
  have W4 : Hid (w.heap.size ≤ w4.heap.size) := B_4.out.size
  clear mm5 hg5
  have PR8_1 := Lib.hid (O9_5.out.ge F1_4.out)
  have PO9_1 : Hid (w1.heap.size ≤ w4.heap.size) := F1_4.out
  have PR8_2 := Lib.hid (O9_5.out.ge F2_4.out)
  have PO9_2 : Hid (w2.heap.size ≤ w4.heap.size) := F2_4.out
  have PR8_3 := Lib.hid (O9_5.out.ge F3_4.out)
  have PO9_3 : Hid (w4.heap.size ≤ w4.heap.size) := F3_4.out
  have R5_5 := Lib.hid (R5_4.out.keep bb5)
  have R6_5 := Lib.hid (R6_4.out.keep bb5)
  have O7_5 := Lib.hid (O7_4.out.keep bb5)
  have F1_5 : Hid (w1.heap.size ≤ w5.heap.size) := Nat.le_trans F1_4.out bb5.size
  have F2_5 : Hid (w2.heap.size ≤ w5.heap.size) := Nat.le_trans F2_4.out bb5.size
  have F3_5 : Hid (w4.heap.size ≤ w5.heap.size) := Nat.le_trans F3_4.out bb5.size
  have B_5 := Lib.hid (B_4.out.trans (bb5.mono B_4.out.size))
  clear R5_4 R6_4 O7_4 F1_4 F2_4 F3_4 B_4 bb5
  go_wp2_with fail
  have PR5_5 := Lib.hid R5_5.out.lt
  have PR6_5 := Lib.hid R6_5.out.lt
  have PO7_5 : Hid (w4.heap.size ≤ w5.heap.size) := F3_5.out
  have PR8_5 := Lib.hid R8_5.out.lt
  have PO9_5 : Hid (w5.heap.size ≤ w5.heap.size) := F4_5.out
  refine (iDrawAgain_any (some ⟨w3.heap.size, 0, none⟩) len0 len0 z0 (some ⟨w4.heap.size, 0, none⟩) len1 len1 z1 (n2) _ R6_5.out R8_5.out (Nat.le_refl _) (Nat.le_refl _) hs2 ).mono ?_
  rintro e w6 ⟨⟨ar6, cr6, rfl, hr6, ho6⟩, bb6⟩
  rw [HTS.out, HNL.out] at hr6 ho6
  rw [HTS.out, HNL.out, HBV.out]
  have R10_6 := Lib.hid hr6
  have O11_6 := Lib.hid (Mid.of_own ho6)
  clear hr6 ho6
  have F5_6 : Hid (w6.heap.size ≤ w6.heap.size) := Nat.le_refl _
  have W5 : Hid (w.heap.size ≤ w5.heap.size) := B_5.out.size
  have PR10_1 := Lib.hid (O11_6.out.ge F1_5.out)
  have PO11_1 : Hid (w1.heap.size ≤ w5.heap.size) := F1_5.out
  have PR10_2 := Lib.hid (O11_6.out.ge F2_5.out)
  have PO11_2 : Hid (w2.heap.size ≤ w5.heap.size) := F2_5.out
  have PR10_3 := Lib.hid (O11_6.out.ge F3_5.out)
  have PO11_3 : Hid (w4.heap.size ≤ w5.heap.size) := F3_5.out
  have PR10_4 := Lib.hid (O11_6.out.ge F4_5.out)
  have PO11_4 : Hid (w5.heap.size ≤ w5.heap.size) := F4_5.out
  have R5_6 := Lib.hid (R5_5.out.keep bb6)
  have R6_6 := Lib.hid (R6_5.out.keep bb6)
  have O7_6 := Lib.hid (O7_5.out.keep bb6)
  have R8_6 := Lib.hid (R8_5.out.keep bb6)
  have O9_6 := Lib.hid (O9_5.out.keep bb6)
  have F1_6 : Hid (w1.heap.size ≤ w6.heap.size) := Nat.le_trans F1_5.out bb6.size
  have F2_6 : Hid (w2.heap.size ≤ w6.heap.size) := Nat.le_trans F2_5.out bb6.size
  have F3_6 : Hid (w4.heap.size ≤ w6.heap.size) := Nat.le_trans F3_5.out bb6.size
  have F4_6 : Hid (w5.heap.size ≤ w6.heap.size) := Nat.le_trans F4_5.out bb6.size
  have B_6 := Lib.hid (B_5.out.trans (bb6.mono B_5.out.size))
  clear R5_5 R6_5 O7_5 R8_5 O9_5 F1_5 F2_5 F3_5 F4_5 B_5 bb6
  go_wp2_with fail
  refine (eqFl_any _ _ n _ _ ts _ R10_6.out R5_6.out hbig).mono ?_
  rintro e w7 ⟨rfl, bb7⟩
  have R5_7 := Lib.hid (R5_6.out.keep bb7)
  have R6_7 := Lib.hid (R6_6.out.keep bb7)
  have O7_7 := Lib.hid (O7_6.out.keep bb7)
  have R8_7 := Lib.hid (R8_6.out.keep bb7)
  have O9_7 := Lib.hid (O9_6.out.keep bb7)
  have R10_7 := Lib.hid (R10_6.out.keep bb7)
  have O11_7 := Lib.hid (O11_6.out.keep bb7)
  have F1_7 : Hid (w1.heap.size ≤ w7.heap.size) := Nat.le_trans F1_6.out bb7.size
  have F2_7 : Hid (w2.heap.size ≤ w7.heap.size) := Nat.le_trans F2_6.out bb7.size
  have F3_7 : Hid (w4.heap.size ≤ w7.heap.size) := Nat.le_trans F3_6.out bb7.size
  have F4_7 : Hid (w5.heap.size ≤ w7.heap.size) := Nat.le_trans F4_6.out bb7.size
  have F5_7 : Hid (w6.heap.size ≤ w7.heap.size) := Nat.le_trans F5_6.out bb7.size
  have B_7 := Lib.hid (B_6.out.trans (bb7.mono B_6.out.size))
  clear R5_6 R6_6 O7_6 R8_6 O9_6 R10_6 O11_6 F1_6 F2_6 F3_6 F4_6 F5_6 B_6 bb7
  go_wp2_with fail
  have PR5_6 := Lib.hid R5_7.out.lt
  have PR6_6 := Lib.hid R6_7.out.lt
  have PO7_6 : Hid (w4.heap.size ≤ w7.heap.size) := F3_7.out
  have PR8_6 := Lib.hid R8_7.out.lt
  have PO9_6 : Hid (w5.heap.size ≤ w7.heap.size) := F4_7.out
  have PR10_6 := Lib.hid R10_7.out.lt
  have PO11_6 : Hid (w6.heap.size ≤ w7.heap.size) := F5_7.out
  refine (toF32_made a0 len0 cap0 z0 _ (H0.out.keep B_7.out) hn'0).mono ?_
  rintro e w8 ⟨rfl, mm8, bb8, hg8⟩
  have R12_8 := Lib.hid (made_row mm8 hn'0 HZ0.out)
  have O13_8 : Hid (Mid w8 w7.heap.size w8.heap.size (some ⟨w7.heap.size, 0, none⟩) len0 31) := made_mid mm8 (Nat.le_refl _)
  have F6_8 : Hid (w8.heap.size ≤ w8.heap.size) := Nat.le_refl _
  have W6 : Hid (w.heap.size ≤ w7.heap.size) := B_7.out.size
  clear mm8 hg8
  have PR12_1 := Lib.hid (O13_8.out.ge F1_7.out)
  have PO13_1 : Hid (w1.heap.size ≤ w7.heap.size) := F1_7.out
  have PR12_2 := Lib.hid (O13_8.out.ge F2_7.out)
  have PO13_2 : Hid (w2.heap.size ≤ w7.heap.size) := F2_7.out
  have PR12_3 := Lib.hid (O13_8.out.ge F3_7.out)
  have PO13_3 : Hid (w4.heap.size ≤ w7.heap.size) := F3_7.out
  have PR12_4 := Lib.hid (O13_8.out.ge F4_7.out)
  have PO13_4 : Hid (w5.heap.size ≤ w7.heap.size) := F4_7.out
  have PR12_5 := Lib.hid (O13_8.out.ge F5_7.out)
  have PO13_5 : Hid (w6.heap.size ≤ w7.heap.size) := F5_7.out
  have R5_8 := Lib.hid (R5_7.out.keep bb8)
  have R6_8 := Lib.hid (R6_7.out.keep bb8)
  have O7_8 := Lib.hid (O7_7.out.keep bb8)
  have R8_8 := Lib.hid (R8_7.out.keep bb8)
  have O9_8 := Lib.hid (O9_7.out.keep bb8)
  have R10_8 := Lib.hid (R10_7.out.keep bb8)
  have O11_8 := Lib.hid (O11_7.out.keep bb8)
  have F1_8 : Hid (w1.heap.size ≤ w8.heap.size) := Nat.le_trans F1_7.out bb8.size
  have F2_8 : Hid (w2.heap.size ≤ w8.heap.size) := Nat.le_trans F2_7.out bb8.size
  have F3_8 : Hid (w4.heap.size ≤ w8.heap.size) := Nat.le_trans F3_7.out bb8.size
  have F4_8 : Hid (w5.heap.size ≤ w8.heap.size) := Nat.le_trans F4_7.out bb8.size
  have F5_8 : Hid (w6.heap.size ≤ w8.heap.size) := Nat.le_trans F5_7.out bb8.size
  have B_8 := Lib.hid (B_7.out.trans (bb8.mono B_7.out.size))
  clear R5_7 R6_7 O7_7 R8_7 O9_7 R10_7 O11_7 F1_7 F2_7 F3_7 F4_7 F5_7 B_7 bb8
  go_wp2_with fail
  refine (eqFl_any _ _ len0 _ _ z0 _ R6_8.out R12_8.out hn'0).mono ?_
  rintro e w9 ⟨rfl, bb9⟩
  have R5_9 := Lib.hid (R5_8.out.keep bb9)
  have R6_9 := Lib.hid (R6_8.out.keep bb9)
  have O7_9 := Lib.hid (O7_8.out.keep bb9)
  have R8_9 := Lib.hid (R8_8.out.keep bb9)
  have O9_9 := Lib.hid (O9_8.out.keep bb9)
  have R10_9 := Lib.hid (R10_8.out.keep bb9)
  have O11_9 := Lib.hid (O11_8.out.keep bb9)
  have R12_9 := Lib.hid (R12_8.out.keep bb9)
  have O13_9 := Lib.hid (O13_8.out.keep bb9)
  have F1_9 : Hid (w1.heap.size ≤ w9.heap.size) := Nat.le_trans F1_8.out bb9.size
  have F2_9 : Hid (w2.heap.size ≤ w9.heap.size) := Nat.le_trans F2_8.out bb9.size
  have F3_9 : Hid (w4.heap.size ≤ w9.heap.size) := Nat.le_trans F3_8.out bb9.size
  have F4_9 : Hid (w5.heap.size ≤ w9.heap.size) := Nat.le_trans F4_8.out bb9.size
  have F5_9 : Hid (w6.heap.size ≤ w9.heap.size) := Nat.le_trans F5_8.out bb9.size
  have F6_9 : Hid (w8.heap.size ≤ w9.heap.size) := Nat.le_trans F6_8.out bb9.size
  have B_9 := Lib.hid (B_8.out.trans (bb9.mono B_8.out.size))
  clear R5_8 R6_8 O7_8 R8_8 O9_8 R10_8 O11_8 R12_8 O13_8 F1_8 F2_8 F3_8 F4_8 F5_8 F6_8 B_8 bb9
  clear R12_9
  clear O13_9
  go_wp2_with fail
  have PR5_7 := Lib.hid R5_9.out.lt
  have PR6_7 := Lib.hid R6_9.out.lt
  have PO7_7 : Hid (w4.heap.size ≤ w9.heap.size) := F3_9.out
  have PR8_7 := Lib.hid R8_9.out.lt
  have PO9_7 : Hid (w5.heap.size ≤ w9.heap.size) := F4_9.out
  have PR10_7 := Lib.hid R10_9.out.lt
  have PO11_7 : Hid (w6.heap.size ≤ w9.heap.size) := F5_9.out
  refine (toF32_made a1 len1 cap1 z1 _ (H1.out.keep B_9.out) hn'1).mono ?_
  rintro e w10 ⟨rfl, mm10, bb10, hg10⟩
  have R14_10 := Lib.hid (made_row mm10 hn'1 HZ1.out)
  have O15_10 : Hid (Mid w10 w9.heap.size w10.heap.size (some ⟨w9.heap.size, 0, none⟩) len1 31) := made_mid mm10 (Nat.le_refl _)
  have F7_10 : Hid (w10.heap.size ≤ w10.heap.size) := Nat.le_refl _
  have W7 : Hid (w.heap.size ≤ w9.heap.size) := B_9.out.size
  clear mm10 hg10
  have PR14_1 := Lib.hid (O15_10.out.ge F1_9.out)
  have PO15_1 : Hid (w1.heap.size ≤ w9.heap.size) := F1_9.out
  have PR14_2 := Lib.hid (O15_10.out.ge F2_9.out)
  have PO15_2 : Hid (w2.heap.size ≤ w9.heap.size) := F2_9.out
  have PR14_3 := Lib.hid (O15_10.out.ge F3_9.out)
  have PO15_3 : Hid (w4.heap.size ≤ w9.heap.size) := F3_9.out
  have PR14_4 := Lib.hid (O15_10.out.ge F4_9.out)
  have PO15_4 : Hid (w5.heap.size ≤ w9.heap.size) := F4_9.out
  have PR14_5 := Lib.hid (O15_10.out.ge F5_9.out)
  have PO15_5 : Hid (w6.heap.size ≤ w9.heap.size) := F5_9.out
  have PR14_6 := Lib.hid (O15_10.out.ge F6_9.out)
  have PO15_6 : Hid (w8.heap.size ≤ w9.heap.size) := F6_9.out
  have R5_10 := Lib.hid (R5_9.out.keep bb10)
  have R6_10 := Lib.hid (R6_9.out.keep bb10)
  have O7_10 := Lib.hid (O7_9.out.keep bb10)
  have R8_10 := Lib.hid (R8_9.out.keep bb10)
  have O9_10 := Lib.hid (O9_9.out.keep bb10)
  have R10_10 := Lib.hid (R10_9.out.keep bb10)
  have O11_10 := Lib.hid (O11_9.out.keep bb10)
  have F1_10 : Hid (w1.heap.size ≤ w10.heap.size) := Nat.le_trans F1_9.out bb10.size
  have F2_10 : Hid (w2.heap.size ≤ w10.heap.size) := Nat.le_trans F2_9.out bb10.size
  have F3_10 : Hid (w4.heap.size ≤ w10.heap.size) := Nat.le_trans F3_9.out bb10.size
  have F4_10 : Hid (w5.heap.size ≤ w10.heap.size) := Nat.le_trans F4_9.out bb10.size
  have F5_10 : Hid (w6.heap.size ≤ w10.heap.size) := Nat.le_trans F5_9.out bb10.size
  have F6_10 : Hid (w8.heap.size ≤ w10.heap.size) := Nat.le_trans F6_9.out bb10.size
  have B_10 := Lib.hid (B_9.out.trans (bb10.mono B_9.out.size))
  clear R5_9 R6_9 O7_9 R8_9 O9_9 R10_9 O11_9 F1_9 F2_9 F3_9 F4_9 F5_9 F6_9 B_9 bb10
  go_wp2_with fail
  refine (eqFl_any _ _ len1 _ _ z1 _ R8_10.out R14_10.out hn'1).mono ?_
  rintro e w11 ⟨rfl, bb11⟩
  have R5_11 := Lib.hid (R5_10.out.keep bb11)
  have R6_11 := Lib.hid (R6_10.out.keep bb11)
  have O7_11 := Lib.hid (O7_10.out.keep bb11)
  have R8_11 := Lib.hid (R8_10.out.keep bb11)
  have O9_11 := Lib.hid (O9_10.out.keep bb11)
  have R10_11 := Lib.hid (R10_10.out.keep bb11)
  have O11_11 := Lib.hid (O11_10.out.keep bb11)
  have R14_11 := Lib.hid (R14_10.out.keep bb11)
  have O15_11 := Lib.hid (O15_10.out.keep bb11)
  have F1_11 : Hid (w1.heap.size ≤ w11.heap.size) := Nat.le_trans F1_10.out bb11.size
  have F2_11 : Hid (w2.heap.size ≤ w11.heap.size) := Nat.le_trans F2_10.out bb11.size
  have F3_11 : Hid (w4.heap.size ≤ w11.heap.size) := Nat.le_trans F3_10.out bb11.size
  have F4_11 : Hid (w5.heap.size ≤ w11.heap.size) := Nat.le_trans F4_10.out bb11.size
  have F5_11 : Hid (w6.heap.size ≤ w11.heap.size) := Nat.le_trans F5_10.out bb11.size
  have F6_11 : Hid (w8.heap.size ≤ w11.heap.size) := Nat.le_trans F6_10.out bb11.size
  have F7_11 : Hid (w10.heap.size ≤ w11.heap.size) := Nat.le_trans F7_10.out bb11.size
  have B_11 := Lib.hid (B_10.out.trans (bb11.mono B_10.out.size))
  clear R5_10 R6_10 O7_10 R8_10 O9_10 R10_10 O11_10 R14_10 O15_10 F1_10 F2_10 F3_10 F4_10 F5_10 F6_10 F7_10 B_10 bb11
  clear R14_11
  clear O15_11
  go_wp2_with fail
  refine (mkFl_any (w3.heap.size) (w4.heap.size) 1 _ len0 _ _ O7_11.out hn'0 (by omega)).mono ?_
  rintro e w12 ⟨rfl, mm12, ss12⟩
  have R5_12 := Lib.hid (R5_11.out.sepL ss12 PR5_3.out)
  have R8_12 := Lib.hid (R8_11.out.sepG ss12 PR8_3.out)
  have O9_12 := Lib.hid (O9_11.out.sep ss12 (.inr PO9_3.out))
  have R10_12 := Lib.hid (R10_11.out.sepG ss12 PR10_3.out)
  have O11_12 := Lib.hid (O11_11.out.sep ss12 (.inr PO11_3.out))
  have F1_12 : Hid (w1.heap.size ≤ w12.heap.size) := Nat.le_trans F1_11.out ss12.size
  have F2_12 : Hid (w2.heap.size ≤ w12.heap.size) := Nat.le_trans F2_11.out ss12.size
  have F3_12 : Hid (w4.heap.size ≤ w12.heap.size) := Nat.le_trans F3_11.out ss12.size
  have F4_12 : Hid (w5.heap.size ≤ w12.heap.size) := Nat.le_trans F4_11.out ss12.size
  have F5_12 : Hid (w6.heap.size ≤ w12.heap.size) := Nat.le_trans F5_11.out ss12.size
  have F6_12 : Hid (w8.heap.size ≤ w12.heap.size) := Nat.le_trans F6_11.out ss12.size
  have F7_12 : Hid (w10.heap.size ≤ w12.heap.size) := Nat.le_trans F7_11.out ss12.size
  have B_12 := Lib.hid (B_11.out.trans (ss12.below W3.out B_11.out.size))
  clear R5_11 R8_11 O9_11 R10_11 O11_11 F1_11 F2_11 F3_11 F4_11 F5_11 F6_11 F7_11 B_11 R6_11 O7_11 mm12 ss12
  have hk12 : ¬ (1 + (len0 : Int) < 0) := by omega
  go_wp2_with fail
  refine (mkFl_any (w4.heap.size) (w5.heap.size) (1 + (len0 : Int)) _ len1 _ _ O9_12.out hn'1 (by omega)).mono ?_
  rintro e w13 ⟨rfl, mm13, ss13⟩
  have R5_13 := Lib.hid (R5_12.out.sepL ss13 PR5_4.out)
  have R10_13 := Lib.hid (R10_12.out.sepG ss13 PR10_4.out)
  have O11_13 := Lib.hid (O11_12.out.sep ss13 (.inr PO11_4.out))
  have F1_13 : Hid (w1.heap.size ≤ w13.heap.size) := Nat.le_trans F1_12.out ss13.size
  have F2_13 : Hid (w2.heap.size ≤ w13.heap.size) := Nat.le_trans F2_12.out ss13.size
  have F3_13 : Hid (w4.heap.size ≤ w13.heap.size) := Nat.le_trans F3_12.out ss13.size
  have F4_13 : Hid (w5.heap.size ≤ w13.heap.size) := Nat.le_trans F4_12.out ss13.size
  have F5_13 : Hid (w6.heap.size ≤ w13.heap.size) := Nat.le_trans F5_12.out ss13.size
  have F6_13 : Hid (w8.heap.size ≤ w13.heap.size) := Nat.le_trans F6_12.out ss13.size
  have F7_13 : Hid (w10.heap.size ≤ w13.heap.size) := Nat.le_trans F7_12.out ss13.size
  have B_13 := Lib.hid (B_12.out.trans (ss13.below W4.out B_12.out.size))
  clear R5_12 R10_12 O11_12 F1_12 F2_12 F3_12 F4_12 F5_12 F6_12 F7_12 B_12 R8_12 O9_12 mm13 ss13
  have hk13 : ¬ ((1 + (len0 : Int)) + (len1 : Int) < 0) := by omega
  go_wp2_with fail
  refine (eqFl_any _ _ n _ _ ts _ R10_13.out R5_13.out hbig).mono ?_
  rintro e w14 ⟨rfl, bb14⟩
  have R5_14 := Lib.hid (R5_13.out.keep bb14)
  have R10_14 := Lib.hid (R10_13.out.keep bb14)
  have O11_14 := Lib.hid (O11_13.out.keep bb14)
  have F1_14 : Hid (w1.heap.size ≤ w14.heap.size) := Nat.le_trans F1_13.out bb14.size
  have F2_14 : Hid (w2.heap.size ≤ w14.heap.size) := Nat.le_trans F2_13.out bb14.size
  have F3_14 : Hid (w4.heap.size ≤ w14.heap.size) := Nat.le_trans F3_13.out bb14.size
  have F4_14 : Hid (w5.heap.size ≤ w14.heap.size) := Nat.le_trans F4_13.out bb14.size
  have F5_14 : Hid (w6.heap.size ≤ w14.heap.size) := Nat.le_trans F5_13.out bb14.size
  have F6_14 : Hid (w8.heap.size ≤ w14.heap.size) := Nat.le_trans F6_13.out bb14.size
  have F7_14 : Hid (w10.heap.size ≤ w14.heap.size) := Nat.le_trans F7_13.out bb14.size
  have B_14 := Lib.hid (B_13.out.trans (bb14.mono B_13.out.size))
  clear R5_13 R10_13 O11_13 F1_13 F2_13 F3_13 F4_13 F5_13 F6_13 F7_13 B_13 bb14
  go_wp2_with fail
  refine (mkFl_any (w5.heap.size) (w6.heap.size) 1 _ n _ _ O11_14.out hbig (by omega)).mono ?_
  rintro e w15 ⟨rfl, mm15, ss15⟩
  have R5_15 := Lib.hid (R5_14.out.sepL ss15 PR5_5.out)
  have F1_15 : Hid (w1.heap.size ≤ w15.heap.size) := Nat.le_trans F1_14.out ss15.size
  have F2_15 : Hid (w2.heap.size ≤ w15.heap.size) := Nat.le_trans F2_14.out ss15.size
  have F3_15 : Hid (w4.heap.size ≤ w15.heap.size) := Nat.le_trans F3_14.out ss15.size
  have F4_15 : Hid (w5.heap.size ≤ w15.heap.size) := Nat.le_trans F4_14.out ss15.size
  have F5_15 : Hid (w6.heap.size ≤ w15.heap.size) := Nat.le_trans F5_14.out ss15.size
  have F6_15 : Hid (w8.heap.size ≤ w15.heap.size) := Nat.le_trans F6_14.out ss15.size
  have F7_15 : Hid (w10.heap.size ≤ w15.heap.size) := Nat.le_trans F7_14.out ss15.size
  have B_15 := Lib.hid (B_14.out.trans (ss15.below W5.out B_14.out.size))
  have M16_15 := Lib.hid mm15
  clear R5_14 F1_14 F2_14 F3_14 F4_14 F5_14 F6_14 F7_14 B_14 R10_14 O11_14 mm15 ss15
  have hk15 : ¬ (1 + (n : Int) < 0) := by omega
  go_wp2_with fail
  refine (hdFl_any 1 _ n _ _ M16_15.out hsml rfl).mono ?_
  rintro e w16 ⟨rfl, bb16⟩
  have R5_16 := Lib.hid (R5_15.out.keep bb16)
  have M16_16 := Lib.hid (M16_15.out.keep bb16)
  have F1_16 : Hid (w1.heap.size ≤ w16.heap.size) := Nat.le_trans F1_15.out bb16.size
  have F2_16 : Hid (w2.heap.size ≤ w16.heap.size) := Nat.le_trans F2_15.out bb16.size
  have F3_16 : Hid (w4.heap.size ≤ w16.heap.size) := Nat.le_trans F3_15.out bb16.size
  have F4_16 : Hid (w5.heap.size ≤ w16.heap.size) := Nat.le_trans F4_15.out bb16.size
  have F5_16 : Hid (w6.heap.size ≤ w16.heap.size) := Nat.le_trans F5_15.out bb16.size
  have F6_16 : Hid (w8.heap.size ≤ w16.heap.size) := Nat.le_trans F6_15.out bb16.size
  have F7_16 : Hid (w10.heap.size ≤ w16.heap.size) := Nat.le_trans F7_15.out bb16.size
  have B_16 := Lib.hid (B_15.out.trans (bb16.mono B_15.out.size))
  clear R5_15 M16_15 F1_15 F2_15 F3_15 F4_15 F5_15 F6_15 F7_15 B_15 bb16
  go_wp2_with fail
  have PR5_8 := Lib.hid R5_16.out.lt
  refine (toF32_made a0 len0 cap0 z0 _ (H0.out.keep B_16.out) hn'0).mono ?_
  rintro e w17 ⟨rfl, mm17, bb17, hg17⟩
  have R17_17 := Lib.hid (made_row mm17 hn'0 HZ0.out)
  have O18_17 : Hid (Mid w17 w16.heap.size w17.heap.size (some ⟨w16.heap.size, 0, none⟩) len0 31) := made_mid mm17 (Nat.le_refl _)
  have F8_17 : Hid (w17.heap.size ≤ w17.heap.size) := Nat.le_refl _
  have W8 : Hid (w.heap.size ≤ w16.heap.size) := B_16.out.size
  clear mm17 hg17
  have PR17_1 := Lib.hid (O18_17.out.ge F1_16.out)
  have PO18_1 : Hid (w1.heap.size ≤ w16.heap.size) := F1_16.out
  have PR17_2 := Lib.hid (O18_17.out.ge F2_16.out)
  have PO18_2 : Hid (w2.heap.size ≤ w16.heap.size) := F2_16.out
  have PR17_3 := Lib.hid (O18_17.out.ge F3_16.out)
  have PO18_3 : Hid (w4.heap.size ≤ w16.heap.size) := F3_16.out
  have PR17_4 := Lib.hid (O18_17.out.ge F4_16.out)
  have PO18_4 : Hid (w5.heap.size ≤ w16.heap.size) := F4_16.out
  have PR17_5 := Lib.hid (O18_17.out.ge F5_16.out)
  have PO18_5 : Hid (w6.heap.size ≤ w16.heap.size) := F5_16.out
  have PR17_6 := Lib.hid (O18_17.out.ge F6_16.out)
  have PO18_6 : Hid (w8.heap.size ≤ w16.heap.size) := F6_16.out
  have PR17_7 := Lib.hid (O18_17.out.ge F7_16.out)
  have PO18_7 : Hid (w10.heap.size ≤ w16.heap.size) := F7_16.out
  have R5_17 := Lib.hid (R5_16.out.keep bb17)
  have M16_17 := Lib.hid (M16_16.out.keep bb17)
  have F1_17 : Hid (w1.heap.size ≤ w17.heap.size) := Nat.le_trans F1_16.out bb17.size
  have F2_17 : Hid (w2.heap.size ≤ w17.heap.size) := Nat.le_trans F2_16.out bb17.size
  have F3_17 : Hid (w4.heap.size ≤ w17.heap.size) := Nat.le_trans F3_16.out bb17.size
  have F4_17 : Hid (w5.heap.size ≤ w17.heap.size) := Nat.le_trans F4_16.out bb17.size
  have F5_17 : Hid (w6.heap.size ≤ w17.heap.size) := Nat.le_trans F5_16.out bb17.size
  have F6_17 : Hid (w8.heap.size ≤ w17.heap.size) := Nat.le_trans F6_16.out bb17.size
  have F7_17 : Hid (w10.heap.size ≤ w17.heap.size) := Nat.le_trans F7_16.out bb17.size
  have B_17 := Lib.hid (B_16.out.trans (bb17.mono B_16.out.size))
  clear R5_16 M16_16 F1_16 F2_16 F3_16 F4_16 F5_16 F6_16 F7_16 B_16 bb17
  go_wp2_with fail
  have PR5_9 := Lib.hid R5_17.out.lt
  have PR17_9 := Lib.hid R17_17.out.lt
  have PO18_9 : Hid (w17.heap.size ≤ w17.heap.size) := F8_17.out
  refine (toF32_made a1 len1 cap1 z1 _ (H1.out.keep B_17.out) hn'1).mono ?_
  rintro e w18 ⟨rfl, mm18, bb18, hg18⟩
  have R19_18 := Lib.hid (made_row mm18 hn'1 HZ1.out)
  have O20_18 : Hid (Mid w18 w17.heap.size w18.heap.size (some ⟨w17.heap.size, 0, none⟩) len1 31) := made_mid mm18 (Nat.le_refl _)
  have F9_18 : Hid (w18.heap.size ≤ w18.heap.size) := Nat.le_refl _
  have W9 : Hid (w.heap.size ≤ w17.heap.size) := B_17.out.size
  clear mm18 hg18
  have PR19_1 := Lib.hid (O20_18.out.ge F1_17.out)
  have PO20_1 : Hid (w1.heap.size ≤ w17.heap.size) := F1_17.out
  have PR19_2 := Lib.hid (O20_18.out.ge F2_17.out)
  have PO20_2 : Hid (w2.heap.size ≤ w17.heap.size) := F2_17.out
  have PR19_3 := Lib.hid (O20_18.out.ge F3_17.out)
  have PO20_3 : Hid (w4.heap.size ≤ w17.heap.size) := F3_17.out
  have PR19_4 := Lib.hid (O20_18.out.ge F4_17.out)
  have PO20_4 : Hid (w5.heap.size ≤ w17.heap.size) := F4_17.out
  have PR19_5 := Lib.hid (O20_18.out.ge F5_17.out)
  have PO20_5 : Hid (w6.heap.size ≤ w17.heap.size) := F5_17.out
  have PR19_6 := Lib.hid (O20_18.out.ge F6_17.out)
  have PO20_6 : Hid (w8.heap.size ≤ w17.heap.size) := F6_17.out
  have PR19_7 := Lib.hid (O20_18.out.ge F7_17.out)
  have PO20_7 : Hid (w10.heap.size ≤ w17.heap.size) := F7_17.out
  have PR19_8 := Lib.hid (O20_18.out.ge F8_17.out)
  have PO20_8 : Hid (w17.heap.size ≤ w17.heap.size) := F8_17.out
  have R5_18 := Lib.hid (R5_17.out.keep bb18)
  have M16_18 := Lib.hid (M16_17.out.keep bb18)
  have R17_18 := Lib.hid (R17_17.out.keep bb18)
  have O18_18 := Lib.hid (O18_17.out.keep bb18)
  have F1_18 : Hid (w1.heap.size ≤ w18.heap.size) := Nat.le_trans F1_17.out bb18.size
  have F2_18 : Hid (w2.heap.size ≤ w18.heap.size) := Nat.le_trans F2_17.out bb18.size
  have F3_18 : Hid (w4.heap.size ≤ w18.heap.size) := Nat.le_trans F3_17.out bb18.size
  have F4_18 : Hid (w5.heap.size ≤ w18.heap.size) := Nat.le_trans F4_17.out bb18.size
  have F5_18 : Hid (w6.heap.size ≤ w18.heap.size) := Nat.le_trans F5_17.out bb18.size
  have F6_18 : Hid (w8.heap.size ≤ w18.heap.size) := Nat.le_trans F6_17.out bb18.size
  have F7_18 : Hid (w10.heap.size ≤ w18.heap.size) := Nat.le_trans F7_17.out bb18.size
  have F8_18 : Hid (w17.heap.size ≤ w18.heap.size) := Nat.le_trans F8_17.out bb18.size
  have B_18 := Lib.hid (B_17.out.trans (bb18.mono B_17.out.size))
  clear R5_17 M16_17 R17_17 O18_17 F1_17 F2_17 F3_17 F4_17 F5_17 F6_17 F7_17 F8_17 B_17 bb18
  go_wp2_with fail
  have PR5_10 := Lib.hid R5_18.out.lt
  have PR17_10 := Lib.hid R17_18.out.lt
  have PO18_10 : Hid (w17.heap.size ≤ w18.heap.size) := F8_18.out
  have PR19_10 := Lib.hid R19_18.out.lt
  have PO20_10 : Hid (w18.heap.size ≤ w18.heap.size) := F9_18.out
  refine (iDrawAgain_any (some ⟨w16.heap.size, 0, none⟩) len0 len0 z0 (some ⟨w17.heap.size, 0, none⟩) len1 len1 z1 (n2) _ R17_18.out R19_18.out (Nat.le_refl _) (Nat.le_refl _) hs2 ).mono ?_
  rintro e w19 ⟨⟨ar19, cr19, rfl, hr19, ho19⟩, bb19⟩
  rw [HTS.out, HNL.out] at hr19 ho19
  rw [HTS.out, HNL.out, HBV.out]
  have R21_19 := Lib.hid hr19
  have O22_19 := Lib.hid (Mid.of_own ho19)
  clear hr19 ho19
  have F10_19 : Hid (w19.heap.size ≤ w19.heap.size) := Nat.le_refl _
  have W10 : Hid (w.heap.size ≤ w18.heap.size) := B_18.out.size
  have PR21_1 := Lib.hid (O22_19.out.ge F1_18.out)
  have PO22_1 : Hid (w1.heap.size ≤ w18.heap.size) := F1_18.out
  have PR21_2 := Lib.hid (O22_19.out.ge F2_18.out)
  have PO22_2 : Hid (w2.heap.size ≤ w18.heap.size) := F2_18.out
  have PR21_3 := Lib.hid (O22_19.out.ge F3_18.out)
  have PO22_3 : Hid (w4.heap.size ≤ w18.heap.size) := F3_18.out
  have PR21_4 := Lib.hid (O22_19.out.ge F4_18.out)
  have PO22_4 : Hid (w5.heap.size ≤ w18.heap.size) := F4_18.out
  have PR21_5 := Lib.hid (O22_19.out.ge F5_18.out)
  have PO22_5 : Hid (w6.heap.size ≤ w18.heap.size) := F5_18.out
  have PR21_6 := Lib.hid (O22_19.out.ge F6_18.out)
  have PO22_6 : Hid (w8.heap.size ≤ w18.heap.size) := F6_18.out
  have PR21_7 := Lib.hid (O22_19.out.ge F7_18.out)
  have PO22_7 : Hid (w10.heap.size ≤ w18.heap.size) := F7_18.out
  have PR21_8 := Lib.hid (O22_19.out.ge F8_18.out)
  have PO22_8 : Hid (w17.heap.size ≤ w18.heap.size) := F8_18.out
  have PR21_9 := Lib.hid (O22_19.out.ge F9_18.out)
  have PO22_9 : Hid (w18.heap.size ≤ w18.heap.size) := F9_18.out
  have R5_19 := Lib.hid (R5_18.out.keep bb19)
  have M16_19 := Lib.hid (M16_18.out.keep bb19)
  have R17_19 := Lib.hid (R17_18.out.keep bb19)
  have O18_19 := Lib.hid (O18_18.out.keep bb19)
  have R19_19 := Lib.hid (R19_18.out.keep bb19)
  have O20_19 := Lib.hid (O20_18.out.keep bb19)
  have F1_19 : Hid (w1.heap.size ≤ w19.heap.size) := Nat.le_trans F1_18.out bb19.size
  have F2_19 : Hid (w2.heap.size ≤ w19.heap.size) := Nat.le_trans F2_18.out bb19.size
  have F3_19 : Hid (w4.heap.size ≤ w19.heap.size) := Nat.le_trans F3_18.out bb19.size
  have F4_19 : Hid (w5.heap.size ≤ w19.heap.size) := Nat.le_trans F4_18.out bb19.size
  have F5_19 : Hid (w6.heap.size ≤ w19.heap.size) := Nat.le_trans F5_18.out bb19.size
  have F6_19 : Hid (w8.heap.size ≤ w19.heap.size) := Nat.le_trans F6_18.out bb19.size
  have F7_19 : Hid (w10.heap.size ≤ w19.heap.size) := Nat.le_trans F7_18.out bb19.size
  have F8_19 : Hid (w17.heap.size ≤ w19.heap.size) := Nat.le_trans F8_18.out bb19.size
  have F9_19 : Hid (w18.heap.size ≤ w19.heap.size) := Nat.le_trans F9_18.out bb19.size
  have B_19 := Lib.hid (B_18.out.trans (bb19.mono B_18.out.size))
  clear R5_18 M16_18 R17_18 O18_18 R19_18 O20_18 F1_18 F2_18 F3_18 F4_18 F5_18 F6_18 F7_18 F8_18 F9_18 B_18 bb19
  clear R17_19
  clear O18_19
  clear R19_19
  clear O20_19
  go_wp2_with fail
  refine (eqFl_any _ _ n _ _ ts _ R21_19.out R5_19.out hbig).mono ?_
  rintro e w20 ⟨rfl, bb20⟩
  have R5_20 := Lib.hid (R5_19.out.keep bb20)
  have M16_20 := Lib.hid (M16_19.out.keep bb20)
  have R21_20 := Lib.hid (R21_19.out.keep bb20)
  have O22_20 := Lib.hid (O22_19.out.keep bb20)
  have F1_20 : Hid (w1.heap.size ≤ w20.heap.size) := Nat.le_trans F1_19.out bb20.size
  have F2_20 : Hid (w2.heap.size ≤ w20.heap.size) := Nat.le_trans F2_19.out bb20.size
  have F3_20 : Hid (w4.heap.size ≤ w20.heap.size) := Nat.le_trans F3_19.out bb20.size
  have F4_20 : Hid (w5.heap.size ≤ w20.heap.size) := Nat.le_trans F4_19.out bb20.size
  have F5_20 : Hid (w6.heap.size ≤ w20.heap.size) := Nat.le_trans F5_19.out bb20.size
  have F6_20 : Hid (w8.heap.size ≤ w20.heap.size) := Nat.le_trans F6_19.out bb20.size
  have F7_20 : Hid (w10.heap.size ≤ w20.heap.size) := Nat.le_trans F7_19.out bb20.size
  have F8_20 : Hid (w17.heap.size ≤ w20.heap.size) := Nat.le_trans F8_19.out bb20.size
  have F9_20 : Hid (w18.heap.size ≤ w20.heap.size) := Nat.le_trans F9_19.out bb20.size
  have F10_20 : Hid (w19.heap.size ≤ w20.heap.size) := Nat.le_trans F10_19.out bb20.size
  have B_20 := Lib.hid (B_19.out.trans (bb20.mono B_19.out.size))
  clear R5_19 M16_19 R21_19 O22_19 F1_19 F2_19 F3_19 F4_19 F5_19 F6_19 F7_19 F8_19 F9_19 F10_19 B_19 bb20
  clear R21_20
  clear O22_20
  clear R5_20
  go_wp2_with fail
  refine (hdFl_any 1 _ n _ _ M16_20.out hsml rfl).mono ?_
  rintro e w21 ⟨rfl, bb21⟩
  have M16_21 := Lib.hid (M16_20.out.keep bb21)
  have F1_21 : Hid (w1.heap.size ≤ w21.heap.size) := Nat.le_trans F1_20.out bb21.size
  have F2_21 : Hid (w2.heap.size ≤ w21.heap.size) := Nat.le_trans F2_20.out bb21.size
  have F3_21 : Hid (w4.heap.size ≤ w21.heap.size) := Nat.le_trans F3_20.out bb21.size
  have F4_21 : Hid (w5.heap.size ≤ w21.heap.size) := Nat.le_trans F4_20.out bb21.size
  have F5_21 : Hid (w6.heap.size ≤ w21.heap.size) := Nat.le_trans F5_20.out bb21.size
  have F6_21 : Hid (w8.heap.size ≤ w21.heap.size) := Nat.le_trans F6_20.out bb21.size
  have F7_21 : Hid (w10.heap.size ≤ w21.heap.size) := Nat.le_trans F7_20.out bb21.size
  have F8_21 : Hid (w17.heap.size ≤ w21.heap.size) := Nat.le_trans F8_20.out bb21.size
  have F9_21 : Hid (w18.heap.size ≤ w21.heap.size) := Nat.le_trans F9_20.out bb21.size
  have F10_21 : Hid (w19.heap.size ≤ w21.heap.size) := Nat.le_trans F10_20.out bb21.size
  have B_21 := Lib.hid (B_20.out.trans (bb21.mono B_20.out.size))
  clear M16_20 F1_20 F2_20 F3_20 F4_20 F5_20 F6_20 F7_20 F8_20 F9_20 F10_20 B_20 bb21
  go_wp2_with fail
  go_ret
  exact ⟨rfl, B_21.out⟩
end Go.Proofs.Ytppkeabkjabhdaa
