/-
  The exact law of steps of a chain. No conditions beyond the statement's own.
-/
import Derived.Test.YtiebbmgehhcdmaaStpN
import Derived.Test.YtiebbmgehhcdmaaMkF
import Derived.Deep.RegionHeld3
namespace Go.Proofs.Ytiebbmgehhcdmaa
open Go.RowKit Dec Flt Syl Sep Cha Cm Liv Stp
set_option maxRecDepth 40000 in
set_option maxHeartbeats 8000000 in
theorem fnExactChainSteps_walk (p0 : Int) (_wp0 : (Lit.int .i64 p0).wf = true) (a0 : Option Addr) (len0 cap0 : Nat) (z0 : List Nat) (a1 : Option Addr) (len1 cap1 : Nat) (z1 : List Nat) (n2 : Nat) (_wn2 : (Lit.float .f32 n2).wf = true) (n3 : Int) (_wn3 : (Lit.int .i64 n3).wf = true) (w : World) (h0 : FRow w a0 len0 z0) (h1 : FRow w a1 len1 z1) :
    Calls Try.prog 8 #[.agg #[.int .i64 p0, .slice a0 len0 cap0], .slice a1 len1 cap1, .float .f32 n2, .int .i64 n3] w fun e w' => e = .returned (.bool true) ∧ Below w.heap.size w w' := by
  have hml0 : len0 ≤ maxLen := h0.2.1
  have H0 := Lib.hid h0
  have HZ0 := Lib.hid h0.2.2.1
  have HL0 := Lib.hid h0.1
  have hml1 : len1 ≤ maxLen := h1.2.1
  have H1 := Lib.hid h1
  have HZ1 := Lib.hid h1.2.2.1
  have HL1 := Lib.hid h1.1
  have hxb : ∀ x : Bool, (x != x) = false := by simp
  have hxi : ∀ x : Int, (x != x) = false := by simp
  clear h0 h1
  obtain ⟨ts, hts⟩ : ∃ ts, stpA p0 z0 z1 n2 n3 = ts := ⟨_, rfl⟩
  obtain ⟨n, hnl⟩ : ∃ n, ts.length = n := ⟨_, rfl⟩
  have hsml : n ≤ 1023 := by rw [← hnl, ← hts]; exact stpA_len p0 z0 z1 n2 n3
  have hbig : n ≤ 1048576 := by omega
  have HTS := Lib.hid hts
  have HNL := Lib.hid hnl
  clear hts hnl
  have hk0 : ¬ ((1 : Int) + (n : Int) < 0) := by omega
  obtain ⟨bv, hbv⟩ : ∃ bv, stpB p0 z0 z1 n2 n3 = bv := ⟨_, rfl⟩
  have HBV := Lib.hid hbv
  clear hbv
  by_cases hn1 : (1048576 : Int) < (len1 : Int)
  · go_enter Try.func8, Try.ntmps8
    go_wp2_with fail
    go_ret
    exact ⟨rfl, by first | exact Below.refl _ _ | exact (Below.refl _ _).alloc (Nat.le_refl _) _⟩
  have hn'1 : len1 ≤ 1048576 := by omega
  have hs2 : n2 < 4294967296 := by simpa [Lit.wf] using _wn2
  go_enter Try.func8, Try.ntmps8
  go_wp2_with fail
  obtain ⟨w1, hW1⟩ : ∃ W, W = (w.alloc (.cells #[.int .i64 p0, .slice a0 len0 cap0] 41)) := ⟨_, rfl⟩
  have bb1 : Below w.heap.size w w1 := by rw [hW1]; exact ((Below.refl _ _).alloc (Nat.le_refl _) _)
  have K1_1 : Hid (Blk.Blk w1 (w.heap.size) [.int .i64 p0, .slice a0 len0 cap0] 41) := by
    rw [hW1]
    have hh := Blk.Blk.new w #[.int .i64 p0, .slice a0 len0 cap0] 41
    exact hh
  rw [← hW1]
  clear hW1
  have B_1 := Lib.hid bb1
  clear bb1
  refine (szCha_any p0 a0 len0 cap0 (1048576) _ (by omega) hml0).mono ?_
  rintro e w2 ⟨rfl, bb2⟩
  have K1_2 := Lib.hid (K1_1.out.keep bb2)
  have B_2 := Lib.hid (B_1.out.trans (bb2.mono B_1.out.size))
  clear K1_1 B_1 bb2
  by_cases hn0 : (1048576 : Int) < (len0 : Int)
  · rw [if_pos hn0]
    go_wp2_with fail
    go_ret
    exact ⟨rfl, B_2.out⟩
  rw [if_neg hn0]
  have hn'0 : len0 ≤ 1048576 := by omega
  have hnn0 : ¬ ((1048576 : Int) - len0 < 0) := by omega
  clear hn0
  obtain ⟨⟨cK10, cK11⟩, _, _⟩ := K1_2.out.two
  go_wp2_with fail
  clear cK10 cK11
  have PK1_1 := Lib.hid K1_2.out.lt
  refine (toCha_made p0 a0 len0 cap0 z0 _ (H0.out.keep B_2.out) hn'0).mono ?_
  rintro e w3 ⟨⟨g3, rfl, hg3, mm3⟩, bb3⟩
  have R2_3 := Lib.hid (made_row mm3 hn'0 HZ0.out)
  have O3_3 : Hid (Mid w3 w2.heap.size w3.heap.size (some ⟨g3, 0, none⟩) len0 22) := made_mid mm3 (hg3)
  have F1_3 : Hid (w3.heap.size ≤ w3.heap.size) := Nat.le_refl _
  have W1 : Hid (w.heap.size ≤ w2.heap.size) := B_2.out.size
  clear mm3 hg3
  have K1_3 := Lib.hid (K1_2.out.keep bb3)
  have B_3 := Lib.hid (B_2.out.trans (bb3.mono B_2.out.size))
  clear K1_2 B_2 bb3
  go_wp2_with fail
  have PK1_2 := Lib.hid K1_3.out.lt
  have PR2_2 := Lib.hid R2_3.out.lt
  have PO3_2 : Hid (w3.heap.size ≤ w3.heap.size) := F1_3.out
  refine (toF32_made a1 len1 cap1 z1 _ (H1.out.keep B_3.out) hn'1).mono ?_
  rintro e w4 ⟨rfl, mm4, bb4, hg4⟩
  have R4_4 := Lib.hid (made_row mm4 hn'1 HZ1.out)
  have O5_4 : Hid (Mid w4 w3.heap.size w4.heap.size (some ⟨w3.heap.size, 0, none⟩) len1 22) := made_mid mm4 (Nat.le_refl _)
  have F2_4 : Hid (w4.heap.size ≤ w4.heap.size) := Nat.le_refl _
  have W2 : Hid (w.heap.size ≤ w3.heap.size) := B_3.out.size
  clear mm4 hg4
  have PR4_1 := Lib.hid (O5_4.out.ge F1_3.out)
  have PO5_1 : Hid (w3.heap.size ≤ w3.heap.size) := F1_3.out
  have K1_4 := Lib.hid (K1_3.out.keep bb4)
  have R2_4 := Lib.hid (R2_3.out.keep bb4)
  have O3_4 := Lib.hid (O3_3.out.keep bb4)
  have F1_4 : Hid (w3.heap.size ≤ w4.heap.size) := Nat.le_trans F1_3.out bb4.size
  have B_4 := Lib.hid (B_3.out.trans (bb4.mono B_3.out.size))
  clear K1_3 R2_3 O3_3 F1_3 B_3 bb4
  go_wp2_with fail
  refine (sChainSteps_any p0 (some ⟨g3, 0, none⟩) len0 len0 z0 (some ⟨w3.heap.size, 0, none⟩) len1 len1 z1 (n2) (n3) _ R2_4.out R4_4.out hs2 ).mono ?_
  rintro e w5 ⟨⟨ar5, cr5, rfl, hr5⟩, bb5⟩
  rw [HTS.out, HNL.out] at hr5
  rw [HTS.out, HNL.out, HBV.out]
  have R6_5 := Lib.hid hr5
  clear hr5
  have K1_5 := Lib.hid (K1_4.out.keep bb5)
  have R2_5 := Lib.hid (R2_4.out.keep bb5)
  have O3_5 := Lib.hid (O3_4.out.keep bb5)
  have R4_5 := Lib.hid (R4_4.out.keep bb5)
  have O5_5 := Lib.hid (O5_4.out.keep bb5)
  have F1_5 : Hid (w3.heap.size ≤ w5.heap.size) := Nat.le_trans F1_4.out bb5.size
  have F2_5 : Hid (w4.heap.size ≤ w5.heap.size) := Nat.le_trans F2_4.out bb5.size
  have B_5 := Lib.hid (B_4.out.trans (bb5.mono B_4.out.size))
  clear K1_4 R2_4 O3_4 R4_4 O5_4 F1_4 F2_4 B_4 bb5
  clear R2_5
  clear O3_5
  clear R4_5
  clear O5_5
  obtain ⟨⟨cK10, cK11⟩, _, _⟩ := K1_5.out.two
  go_wp2_with fail
  clear cK10 cK11
  have PK1_3 := Lib.hid K1_5.out.lt
  have PR6_3 := Lib.hid R6_5.out.lt
  refine (toCha_made p0 a0 len0 cap0 z0 _ (H0.out.keep B_5.out) hn'0).mono ?_
  rintro e w6 ⟨⟨g6, rfl, hg6, mm6⟩, bb6⟩
  have R7_6 := Lib.hid (made_row mm6 hn'0 HZ0.out)
  have O8_6 : Hid (Mid w6 w5.heap.size w6.heap.size (some ⟨g6, 0, none⟩) len0 22) := made_mid mm6 (hg6)
  have F3_6 : Hid (w6.heap.size ≤ w6.heap.size) := Nat.le_refl _
  have W3 : Hid (w.heap.size ≤ w5.heap.size) := B_5.out.size
  clear mm6 hg6
  have PR7_1 := Lib.hid (O8_6.out.ge F1_5.out)
  have PO8_1 : Hid (w3.heap.size ≤ w5.heap.size) := F1_5.out
  have PR7_2 := Lib.hid (O8_6.out.ge F2_5.out)
  have PO8_2 : Hid (w4.heap.size ≤ w5.heap.size) := F2_5.out
  have K1_6 := Lib.hid (K1_5.out.keep bb6)
  have R6_6 := Lib.hid (R6_5.out.keep bb6)
  have F1_6 : Hid (w3.heap.size ≤ w6.heap.size) := Nat.le_trans F1_5.out bb6.size
  have F2_6 : Hid (w4.heap.size ≤ w6.heap.size) := Nat.le_trans F2_5.out bb6.size
  have B_6 := Lib.hid (B_5.out.trans (bb6.mono B_5.out.size))
  clear K1_5 R6_5 F1_5 F2_5 B_5 bb6
  go_wp2_with fail
  obtain ⟨w7, hW7⟩ : ∃ W, W = (w6.alloc (.cells #[.int .i64 p0, .slice (some ⟨g6, 0, none⟩) len0 len0] 44)) := ⟨_, rfl⟩
  have bb7 : Below w6.heap.size w6 w7 := by rw [hW7]; exact ((Below.refl _ _).alloc (Nat.le_refl _) _)
  have K9_7 : Hid (Blk.Blk w7 (w6.heap.size) [.int .i64 p0, .slice (some ⟨g6, 0, none⟩) len0 len0] 44) := by
    rw [hW7]
    have hh := Blk.Blk.new w6 #[.int .i64 p0, .slice (some ⟨g6, 0, none⟩) len0 len0] 44
    exact hh
  have PK9_1 : Hid (w3.heap.size ≤ w6.heap.size) := Nat.le_trans F1_6.out (by simp)
  have PK9_2 : Hid (w4.heap.size ≤ w6.heap.size) := Nat.le_trans F2_6.out (by simp)
  have PK9_3 : Hid (w6.heap.size ≤ w6.heap.size) := Nat.le_trans F3_6.out (by simp)
  rw [← hW7]
  clear hW7
  have K1_7 := Lib.hid (K1_6.out.keep bb7)
  have R6_7 := Lib.hid (R6_6.out.keep bb7)
  have R7_7 := Lib.hid (R7_6.out.keep bb7)
  have O8_7 := Lib.hid (O8_6.out.keep bb7)
  have F1_7 : Hid (w3.heap.size ≤ w7.heap.size) := Nat.le_trans F1_6.out bb7.size
  have F2_7 : Hid (w4.heap.size ≤ w7.heap.size) := Nat.le_trans F2_6.out bb7.size
  have F3_7 : Hid (w6.heap.size ≤ w7.heap.size) := Nat.le_trans F3_6.out bb7.size
  have B_7 := Lib.hid (B_6.out.trans (bb7.mono B_6.out.size))
  clear K1_6 R6_6 R7_6 O8_6 F1_6 F2_6 F3_6 B_6 bb7
  have PK1_4 := Lib.hid K1_7.out.lt
  have PR6_4 := Lib.hid R6_7.out.lt
  have PR7_4 := Lib.hid R7_7.out.lt
  have PO8_4 : Hid (w6.heap.size ≤ w7.heap.size) := F3_7.out
  have PK9_4 := Lib.hid K9_7.out.lt
  refine (toF32_made a1 len1 cap1 z1 _ (H1.out.keep B_7.out) hn'1).mono ?_
  rintro e w8 ⟨rfl, mm8, bb8, hg8⟩
  have R10_8 := Lib.hid (made_row mm8 hn'1 HZ1.out)
  have O11_8 : Hid (Mid w8 w7.heap.size w8.heap.size (some ⟨w7.heap.size, 0, none⟩) len1 22) := made_mid mm8 (Nat.le_refl _)
  have F4_8 : Hid (w8.heap.size ≤ w8.heap.size) := Nat.le_refl _
  have W4 : Hid (w.heap.size ≤ w7.heap.size) := B_7.out.size
  clear mm8 hg8
  have PR10_1 := Lib.hid (O11_8.out.ge F1_7.out)
  have PO11_1 : Hid (w3.heap.size ≤ w7.heap.size) := F1_7.out
  have PR10_2 := Lib.hid (O11_8.out.ge F2_7.out)
  have PO11_2 : Hid (w4.heap.size ≤ w7.heap.size) := F2_7.out
  have PR10_3 := Lib.hid (O11_8.out.ge F3_7.out)
  have PO11_3 : Hid (w6.heap.size ≤ w7.heap.size) := F3_7.out
  have K1_8 := Lib.hid (K1_7.out.keep bb8)
  have R6_8 := Lib.hid (R6_7.out.keep bb8)
  have R7_8 := Lib.hid (R7_7.out.keep bb8)
  have O8_8 := Lib.hid (O8_7.out.keep bb8)
  have K9_8 := Lib.hid (K9_7.out.keep bb8)
  have F1_8 : Hid (w3.heap.size ≤ w8.heap.size) := Nat.le_trans F1_7.out bb8.size
  have F2_8 : Hid (w4.heap.size ≤ w8.heap.size) := Nat.le_trans F2_7.out bb8.size
  have F3_8 : Hid (w6.heap.size ≤ w8.heap.size) := Nat.le_trans F3_7.out bb8.size
  have B_8 := Lib.hid (B_7.out.trans (bb8.mono B_7.out.size))
  clear K1_7 R6_7 R7_7 O8_7 K9_7 F1_7 F2_7 F3_7 B_7 bb8
  obtain ⟨⟨cK90, cK91⟩, _, _⟩ := K9_8.out.two
  go_wp2_with fail
  clear cK90 cK91
  have PK1_5 := Lib.hid K1_8.out.lt
  have PR6_5 := Lib.hid R6_8.out.lt
  have PR7_5 := Lib.hid R7_8.out.lt
  have PO8_5 : Hid (w6.heap.size ≤ w8.heap.size) := F3_8.out
  have PK9_5 := Lib.hid K9_8.out.lt
  have PR10_5 := Lib.hid R10_8.out.lt
  have PO11_5 : Hid (w8.heap.size ≤ w8.heap.size) := F4_8.out
  refine (iChainSteps_any p0 (some ⟨g6, 0, none⟩) len0 len0 z0 (some ⟨w7.heap.size, 0, none⟩) len1 len1 z1 (n2) (n3) _ R7_8.out R10_8.out (Nat.le_refl _) (Nat.le_refl _) hs2 hml0).mono ?_
  rintro e w9 ⟨⟨ar9, cr9, rfl, hr9, ho9⟩, bb9⟩
  rw [HTS.out, HNL.out] at hr9 ho9
  rw [HTS.out, HNL.out, HBV.out]
  have R12_9 := Lib.hid hr9
  have O13_9 := Lib.hid (Mid.of_own ho9)
  clear hr9 ho9
  have F5_9 : Hid (w9.heap.size ≤ w9.heap.size) := Nat.le_refl _
  have W5 : Hid (w.heap.size ≤ w8.heap.size) := B_8.out.size
  have PR12_1 := Lib.hid (O13_9.out.ge F1_8.out)
  have PO13_1 : Hid (w3.heap.size ≤ w8.heap.size) := F1_8.out
  have PR12_2 := Lib.hid (O13_9.out.ge F2_8.out)
  have PO13_2 : Hid (w4.heap.size ≤ w8.heap.size) := F2_8.out
  have PR12_3 := Lib.hid (O13_9.out.ge F3_8.out)
  have PO13_3 : Hid (w6.heap.size ≤ w8.heap.size) := F3_8.out
  have PR12_4 := Lib.hid (O13_9.out.ge F4_8.out)
  have PO13_4 : Hid (w8.heap.size ≤ w8.heap.size) := F4_8.out
  have K1_9 := Lib.hid (K1_8.out.keep bb9)
  have R6_9 := Lib.hid (R6_8.out.keep bb9)
  have R7_9 := Lib.hid (R7_8.out.keep bb9)
  have O8_9 := Lib.hid (O8_8.out.keep bb9)
  have K9_9 := Lib.hid (K9_8.out.keep bb9)
  have R10_9 := Lib.hid (R10_8.out.keep bb9)
  have O11_9 := Lib.hid (O11_8.out.keep bb9)
  have F1_9 : Hid (w3.heap.size ≤ w9.heap.size) := Nat.le_trans F1_8.out bb9.size
  have F2_9 : Hid (w4.heap.size ≤ w9.heap.size) := Nat.le_trans F2_8.out bb9.size
  have F3_9 : Hid (w6.heap.size ≤ w9.heap.size) := Nat.le_trans F3_8.out bb9.size
  have F4_9 : Hid (w8.heap.size ≤ w9.heap.size) := Nat.le_trans F4_8.out bb9.size
  have B_9 := Lib.hid (B_8.out.trans (bb9.mono B_8.out.size))
  clear K1_8 R6_8 R7_8 O8_8 K9_8 R10_8 O11_8 F1_8 F2_8 F3_8 F4_8 B_8 bb9
  go_wp2_with fail
  refine (eqFl_any _ _ n _ _ ts _ R12_9.out R6_9.out hbig).mono ?_
  rintro e w10 ⟨rfl, bb10⟩
  have K1_10 := Lib.hid (K1_9.out.keep bb10)
  have R6_10 := Lib.hid (R6_9.out.keep bb10)
  have R7_10 := Lib.hid (R7_9.out.keep bb10)
  have O8_10 := Lib.hid (O8_9.out.keep bb10)
  have K9_10 := Lib.hid (K9_9.out.keep bb10)
  have R10_10 := Lib.hid (R10_9.out.keep bb10)
  have O11_10 := Lib.hid (O11_9.out.keep bb10)
  have R12_10 := Lib.hid (R12_9.out.keep bb10)
  have O13_10 := Lib.hid (O13_9.out.keep bb10)
  have F1_10 : Hid (w3.heap.size ≤ w10.heap.size) := Nat.le_trans F1_9.out bb10.size
  have F2_10 : Hid (w4.heap.size ≤ w10.heap.size) := Nat.le_trans F2_9.out bb10.size
  have F3_10 : Hid (w6.heap.size ≤ w10.heap.size) := Nat.le_trans F3_9.out bb10.size
  have F4_10 : Hid (w8.heap.size ≤ w10.heap.size) := Nat.le_trans F4_9.out bb10.size
  have F5_10 : Hid (w9.heap.size ≤ w10.heap.size) := Nat.le_trans F5_9.out bb10.size
  have B_10 := Lib.hid (B_9.out.trans (bb10.mono B_9.out.size))
  clear K1_9 R6_9 R7_9 O8_9 K9_9 R10_9 O11_9 R12_9 O13_9 F1_9 F2_9 F3_9 F4_9 F5_9 B_9 bb10
  go_wp2_with fail
  have bb11 : Below w10.heap.size w10 w10.drew := (Below.refl _ _).drew
  have K1_11 := Lib.hid (K1_10.out.keep bb11)
  have R6_11 := Lib.hid (R6_10.out.keep bb11)
  have R7_11 := Lib.hid (R7_10.out.keep bb11)
  have O8_11 := Lib.hid (O8_10.out.keep bb11)
  have K9_11 := Lib.hid (K9_10.out.keep bb11)
  have R10_11 := Lib.hid (R10_10.out.keep bb11)
  have O11_11 := Lib.hid (O11_10.out.keep bb11)
  have R12_11 := Lib.hid (R12_10.out.keep bb11)
  have O13_11 := Lib.hid (O13_10.out.keep bb11)
  have F1_11 : Hid (w3.heap.size ≤ w10.drew.heap.size) := Nat.le_trans F1_10.out bb11.size
  have F2_11 : Hid (w4.heap.size ≤ w10.drew.heap.size) := Nat.le_trans F2_10.out bb11.size
  have F3_11 : Hid (w6.heap.size ≤ w10.drew.heap.size) := Nat.le_trans F3_10.out bb11.size
  have F4_11 : Hid (w8.heap.size ≤ w10.drew.heap.size) := Nat.le_trans F4_10.out bb11.size
  have F5_11 : Hid (w9.heap.size ≤ w10.drew.heap.size) := Nat.le_trans F5_10.out bb11.size
  have B_11 := Lib.hid (B_10.out.trans (bb11.mono B_10.out.size))
  clear K1_10 R6_10 R7_10 O8_10 K9_10 R10_10 O11_10 R12_10 O13_10 F1_10 F2_10 F3_10 F4_10 F5_10 B_10 bb11
  have SK9_11 := Lib.hid K9_11.out.two
  have SK1_11 := Lib.hid K1_11.out.two
  go_region_held3 (fun W => (W.cell? ⟨w6.heap.size, 0, none⟩ = some (.int .i64 p0) ∧ W.cell? ⟨w6.heap.size, 1, none⟩ = some (.slice (some ⟨g6, 0, none⟩) len0 len0)) ∧ (W.cell? ⟨w.heap.size, 0, none⟩ = some (.int .i64 p0) ∧ W.cell? ⟨w.heap.size, 1, none⟩ = some (.slice a0 len0 cap0)))
    (first | exact ⟨SK9_11.out.1, SK1_11.out.1⟩ | exact ⟨SK9_12.out.1, SK1_12.out.1⟩ | exact ⟨SK9_13.out.1, SK1_13.out.1⟩)
    (first | (have PK1_6 := Lib.hid K1_11.out.lt; have PR6_6 := Lib.hid R6_11.out.lt; have PR7_6 := Lib.hid R7_11.out.lt; have PO8_6 : Hid (w6.heap.size ≤ w10.drew.heap.size) := F3_11.out; have PK9_6 := Lib.hid K9_11.out.lt; have PR10_6 := Lib.hid R10_11.out.lt; have PO11_6 : Hid (w8.heap.size ≤ w10.drew.heap.size) := F4_11.out; have PR12_6 := Lib.hid R12_11.out.lt; have PO13_6 : Hid (w9.heap.size ≤ w10.drew.heap.size) := F5_11.out; go_at_call_of 26 (Value.agg #[.int .i64 p0, .slice a0 len0 cap0]); refine (toCha_made p0 a0 len0 cap0 z0 _ (H0.out.keep B_11.out) hn'0).mono ?_; rintro e w12 ⟨⟨g12, rfl, hg12, mm12⟩, bb12⟩; have R14_12 := Lib.hid (made_row mm12 hn'0 HZ0.out); have O15_12 : Hid (Mid w12 w10.drew.heap.size w12.heap.size (some ⟨g12, 0, none⟩) len0 22) := made_mid mm12 (hg12); have F6_12 : Hid (w12.heap.size ≤ w12.heap.size) := Nat.le_refl _; have W6 : Hid (w.heap.size ≤ w10.drew.heap.size) := B_11.out.size; clear mm12 hg12; have PR14_1 := Lib.hid (O15_12.out.ge F1_11.out); have PO15_1 : Hid (w3.heap.size ≤ w10.drew.heap.size) := F1_11.out; have PR14_2 := Lib.hid (O15_12.out.ge F2_11.out); have PO15_2 : Hid (w4.heap.size ≤ w10.drew.heap.size) := F2_11.out; have PR14_3 := Lib.hid (O15_12.out.ge F3_11.out); have PO15_3 : Hid (w6.heap.size ≤ w10.drew.heap.size) := F3_11.out; have PR14_4 := Lib.hid (O15_12.out.ge F4_11.out); have PO15_4 : Hid (w8.heap.size ≤ w10.drew.heap.size) := F4_11.out; have PR14_5 := Lib.hid (O15_12.out.ge F5_11.out); have PO15_5 : Hid (w9.heap.size ≤ w10.drew.heap.size) := F5_11.out; have K1_12 := Lib.hid (K1_11.out.keep bb12); have R6_12 := Lib.hid (R6_11.out.keep bb12); have R7_12 := Lib.hid (R7_11.out.keep bb12); have O8_12 := Lib.hid (O8_11.out.keep bb12); have K9_12 := Lib.hid (K9_11.out.keep bb12); have R10_12 := Lib.hid (R10_11.out.keep bb12); have O11_12 := Lib.hid (O11_11.out.keep bb12); have R12_12 := Lib.hid (R12_11.out.keep bb12); have O13_12 := Lib.hid (O13_11.out.keep bb12); have F1_12 : Hid (w3.heap.size ≤ w12.heap.size) := Nat.le_trans F1_11.out bb12.size; have F2_12 : Hid (w4.heap.size ≤ w12.heap.size) := Nat.le_trans F2_11.out bb12.size; have F3_12 : Hid (w6.heap.size ≤ w12.heap.size) := Nat.le_trans F3_11.out bb12.size; have F4_12 : Hid (w8.heap.size ≤ w12.heap.size) := Nat.le_trans F4_11.out bb12.size; have F5_12 : Hid (w9.heap.size ≤ w12.heap.size) := Nat.le_trans F5_11.out bb12.size; have B_12 := Lib.hid (B_11.out.trans (bb12.mono B_11.out.size)); clear K1_11 R6_11 R7_11 O8_11 K9_11 R10_11 O11_11 R12_11 O13_11 F1_11 F2_11 F3_11 F4_11 F5_11 B_11 bb12; have SK9_12 := Lib.hid K9_12.out.two; have SK1_12 := Lib.hid K1_12.out.two) | (go_at_call 29; refine (eqCha_any p0 _ _ len0 _ _ z0 _ R7_12.out R14_12.out hn'0).mono ?_; rintro e w13 ⟨rfl, bb13⟩; have K1_13 := Lib.hid (K1_12.out.keep bb13); have R6_13 := Lib.hid (R6_12.out.keep bb13); have R7_13 := Lib.hid (R7_12.out.keep bb13); have O8_13 := Lib.hid (O8_12.out.keep bb13); have K9_13 := Lib.hid (K9_12.out.keep bb13); have R10_13 := Lib.hid (R10_12.out.keep bb13); have O11_13 := Lib.hid (O11_12.out.keep bb13); have R12_13 := Lib.hid (R12_12.out.keep bb13); have O13_13 := Lib.hid (O13_12.out.keep bb13); have R14_13 := Lib.hid (R14_12.out.keep bb13); have O15_13 := Lib.hid (O15_12.out.keep bb13); have F1_13 : Hid (w3.heap.size ≤ w13.heap.size) := Nat.le_trans F1_12.out bb13.size; have F2_13 : Hid (w4.heap.size ≤ w13.heap.size) := Nat.le_trans F2_12.out bb13.size; have F3_13 : Hid (w6.heap.size ≤ w13.heap.size) := Nat.le_trans F3_12.out bb13.size; have F4_13 : Hid (w8.heap.size ≤ w13.heap.size) := Nat.le_trans F4_12.out bb13.size; have F5_13 : Hid (w9.heap.size ≤ w13.heap.size) := Nat.le_trans F5_12.out bb13.size; have F6_13 : Hid (w12.heap.size ≤ w13.heap.size) := Nat.le_trans F6_12.out bb13.size; have B_13 := Lib.hid (B_12.out.trans (bb13.mono B_12.out.size)); clear K1_12 R6_12 R7_12 O8_12 K9_12 R10_12 O11_12 R12_12 O13_12 R14_12 O15_12 F1_12 F2_12 F3_12 F4_12 F5_12 F6_12 B_12 bb13; clear R14_13; clear O15_13; have SK9_13 := Lib.hid K9_13.out.two; have SK1_13 := Lib.hid K1_13.out.two))
  go_wp2_with fail
  have PK1_7 := Lib.hid K1_13.out.lt
  have PR6_7 := Lib.hid R6_13.out.lt
  have PR7_7 := Lib.hid R7_13.out.lt
  have PO8_7 : Hid (w6.heap.size ≤ w13.heap.size) := F3_13.out
  have PK9_7 := Lib.hid K9_13.out.lt
  have PR10_7 := Lib.hid R10_13.out.lt
  have PO11_7 : Hid (w8.heap.size ≤ w13.heap.size) := F4_13.out
  have PR12_7 := Lib.hid R12_13.out.lt
  have PO13_7 : Hid (w9.heap.size ≤ w13.heap.size) := F5_13.out
  refine (toF32_made a1 len1 cap1 z1 _ (H1.out.keep B_13.out) hn'1).mono ?_
  rintro e w14 ⟨rfl, mm14, bb14, hg14⟩
  have R16_14 := Lib.hid (made_row mm14 hn'1 HZ1.out)
  have O17_14 : Hid (Mid w14 w13.heap.size w14.heap.size (some ⟨w13.heap.size, 0, none⟩) len1 22) := made_mid mm14 (Nat.le_refl _)
  have F7_14 : Hid (w14.heap.size ≤ w14.heap.size) := Nat.le_refl _
  have W7 : Hid (w.heap.size ≤ w13.heap.size) := B_13.out.size
  clear mm14 hg14
  have PR16_1 := Lib.hid (O17_14.out.ge F1_13.out)
  have PO17_1 : Hid (w3.heap.size ≤ w13.heap.size) := F1_13.out
  have PR16_2 := Lib.hid (O17_14.out.ge F2_13.out)
  have PO17_2 : Hid (w4.heap.size ≤ w13.heap.size) := F2_13.out
  have PR16_3 := Lib.hid (O17_14.out.ge F3_13.out)
  have PO17_3 : Hid (w6.heap.size ≤ w13.heap.size) := F3_13.out
  have PR16_4 := Lib.hid (O17_14.out.ge F4_13.out)
  have PO17_4 : Hid (w8.heap.size ≤ w13.heap.size) := F4_13.out
  have PR16_5 := Lib.hid (O17_14.out.ge F5_13.out)
  have PO17_5 : Hid (w9.heap.size ≤ w13.heap.size) := F5_13.out
  have PR16_6 := Lib.hid (O17_14.out.ge F6_13.out)
  have PO17_6 : Hid (w12.heap.size ≤ w13.heap.size) := F6_13.out
  have K1_14 := Lib.hid (K1_13.out.keep bb14)
  have R6_14 := Lib.hid (R6_13.out.keep bb14)
  have R7_14 := Lib.hid (R7_13.out.keep bb14)
  have O8_14 := Lib.hid (O8_13.out.keep bb14)
  have K9_14 := Lib.hid (K9_13.out.keep bb14)
  have R10_14 := Lib.hid (R10_13.out.keep bb14)
  have O11_14 := Lib.hid (O11_13.out.keep bb14)
  have R12_14 := Lib.hid (R12_13.out.keep bb14)
  have O13_14 := Lib.hid (O13_13.out.keep bb14)
  have F1_14 : Hid (w3.heap.size ≤ w14.heap.size) := Nat.le_trans F1_13.out bb14.size
  have F2_14 : Hid (w4.heap.size ≤ w14.heap.size) := Nat.le_trans F2_13.out bb14.size
  have F3_14 : Hid (w6.heap.size ≤ w14.heap.size) := Nat.le_trans F3_13.out bb14.size
  have F4_14 : Hid (w8.heap.size ≤ w14.heap.size) := Nat.le_trans F4_13.out bb14.size
  have F5_14 : Hid (w9.heap.size ≤ w14.heap.size) := Nat.le_trans F5_13.out bb14.size
  have F6_14 : Hid (w12.heap.size ≤ w14.heap.size) := Nat.le_trans F6_13.out bb14.size
  have B_14 := Lib.hid (B_13.out.trans (bb14.mono B_13.out.size))
  clear K1_13 R6_13 R7_13 O8_13 K9_13 R10_13 O11_13 R12_13 O13_13 F1_13 F2_13 F3_13 F4_13 F5_13 F6_13 B_13 bb14
  go_wp2_with fail
  refine (eqFl_any _ _ len1 _ _ z1 _ R10_14.out R16_14.out hn'1).mono ?_
  rintro e w15 ⟨rfl, bb15⟩
  have K1_15 := Lib.hid (K1_14.out.keep bb15)
  have R6_15 := Lib.hid (R6_14.out.keep bb15)
  have R7_15 := Lib.hid (R7_14.out.keep bb15)
  have O8_15 := Lib.hid (O8_14.out.keep bb15)
  have K9_15 := Lib.hid (K9_14.out.keep bb15)
  have R10_15 := Lib.hid (R10_14.out.keep bb15)
  have O11_15 := Lib.hid (O11_14.out.keep bb15)
  have R12_15 := Lib.hid (R12_14.out.keep bb15)
  have O13_15 := Lib.hid (O13_14.out.keep bb15)
  have R16_15 := Lib.hid (R16_14.out.keep bb15)
  have O17_15 := Lib.hid (O17_14.out.keep bb15)
  have F1_15 : Hid (w3.heap.size ≤ w15.heap.size) := Nat.le_trans F1_14.out bb15.size
  have F2_15 : Hid (w4.heap.size ≤ w15.heap.size) := Nat.le_trans F2_14.out bb15.size
  have F3_15 : Hid (w6.heap.size ≤ w15.heap.size) := Nat.le_trans F3_14.out bb15.size
  have F4_15 : Hid (w8.heap.size ≤ w15.heap.size) := Nat.le_trans F4_14.out bb15.size
  have F5_15 : Hid (w9.heap.size ≤ w15.heap.size) := Nat.le_trans F5_14.out bb15.size
  have F6_15 : Hid (w12.heap.size ≤ w15.heap.size) := Nat.le_trans F6_14.out bb15.size
  have F7_15 : Hid (w14.heap.size ≤ w15.heap.size) := Nat.le_trans F7_14.out bb15.size
  have B_15 := Lib.hid (B_14.out.trans (bb15.mono B_14.out.size))
  clear K1_14 R6_14 R7_14 O8_14 K9_14 R10_14 O11_14 R12_14 O13_14 R16_14 O17_14 F1_14 F2_14 F3_14 F4_14 F5_14 F6_14 F7_14 B_14 bb15
  clear R16_15
  clear O17_15
  obtain ⟨⟨cK90, cK91⟩, _, _⟩ := K9_15.out.two
  go_wp2_with fail
  clear cK90 cK91
  refine (mkCha_any (w5.heap.size) (w6.heap.size) 1 p0 _ len0 _ _ O8_15.out hn'0 (by omega)).mono ?_
  rintro e w16 ⟨rfl, mm16, ss16⟩
  have K1_16 := Lib.hid (K1_15.out.sep ss16 (.inl PK1_3.out))
  have R6_16 := Lib.hid (R6_15.out.sepL ss16 PR6_3.out)
  have K9_16 := Lib.hid (K9_15.out.sep ss16 (.inr PK9_3.out))
  have R10_16 := Lib.hid (R10_15.out.sepG ss16 PR10_3.out)
  have O11_16 := Lib.hid (O11_15.out.sep ss16 (.inr PO11_3.out))
  have R12_16 := Lib.hid (R12_15.out.sepG ss16 PR12_3.out)
  have O13_16 := Lib.hid (O13_15.out.sep ss16 (.inr PO13_3.out))
  have F1_16 : Hid (w3.heap.size ≤ w16.heap.size) := Nat.le_trans F1_15.out ss16.size
  have F2_16 : Hid (w4.heap.size ≤ w16.heap.size) := Nat.le_trans F2_15.out ss16.size
  have F3_16 : Hid (w6.heap.size ≤ w16.heap.size) := Nat.le_trans F3_15.out ss16.size
  have F4_16 : Hid (w8.heap.size ≤ w16.heap.size) := Nat.le_trans F4_15.out ss16.size
  have F5_16 : Hid (w9.heap.size ≤ w16.heap.size) := Nat.le_trans F5_15.out ss16.size
  have F6_16 : Hid (w12.heap.size ≤ w16.heap.size) := Nat.le_trans F6_15.out ss16.size
  have F7_16 : Hid (w14.heap.size ≤ w16.heap.size) := Nat.le_trans F7_15.out ss16.size
  have B_16 := Lib.hid (B_15.out.trans (ss16.below W3.out B_15.out.size))
  clear K1_15 R6_15 K9_15 R10_15 O11_15 R12_15 O13_15 F1_15 F2_15 F3_15 F4_15 F5_15 F6_15 F7_15 B_15 R7_15 O8_15 mm16 ss16
  have hk16 : ¬ (1 + (len0 : Int) < 0) := by omega
  go_wp2_with fail
  refine (mkFl_any (w7.heap.size) (w8.heap.size) (1 + (len0 : Int)) _ len1 _ _ O11_16.out hn'1 (by omega)).mono ?_
  rintro e w17 ⟨rfl, mm17, ss17⟩
  have K1_17 := Lib.hid (K1_16.out.sep ss17 (.inl PK1_4.out))
  have R6_17 := Lib.hid (R6_16.out.sepL ss17 PR6_4.out)
  have K9_17 := Lib.hid (K9_16.out.sep ss17 (.inl PK9_4.out))
  have R12_17 := Lib.hid (R12_16.out.sepG ss17 PR12_4.out)
  have O13_17 := Lib.hid (O13_16.out.sep ss17 (.inr PO13_4.out))
  have F1_17 : Hid (w3.heap.size ≤ w17.heap.size) := Nat.le_trans F1_16.out ss17.size
  have F2_17 : Hid (w4.heap.size ≤ w17.heap.size) := Nat.le_trans F2_16.out ss17.size
  have F3_17 : Hid (w6.heap.size ≤ w17.heap.size) := Nat.le_trans F3_16.out ss17.size
  have F4_17 : Hid (w8.heap.size ≤ w17.heap.size) := Nat.le_trans F4_16.out ss17.size
  have F5_17 : Hid (w9.heap.size ≤ w17.heap.size) := Nat.le_trans F5_16.out ss17.size
  have F6_17 : Hid (w12.heap.size ≤ w17.heap.size) := Nat.le_trans F6_16.out ss17.size
  have F7_17 : Hid (w14.heap.size ≤ w17.heap.size) := Nat.le_trans F7_16.out ss17.size
  have B_17 := Lib.hid (B_16.out.trans (ss17.below W4.out B_16.out.size))
  clear K1_16 R6_16 K9_16 R12_16 O13_16 F1_16 F2_16 F3_16 F4_16 F5_16 F6_16 F7_16 B_16 R10_16 O11_16 mm17 ss17
  have hk17 : ¬ ((1 + (len0 : Int)) + (len1 : Int) < 0) := by omega
  go_wp2_with fail
  refine (eqFl_any _ _ n _ _ ts _ R12_17.out R6_17.out hbig).mono ?_
  rintro e w18 ⟨rfl, bb18⟩
  have K1_18 := Lib.hid (K1_17.out.keep bb18)
  have R6_18 := Lib.hid (R6_17.out.keep bb18)
  have K9_18 := Lib.hid (K9_17.out.keep bb18)
  have R12_18 := Lib.hid (R12_17.out.keep bb18)
  have O13_18 := Lib.hid (O13_17.out.keep bb18)
  have F1_18 : Hid (w3.heap.size ≤ w18.heap.size) := Nat.le_trans F1_17.out bb18.size
  have F2_18 : Hid (w4.heap.size ≤ w18.heap.size) := Nat.le_trans F2_17.out bb18.size
  have F3_18 : Hid (w6.heap.size ≤ w18.heap.size) := Nat.le_trans F3_17.out bb18.size
  have F4_18 : Hid (w8.heap.size ≤ w18.heap.size) := Nat.le_trans F4_17.out bb18.size
  have F5_18 : Hid (w9.heap.size ≤ w18.heap.size) := Nat.le_trans F5_17.out bb18.size
  have F6_18 : Hid (w12.heap.size ≤ w18.heap.size) := Nat.le_trans F6_17.out bb18.size
  have F7_18 : Hid (w14.heap.size ≤ w18.heap.size) := Nat.le_trans F7_17.out bb18.size
  have B_18 := Lib.hid (B_17.out.trans (bb18.mono B_17.out.size))
  clear K1_17 R6_17 K9_17 R12_17 O13_17 F1_17 F2_17 F3_17 F4_17 F5_17 F6_17 F7_17 B_17 bb18
  go_wp2_with fail
  refine (mkFl_any (w8.heap.size) (w9.heap.size) 1 _ n _ _ O13_18.out hbig (by omega)).mono ?_
  rintro e w19 ⟨rfl, mm19, ss19⟩
  have K1_19 := Lib.hid (K1_18.out.sep ss19 (.inl PK1_5.out))
  have R6_19 := Lib.hid (R6_18.out.sepL ss19 PR6_5.out)
  have K9_19 := Lib.hid (K9_18.out.sep ss19 (.inl PK9_5.out))
  have F1_19 : Hid (w3.heap.size ≤ w19.heap.size) := Nat.le_trans F1_18.out ss19.size
  have F2_19 : Hid (w4.heap.size ≤ w19.heap.size) := Nat.le_trans F2_18.out ss19.size
  have F3_19 : Hid (w6.heap.size ≤ w19.heap.size) := Nat.le_trans F3_18.out ss19.size
  have F4_19 : Hid (w8.heap.size ≤ w19.heap.size) := Nat.le_trans F4_18.out ss19.size
  have F5_19 : Hid (w9.heap.size ≤ w19.heap.size) := Nat.le_trans F5_18.out ss19.size
  have F6_19 : Hid (w12.heap.size ≤ w19.heap.size) := Nat.le_trans F6_18.out ss19.size
  have F7_19 : Hid (w14.heap.size ≤ w19.heap.size) := Nat.le_trans F7_18.out ss19.size
  have B_19 := Lib.hid (B_18.out.trans (ss19.below W5.out B_18.out.size))
  have M18_19 := Lib.hid mm19
  clear K1_18 R6_18 K9_18 F1_18 F2_18 F3_18 F4_18 F5_18 F6_18 F7_18 B_18 R12_18 O13_18 mm19 ss19
  have hk19 : ¬ (1 + (n : Int) < 0) := by omega
  go_wp2_with fail
  refine (hdFl_any 1 _ n _ _ M18_19.out hsml rfl).mono ?_
  rintro e w20 ⟨rfl, bb20⟩
  have K1_20 := Lib.hid (K1_19.out.keep bb20)
  have R6_20 := Lib.hid (R6_19.out.keep bb20)
  have K9_20 := Lib.hid (K9_19.out.keep bb20)
  have M18_20 := Lib.hid (M18_19.out.keep bb20)
  have F1_20 : Hid (w3.heap.size ≤ w20.heap.size) := Nat.le_trans F1_19.out bb20.size
  have F2_20 : Hid (w4.heap.size ≤ w20.heap.size) := Nat.le_trans F2_19.out bb20.size
  have F3_20 : Hid (w6.heap.size ≤ w20.heap.size) := Nat.le_trans F3_19.out bb20.size
  have F4_20 : Hid (w8.heap.size ≤ w20.heap.size) := Nat.le_trans F4_19.out bb20.size
  have F5_20 : Hid (w9.heap.size ≤ w20.heap.size) := Nat.le_trans F5_19.out bb20.size
  have F6_20 : Hid (w12.heap.size ≤ w20.heap.size) := Nat.le_trans F6_19.out bb20.size
  have F7_20 : Hid (w14.heap.size ≤ w20.heap.size) := Nat.le_trans F7_19.out bb20.size
  have B_20 := Lib.hid (B_19.out.trans (bb20.mono B_19.out.size))
  clear K1_19 R6_19 K9_19 M18_19 F1_19 F2_19 F3_19 F4_19 F5_19 F6_19 F7_19 B_19 bb20
  obtain ⟨⟨cK10, cK11⟩, _, _⟩ := K1_20.out.two
  go_wp2_with fail
  clear cK10 cK11
  have PK1_8 := Lib.hid K1_20.out.lt
  have PR6_8 := Lib.hid R6_20.out.lt
  have PK9_8 := Lib.hid K9_20.out.lt
  refine (toCha_made p0 a0 len0 cap0 z0 _ (H0.out.keep B_20.out) hn'0).mono ?_
  rintro e w21 ⟨⟨g21, rfl, hg21, mm21⟩, bb21⟩
  have R19_21 := Lib.hid (made_row mm21 hn'0 HZ0.out)
  have O20_21 : Hid (Mid w21 w20.heap.size w21.heap.size (some ⟨g21, 0, none⟩) len0 22) := made_mid mm21 (hg21)
  have F8_21 : Hid (w21.heap.size ≤ w21.heap.size) := Nat.le_refl _
  have W8 : Hid (w.heap.size ≤ w20.heap.size) := B_20.out.size
  clear mm21 hg21
  have PR19_1 := Lib.hid (O20_21.out.ge F1_20.out)
  have PO20_1 : Hid (w3.heap.size ≤ w20.heap.size) := F1_20.out
  have PR19_2 := Lib.hid (O20_21.out.ge F2_20.out)
  have PO20_2 : Hid (w4.heap.size ≤ w20.heap.size) := F2_20.out
  have PR19_3 := Lib.hid (O20_21.out.ge F3_20.out)
  have PO20_3 : Hid (w6.heap.size ≤ w20.heap.size) := F3_20.out
  have PR19_4 := Lib.hid (O20_21.out.ge F4_20.out)
  have PO20_4 : Hid (w8.heap.size ≤ w20.heap.size) := F4_20.out
  have PR19_5 := Lib.hid (O20_21.out.ge F5_20.out)
  have PO20_5 : Hid (w9.heap.size ≤ w20.heap.size) := F5_20.out
  have PR19_6 := Lib.hid (O20_21.out.ge F6_20.out)
  have PO20_6 : Hid (w12.heap.size ≤ w20.heap.size) := F6_20.out
  have PR19_7 := Lib.hid (O20_21.out.ge F7_20.out)
  have PO20_7 : Hid (w14.heap.size ≤ w20.heap.size) := F7_20.out
  have K1_21 := Lib.hid (K1_20.out.keep bb21)
  have R6_21 := Lib.hid (R6_20.out.keep bb21)
  have K9_21 := Lib.hid (K9_20.out.keep bb21)
  have M18_21 := Lib.hid (M18_20.out.keep bb21)
  have F1_21 : Hid (w3.heap.size ≤ w21.heap.size) := Nat.le_trans F1_20.out bb21.size
  have F2_21 : Hid (w4.heap.size ≤ w21.heap.size) := Nat.le_trans F2_20.out bb21.size
  have F3_21 : Hid (w6.heap.size ≤ w21.heap.size) := Nat.le_trans F3_20.out bb21.size
  have F4_21 : Hid (w8.heap.size ≤ w21.heap.size) := Nat.le_trans F4_20.out bb21.size
  have F5_21 : Hid (w9.heap.size ≤ w21.heap.size) := Nat.le_trans F5_20.out bb21.size
  have F6_21 : Hid (w12.heap.size ≤ w21.heap.size) := Nat.le_trans F6_20.out bb21.size
  have F7_21 : Hid (w14.heap.size ≤ w21.heap.size) := Nat.le_trans F7_20.out bb21.size
  have B_21 := Lib.hid (B_20.out.trans (bb21.mono B_20.out.size))
  clear K1_20 R6_20 K9_20 M18_20 F1_20 F2_20 F3_20 F4_20 F5_20 F6_20 F7_20 B_20 bb21
  go_wp2_with fail
  have PK1_9 := Lib.hid K1_21.out.lt
  have PR6_9 := Lib.hid R6_21.out.lt
  have PK9_9 := Lib.hid K9_21.out.lt
  have PR19_9 := Lib.hid R19_21.out.lt
  have PO20_9 : Hid (w21.heap.size ≤ w21.heap.size) := F8_21.out
  refine (toF32_made a1 len1 cap1 z1 _ (H1.out.keep B_21.out) hn'1).mono ?_
  rintro e w22 ⟨rfl, mm22, bb22, hg22⟩
  have R21_22 := Lib.hid (made_row mm22 hn'1 HZ1.out)
  have O22_22 : Hid (Mid w22 w21.heap.size w22.heap.size (some ⟨w21.heap.size, 0, none⟩) len1 22) := made_mid mm22 (Nat.le_refl _)
  have F9_22 : Hid (w22.heap.size ≤ w22.heap.size) := Nat.le_refl _
  have W9 : Hid (w.heap.size ≤ w21.heap.size) := B_21.out.size
  clear mm22 hg22
  have PR21_1 := Lib.hid (O22_22.out.ge F1_21.out)
  have PO22_1 : Hid (w3.heap.size ≤ w21.heap.size) := F1_21.out
  have PR21_2 := Lib.hid (O22_22.out.ge F2_21.out)
  have PO22_2 : Hid (w4.heap.size ≤ w21.heap.size) := F2_21.out
  have PR21_3 := Lib.hid (O22_22.out.ge F3_21.out)
  have PO22_3 : Hid (w6.heap.size ≤ w21.heap.size) := F3_21.out
  have PR21_4 := Lib.hid (O22_22.out.ge F4_21.out)
  have PO22_4 : Hid (w8.heap.size ≤ w21.heap.size) := F4_21.out
  have PR21_5 := Lib.hid (O22_22.out.ge F5_21.out)
  have PO22_5 : Hid (w9.heap.size ≤ w21.heap.size) := F5_21.out
  have PR21_6 := Lib.hid (O22_22.out.ge F6_21.out)
  have PO22_6 : Hid (w12.heap.size ≤ w21.heap.size) := F6_21.out
  have PR21_7 := Lib.hid (O22_22.out.ge F7_21.out)
  have PO22_7 : Hid (w14.heap.size ≤ w21.heap.size) := F7_21.out
  have PR21_8 := Lib.hid (O22_22.out.ge F8_21.out)
  have PO22_8 : Hid (w21.heap.size ≤ w21.heap.size) := F8_21.out
  have K1_22 := Lib.hid (K1_21.out.keep bb22)
  have R6_22 := Lib.hid (R6_21.out.keep bb22)
  have K9_22 := Lib.hid (K9_21.out.keep bb22)
  have M18_22 := Lib.hid (M18_21.out.keep bb22)
  have R19_22 := Lib.hid (R19_21.out.keep bb22)
  have O20_22 := Lib.hid (O20_21.out.keep bb22)
  have F1_22 : Hid (w3.heap.size ≤ w22.heap.size) := Nat.le_trans F1_21.out bb22.size
  have F2_22 : Hid (w4.heap.size ≤ w22.heap.size) := Nat.le_trans F2_21.out bb22.size
  have F3_22 : Hid (w6.heap.size ≤ w22.heap.size) := Nat.le_trans F3_21.out bb22.size
  have F4_22 : Hid (w8.heap.size ≤ w22.heap.size) := Nat.le_trans F4_21.out bb22.size
  have F5_22 : Hid (w9.heap.size ≤ w22.heap.size) := Nat.le_trans F5_21.out bb22.size
  have F6_22 : Hid (w12.heap.size ≤ w22.heap.size) := Nat.le_trans F6_21.out bb22.size
  have F7_22 : Hid (w14.heap.size ≤ w22.heap.size) := Nat.le_trans F7_21.out bb22.size
  have F8_22 : Hid (w21.heap.size ≤ w22.heap.size) := Nat.le_trans F8_21.out bb22.size
  have B_22 := Lib.hid (B_21.out.trans (bb22.mono B_21.out.size))
  clear K1_21 R6_21 K9_21 M18_21 R19_21 O20_21 F1_21 F2_21 F3_21 F4_21 F5_21 F6_21 F7_21 F8_21 B_21 bb22
  go_wp2_with fail
  have PK1_10 := Lib.hid K1_22.out.lt
  have PR6_10 := Lib.hid R6_22.out.lt
  have PK9_10 := Lib.hid K9_22.out.lt
  have PR19_10 := Lib.hid R19_22.out.lt
  have PO20_10 : Hid (w21.heap.size ≤ w22.heap.size) := F8_22.out
  have PR21_10 := Lib.hid R21_22.out.lt
  have PO22_10 : Hid (w22.heap.size ≤ w22.heap.size) := F9_22.out
  refine (iChainSteps_any p0 (some ⟨g21, 0, none⟩) len0 len0 z0 (some ⟨w21.heap.size, 0, none⟩) len1 len1 z1 (n2) (n3) _ R19_22.out R21_22.out (Nat.le_refl _) (Nat.le_refl _) hs2 hml0).mono ?_
  rintro e w23 ⟨⟨ar23, cr23, rfl, hr23, ho23⟩, bb23⟩
  rw [HTS.out, HNL.out] at hr23 ho23
  rw [HTS.out, HNL.out, HBV.out]
  have R23_23 := Lib.hid hr23
  have O24_23 := Lib.hid (Mid.of_own ho23)
  clear hr23 ho23
  have F10_23 : Hid (w23.heap.size ≤ w23.heap.size) := Nat.le_refl _
  have W10 : Hid (w.heap.size ≤ w22.heap.size) := B_22.out.size
  have PR23_1 := Lib.hid (O24_23.out.ge F1_22.out)
  have PO24_1 : Hid (w3.heap.size ≤ w22.heap.size) := F1_22.out
  have PR23_2 := Lib.hid (O24_23.out.ge F2_22.out)
  have PO24_2 : Hid (w4.heap.size ≤ w22.heap.size) := F2_22.out
  have PR23_3 := Lib.hid (O24_23.out.ge F3_22.out)
  have PO24_3 : Hid (w6.heap.size ≤ w22.heap.size) := F3_22.out
  have PR23_4 := Lib.hid (O24_23.out.ge F4_22.out)
  have PO24_4 : Hid (w8.heap.size ≤ w22.heap.size) := F4_22.out
  have PR23_5 := Lib.hid (O24_23.out.ge F5_22.out)
  have PO24_5 : Hid (w9.heap.size ≤ w22.heap.size) := F5_22.out
  have PR23_6 := Lib.hid (O24_23.out.ge F6_22.out)
  have PO24_6 : Hid (w12.heap.size ≤ w22.heap.size) := F6_22.out
  have PR23_7 := Lib.hid (O24_23.out.ge F7_22.out)
  have PO24_7 : Hid (w14.heap.size ≤ w22.heap.size) := F7_22.out
  have PR23_8 := Lib.hid (O24_23.out.ge F8_22.out)
  have PO24_8 : Hid (w21.heap.size ≤ w22.heap.size) := F8_22.out
  have PR23_9 := Lib.hid (O24_23.out.ge F9_22.out)
  have PO24_9 : Hid (w22.heap.size ≤ w22.heap.size) := F9_22.out
  have K1_23 := Lib.hid (K1_22.out.keep bb23)
  have R6_23 := Lib.hid (R6_22.out.keep bb23)
  have K9_23 := Lib.hid (K9_22.out.keep bb23)
  have M18_23 := Lib.hid (M18_22.out.keep bb23)
  have R19_23 := Lib.hid (R19_22.out.keep bb23)
  have O20_23 := Lib.hid (O20_22.out.keep bb23)
  have R21_23 := Lib.hid (R21_22.out.keep bb23)
  have O22_23 := Lib.hid (O22_22.out.keep bb23)
  have F1_23 : Hid (w3.heap.size ≤ w23.heap.size) := Nat.le_trans F1_22.out bb23.size
  have F2_23 : Hid (w4.heap.size ≤ w23.heap.size) := Nat.le_trans F2_22.out bb23.size
  have F3_23 : Hid (w6.heap.size ≤ w23.heap.size) := Nat.le_trans F3_22.out bb23.size
  have F4_23 : Hid (w8.heap.size ≤ w23.heap.size) := Nat.le_trans F4_22.out bb23.size
  have F5_23 : Hid (w9.heap.size ≤ w23.heap.size) := Nat.le_trans F5_22.out bb23.size
  have F6_23 : Hid (w12.heap.size ≤ w23.heap.size) := Nat.le_trans F6_22.out bb23.size
  have F7_23 : Hid (w14.heap.size ≤ w23.heap.size) := Nat.le_trans F7_22.out bb23.size
  have F8_23 : Hid (w21.heap.size ≤ w23.heap.size) := Nat.le_trans F8_22.out bb23.size
  have F9_23 : Hid (w22.heap.size ≤ w23.heap.size) := Nat.le_trans F9_22.out bb23.size
  have B_23 := Lib.hid (B_22.out.trans (bb23.mono B_22.out.size))
  clear K1_22 R6_22 K9_22 M18_22 R19_22 O20_22 R21_22 O22_22 F1_22 F2_22 F3_22 F4_22 F5_22 F6_22 F7_22 F8_22 F9_22 B_22 bb23
  clear R19_23
  clear O20_23
  clear R21_23
  clear O22_23
  go_wp2_with fail
  refine (eqFl_any _ _ n _ _ ts _ R23_23.out R6_23.out hbig).mono ?_
  rintro e w24 ⟨rfl, bb24⟩
  have K1_24 := Lib.hid (K1_23.out.keep bb24)
  have R6_24 := Lib.hid (R6_23.out.keep bb24)
  have K9_24 := Lib.hid (K9_23.out.keep bb24)
  have M18_24 := Lib.hid (M18_23.out.keep bb24)
  have R23_24 := Lib.hid (R23_23.out.keep bb24)
  have O24_24 := Lib.hid (O24_23.out.keep bb24)
  have F1_24 : Hid (w3.heap.size ≤ w24.heap.size) := Nat.le_trans F1_23.out bb24.size
  have F2_24 : Hid (w4.heap.size ≤ w24.heap.size) := Nat.le_trans F2_23.out bb24.size
  have F3_24 : Hid (w6.heap.size ≤ w24.heap.size) := Nat.le_trans F3_23.out bb24.size
  have F4_24 : Hid (w8.heap.size ≤ w24.heap.size) := Nat.le_trans F4_23.out bb24.size
  have F5_24 : Hid (w9.heap.size ≤ w24.heap.size) := Nat.le_trans F5_23.out bb24.size
  have F6_24 : Hid (w12.heap.size ≤ w24.heap.size) := Nat.le_trans F6_23.out bb24.size
  have F7_24 : Hid (w14.heap.size ≤ w24.heap.size) := Nat.le_trans F7_23.out bb24.size
  have F8_24 : Hid (w21.heap.size ≤ w24.heap.size) := Nat.le_trans F8_23.out bb24.size
  have F9_24 : Hid (w22.heap.size ≤ w24.heap.size) := Nat.le_trans F9_23.out bb24.size
  have F10_24 : Hid (w23.heap.size ≤ w24.heap.size) := Nat.le_trans F10_23.out bb24.size
  have B_24 := Lib.hid (B_23.out.trans (bb24.mono B_23.out.size))
  clear K1_23 R6_23 K9_23 M18_23 R23_23 O24_23 F1_23 F2_23 F3_23 F4_23 F5_23 F6_23 F7_23 F8_23 F9_23 F10_23 B_23 bb24
  clear R23_24
  clear O24_24
  clear R6_24
  go_wp2_with fail
  refine (hdFl_any 1 _ n _ _ M18_24.out hsml rfl).mono ?_
  rintro e w25 ⟨rfl, bb25⟩
  have K1_25 := Lib.hid (K1_24.out.keep bb25)
  have K9_25 := Lib.hid (K9_24.out.keep bb25)
  have M18_25 := Lib.hid (M18_24.out.keep bb25)
  have F1_25 : Hid (w3.heap.size ≤ w25.heap.size) := Nat.le_trans F1_24.out bb25.size
  have F2_25 : Hid (w4.heap.size ≤ w25.heap.size) := Nat.le_trans F2_24.out bb25.size
  have F3_25 : Hid (w6.heap.size ≤ w25.heap.size) := Nat.le_trans F3_24.out bb25.size
  have F4_25 : Hid (w8.heap.size ≤ w25.heap.size) := Nat.le_trans F4_24.out bb25.size
  have F5_25 : Hid (w9.heap.size ≤ w25.heap.size) := Nat.le_trans F5_24.out bb25.size
  have F6_25 : Hid (w12.heap.size ≤ w25.heap.size) := Nat.le_trans F6_24.out bb25.size
  have F7_25 : Hid (w14.heap.size ≤ w25.heap.size) := Nat.le_trans F7_24.out bb25.size
  have F8_25 : Hid (w21.heap.size ≤ w25.heap.size) := Nat.le_trans F8_24.out bb25.size
  have F9_25 : Hid (w22.heap.size ≤ w25.heap.size) := Nat.le_trans F9_24.out bb25.size
  have F10_25 : Hid (w23.heap.size ≤ w25.heap.size) := Nat.le_trans F10_24.out bb25.size
  have B_25 := Lib.hid (B_24.out.trans (bb25.mono B_24.out.size))
  clear K1_24 K9_24 M18_24 F1_24 F2_24 F3_24 F4_24 F5_24 F6_24 F7_24 F8_24 F9_24 F10_24 B_24 bb25
  go_wp2_with fail
  go_ret
  exact ⟨rfl, B_25.out⟩
end Go.Proofs.Ytiebbmgehhcdmaa
