/-
  The exact laws of functions that count sets of a system. No conditions beyond the statements' own.
-/
import Derived.Test.YtbmgloncimjfhabWcW
import Derived.Deep.RegionHeld3
namespace Go.Proofs.Ytbmgloncimjfhab
open Go.RowKit Dec Flt Syl Sep
set_option maxRecDepth 40000 in
set_option maxHeartbeats 8000000 in
theorem fnExactWorkingCounts_walk (p0 : Int) (_wp0 : (Lit.int .i64 p0).wf = true) (a0 : Option Addr) (len0 cap0 : Nat) (z0 : List Int) (w : World) (h0 : IRow w a0 len0 z0) :
    Calls Try.prog 7 #[.agg #[.int .i64 p0, .slice a0 len0 cap0]] w fun e w' => e = .returned (.bool true) ∧ Below w.heap.size w w' := by
  have hml0 : len0 ≤ maxLen := h0.2.1
  have H0 := Lib.hid h0
  have HZ0 := Lib.hid h0.2.2.1
  have HL0 := Lib.hid h0.1
  have hxb : ∀ x : Bool, (x != x) = false := by simp
  have hxi : ∀ x : Int, (x != x) = false := by simp
  clear h0
  obtain ⟨ts, hts⟩ : ∃ ts, wcA p0 z0 = ts := ⟨_, rfl⟩
  obtain ⟨n, hnl⟩ : ∃ n, ts.length = n := ⟨_, rfl⟩
  have hbig : n ≤ 1048576 := by rw [← hnl, ← hts]; exact wcA_len p0 z0
  have HTS := Lib.hid hts
  have HNL := Lib.hid hnl
  clear hts hnl
  have hk0 : ¬ ((1 : Int) + (n : Int) < 0) := by omega
  obtain ⟨bv, hbv⟩ : ∃ bv, sysB p0 z0 = bv := ⟨_, rfl⟩
  have HBV := Lib.hid hbv
  clear hbv
  go_enter Try.func7, Try.ntmps7
  go_wp2_with fail
  obtain ⟨w1, hW1⟩ : ∃ W, W = (w.alloc (.cells #[.int .i64 p0, .slice a0 len0 cap0] 24)) := ⟨_, rfl⟩
  have bb1 : Below w.heap.size w w1 := by rw [hW1]; exact ((Below.refl _ _).alloc (Nat.le_refl _) _)
  have K1_1 : Hid (Blk.Blk w1 (w.heap.size) [.int .i64 p0, .slice a0 len0 cap0] 24) := by
    rw [hW1]
    have hh := Blk.Blk.new w #[.int .i64 p0, .slice a0 len0 cap0] 24
    exact hh
  rw [← hW1]
  clear hW1
  have B_1 := Lib.hid bb1
  clear bb1
  refine (szSys_any p0 a0 len0 cap0 (1048576) _ (by omega) hml0).mono ?_
  rintro e w2 ⟨rfl, bb2⟩
  have K1_2 := Lib.hid (K1_1.out.keep bb2)
  have B_2 := Lib.hid (B_1.out.trans (bb2.mono B_1.out.size))
  clear K1_1 B_1 bb2
  by_cases hn0 : (1048576 : Int) < (len0 : Int)
  · rw [if_pos hn0]
    go_wp2_with fail
    go_ret
    exact ⟨rfl, B_2.out⟩
  rw [if_neg hn0]
  have hn'0 : len0 ≤ 1048576 := by omega
  have hnn0 : ¬ ((1048576 : Int) - len0 < 0) := by omega
  clear hn0
  obtain ⟨⟨cK10, cK11⟩, _, _⟩ := K1_2.out.two
  go_wp2_with fail
  clear cK10 cK11
  have PK1_1 := Lib.hid K1_2.out.lt
  refine (toSys_made p0 a0 len0 cap0 z0 _ (H0.out.keep B_2.out) hn'0).mono ?_
  rintro e w3 ⟨⟨g3, rfl, hg3, mm3⟩, bb3⟩
  have R2_3 := Lib.hid (imade_row mm3 HL0.out hn'0 HZ0.out)
  have O3_3 : Hid (Mid w3 w2.heap.size w3.heap.size (some ⟨g3, 0, none⟩) len0 2) := .inr ⟨_, rfl, hg3, mm3.lt, Slots.of_filled mm3 (by rw [iv_len]; exact HL0.out) (Nat.le_refl _)⟩
  have F1_3 : Hid (w3.heap.size ≤ w3.heap.size) := Nat.le_refl _
  have W1 : Hid (w.heap.size ≤ w2.heap.size) := B_2.out.size
  clear mm3 hg3
  have K1_3 := Lib.hid (K1_2.out.keep bb3)
  have B_3 := Lib.hid (B_2.out.trans (bb3.mono B_2.out.size))
  clear K1_2 B_2 bb3
  go_wp2_with fail
  refine (sWorkingCounts_any p0 (some ⟨g3, 0, none⟩) len0 len0 z0 _ R2_3.out ).mono ?_
  rintro e w4 ⟨⟨ar4, cr4, rfl, hr4⟩, bb4⟩
  rw [HTS.out, HNL.out] at hr4
  rw [HTS.out, HNL.out, HBV.out]
  have R4_4 := Lib.hid hr4
  clear hr4
  have K1_4 := Lib.hid (K1_3.out.keep bb4)
  have R2_4 := Lib.hid (R2_3.out.keep bb4)
  have O3_4 := Lib.hid (O3_3.out.keep bb4)
  have F1_4 : Hid (w3.heap.size ≤ w4.heap.size) := Nat.le_trans F1_3.out bb4.size
  have B_4 := Lib.hid (B_3.out.trans (bb4.mono B_3.out.size))
  clear K1_3 R2_3 O3_3 F1_3 B_3 bb4
  clear R2_4
  clear O3_4
  obtain ⟨⟨cK10, cK11⟩, _, _⟩ := K1_4.out.two
  go_wp2_with fail
  clear cK10 cK11
  have PK1_2 := Lib.hid K1_4.out.lt
  have PR4_2 := Lib.hid R4_4.out.lt
  refine (toSys_made p0 a0 len0 cap0 z0 _ (H0.out.keep B_4.out) hn'0).mono ?_
  rintro e w5 ⟨⟨g5, rfl, hg5, mm5⟩, bb5⟩
  have R5_5 := Lib.hid (imade_row mm5 HL0.out hn'0 HZ0.out)
  have O6_5 : Hid (Mid w5 w4.heap.size w5.heap.size (some ⟨g5, 0, none⟩) len0 2) := .inr ⟨_, rfl, hg5, mm5.lt, Slots.of_filled mm5 (by rw [iv_len]; exact HL0.out) (Nat.le_refl _)⟩
  have F2_5 : Hid (w5.heap.size ≤ w5.heap.size) := Nat.le_refl _
  have W2 : Hid (w.heap.size ≤ w4.heap.size) := B_4.out.size
  clear mm5 hg5
  have PR5_1 := Lib.hid (O6_5.out.ge F1_4.out)
  have PO6_1 : Hid (w3.heap.size ≤ w4.heap.size) := F1_4.out
  have K1_5 := Lib.hid (K1_4.out.keep bb5)
  have R4_5 := Lib.hid (R4_4.out.keep bb5)
  have F1_5 : Hid (w3.heap.size ≤ w5.heap.size) := Nat.le_trans F1_4.out bb5.size
  have B_5 := Lib.hid (B_4.out.trans (bb5.mono B_4.out.size))
  clear K1_4 R4_4 F1_4 B_4 bb5
  go_wp2_with fail
  obtain ⟨w6, hW6⟩ : ∃ W, W = (w5.alloc (.cells #[.int .i64 p0, .slice (some ⟨g5, 0, none⟩) len0 len0] 30)) := ⟨_, rfl⟩
  have bb6 : Below w5.heap.size w5 w6 := by rw [hW6]; exact ((Below.refl _ _).alloc (Nat.le_refl _) _)
  have K7_6 : Hid (Blk.Blk w6 (w5.heap.size) [.int .i64 p0, .slice (some ⟨g5, 0, none⟩) len0 len0] 30) := by
    rw [hW6]
    have hh := Blk.Blk.new w5 #[.int .i64 p0, .slice (some ⟨g5, 0, none⟩) len0 len0] 30
    exact hh
  have PK7_1 : Hid (w3.heap.size ≤ w5.heap.size) := Nat.le_trans F1_5.out (by simp)
  have PK7_2 : Hid (w5.heap.size ≤ w5.heap.size) := Nat.le_trans F2_5.out (by simp)
  rw [← hW6]
  clear hW6
  have K1_6 := Lib.hid (K1_5.out.keep bb6)
  have R4_6 := Lib.hid (R4_5.out.keep bb6)
  have R5_6 := Lib.hid (R5_5.out.keep bb6)
  have O6_6 := Lib.hid (O6_5.out.keep bb6)
  have F1_6 : Hid (w3.heap.size ≤ w6.heap.size) := Nat.le_trans F1_5.out bb6.size
  have F2_6 : Hid (w5.heap.size ≤ w6.heap.size) := Nat.le_trans F2_5.out bb6.size
  have B_6 := Lib.hid (B_5.out.trans (bb6.mono B_5.out.size))
  clear K1_5 R4_5 R5_5 O6_5 F1_5 F2_5 B_5 bb6
  have PK1_3 := Lib.hid K1_6.out.lt
  have PR4_3 := Lib.hid R4_6.out.lt
  have PR5_3 := Lib.hid R5_6.out.lt
  have PO6_3 : Hid (w5.heap.size ≤ w6.heap.size) := F2_6.out
  have PK7_3 := Lib.hid K7_6.out.lt
  refine (iWorkingCounts_any p0 (some ⟨g5, 0, none⟩) len0 len0 z0 _ R5_6.out (Nat.le_refl _)).mono ?_
  rintro e w7 ⟨⟨ar7, cr7, rfl, hr7, ho7⟩, bb7⟩
  rw [HTS.out, HNL.out] at hr7 ho7
  rw [HTS.out, HNL.out, HBV.out]
  have R8_7 := Lib.hid hr7
  have O9_7 := Lib.hid (Mid.of_own ho7)
  clear hr7 ho7
  have F3_7 : Hid (w7.heap.size ≤ w7.heap.size) := Nat.le_refl _
  have W3 : Hid (w.heap.size ≤ w6.heap.size) := B_6.out.size
  have PR8_1 := Lib.hid (O9_7.out.ge F1_6.out)
  have PO9_1 : Hid (w3.heap.size ≤ w6.heap.size) := F1_6.out
  have PR8_2 := Lib.hid (O9_7.out.ge F2_6.out)
  have PO9_2 : Hid (w5.heap.size ≤ w6.heap.size) := F2_6.out
  have K1_7 := Lib.hid (K1_6.out.keep bb7)
  have R4_7 := Lib.hid (R4_6.out.keep bb7)
  have R5_7 := Lib.hid (R5_6.out.keep bb7)
  have O6_7 := Lib.hid (O6_6.out.keep bb7)
  have K7_7 := Lib.hid (K7_6.out.keep bb7)
  have F1_7 : Hid (w3.heap.size ≤ w7.heap.size) := Nat.le_trans F1_6.out bb7.size
  have F2_7 : Hid (w5.heap.size ≤ w7.heap.size) := Nat.le_trans F2_6.out bb7.size
  have B_7 := Lib.hid (B_6.out.trans (bb7.mono B_6.out.size))
  clear K1_6 R4_6 R5_6 O6_6 K7_6 F1_6 F2_6 B_6 bb7
  go_wp2_with fail
  refine (eqI64_any _ _ n _ _ ts _ R8_7.out R4_7.out hbig).mono ?_
  rintro e w8 ⟨rfl, bb8⟩
  have K1_8 := Lib.hid (K1_7.out.keep bb8)
  have R4_8 := Lib.hid (R4_7.out.keep bb8)
  have R5_8 := Lib.hid (R5_7.out.keep bb8)
  have O6_8 := Lib.hid (O6_7.out.keep bb8)
  have K7_8 := Lib.hid (K7_7.out.keep bb8)
  have R8_8 := Lib.hid (R8_7.out.keep bb8)
  have O9_8 := Lib.hid (O9_7.out.keep bb8)
  have F1_8 : Hid (w3.heap.size ≤ w8.heap.size) := Nat.le_trans F1_7.out bb8.size
  have F2_8 : Hid (w5.heap.size ≤ w8.heap.size) := Nat.le_trans F2_7.out bb8.size
  have F3_8 : Hid (w7.heap.size ≤ w8.heap.size) := Nat.le_trans F3_7.out bb8.size
  have B_8 := Lib.hid (B_7.out.trans (bb8.mono B_7.out.size))
  clear K1_7 R4_7 R5_7 O6_7 K7_7 R8_7 O9_7 F1_7 F2_7 F3_7 B_7 bb8
  go_wp2_with fail
  have bb9 : Below w8.heap.size w8 w8.drew := (Below.refl _ _).drew
  have K1_9 := Lib.hid (K1_8.out.keep bb9)
  have R4_9 := Lib.hid (R4_8.out.keep bb9)
  have R5_9 := Lib.hid (R5_8.out.keep bb9)
  have O6_9 := Lib.hid (O6_8.out.keep bb9)
  have K7_9 := Lib.hid (K7_8.out.keep bb9)
  have R8_9 := Lib.hid (R8_8.out.keep bb9)
  have O9_9 := Lib.hid (O9_8.out.keep bb9)
  have F1_9 : Hid (w3.heap.size ≤ w8.drew.heap.size) := Nat.le_trans F1_8.out bb9.size
  have F2_9 : Hid (w5.heap.size ≤ w8.drew.heap.size) := Nat.le_trans F2_8.out bb9.size
  have F3_9 : Hid (w7.heap.size ≤ w8.drew.heap.size) := Nat.le_trans F3_8.out bb9.size
  have B_9 := Lib.hid (B_8.out.trans (bb9.mono B_8.out.size))
  clear K1_8 R4_8 R5_8 O6_8 K7_8 R8_8 O9_8 F1_8 F2_8 F3_8 B_8 bb9
  have SK7_9 := Lib.hid K7_9.out.two
  have SK1_9 := Lib.hid K1_9.out.two
  go_region_held3 (fun W => (W.cell? ⟨w5.heap.size, 0, none⟩ = some (.int .i64 p0) ∧ W.cell? ⟨w5.heap.size, 1, none⟩ = some (.slice (some ⟨g5, 0, none⟩) len0 len0)) ∧ (W.cell? ⟨w.heap.size, 0, none⟩ = some (.int .i64 p0) ∧ W.cell? ⟨w.heap.size, 1, none⟩ = some (.slice a0 len0 cap0)))
    (first | exact ⟨SK7_9.out.1, SK1_9.out.1⟩ | exact ⟨SK7_10.out.1, SK1_10.out.1⟩ | exact ⟨SK7_11.out.1, SK1_11.out.1⟩)
    (first | (have PK1_4 := Lib.hid K1_9.out.lt; have PR4_4 := Lib.hid R4_9.out.lt; have PR5_4 := Lib.hid R5_9.out.lt; have PO6_4 : Hid (w5.heap.size ≤ w8.drew.heap.size) := F2_9.out; have PK7_4 := Lib.hid K7_9.out.lt; have PR8_4 := Lib.hid R8_9.out.lt; have PO9_4 : Hid (w7.heap.size ≤ w8.drew.heap.size) := F3_9.out; go_at_call_of 17 (Value.agg #[.int .i64 p0, .slice a0 len0 cap0]); refine (toSys_made p0 a0 len0 cap0 z0 _ (H0.out.keep B_9.out) hn'0).mono ?_; rintro e w10 ⟨⟨g10, rfl, hg10, mm10⟩, bb10⟩; have R10_10 := Lib.hid (imade_row mm10 HL0.out hn'0 HZ0.out); have O11_10 : Hid (Mid w10 w8.drew.heap.size w10.heap.size (some ⟨g10, 0, none⟩) len0 2) := .inr ⟨_, rfl, hg10, mm10.lt, Slots.of_filled mm10 (by rw [iv_len]; exact HL0.out) (Nat.le_refl _)⟩; have F4_10 : Hid (w10.heap.size ≤ w10.heap.size) := Nat.le_refl _; have W4 : Hid (w.heap.size ≤ w8.drew.heap.size) := B_9.out.size; clear mm10 hg10; have PR10_1 := Lib.hid (O11_10.out.ge F1_9.out); have PO11_1 : Hid (w3.heap.size ≤ w8.drew.heap.size) := F1_9.out; have PR10_2 := Lib.hid (O11_10.out.ge F2_9.out); have PO11_2 : Hid (w5.heap.size ≤ w8.drew.heap.size) := F2_9.out; have PR10_3 := Lib.hid (O11_10.out.ge F3_9.out); have PO11_3 : Hid (w7.heap.size ≤ w8.drew.heap.size) := F3_9.out; have K1_10 := Lib.hid (K1_9.out.keep bb10); have R4_10 := Lib.hid (R4_9.out.keep bb10); have R5_10 := Lib.hid (R5_9.out.keep bb10); have O6_10 := Lib.hid (O6_9.out.keep bb10); have K7_10 := Lib.hid (K7_9.out.keep bb10); have R8_10 := Lib.hid (R8_9.out.keep bb10); have O9_10 := Lib.hid (O9_9.out.keep bb10); have F1_10 : Hid (w3.heap.size ≤ w10.heap.size) := Nat.le_trans F1_9.out bb10.size; have F2_10 : Hid (w5.heap.size ≤ w10.heap.size) := Nat.le_trans F2_9.out bb10.size; have F3_10 : Hid (w7.heap.size ≤ w10.heap.size) := Nat.le_trans F3_9.out bb10.size; have B_10 := Lib.hid (B_9.out.trans (bb10.mono B_9.out.size)); clear K1_9 R4_9 R5_9 O6_9 K7_9 R8_9 O9_9 F1_9 F2_9 F3_9 B_9 bb10; have SK7_10 := Lib.hid K7_10.out.two; have SK1_10 := Lib.hid K1_10.out.two) | (go_at_call 21; refine (eqSys_any p0 _ _ len0 _ _ z0 _ R5_10.out R10_10.out hn'0).mono ?_; rintro e w11 ⟨rfl, bb11⟩; have K1_11 := Lib.hid (K1_10.out.keep bb11); have R4_11 := Lib.hid (R4_10.out.keep bb11); have R5_11 := Lib.hid (R5_10.out.keep bb11); have O6_11 := Lib.hid (O6_10.out.keep bb11); have K7_11 := Lib.hid (K7_10.out.keep bb11); have R8_11 := Lib.hid (R8_10.out.keep bb11); have O9_11 := Lib.hid (O9_10.out.keep bb11); have R10_11 := Lib.hid (R10_10.out.keep bb11); have O11_11 := Lib.hid (O11_10.out.keep bb11); have F1_11 : Hid (w3.heap.size ≤ w11.heap.size) := Nat.le_trans F1_10.out bb11.size; have F2_11 : Hid (w5.heap.size ≤ w11.heap.size) := Nat.le_trans F2_10.out bb11.size; have F3_11 : Hid (w7.heap.size ≤ w11.heap.size) := Nat.le_trans F3_10.out bb11.size; have F4_11 : Hid (w10.heap.size ≤ w11.heap.size) := Nat.le_trans F4_10.out bb11.size; have B_11 := Lib.hid (B_10.out.trans (bb11.mono B_10.out.size)); clear K1_10 R4_10 R5_10 O6_10 K7_10 R8_10 O9_10 R10_10 O11_10 F1_10 F2_10 F3_10 F4_10 B_10 bb11; clear R10_11; clear O11_11; have SK7_11 := Lib.hid K7_11.out.two; have SK1_11 := Lib.hid K1_11.out.two))
  obtain ⟨⟨cK70, cK71⟩, _, _⟩ := K7_11.out.two
  go_wp2_with fail
  clear cK70 cK71
  refine (mkSys_any (w4.heap.size) (w5.heap.size) 1 p0 _ len0 _ _ O6_11.out hn'0 (by omega)).mono ?_
  rintro e w12 ⟨rfl, mm12, ss12⟩
  have K1_12 := Lib.hid (K1_11.out.sep ss12 (.inl PK1_2.out))
  have R4_12 := Lib.hid (R4_11.out.sepL ss12 PR4_2.out)
  have K7_12 := Lib.hid (K7_11.out.sep ss12 (.inr PK7_2.out))
  have R8_12 := Lib.hid (R8_11.out.sepG ss12 PR8_2.out)
  have O9_12 := Lib.hid (O9_11.out.sep ss12 (.inr PO9_2.out))
  have F1_12 : Hid (w3.heap.size ≤ w12.heap.size) := Nat.le_trans F1_11.out ss12.size
  have F2_12 : Hid (w5.heap.size ≤ w12.heap.size) := Nat.le_trans F2_11.out ss12.size
  have F3_12 : Hid (w7.heap.size ≤ w12.heap.size) := Nat.le_trans F3_11.out ss12.size
  have F4_12 : Hid (w10.heap.size ≤ w12.heap.size) := Nat.le_trans F4_11.out ss12.size
  have B_12 := Lib.hid (B_11.out.trans (ss12.below W2.out B_11.out.size))
  clear K1_11 R4_11 K7_11 R8_11 O9_11 F1_11 F2_11 F3_11 F4_11 B_11 R5_11 O6_11 mm12 ss12
  have hk12 : ¬ (1 + (len0 : Int) < 0) := by omega
  go_wp2_with fail
  refine (eqI64_any _ _ n _ _ ts _ R8_12.out R4_12.out hbig).mono ?_
  rintro e w13 ⟨rfl, bb13⟩
  have K1_13 := Lib.hid (K1_12.out.keep bb13)
  have R4_13 := Lib.hid (R4_12.out.keep bb13)
  have K7_13 := Lib.hid (K7_12.out.keep bb13)
  have R8_13 := Lib.hid (R8_12.out.keep bb13)
  have O9_13 := Lib.hid (O9_12.out.keep bb13)
  have F1_13 : Hid (w3.heap.size ≤ w13.heap.size) := Nat.le_trans F1_12.out bb13.size
  have F2_13 : Hid (w5.heap.size ≤ w13.heap.size) := Nat.le_trans F2_12.out bb13.size
  have F3_13 : Hid (w7.heap.size ≤ w13.heap.size) := Nat.le_trans F3_12.out bb13.size
  have F4_13 : Hid (w10.heap.size ≤ w13.heap.size) := Nat.le_trans F4_12.out bb13.size
  have B_13 := Lib.hid (B_12.out.trans (bb13.mono B_12.out.size))
  clear K1_12 R4_12 K7_12 R8_12 O9_12 F1_12 F2_12 F3_12 F4_12 B_12 bb13
  go_wp2_with fail
  refine (mkI64_any (w6.heap.size) (w7.heap.size) 1 _ n _ _ O9_13.out hbig (by omega)).mono ?_
  rintro e w14 ⟨rfl, mm14, ss14⟩
  have K1_14 := Lib.hid (K1_13.out.sep ss14 (.inl PK1_3.out))
  have R4_14 := Lib.hid (R4_13.out.sepL ss14 PR4_3.out)
  have K7_14 := Lib.hid (K7_13.out.sep ss14 (.inl PK7_3.out))
  have F1_14 : Hid (w3.heap.size ≤ w14.heap.size) := Nat.le_trans F1_13.out ss14.size
  have F2_14 : Hid (w5.heap.size ≤ w14.heap.size) := Nat.le_trans F2_13.out ss14.size
  have F3_14 : Hid (w7.heap.size ≤ w14.heap.size) := Nat.le_trans F3_13.out ss14.size
  have F4_14 : Hid (w10.heap.size ≤ w14.heap.size) := Nat.le_trans F4_13.out ss14.size
  have B_14 := Lib.hid (B_13.out.trans (ss14.below W3.out B_13.out.size))
  have M12_14 := Lib.hid mm14
  clear K1_13 R4_13 K7_13 F1_13 F2_13 F3_13 F4_13 B_13 R8_13 O9_13 mm14 ss14
  have hk14 : ¬ (1 + (n : Int) < 0) := by omega
  go_wp2_with fail
  refine (hdI64_any 1 _ n _ _ M12_14.out hbig (by omega)).mono ?_
  rintro e w15 ⟨rfl, bb15⟩
  have K1_15 := Lib.hid (K1_14.out.keep bb15)
  have R4_15 := Lib.hid (R4_14.out.keep bb15)
  have K7_15 := Lib.hid (K7_14.out.keep bb15)
  have M12_15 := Lib.hid (M12_14.out.keep bb15)
  have F1_15 : Hid (w3.heap.size ≤ w15.heap.size) := Nat.le_trans F1_14.out bb15.size
  have F2_15 : Hid (w5.heap.size ≤ w15.heap.size) := Nat.le_trans F2_14.out bb15.size
  have F3_15 : Hid (w7.heap.size ≤ w15.heap.size) := Nat.le_trans F3_14.out bb15.size
  have F4_15 : Hid (w10.heap.size ≤ w15.heap.size) := Nat.le_trans F4_14.out bb15.size
  have B_15 := Lib.hid (B_14.out.trans (bb15.mono B_14.out.size))
  clear K1_14 R4_14 K7_14 M12_14 F1_14 F2_14 F3_14 F4_14 B_14 bb15
  obtain ⟨⟨cK10, cK11⟩, _, _⟩ := K1_15.out.two
  go_wp2_with fail
  clear cK10 cK11
  have PK1_5 := Lib.hid K1_15.out.lt
  have PR4_5 := Lib.hid R4_15.out.lt
  have PK7_5 := Lib.hid K7_15.out.lt
  refine (toSys_made p0 a0 len0 cap0 z0 _ (H0.out.keep B_15.out) hn'0).mono ?_
  rintro e w16 ⟨⟨g16, rfl, hg16, mm16⟩, bb16⟩
  have R13_16 := Lib.hid (imade_row mm16 HL0.out hn'0 HZ0.out)
  have O14_16 : Hid (Mid w16 w15.heap.size w16.heap.size (some ⟨g16, 0, none⟩) len0 2) := .inr ⟨_, rfl, hg16, mm16.lt, Slots.of_filled mm16 (by rw [iv_len]; exact HL0.out) (Nat.le_refl _)⟩
  have F5_16 : Hid (w16.heap.size ≤ w16.heap.size) := Nat.le_refl _
  have W5 : Hid (w.heap.size ≤ w15.heap.size) := B_15.out.size
  clear mm16 hg16
  have PR13_1 := Lib.hid (O14_16.out.ge F1_15.out)
  have PO14_1 : Hid (w3.heap.size ≤ w15.heap.size) := F1_15.out
  have PR13_2 := Lib.hid (O14_16.out.ge F2_15.out)
  have PO14_2 : Hid (w5.heap.size ≤ w15.heap.size) := F2_15.out
  have PR13_3 := Lib.hid (O14_16.out.ge F3_15.out)
  have PO14_3 : Hid (w7.heap.size ≤ w15.heap.size) := F3_15.out
  have PR13_4 := Lib.hid (O14_16.out.ge F4_15.out)
  have PO14_4 : Hid (w10.heap.size ≤ w15.heap.size) := F4_15.out
  have K1_16 := Lib.hid (K1_15.out.keep bb16)
  have R4_16 := Lib.hid (R4_15.out.keep bb16)
  have K7_16 := Lib.hid (K7_15.out.keep bb16)
  have M12_16 := Lib.hid (M12_15.out.keep bb16)
  have F1_16 : Hid (w3.heap.size ≤ w16.heap.size) := Nat.le_trans F1_15.out bb16.size
  have F2_16 : Hid (w5.heap.size ≤ w16.heap.size) := Nat.le_trans F2_15.out bb16.size
  have F3_16 : Hid (w7.heap.size ≤ w16.heap.size) := Nat.le_trans F3_15.out bb16.size
  have F4_16 : Hid (w10.heap.size ≤ w16.heap.size) := Nat.le_trans F4_15.out bb16.size
  have B_16 := Lib.hid (B_15.out.trans (bb16.mono B_15.out.size))
  clear K1_15 R4_15 K7_15 M12_15 F1_15 F2_15 F3_15 F4_15 B_15 bb16
  go_wp2_with fail
  have PK1_6 := Lib.hid K1_16.out.lt
  have PR4_6 := Lib.hid R4_16.out.lt
  have PK7_6 := Lib.hid K7_16.out.lt
  have PR13_6 := Lib.hid R13_16.out.lt
  have PO14_6 : Hid (w16.heap.size ≤ w16.heap.size) := F5_16.out
  refine (iWorkingCounts_any p0 (some ⟨g16, 0, none⟩) len0 len0 z0 _ R13_16.out (Nat.le_refl _)).mono ?_
  rintro e w17 ⟨⟨ar17, cr17, rfl, hr17, ho17⟩, bb17⟩
  rw [HTS.out, HNL.out] at hr17 ho17
  rw [HTS.out, HNL.out, HBV.out]
  have R15_17 := Lib.hid hr17
  have O16_17 := Lib.hid (Mid.of_own ho17)
  clear hr17 ho17
  have F6_17 : Hid (w17.heap.size ≤ w17.heap.size) := Nat.le_refl _
  have W6 : Hid (w.heap.size ≤ w16.heap.size) := B_16.out.size
  have PR15_1 := Lib.hid (O16_17.out.ge F1_16.out)
  have PO16_1 : Hid (w3.heap.size ≤ w16.heap.size) := F1_16.out
  have PR15_2 := Lib.hid (O16_17.out.ge F2_16.out)
  have PO16_2 : Hid (w5.heap.size ≤ w16.heap.size) := F2_16.out
  have PR15_3 := Lib.hid (O16_17.out.ge F3_16.out)
  have PO16_3 : Hid (w7.heap.size ≤ w16.heap.size) := F3_16.out
  have PR15_4 := Lib.hid (O16_17.out.ge F4_16.out)
  have PO16_4 : Hid (w10.heap.size ≤ w16.heap.size) := F4_16.out
  have PR15_5 := Lib.hid (O16_17.out.ge F5_16.out)
  have PO16_5 : Hid (w16.heap.size ≤ w16.heap.size) := F5_16.out
  have K1_17 := Lib.hid (K1_16.out.keep bb17)
  have R4_17 := Lib.hid (R4_16.out.keep bb17)
  have K7_17 := Lib.hid (K7_16.out.keep bb17)
  have M12_17 := Lib.hid (M12_16.out.keep bb17)
  have R13_17 := Lib.hid (R13_16.out.keep bb17)
  have O14_17 := Lib.hid (O14_16.out.keep bb17)
  have F1_17 : Hid (w3.heap.size ≤ w17.heap.size) := Nat.le_trans F1_16.out bb17.size
  have F2_17 : Hid (w5.heap.size ≤ w17.heap.size) := Nat.le_trans F2_16.out bb17.size
  have F3_17 : Hid (w7.heap.size ≤ w17.heap.size) := Nat.le_trans F3_16.out bb17.size
  have F4_17 : Hid (w10.heap.size ≤ w17.heap.size) := Nat.le_trans F4_16.out bb17.size
  have F5_17 : Hid (w16.heap.size ≤ w17.heap.size) := Nat.le_trans F5_16.out bb17.size
  have B_17 := Lib.hid (B_16.out.trans (bb17.mono B_16.out.size))
  clear K1_16 R4_16 K7_16 M12_16 R13_16 O14_16 F1_16 F2_16 F3_16 F4_16 F5_16 B_16 bb17
  clear R13_17
  clear O14_17
  go_wp2_with fail
  refine (eqI64_any _ _ n _ _ ts _ R15_17.out R4_17.out hbig).mono ?_
  rintro e w18 ⟨rfl, bb18⟩
  have K1_18 := Lib.hid (K1_17.out.keep bb18)
  have R4_18 := Lib.hid (R4_17.out.keep bb18)
  have K7_18 := Lib.hid (K7_17.out.keep bb18)
  have M12_18 := Lib.hid (M12_17.out.keep bb18)
  have R15_18 := Lib.hid (R15_17.out.keep bb18)
  have O16_18 := Lib.hid (O16_17.out.keep bb18)
  have F1_18 : Hid (w3.heap.size ≤ w18.heap.size) := Nat.le_trans F1_17.out bb18.size
  have F2_18 : Hid (w5.heap.size ≤ w18.heap.size) := Nat.le_trans F2_17.out bb18.size
  have F3_18 : Hid (w7.heap.size ≤ w18.heap.size) := Nat.le_trans F3_17.out bb18.size
  have F4_18 : Hid (w10.heap.size ≤ w18.heap.size) := Nat.le_trans F4_17.out bb18.size
  have F5_18 : Hid (w16.heap.size ≤ w18.heap.size) := Nat.le_trans F5_17.out bb18.size
  have F6_18 : Hid (w17.heap.size ≤ w18.heap.size) := Nat.le_trans F6_17.out bb18.size
  have B_18 := Lib.hid (B_17.out.trans (bb18.mono B_17.out.size))
  clear K1_17 R4_17 K7_17 M12_17 R15_17 O16_17 F1_17 F2_17 F3_17 F4_17 F5_17 F6_17 B_17 bb18
  clear R15_18
  clear O16_18
  clear R4_18
  go_wp2_with fail
  refine (hdI64_any 1 _ n _ _ M12_18.out hbig (by omega)).mono ?_
  rintro e w19 ⟨rfl, bb19⟩
  have K1_19 := Lib.hid (K1_18.out.keep bb19)
  have K7_19 := Lib.hid (K7_18.out.keep bb19)
  have M12_19 := Lib.hid (M12_18.out.keep bb19)
  have F1_19 : Hid (w3.heap.size ≤ w19.heap.size) := Nat.le_trans F1_18.out bb19.size
  have F2_19 : Hid (w5.heap.size ≤ w19.heap.size) := Nat.le_trans F2_18.out bb19.size
  have F3_19 : Hid (w7.heap.size ≤ w19.heap.size) := Nat.le_trans F3_18.out bb19.size
  have F4_19 : Hid (w10.heap.size ≤ w19.heap.size) := Nat.le_trans F4_18.out bb19.size
  have F5_19 : Hid (w16.heap.size ≤ w19.heap.size) := Nat.le_trans F5_18.out bb19.size
  have F6_19 : Hid (w17.heap.size ≤ w19.heap.size) := Nat.le_trans F6_18.out bb19.size
  have B_19 := Lib.hid (B_18.out.trans (bb19.mono B_18.out.size))
  clear K1_18 K7_18 M12_18 F1_18 F2_18 F3_18 F4_18 F5_18 F6_18 B_18 bb19
  go_wp2_with fail
  go_ret
  exact ⟨rfl, B_19.out⟩
end Go.Proofs.Ytbmgloncimjfhab
