/-
  The exact law of how many sets accept a lot, for each number of bad parts. No conditions beyond the statement's own.
-/
import Derived.Test.YtemdgfjcjjadnaaPlK
import Derived.Test.YtemdgfjcjjadnaaMkF
import Derived.Deep.RegionHeld3
namespace Go.Proofs.Ytemdgfjcjjadnaa
open Go.RowKit Dec Flt Syl Sep Pl
set_option maxRecDepth 40000 in
set_option maxHeartbeats 8000000 in
theorem fnExactAcceptCurve_walk (n0 : Int) (_wn0 : (Lit.int .i64 n0).wf = true) (p1 : Int) (_wp1 : (Lit.int .i64 p1).wf = true) (q1 : Int) (_wq1 : (Lit.int .i64 q1).wf = true) (w : World)  :
    Calls Try.prog 6 #[.int .i64 n0, .agg #[.int .i64 p1, .int .i64 q1]] w fun e w' => e = .returned (.bool true) ∧ Below w.heap.size w w' := by
  have hxb : ∀ x : Bool, (x != x) = false := by simp
  have hxi : ∀ x : Int, (x != x) = false := by simp
  obtain ⟨ts, hts⟩ : ∃ ts, kvA n0 p1 q1 = ts := ⟨_, rfl⟩
  obtain ⟨n, hnl⟩ : ∃ n, ts.length = n := ⟨_, rfl⟩
  have hbig : n ≤ 1048576 := by rw [← hnl, ← hts]; exact kvA_len n0 p1 q1
  have HTS := Lib.hid hts
  have HNL := Lib.hid hnl
  clear hts hnl
  have hk0 : ¬ ((1 : Int) + (n : Int) < 0) := by omega
  obtain ⟨sv, hsv⟩ : ∃ sv : Int, kvN n0 p1 q1 = sv := ⟨_, rfl⟩
  have HSV := Lib.hid hsv
  clear hsv
  obtain ⟨bv, hbv⟩ : ∃ bv, pfB n0 p1 q1 = bv := ⟨_, rfl⟩
  have HBV := Lib.hid hbv
  clear hbv
  go_enter Try.func6, Try.ntmps6
  go_wp2_with fail
  obtain ⟨w1, hW1⟩ : ∃ W, W = (w.alloc (.cells #[.int .i64 p1, .int .i64 q1] 23)) := ⟨_, rfl⟩
  have bb1 : Below w.heap.size w w1 := by rw [hW1]; exact ((Below.refl _ _).alloc (Nat.le_refl _) _)
  have K1_1 : Hid (Blk.Blk w1 (w.heap.size) [.int .i64 p1, .int .i64 q1] 23) := by
    rw [hW1]
    have hh := Blk.Blk.new w #[.int .i64 p1, .int .i64 q1] 23
    exact hh
  rw [← hW1]
  clear hW1
  have B_1 := Lib.hid bb1
  clear bb1
  refine (toPlan_any p1 q1 _).mono ?_
  rintro e w2 ⟨rfl, bb2⟩
  have K1_2 := Lib.hid (K1_1.out.keep bb2)
  have B_2 := Lib.hid (B_1.out.trans (bb2.mono B_1.out.size))
  clear K1_1 B_1 bb2
  go_wp2_with fail
  refine (sAcceptCurve_any (n0) p1 q1 _  ).mono ?_
  rintro e w3 ⟨⟨ar3, cr3, rfl, hr3⟩, bb3⟩
  rw [HTS.out, HNL.out] at hr3
  rw [HTS.out, HNL.out, HSV.out, HBV.out]
  have R2_3 := Lib.hid hr3
  clear hr3
  have K1_3 := Lib.hid (K1_2.out.keep bb3)
  have B_3 := Lib.hid (B_2.out.trans (bb3.mono B_2.out.size))
  clear K1_2 B_2 bb3
  obtain ⟨⟨cK10, cK11⟩, _, _⟩ := K1_3.out.two
  go_wp2_with fail
  clear cK10 cK11
  refine (toPlan_any p1 q1 _).mono ?_
  rintro e w4 ⟨rfl, bb4⟩
  have K1_4 := Lib.hid (K1_3.out.keep bb4)
  have R2_4 := Lib.hid (R2_3.out.keep bb4)
  have B_4 := Lib.hid (B_3.out.trans (bb4.mono B_3.out.size))
  clear K1_3 R2_3 B_3 bb4
  go_wp2_with fail
  have PK1_1 := Lib.hid K1_4.out.lt
  have PR2_1 := Lib.hid R2_4.out.lt
  refine (iAcceptCurve_any (n0) p1 q1 _  ).mono ?_
  rintro e w5 ⟨⟨ar5, cr5, rfl, hr5, ho5⟩, bb5⟩
  rw [HTS.out, HNL.out] at hr5 ho5
  rw [HTS.out, HNL.out, HSV.out, HBV.out]
  have R3_5 := Lib.hid hr5
  have O4_5 := Lib.hid (Mid.of_own ho5)
  clear hr5 ho5
  have F1_5 : Hid (w5.heap.size ≤ w5.heap.size) := Nat.le_refl _
  have W1 : Hid (w.heap.size ≤ w4.heap.size) := B_4.out.size
  have K1_5 := Lib.hid (K1_4.out.keep bb5)
  have R2_5 := Lib.hid (R2_4.out.keep bb5)
  have B_5 := Lib.hid (B_4.out.trans (bb5.mono B_4.out.size))
  clear K1_4 R2_4 B_4 bb5
  go_wp2_with fail
  refine (eqI64_any _ _ n _ _ ts _ R3_5.out R2_5.out hbig).mono ?_
  rintro e w6 ⟨rfl, bb6⟩
  have K1_6 := Lib.hid (K1_5.out.keep bb6)
  have R2_6 := Lib.hid (R2_5.out.keep bb6)
  have R3_6 := Lib.hid (R3_5.out.keep bb6)
  have O4_6 := Lib.hid (O4_5.out.keep bb6)
  have F1_6 : Hid (w5.heap.size ≤ w6.heap.size) := Nat.le_trans F1_5.out bb6.size
  have B_6 := Lib.hid (B_5.out.trans (bb6.mono B_5.out.size))
  clear K1_5 R2_5 R3_5 O4_5 F1_5 B_5 bb6
  go_wp2_with fail
  refine (mkI64_any (w4.heap.size) (w5.heap.size) 1 _ n _ _ O4_6.out hbig (by omega)).mono ?_
  rintro e w7 ⟨rfl, mm7, ss7⟩
  have K1_7 := Lib.hid (K1_6.out.sep ss7 (.inl PK1_1.out))
  have R2_7 := Lib.hid (R2_6.out.sepL ss7 PR2_1.out)
  have F1_7 : Hid (w5.heap.size ≤ w7.heap.size) := Nat.le_trans F1_6.out ss7.size
  have B_7 := Lib.hid (B_6.out.trans (ss7.below W1.out B_6.out.size))
  have M5_7 := Lib.hid mm7
  clear K1_6 R2_6 F1_6 B_6 R3_6 O4_6 mm7 ss7
  have hk7 : ¬ (1 + (n : Int) < 0) := by omega
  go_wp2_with fail
  refine (hdI64_any 1 _ n _ _ M5_7.out hbig (by omega)).mono ?_
  rintro e w8 ⟨rfl, bb8⟩
  have K1_8 := Lib.hid (K1_7.out.keep bb8)
  have R2_8 := Lib.hid (R2_7.out.keep bb8)
  have M5_8 := Lib.hid (M5_7.out.keep bb8)
  have F1_8 : Hid (w5.heap.size ≤ w8.heap.size) := Nat.le_trans F1_7.out bb8.size
  have B_8 := Lib.hid (B_7.out.trans (bb8.mono B_7.out.size))
  clear K1_7 R2_7 M5_7 F1_7 B_7 bb8
  obtain ⟨⟨cK10, cK11⟩, _, _⟩ := K1_8.out.two
  go_wp2_with fail
  clear cK10 cK11
  refine (toPlan_any p1 q1 _).mono ?_
  rintro e w9 ⟨rfl, bb9⟩
  have K1_9 := Lib.hid (K1_8.out.keep bb9)
  have R2_9 := Lib.hid (R2_8.out.keep bb9)
  have M5_9 := Lib.hid (M5_8.out.keep bb9)
  have F1_9 : Hid (w5.heap.size ≤ w9.heap.size) := Nat.le_trans F1_8.out bb9.size
  have B_9 := Lib.hid (B_8.out.trans (bb9.mono B_8.out.size))
  clear K1_8 R2_8 M5_8 F1_8 B_8 bb9
  go_wp2_with fail
  have PK1_2 := Lib.hid K1_9.out.lt
  have PR2_2 := Lib.hid R2_9.out.lt
  refine (iAcceptCurve_any (n0) p1 q1 _  ).mono ?_
  rintro e w10 ⟨⟨ar10, cr10, rfl, hr10, ho10⟩, bb10⟩
  rw [HTS.out, HNL.out] at hr10 ho10
  rw [HTS.out, HNL.out, HSV.out, HBV.out]
  have R6_10 := Lib.hid hr10
  have O7_10 := Lib.hid (Mid.of_own ho10)
  clear hr10 ho10
  have F2_10 : Hid (w10.heap.size ≤ w10.heap.size) := Nat.le_refl _
  have W2 : Hid (w.heap.size ≤ w9.heap.size) := B_9.out.size
  have PR6_1 := Lib.hid (O7_10.out.ge F1_9.out)
  have PO7_1 : Hid (w5.heap.size ≤ w9.heap.size) := F1_9.out
  have K1_10 := Lib.hid (K1_9.out.keep bb10)
  have R2_10 := Lib.hid (R2_9.out.keep bb10)
  have M5_10 := Lib.hid (M5_9.out.keep bb10)
  have F1_10 : Hid (w5.heap.size ≤ w10.heap.size) := Nat.le_trans F1_9.out bb10.size
  have B_10 := Lib.hid (B_9.out.trans (bb10.mono B_9.out.size))
  clear K1_9 R2_9 M5_9 F1_9 B_9 bb10
  go_wp2_with fail
  refine (eqI64_any _ _ n _ _ ts _ R6_10.out R2_10.out hbig).mono ?_
  rintro e w11 ⟨rfl, bb11⟩
  have K1_11 := Lib.hid (K1_10.out.keep bb11)
  have R2_11 := Lib.hid (R2_10.out.keep bb11)
  have M5_11 := Lib.hid (M5_10.out.keep bb11)
  have R6_11 := Lib.hid (R6_10.out.keep bb11)
  have O7_11 := Lib.hid (O7_10.out.keep bb11)
  have F1_11 : Hid (w5.heap.size ≤ w11.heap.size) := Nat.le_trans F1_10.out bb11.size
  have F2_11 : Hid (w10.heap.size ≤ w11.heap.size) := Nat.le_trans F2_10.out bb11.size
  have B_11 := Lib.hid (B_10.out.trans (bb11.mono B_10.out.size))
  clear K1_10 R2_10 M5_10 R6_10 O7_10 F1_10 F2_10 B_10 bb11
  clear R6_11
  clear O7_11
  clear R2_11
  go_wp2_with fail
  refine (hdI64_any 1 _ n _ _ M5_11.out hbig (by omega)).mono ?_
  rintro e w12 ⟨rfl, bb12⟩
  have K1_12 := Lib.hid (K1_11.out.keep bb12)
  have M5_12 := Lib.hid (M5_11.out.keep bb12)
  have F1_12 : Hid (w5.heap.size ≤ w12.heap.size) := Nat.le_trans F1_11.out bb12.size
  have F2_12 : Hid (w10.heap.size ≤ w12.heap.size) := Nat.le_trans F2_11.out bb12.size
  have B_12 := Lib.hid (B_11.out.trans (bb12.mono B_11.out.size))
  clear K1_11 M5_11 F1_11 F2_11 B_11 bb12
  go_wp2_with fail
  go_ret
  exact ⟨rfl, B_12.out⟩
end Go.Proofs.Ytemdgfjcjjadnaa
