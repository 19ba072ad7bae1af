/-
  The exact laws of functions that read a system and return sets, or a system. No conditions beyond the statements' own.
-/
import Derived.Test.YtbmgloncimjfhaaVotW
import Derived.Deep.RegionHeld3
namespace Go.Proofs.Ytbmgloncimjfhaa
open Go.RowKit Dec Flt Syl Sep
set_option maxRecDepth 40000 in
set_option maxHeartbeats 8000000 in
theorem fnExactVoteSystem_walk (n0 : Int) (_wn0 : (Lit.int .i64 n0).wf = true) (n1 : Int) (_wn1 : (Lit.int .i64 n1).wf = true) (w : World)  :
    Calls Try.prog 10 #[.int .i64 n0, .int .i64 n1] w fun e w' => e = .returned (.bool true) ∧ Below w.heap.size w w' := by
  have hxb : ∀ x : Bool, (x != x) = false := by simp
  have hxi : ∀ x : Int, (x != x) = false := by simp
  obtain ⟨pv, hpv⟩ : ∃ pv : Int, mkP (votB n0 n1) n0 (votL n0 n1) = pv := ⟨_, rfl⟩
  have HPV := Lib.hid hpv
  clear hpv
  obtain ⟨ts, hts⟩ : ∃ ts, mkZ (votB n0 n1) n0 (votL n0 n1) = ts := ⟨_, rfl⟩
  obtain ⟨n, hnl⟩ : ∃ n, ts.length = n := ⟨_, rfl⟩
  have hbig : n ≤ 1048576 := by rw [← hnl, ← hts]; exact mkZ_len (votB n0 n1) n0 (votL n0 n1)
  have HTS := Lib.hid hts
  have HNL := Lib.hid hnl
  clear hts hnl
  have hk0 : ¬ ((1 : Int) + (n : Int) < 0) := by omega
  obtain ⟨bv, hbv⟩ : ∃ bv, mkB (votB n0 n1) n0 (votL n0 n1) = bv := ⟨_, rfl⟩
  have HBV := Lib.hid hbv
  clear hbv
  go_enter Try.func10, Try.ntmps10
  go_wp2_with fail
  refine (sVoteSystem_any (n0) (n1) _ ).mono ?_
  rintro e w1 ⟨⟨ar1, cr1, rfl, hr1⟩, bb1⟩
  rw [HTS.out, HNL.out] at hr1
  rw [HPV.out, HTS.out, HNL.out, HBV.out]
  have R1_1 := Lib.hid hr1
  clear hr1
  have B_1 := Lib.hid bb1
  clear bb1
  go_wp2_with fail
  obtain ⟨w2, hW2⟩ : ∃ W, W = (w1.alloc (.cells #[.int .i64 pv, .slice ar1 n cr1] 27)) := ⟨_, rfl⟩
  have bb2 : Below w1.heap.size w1 w2 := by rw [hW2]; exact ((Below.refl _ _).alloc (Nat.le_refl _) _)
  have K2_2 : Hid (Blk.Blk w2 (w1.heap.size) [.int .i64 pv, .slice ar1 n cr1] 27) := by
    rw [hW2]
    have hh := Blk.Blk.new w1 #[.int .i64 pv, .slice ar1 n cr1] 27
    exact hh
  rw [← hW2]
  clear hW2
  have R1_2 := Lib.hid (R1_1.out.keep bb2)
  have B_2 := Lib.hid (B_1.out.trans (bb2.mono B_1.out.size))
  clear R1_1 B_1 bb2
  have PR1_1 := Lib.hid R1_2.out.lt
  have PK2_1 := Lib.hid K2_2.out.lt
  refine (iVoteSystem_any (n0) (n1) _ ).mono ?_
  rintro e w3 ⟨⟨ar3, cr3, rfl, hr3, ho3⟩, bb3⟩
  rw [HTS.out, HNL.out] at hr3 ho3
  rw [HPV.out, HTS.out, HNL.out, HBV.out]
  have R3_3 := Lib.hid hr3
  have O4_3 := Lib.hid (Mid.of_own ho3)
  clear hr3 ho3
  have F1_3 : Hid (w3.heap.size ≤ w3.heap.size) := Nat.le_refl _
  have W1 : Hid (w.heap.size ≤ w2.heap.size) := B_2.out.size
  have R1_3 := Lib.hid (R1_2.out.keep bb3)
  have K2_3 := Lib.hid (K2_2.out.keep bb3)
  have B_3 := Lib.hid (B_2.out.trans (bb3.mono B_2.out.size))
  clear R1_2 K2_2 B_2 bb3
  obtain ⟨⟨cK20, cK21⟩, _, _⟩ := K2_3.out.two
  go_wp2_with fail
  clear cK20 cK21
  obtain ⟨w4, hW4⟩ : ∃ W, W = (w3.alloc (.cells #[.int .i64 pv, .slice ar3 n cr3] 27)) := ⟨_, rfl⟩
  have bb4 : Below w3.heap.size w3 w4 := by rw [hW4]; exact ((Below.refl _ _).alloc (Nat.le_refl _) _)
  have K5_4 : Hid (Blk.Blk w4 (w3.heap.size) [.int .i64 pv, .slice ar3 n cr3] 27) := by
    rw [hW4]
    have hh := Blk.Blk.new w3 #[.int .i64 pv, .slice ar3 n cr3] 27
    exact hh
  have PK5_1 : Hid (w3.heap.size ≤ w3.heap.size) := Nat.le_trans F1_3.out (by simp)
  rw [← hW4]
  clear hW4
  have R1_4 := Lib.hid (R1_3.out.keep bb4)
  have K2_4 := Lib.hid (K2_3.out.keep bb4)
  have R3_4 := Lib.hid (R3_3.out.keep bb4)
  have O4_4 := Lib.hid (O4_3.out.keep bb4)
  have F1_4 : Hid (w3.heap.size ≤ w4.heap.size) := Nat.le_trans F1_3.out bb4.size
  have B_4 := Lib.hid (B_3.out.trans (bb4.mono B_3.out.size))
  clear R1_3 K2_3 R3_3 O4_3 F1_3 B_3 bb4
  refine (eqSys_any pv _ _ n _ _ ts _ R3_4.out R1_4.out hbig).mono ?_
  rintro e w5 ⟨rfl, bb5⟩
  have R1_5 := Lib.hid (R1_4.out.keep bb5)
  have K2_5 := Lib.hid (K2_4.out.keep bb5)
  have R3_5 := Lib.hid (R3_4.out.keep bb5)
  have O4_5 := Lib.hid (O4_4.out.keep bb5)
  have K5_5 := Lib.hid (K5_4.out.keep bb5)
  have F1_5 : Hid (w3.heap.size ≤ w5.heap.size) := Nat.le_trans F1_4.out bb5.size
  have B_5 := Lib.hid (B_4.out.trans (bb5.mono B_4.out.size))
  clear R1_4 K2_4 R3_4 O4_4 K5_4 F1_4 B_4 bb5
  obtain ⟨⟨cK50, cK51⟩, _, _⟩ := K5_5.out.two
  go_wp2_with fail
  clear cK50 cK51
  refine (mkSys_any (w2.heap.size) (w3.heap.size) 1 pv _ n _ _ O4_5.out hbig (by omega)).mono ?_
  rintro e w6 ⟨rfl, mm6, ss6⟩
  have R1_6 := Lib.hid (R1_5.out.sepL ss6 PR1_1.out)
  have K2_6 := Lib.hid (K2_5.out.sep ss6 (.inl PK2_1.out))
  have K5_6 := Lib.hid (K5_5.out.sep ss6 (.inr PK5_1.out))
  have F1_6 : Hid (w3.heap.size ≤ w6.heap.size) := Nat.le_trans F1_5.out ss6.size
  have B_6 := Lib.hid (B_5.out.trans (ss6.below W1.out B_5.out.size))
  have M6_6 := Lib.hid mm6
  clear R1_5 K2_5 K5_5 F1_5 B_5 R3_5 O4_5 mm6 ss6
  have hk6 : ¬ (1 + (n : Int) < 0) := by omega
  obtain ⟨⟨cK50, cK51⟩, _, _⟩ := K5_6.out.two
  go_wp2_with fail
  clear cK50 cK51
  refine (hdSys_any 1 pv _ n _ _ M6_6.out hbig (by omega)).mono ?_
  rintro e w7 ⟨rfl, bb7⟩
  have R1_7 := Lib.hid (R1_6.out.keep bb7)
  have K2_7 := Lib.hid (K2_6.out.keep bb7)
  have K5_7 := Lib.hid (K5_6.out.keep bb7)
  have M6_7 := Lib.hid (M6_6.out.keep bb7)
  have F1_7 : Hid (w3.heap.size ≤ w7.heap.size) := Nat.le_trans F1_6.out bb7.size
  have B_7 := Lib.hid (B_6.out.trans (bb7.mono B_6.out.size))
  clear R1_6 K2_6 K5_6 M6_6 F1_6 B_6 bb7
  go_wp2_with fail
  have PR1_2 := Lib.hid R1_7.out.lt
  have PK2_2 := Lib.hid K2_7.out.lt
  have PK5_2 := Lib.hid K5_7.out.lt
  refine (iVoteSystem_any (n0) (n1) _ ).mono ?_
  rintro e w8 ⟨⟨ar8, cr8, rfl, hr8, ho8⟩, bb8⟩
  rw [HTS.out, HNL.out] at hr8 ho8
  rw [HPV.out, HTS.out, HNL.out, HBV.out]
  have R7_8 := Lib.hid hr8
  have O8_8 := Lib.hid (Mid.of_own ho8)
  clear hr8 ho8
  have F2_8 : Hid (w8.heap.size ≤ w8.heap.size) := Nat.le_refl _
  have W2 : Hid (w.heap.size ≤ w7.heap.size) := B_7.out.size
  have PR7_1 := Lib.hid (O8_8.out.ge F1_7.out)
  have PO8_1 : Hid (w3.heap.size ≤ w7.heap.size) := F1_7.out
  have R1_8 := Lib.hid (R1_7.out.keep bb8)
  have K2_8 := Lib.hid (K2_7.out.keep bb8)
  have K5_8 := Lib.hid (K5_7.out.keep bb8)
  have M6_8 := Lib.hid (M6_7.out.keep bb8)
  have F1_8 : Hid (w3.heap.size ≤ w8.heap.size) := Nat.le_trans F1_7.out bb8.size
  have B_8 := Lib.hid (B_7.out.trans (bb8.mono B_7.out.size))
  clear R1_7 K2_7 K5_7 M6_7 F1_7 B_7 bb8
  obtain ⟨⟨cK20, cK21⟩, _, _⟩ := K2_8.out.two
  go_wp2_with fail
  clear cK20 cK21
  obtain ⟨w9, hW9⟩ : ∃ W, W = (w8.alloc (.cells #[.int .i64 pv, .slice ar8 n cr8] 27)) := ⟨_, rfl⟩
  have bb9 : Below w8.heap.size w8 w9 := by rw [hW9]; exact ((Below.refl _ _).alloc (Nat.le_refl _) _)
  have K9_9 : Hid (Blk.Blk w9 (w8.heap.size) [.int .i64 pv, .slice ar8 n cr8] 27) := by
    rw [hW9]
    have hh := Blk.Blk.new w8 #[.int .i64 pv, .slice ar8 n cr8] 27
    exact hh
  have PK9_1 : Hid (w3.heap.size ≤ w8.heap.size) := Nat.le_trans F1_8.out (by simp)
  have PK9_2 : Hid (w8.heap.size ≤ w8.heap.size) := Nat.le_trans F2_8.out (by simp)
  rw [← hW9]
  clear hW9
  have R1_9 := Lib.hid (R1_8.out.keep bb9)
  have K2_9 := Lib.hid (K2_8.out.keep bb9)
  have K5_9 := Lib.hid (K5_8.out.keep bb9)
  have M6_9 := Lib.hid (M6_8.out.keep bb9)
  have R7_9 := Lib.hid (R7_8.out.keep bb9)
  have O8_9 := Lib.hid (O8_8.out.keep bb9)
  have F1_9 : Hid (w3.heap.size ≤ w9.heap.size) := Nat.le_trans F1_8.out bb9.size
  have F2_9 : Hid (w8.heap.size ≤ w9.heap.size) := Nat.le_trans F2_8.out bb9.size
  have B_9 := Lib.hid (B_8.out.trans (bb9.mono B_8.out.size))
  clear R1_8 K2_8 K5_8 M6_8 R7_8 O8_8 F1_8 F2_8 B_8 bb9
  refine (eqSys_any pv _ _ n _ _ ts _ R7_9.out R1_9.out hbig).mono ?_
  rintro e w10 ⟨rfl, bb10⟩
  have R1_10 := Lib.hid (R1_9.out.keep bb10)
  have K2_10 := Lib.hid (K2_9.out.keep bb10)
  have K5_10 := Lib.hid (K5_9.out.keep bb10)
  have M6_10 := Lib.hid (M6_9.out.keep bb10)
  have R7_10 := Lib.hid (R7_9.out.keep bb10)
  have O8_10 := Lib.hid (O8_9.out.keep bb10)
  have K9_10 := Lib.hid (K9_9.out.keep bb10)
  have F1_10 : Hid (w3.heap.size ≤ w10.heap.size) := Nat.le_trans F1_9.out bb10.size
  have F2_10 : Hid (w8.heap.size ≤ w10.heap.size) := Nat.le_trans F2_9.out bb10.size
  have B_10 := Lib.hid (B_9.out.trans (bb10.mono B_9.out.size))
  clear R1_9 K2_9 K5_9 M6_9 R7_9 O8_9 K9_9 F1_9 F2_9 B_9 bb10
  clear R7_10
  clear O8_10
  clear R1_10
  obtain ⟨⟨cK50, cK51⟩, _, _⟩ := K5_10.out.two
  go_wp2_with fail
  clear cK50 cK51
  refine (hdSys_any 1 pv _ n _ _ M6_10.out hbig (by omega)).mono ?_
  rintro e w11 ⟨rfl, bb11⟩
  have K2_11 := Lib.hid (K2_10.out.keep bb11)
  have K5_11 := Lib.hid (K5_10.out.keep bb11)
  have M6_11 := Lib.hid (M6_10.out.keep bb11)
  have K9_11 := Lib.hid (K9_10.out.keep bb11)
  have F1_11 : Hid (w3.heap.size ≤ w11.heap.size) := Nat.le_trans F1_10.out bb11.size
  have F2_11 : Hid (w8.heap.size ≤ w11.heap.size) := Nat.le_trans F2_10.out bb11.size
  have B_11 := Lib.hid (B_10.out.trans (bb11.mono B_10.out.size))
  clear K2_10 K5_10 M6_10 K9_10 F1_10 F2_10 B_10 bb11
  go_wp2_with fail
  go_ret
  exact ⟨rfl, B_11.out⟩
end Go.Proofs.Ytbmgloncimjfhaa
