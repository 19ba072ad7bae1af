/-
  The exact laws of chains: whether one is valid, and whether two are the same. No conditions beyond the statements' own.
-/
import Derived.Test.YtcknbfkpilleaaaChnV
import Derived.Deep.RegionHeld3
namespace Go.Proofs.Ytcknbfkpilleaaa
open Go.RowKit Dec Flt Syl Sep Cha Cm Liv
set_option maxRecDepth 40000 in
set_option maxHeartbeats 8000000 in
theorem fnExactValidChain_walk (p0 : Int) (_wp0 : (Lit.int .i64 p0).wf = true) (a0 : Option Addr) (len0 cap0 : Nat) (z0 : List Nat) (w : World) (h0 : FRow w a0 len0 z0) :
    Calls Try.prog 3 #[.agg #[.int .i64 p0, .slice a0 len0 cap0]] w fun e w' => e = .returned (.bool true) ∧ Below w.heap.size w w' := by
  have hml0 : len0 ≤ maxLen := h0.2.1
  have H0 := Lib.hid h0
  have HZ0 := Lib.hid h0.2.2.1
  have HL0 := Lib.hid h0.1
  have hxb : ∀ x : Bool, (x != x) = false := by simp
  have hxi : ∀ x : Int, (x != x) = false := by simp
  clear h0
  go_enter Try.func3, Try.ntmps3
  go_wp2_with fail
  obtain ⟨w1, hW1⟩ : ∃ W, W = (w.alloc (.cells #[.int .i64 p0, .slice a0 len0 cap0] 24)) := ⟨_, rfl⟩
  have bb1 : Below w.heap.size w w1 := by rw [hW1]; exact ((Below.refl _ _).alloc (Nat.le_refl _) _)
  have K1_1 : Hid (Blk.Blk w1 (w.heap.size) [.int .i64 p0, .slice a0 len0 cap0] 24) := by
    rw [hW1]
    have hh := Blk.Blk.new w #[.int .i64 p0, .slice a0 len0 cap0] 24
    exact hh
  rw [← hW1]
  clear hW1
  have B_1 := Lib.hid bb1
  clear bb1
  refine (szCha_any p0 a0 len0 cap0 (1048576) _ (by omega) hml0).mono ?_
  rintro e w2 ⟨rfl, bb2⟩
  have K1_2 := Lib.hid (K1_1.out.keep bb2)
  have B_2 := Lib.hid (B_1.out.trans (bb2.mono B_1.out.size))
  clear K1_1 B_1 bb2
  by_cases hn0 : (1048576 : Int) < (len0 : Int)
  · rw [if_pos hn0]
    go_wp2_with fail
    go_ret
    exact ⟨rfl, B_2.out⟩
  rw [if_neg hn0]
  have hn'0 : len0 ≤ 1048576 := by omega
  have hnn0 : ¬ ((1048576 : Int) - len0 < 0) := by omega
  clear hn0
  obtain ⟨⟨cK10, cK11⟩, _, _⟩ := K1_2.out.two
  go_wp2_with fail
  clear cK10 cK11
  refine (toCha_made p0 a0 len0 cap0 z0 _ (H0.out.keep B_2.out) hn'0).mono ?_
  rintro e w3 ⟨⟨g3, rfl, hg3, mm3⟩, bb3⟩
  have R2_3 := Lib.hid (made_row mm3 hn'0 HZ0.out)
  clear mm3 hg3
  have K1_3 := Lib.hid (K1_2.out.keep bb3)
  have B_3 := Lib.hid (B_2.out.trans (bb3.mono B_2.out.size))
  clear K1_2 B_2 bb3
  go_wp2_with fail
  refine (sValidChain_any p0 (some ⟨g3, 0, none⟩) len0 len0 z0 _ R2_3.out ).mono ?_
  rintro e w4 ⟨rfl, bb4⟩
  have K1_4 := Lib.hid (K1_3.out.keep bb4)
  have R2_4 := Lib.hid (R2_3.out.keep bb4)
  have B_4 := Lib.hid (B_3.out.trans (bb4.mono B_3.out.size))
  clear K1_3 R2_3 B_3 bb4
  clear R2_4
  obtain ⟨⟨cK10, cK11⟩, _, _⟩ := K1_4.out.two
  go_wp2_with fail
  clear cK10 cK11
  refine (toCha_made p0 a0 len0 cap0 z0 _ (H0.out.keep B_4.out) hn'0).mono ?_
  rintro e w5 ⟨⟨g5, rfl, hg5, mm5⟩, bb5⟩
  have R4_5 := Lib.hid (made_row mm5 hn'0 HZ0.out)
  clear mm5 hg5
  have K1_5 := Lib.hid (K1_4.out.keep bb5)
  have B_5 := Lib.hid (B_4.out.trans (bb5.mono B_4.out.size))
  clear K1_4 B_4 bb5
  go_wp2_with fail
  obtain ⟨w6, hW6⟩ : ∃ W, W = (w5.alloc (.cells #[.int .i64 p0, .slice (some ⟨g5, 0, none⟩) len0 len0] 27)) := ⟨_, rfl⟩
  have bb6 : Below w5.heap.size w5 w6 := by rw [hW6]; exact ((Below.refl _ _).alloc (Nat.le_refl _) _)
  have K6_6 : Hid (Blk.Blk w6 (w5.heap.size) [.int .i64 p0, .slice (some ⟨g5, 0, none⟩) len0 len0] 27) := by
    rw [hW6]
    have hh := Blk.Blk.new w5 #[.int .i64 p0, .slice (some ⟨g5, 0, none⟩) len0 len0] 27
    exact hh
  rw [← hW6]
  clear hW6
  have K1_6 := Lib.hid (K1_5.out.keep bb6)
  have R4_6 := Lib.hid (R4_5.out.keep bb6)
  have B_6 := Lib.hid (B_5.out.trans (bb6.mono B_5.out.size))
  clear K1_5 R4_5 B_5 bb6
  refine (iValidChain_any p0 (some ⟨g5, 0, none⟩) len0 len0 z0 _ R4_6.out (Nat.le_refl _) ).mono ?_
  rintro e w7 ⟨rfl, bb7⟩
  have K1_7 := Lib.hid (K1_6.out.keep bb7)
  have R4_7 := Lib.hid (R4_6.out.keep bb7)
  have K6_7 := Lib.hid (K6_6.out.keep bb7)
  have B_7 := Lib.hid (B_6.out.trans (bb7.mono B_6.out.size))
  clear K1_6 R4_6 K6_6 B_6 bb7
  go_wp2_with fail
  have bb8 : Below w7.heap.size w7 w7.drew := (Below.refl _ _).drew
  have K1_8 := Lib.hid (K1_7.out.keep bb8)
  have R4_8 := Lib.hid (R4_7.out.keep bb8)
  have K6_8 := Lib.hid (K6_7.out.keep bb8)
  have B_8 := Lib.hid (B_7.out.trans (bb8.mono B_7.out.size))
  clear K1_7 R4_7 K6_7 B_7 bb8
  have SK6_8 := Lib.hid K6_8.out.two
  have SK1_8 := Lib.hid K1_8.out.two
  go_region_held3 (fun W => (W.cell? ⟨w5.heap.size, 0, none⟩ = some (.int .i64 p0) ∧ W.cell? ⟨w5.heap.size, 1, none⟩ = some (.slice (some ⟨g5, 0, none⟩) len0 len0)) ∧ (W.cell? ⟨w.heap.size, 0, none⟩ = some (.int .i64 p0) ∧ W.cell? ⟨w.heap.size, 1, none⟩ = some (.slice a0 len0 cap0)))
    (first | exact ⟨SK6_8.out.1, SK1_8.out.1⟩ | exact ⟨SK6_9.out.1, SK1_9.out.1⟩ | exact ⟨SK6_10.out.1, SK1_10.out.1⟩)
    (first | (go_at_call_of 17 (Value.agg #[.int .i64 p0, .slice a0 len0 cap0]); refine (toCha_made p0 a0 len0 cap0 z0 _ (H0.out.keep B_8.out) hn'0).mono ?_; rintro e w9 ⟨⟨g9, rfl, hg9, mm9⟩, bb9⟩; have R7_9 := Lib.hid (made_row mm9 hn'0 HZ0.out); clear mm9 hg9; have K1_9 := Lib.hid (K1_8.out.keep bb9); have R4_9 := Lib.hid (R4_8.out.keep bb9); have K6_9 := Lib.hid (K6_8.out.keep bb9); have B_9 := Lib.hid (B_8.out.trans (bb9.mono B_8.out.size)); clear K1_8 R4_8 K6_8 B_8 bb9; have SK6_9 := Lib.hid K6_9.out.two; have SK1_9 := Lib.hid K1_9.out.two) | (go_at_call 19; refine (eqCha_any p0 _ _ len0 _ _ z0 _ R4_9.out R7_9.out hn'0).mono ?_; rintro e w10 ⟨rfl, bb10⟩; have K1_10 := Lib.hid (K1_9.out.keep bb10); have R4_10 := Lib.hid (R4_9.out.keep bb10); have K6_10 := Lib.hid (K6_9.out.keep bb10); have R7_10 := Lib.hid (R7_9.out.keep bb10); have B_10 := Lib.hid (B_9.out.trans (bb10.mono B_9.out.size)); clear K1_9 R4_9 K6_9 R7_9 B_9 bb10; clear R4_10; clear R7_10; have SK6_10 := Lib.hid K6_10.out.two; have SK1_10 := Lib.hid K1_10.out.two))
  go_wp2_with fail
  go_ret
  exact ⟨rfl, B_10.out⟩
set_option maxRecDepth 40000 in
set_option maxHeartbeats 8000000 in
theorem fnExactSameChain_walk (p0 : Int) (_wp0 : (Lit.int .i64 p0).wf = true) (a0 : Option Addr) (len0 cap0 : Nat) (z0 : List Nat) (p1 : Int) (_wp1 : (Lit.int .i64 p1).wf = true) (a1 : Option Addr) (len1 cap1 : Nat) (z1 : List Nat) (w : World) (h0 : FRow w a0 len0 z0) (h1 : FRow w a1 len1 z1) :
    Calls Try.prog 4 #[.agg #[.int .i64 p0, .slice a0 len0 cap0], .agg #[.int .i64 p1, .slice a1 len1 cap1]] w fun e w' => e = .returned (.bool true) ∧ Below w.heap.size w w' := by
  have hml0 : len0 ≤ maxLen := h0.2.1
  have H0 := Lib.hid h0
  have HZ0 := Lib.hid h0.2.2.1
  have HL0 := Lib.hid h0.1
  have hml1 : len1 ≤ maxLen := h1.2.1
  have H1 := Lib.hid h1
  have HZ1 := Lib.hid h1.2.2.1
  have HL1 := Lib.hid h1.1
  have hxb : ∀ x : Bool, (x != x) = false := by simp
  have hxi : ∀ x : Int, (x != x) = false := by simp
  clear h0 h1
  go_enter Try.func4, Try.ntmps4
  go_wp2_with fail
  obtain ⟨w1, hW1⟩ : ∃ W, W = ((w.alloc (.cells #[.int .i64 p0, .slice a0 len0 cap0] 24)).alloc (.cells #[.int .i64 p1, .slice a1 len1 cap1] 24)) := ⟨_, rfl⟩
  have bb1 : Below w.heap.size w w1 := by rw [hW1]; exact (((Below.refl _ _).alloc (Nat.le_refl _) _).alloc (by simp) _)
  have K1_1 : Hid (Blk.Blk w1 (w.heap.size) [.int .i64 p0, .slice a0 len0 cap0] 24) := by
    rw [hW1]
    have hh := Blk.Blk.new w #[.int .i64 p0, .slice a0 len0 cap0] 24
    exact Lib.hid (hh.alloc _)
  have K2_1 : Hid (Blk.Blk w1 (w.heap.size + 1) [.int .i64 p1, .slice a1 len1 cap1] 24) := by
    rw [hW1]
    have hh := Blk.Blk.new (w.alloc (.cells #[.int .i64 p0, .slice a0 len0 cap0] 24)) #[.int .i64 p1, .slice a1 len1 cap1] 24
    simp only [World.size_alloc] at hh
    exact hh
  rw [← hW1]
  clear hW1
  have B_1 := Lib.hid bb1
  clear bb1
  refine (szCha_any p0 a0 len0 cap0 (1048576) _ (by omega) hml0).mono ?_
  rintro e w2 ⟨rfl, bb2⟩
  have K1_2 := Lib.hid (K1_1.out.keep bb2)
  have K2_2 := Lib.hid (K2_1.out.keep bb2)
  have B_2 := Lib.hid (B_1.out.trans (bb2.mono B_1.out.size))
  clear K1_1 K2_1 B_1 bb2
  by_cases hn0 : (1048576 : Int) < (len0 : Int)
  · rw [if_pos hn0]
    go_wp2_with fail
    go_ret
    exact ⟨rfl, B_2.out⟩
  rw [if_neg hn0]
  have hn'0 : len0 ≤ 1048576 := by omega
  have hnn0 : ¬ ((1048576 : Int) - len0 < 0) := by omega
  clear hn0
  obtain ⟨⟨cK20, cK21⟩, _, _⟩ := K2_2.out.two
  go_wp2_with fail
  clear cK20 cK21
  refine (szCha_any p1 a1 len1 cap1 (1048576 - (len0 : Int)) _ (by omega) hml1).mono ?_
  rintro e w3 ⟨rfl, bb3⟩
  have K1_3 := Lib.hid (K1_2.out.keep bb3)
  have K2_3 := Lib.hid (K2_2.out.keep bb3)
  have B_3 := Lib.hid (B_2.out.trans (bb3.mono B_2.out.size))
  clear K1_2 K2_2 B_2 bb3
  by_cases hn1 : (1048576 - (len0 : Int) : Int) < (len1 : Int)
  · rw [if_pos hn1]
    go_wp2_with fail
    go_ret
    exact ⟨rfl, B_3.out⟩
  rw [if_neg hn1]
  have hn'1 : len1 ≤ 1048576 := by omega
  have hnn1 : ¬ ((1048576 - (len0 : Int) : Int) - len1 < 0) := by omega
  clear hn1
  go_wp2_with fail
  have bb4 : Below w3.heap.size w3 w3.drew := (Below.refl _ _).drew
  have K1_4 := Lib.hid (K1_3.out.keep bb4)
  have K2_4 := Lib.hid (K2_3.out.keep bb4)
  have B_4 := Lib.hid (B_3.out.trans (bb4.mono B_3.out.size))
  clear K1_3 K2_3 B_3 bb4
  have SK1_4 := Lib.hid K1_4.out.two
  have SK2_4 := Lib.hid K2_4.out.two
  go_region_held3 (fun W => (W.cell? ⟨w.heap.size, 0, none⟩ = some (.int .i64 p0) ∧ W.cell? ⟨w.heap.size, 1, none⟩ = some (.slice a0 len0 cap0)) ∧ (W.cell? ⟨w.heap.size + 1, 0, none⟩ = some (.int .i64 p1) ∧ W.cell? ⟨w.heap.size + 1, 1, none⟩ = some (.slice a1 len1 cap1)))
    (first | exact ⟨SK1_4.out.1, SK2_4.out.1⟩ | exact ⟨SK1_5.out.1, SK2_5.out.1⟩ | exact ⟨SK1_6.out.1, SK2_6.out.1⟩ | exact ⟨SK1_7.out.1, SK2_7.out.1⟩)
    (first | (go_at_call_of 17 (Value.agg #[.int .i64 p0, .slice a0 len0 cap0]); refine (toCha_made p0 a0 len0 cap0 z0 _ (H0.out.keep B_4.out) hn'0).mono ?_; rintro e w5 ⟨⟨g5, rfl, hg5, mm5⟩, bb5⟩; have R3_5 := Lib.hid (made_row mm5 hn'0 HZ0.out); clear mm5 hg5; have K1_5 := Lib.hid (K1_4.out.keep bb5); have K2_5 := Lib.hid (K2_4.out.keep bb5); have B_5 := Lib.hid (B_4.out.trans (bb5.mono B_4.out.size)); clear K1_4 K2_4 B_4 bb5; have SK1_5 := Lib.hid K1_5.out.two; have SK2_5 := Lib.hid K2_5.out.two) | (go_at_call_of 17 (Value.agg #[.int .i64 p1, .slice a1 len1 cap1]); refine (toCha_made p1 a1 len1 cap1 z1 _ (H1.out.keep B_5.out) hn'1).mono ?_; rintro e w6 ⟨⟨g6, rfl, hg6, mm6⟩, bb6⟩; have R5_6 := Lib.hid (made_row mm6 hn'1 HZ1.out); clear mm6 hg6; have K1_6 := Lib.hid (K1_5.out.keep bb6); have K2_6 := Lib.hid (K2_5.out.keep bb6); have R3_6 := Lib.hid (R3_5.out.keep bb6); have B_6 := Lib.hid (B_5.out.trans (bb6.mono B_5.out.size)); clear K1_5 K2_5 R3_5 B_5 bb6; have SK1_6 := Lib.hid K1_6.out.two; have SK2_6 := Lib.hid K2_6.out.two) | (go_at_call 20; refine (sSameChain_any p0 (some ⟨g5, 0, none⟩) len0 len0 z0 p1 (some ⟨g6, 0, none⟩) len1 len1 z1 _ R3_6.out R5_6.out ).mono ?_; rintro e w7 ⟨rfl, bb7⟩; have K1_7 := Lib.hid (K1_6.out.keep bb7); have K2_7 := Lib.hid (K2_6.out.keep bb7); have R3_7 := Lib.hid (R3_6.out.keep bb7); have R5_7 := Lib.hid (R5_6.out.keep bb7); have B_7 := Lib.hid (B_6.out.trans (bb7.mono B_6.out.size)); clear K1_6 K2_6 R3_6 R5_6 B_6 bb7; clear R3_7; clear R5_7; have SK1_7 := Lib.hid K1_7.out.two; have SK2_7 := Lib.hid K2_7.out.two))
  obtain ⟨⟨cK10, cK11⟩, _, _⟩ := K1_7.out.two
  go_wp2_with fail
  clear cK10 cK11
  refine (toCha_made p0 a0 len0 cap0 z0 _ (H0.out.keep B_7.out) hn'0).mono ?_
  rintro e w8 ⟨⟨g8, rfl, hg8, mm8⟩, bb8⟩
  have R7_8 := Lib.hid (made_row mm8 hn'0 HZ0.out)
  clear mm8 hg8
  have K1_8 := Lib.hid (K1_7.out.keep bb8)
  have K2_8 := Lib.hid (K2_7.out.keep bb8)
  have B_8 := Lib.hid (B_7.out.trans (bb8.mono B_7.out.size))
  clear K1_7 K2_7 B_7 bb8
  obtain ⟨⟨cK20, cK21⟩, _, _⟩ := K2_8.out.two
  go_wp2_with fail
  clear cK20 cK21
  obtain ⟨w9, hW9⟩ : ∃ W, W = (w8.alloc (.cells #[.int .i64 p0, .slice (some ⟨g8, 0, none⟩) len0 len0] 27)) := ⟨_, rfl⟩
  have bb9 : Below w8.heap.size w8 w9 := by rw [hW9]; exact ((Below.refl _ _).alloc (Nat.le_refl _) _)
  have K9_9 : Hid (Blk.Blk w9 (w8.heap.size) [.int .i64 p0, .slice (some ⟨g8, 0, none⟩) len0 len0] 27) := by
    rw [hW9]
    have hh := Blk.Blk.new w8 #[.int .i64 p0, .slice (some ⟨g8, 0, none⟩) len0 len0] 27
    exact hh
  rw [← hW9]
  clear hW9
  have K1_9 := Lib.hid (K1_8.out.keep bb9)
  have K2_9 := Lib.hid (K2_8.out.keep bb9)
  have R7_9 := Lib.hid (R7_8.out.keep bb9)
  have B_9 := Lib.hid (B_8.out.trans (bb9.mono B_8.out.size))
  clear K1_8 K2_8 R7_8 B_8 bb9
  refine (toCha_made p1 a1 len1 cap1 z1 _ (H1.out.keep B_9.out) hn'1).mono ?_
  rintro e w10 ⟨⟨g10, rfl, hg10, mm10⟩, bb10⟩
  have R10_10 := Lib.hid (made_row mm10 hn'1 HZ1.out)
  clear mm10 hg10
  have K1_10 := Lib.hid (K1_9.out.keep bb10)
  have K2_10 := Lib.hid (K2_9.out.keep bb10)
  have R7_10 := Lib.hid (R7_9.out.keep bb10)
  have K9_10 := Lib.hid (K9_9.out.keep bb10)
  have B_10 := Lib.hid (B_9.out.trans (bb10.mono B_9.out.size))
  clear K1_9 K2_9 R7_9 K9_9 B_9 bb10
  obtain ⟨⟨cK90, cK91⟩, _, _⟩ := K9_10.out.two
  go_wp2_with fail
  clear cK90 cK91
  obtain ⟨w11, hW11⟩ : ∃ W, W = (w10.alloc (.cells #[.int .i64 p1, .slice (some ⟨g10, 0, none⟩) len1 len1] 27)) := ⟨_, rfl⟩
  have bb11 : Below w10.heap.size w10 w11 := by rw [hW11]; exact ((Below.refl _ _).alloc (Nat.le_refl _) _)
  have K12_11 : Hid (Blk.Blk w11 (w10.heap.size) [.int .i64 p1, .slice (some ⟨g10, 0, none⟩) len1 len1] 27) := by
    rw [hW11]
    have hh := Blk.Blk.new w10 #[.int .i64 p1, .slice (some ⟨g10, 0, none⟩) len1 len1] 27
    exact hh
  rw [← hW11]
  clear hW11
  have K1_11 := Lib.hid (K1_10.out.keep bb11)
  have K2_11 := Lib.hid (K2_10.out.keep bb11)
  have R7_11 := Lib.hid (R7_10.out.keep bb11)
  have K9_11 := Lib.hid (K9_10.out.keep bb11)
  have R10_11 := Lib.hid (R10_10.out.keep bb11)
  have B_11 := Lib.hid (B_10.out.trans (bb11.mono B_10.out.size))
  clear K1_10 K2_10 R7_10 K9_10 R10_10 B_10 bb11
  refine (iSameChain_any p0 (some ⟨g8, 0, none⟩) len0 len0 z0 p1 (some ⟨g10, 0, none⟩) len1 len1 z1 _ R7_11.out R10_11.out (Nat.le_refl _) (Nat.le_refl _) ).mono ?_
  rintro e w12 ⟨rfl, bb12⟩
  have K1_12 := Lib.hid (K1_11.out.keep bb12)
  have K2_12 := Lib.hid (K2_11.out.keep bb12)
  have R7_12 := Lib.hid (R7_11.out.keep bb12)
  have K9_12 := Lib.hid (K9_11.out.keep bb12)
  have R10_12 := Lib.hid (R10_11.out.keep bb12)
  have K12_12 := Lib.hid (K12_11.out.keep bb12)
  have B_12 := Lib.hid (B_11.out.trans (bb12.mono B_11.out.size))
  clear K1_11 K2_11 R7_11 K9_11 R10_11 K12_11 B_11 bb12
  go_wp2_with fail
  have bb13 : Below w12.heap.size w12 w12.drew := (Below.refl _ _).drew
  have K1_13 := Lib.hid (K1_12.out.keep bb13)
  have K2_13 := Lib.hid (K2_12.out.keep bb13)
  have R7_13 := Lib.hid (R7_12.out.keep bb13)
  have K9_13 := Lib.hid (K9_12.out.keep bb13)
  have R10_13 := Lib.hid (R10_12.out.keep bb13)
  have K12_13 := Lib.hid (K12_12.out.keep bb13)
  have B_13 := Lib.hid (B_12.out.trans (bb13.mono B_12.out.size))
  clear K1_12 K2_12 R7_12 K9_12 R10_12 K12_12 B_12 bb13
  have SK9_13 := Lib.hid K9_13.out.two
  have SK1_13 := Lib.hid K1_13.out.two
  go_region_held3 (fun W => (W.cell? ⟨w8.heap.size, 0, none⟩ = some (.int .i64 p0) ∧ W.cell? ⟨w8.heap.size, 1, none⟩ = some (.slice (some ⟨g8, 0, none⟩) len0 len0)) ∧ (W.cell? ⟨w.heap.size, 0, none⟩ = some (.int .i64 p0) ∧ W.cell? ⟨w.heap.size, 1, none⟩ = some (.slice a0 len0 cap0)))
    (first | exact ⟨SK9_13.out.1, SK1_13.out.1⟩ | exact ⟨SK9_14.out.1, SK1_14.out.1⟩ | exact ⟨SK9_15.out.1, SK1_15.out.1⟩)
    (first | (go_at_call_of 17 (Value.agg #[.int .i64 p0, .slice a0 len0 cap0]); refine (toCha_made p0 a0 len0 cap0 z0 _ (H0.out.keep B_13.out) hn'0).mono ?_; rintro e w14 ⟨⟨g14, rfl, hg14, mm14⟩, bb14⟩; have R13_14 := Lib.hid (made_row mm14 hn'0 HZ0.out); clear mm14 hg14; have K1_14 := Lib.hid (K1_13.out.keep bb14); have K2_14 := Lib.hid (K2_13.out.keep bb14); have R7_14 := Lib.hid (R7_13.out.keep bb14); have K9_14 := Lib.hid (K9_13.out.keep bb14); have R10_14 := Lib.hid (R10_13.out.keep bb14); have K12_14 := Lib.hid (K12_13.out.keep bb14); have B_14 := Lib.hid (B_13.out.trans (bb14.mono B_13.out.size)); clear K1_13 K2_13 R7_13 K9_13 R10_13 K12_13 B_13 bb14; have SK9_14 := Lib.hid K9_14.out.two; have SK1_14 := Lib.hid K1_14.out.two) | (go_at_call 19; refine (eqCha_any p0 _ _ len0 _ _ z0 _ R7_14.out R13_14.out hn'0).mono ?_; rintro e w15 ⟨rfl, bb15⟩; have K1_15 := Lib.hid (K1_14.out.keep bb15); have K2_15 := Lib.hid (K2_14.out.keep bb15); have R7_15 := Lib.hid (R7_14.out.keep bb15); have K9_15 := Lib.hid (K9_14.out.keep bb15); have R10_15 := Lib.hid (R10_14.out.keep bb15); have K12_15 := Lib.hid (K12_14.out.keep bb15); have R13_15 := Lib.hid (R13_14.out.keep bb15); have B_15 := Lib.hid (B_14.out.trans (bb15.mono B_14.out.size)); clear K1_14 K2_14 R7_14 K9_14 R10_14 K12_14 R13_14 B_14 bb15; clear R7_15; clear R13_15; have SK9_15 := Lib.hid K9_15.out.two; have SK1_15 := Lib.hid K1_15.out.two))
  go_wp2_with fail
  have bb16 : Below w15.heap.size w15 w15.drew := (Below.refl _ _).drew
  have K1_16 := Lib.hid (K1_15.out.keep bb16)
  have K2_16 := Lib.hid (K2_15.out.keep bb16)
  have K9_16 := Lib.hid (K9_15.out.keep bb16)
  have R10_16 := Lib.hid (R10_15.out.keep bb16)
  have K12_16 := Lib.hid (K12_15.out.keep bb16)
  have B_16 := Lib.hid (B_15.out.trans (bb16.mono B_15.out.size))
  clear K1_15 K2_15 K9_15 R10_15 K12_15 B_15 bb16
  have SK12_16 := Lib.hid K12_16.out.two
  have SK2_16 := Lib.hid K2_16.out.two
  go_region_held3 (fun W => (W.cell? ⟨w10.heap.size, 0, none⟩ = some (.int .i64 p1) ∧ W.cell? ⟨w10.heap.size, 1, none⟩ = some (.slice (some ⟨g10, 0, none⟩) len1 len1)) ∧ (W.cell? ⟨w.heap.size + 1, 0, none⟩ = some (.int .i64 p1) ∧ W.cell? ⟨w.heap.size + 1, 1, none⟩ = some (.slice a1 len1 cap1)))
    (first | exact ⟨SK12_16.out.1, SK2_16.out.1⟩ | exact ⟨SK12_17.out.1, SK2_17.out.1⟩ | exact ⟨SK12_18.out.1, SK2_18.out.1⟩)
    (first | (go_at_call_of 17 (Value.agg #[.int .i64 p1, .slice a1 len1 cap1]); refine (toCha_made p1 a1 len1 cap1 z1 _ (H1.out.keep B_16.out) hn'1).mono ?_; rintro e w17 ⟨⟨g17, rfl, hg17, mm17⟩, bb17⟩; have R15_17 := Lib.hid (made_row mm17 hn'1 HZ1.out); clear mm17 hg17; have K1_17 := Lib.hid (K1_16.out.keep bb17); have K2_17 := Lib.hid (K2_16.out.keep bb17); have K9_17 := Lib.hid (K9_16.out.keep bb17); have R10_17 := Lib.hid (R10_16.out.keep bb17); have K12_17 := Lib.hid (K12_16.out.keep bb17); have B_17 := Lib.hid (B_16.out.trans (bb17.mono B_16.out.size)); clear K1_16 K2_16 K9_16 R10_16 K12_16 B_16 bb17; have SK12_17 := Lib.hid K12_17.out.two; have SK2_17 := Lib.hid K2_17.out.two) | (go_at_call 19; refine (eqCha_any p1 _ _ len1 _ _ z1 _ R10_17.out R15_17.out hn'1).mono ?_; rintro e w18 ⟨rfl, bb18⟩; have K1_18 := Lib.hid (K1_17.out.keep bb18); have K2_18 := Lib.hid (K2_17.out.keep bb18); have K9_18 := Lib.hid (K9_17.out.keep bb18); have R10_18 := Lib.hid (R10_17.out.keep bb18); have K12_18 := Lib.hid (K12_17.out.keep bb18); have R15_18 := Lib.hid (R15_17.out.keep bb18); have B_18 := Lib.hid (B_17.out.trans (bb18.mono B_17.out.size)); clear K1_17 K2_17 K9_17 R10_17 K12_17 R15_17 B_17 bb18; clear R10_18; clear R15_18; have SK12_18 := Lib.hid K12_18.out.two; have SK2_18 := Lib.hid K2_18.out.two))
  go_wp2_with fail
  go_ret
  exact ⟨rfl, B_18.out⟩
end Go.Proofs.Ytcknbfkpilleaaa
