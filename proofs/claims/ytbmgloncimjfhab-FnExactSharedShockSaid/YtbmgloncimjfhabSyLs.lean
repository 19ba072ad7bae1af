/-
  The exact laws of functions that tell how likely a system works. No conditions beyond the statements' own.
-/
import Derived.Test.YtbmgloncimjfhabShkW
import Derived.Deep.RegionHeld3
namespace Go.Proofs.Ytbmgloncimjfhab
open Go.RowKit Dec Flt Syl Sep Chn
set_option maxRecDepth 40000 in
set_option maxHeartbeats 8000000 in
theorem fnExactSharedShock_walk (p0 : Int) (_wp0 : (Lit.int .i64 p0).wf = true) (a0 : Option Addr) (len0 cap0 : Nat) (z0 : List Int) (a1 : Option Addr) (len1 cap1 : Nat) (z1 : List Nat) (n2 : Int) (_wn2 : (Lit.int .i64 n2).wf = true) (n3 : Nat) (_wn3 : (Lit.float .f32 n3).wf = true) (w : World) (h0 : IRow w a0 len0 z0) (h1 : FRow w a1 len1 z1) :
    Calls Try.prog 6 #[.agg #[.int .i64 p0, .slice a0 len0 cap0], .slice a1 len1 cap1, .int .i64 n2, .float .f32 n3] w fun e w' => e = .returned (.bool true) ∧ Below w.heap.size w w' := by
  have hml0 : len0 ≤ maxLen := h0.2.1
  have H0 := Lib.hid h0
  have HZ0 := Lib.hid h0.2.2.1
  have HL0 := Lib.hid h0.1
  have hml1 : len1 ≤ maxLen := h1.2.1
  have H1 := Lib.hid h1
  have HZ1 := Lib.hid h1.2.2.1
  have HL1 := Lib.hid h1.1
  have hxb : ∀ x : Bool, (x != x) = false := by simp
  have hxi : ∀ x : Int, (x != x) = false := by simp
  clear h0 h1
  by_cases hn1 : (1048576 : Int) < (len1 : Int)
  · go_enter Try.func6, Try.ntmps6
    go_wp2_with fail
    go_ret
    exact ⟨rfl, by first | exact Below.refl _ _ | exact (Below.refl _ _).alloc (Nat.le_refl _) _⟩
  have hn'1 : len1 ≤ 1048576 := by omega
  have hs3 : n3 < 4294967296 := by simpa [Lit.wf] using _wn3
  have hnv0 := shkA_num HZ1.out p0 z0 n2 hs3
  have hcv0 := conv_num _ hnv0
  go_enter Try.func6, Try.ntmps6
  go_wp2_with fail
  obtain ⟨w1, hW1⟩ : ∃ W, W = (w.alloc (.cells #[.int .i64 p0, .slice a0 len0 cap0] 24)) := ⟨_, rfl⟩
  have bb1 : Below w.heap.size w w1 := by rw [hW1]; exact ((Below.refl _ _).alloc (Nat.le_refl _) _)
  have K1_1 : Hid (Blk.Blk w1 (w.heap.size) [.int .i64 p0, .slice a0 len0 cap0] 24) := by
    rw [hW1]
    have hh := Blk.Blk.new w #[.int .i64 p0, .slice a0 len0 cap0] 24
    exact hh
  rw [← hW1]
  clear hW1
  have B_1 := Lib.hid bb1
  clear bb1
  refine (szSys_any p0 a0 len0 cap0 (1048576) _ (by omega) hml0).mono ?_
  rintro e w2 ⟨rfl, bb2⟩
  have K1_2 := Lib.hid (K1_1.out.keep bb2)
  have B_2 := Lib.hid (B_1.out.trans (bb2.mono B_1.out.size))
  clear K1_1 B_1 bb2
  by_cases hn0 : (1048576 : Int) < (len0 : Int)
  · rw [if_pos hn0]
    go_wp2_with fail
    go_ret
    exact ⟨rfl, B_2.out⟩
  rw [if_neg hn0]
  have hn'0 : len0 ≤ 1048576 := by omega
  have hnn0 : ¬ ((1048576 : Int) - len0 < 0) := by omega
  clear hn0
  obtain ⟨⟨cK10, cK11⟩, _, _⟩ := K1_2.out.two
  go_wp2_with fail
  clear cK10 cK11
  refine (toSys_made p0 a0 len0 cap0 z0 _ (H0.out.keep B_2.out) hn'0).mono ?_
  rintro e w3 ⟨⟨g3, rfl, hg3, mm3⟩, bb3⟩
  have R2_3 := Lib.hid (imade_row mm3 HL0.out hn'0 HZ0.out)
  clear mm3 hg3
  have K1_3 := Lib.hid (K1_2.out.keep bb3)
  have B_3 := Lib.hid (B_2.out.trans (bb3.mono B_2.out.size))
  clear K1_2 B_2 bb3
  go_wp2_with fail
  refine (toF32_made a1 len1 cap1 z1 _ (H1.out.keep B_3.out) hn'1).mono ?_
  rintro e w4 ⟨rfl, mm4, bb4, hg4⟩
  have R4_4 := Lib.hid (made_row mm4 hn'1 HZ1.out)
  clear mm4 hg4
  have K1_4 := Lib.hid (K1_3.out.keep bb4)
  have R2_4 := Lib.hid (R2_3.out.keep bb4)
  have B_4 := Lib.hid (B_3.out.trans (bb4.mono B_3.out.size))
  clear K1_3 R2_3 B_3 bb4
  go_wp2_with fail
  refine (sSharedShock_any p0 (some ⟨g3, 0, none⟩) len0 len0 z0 (some ⟨w3.heap.size, 0, none⟩) len1 len1 z1 (n2) (n3) _ R2_4.out R4_4.out hs3).mono ?_
  rintro e w5 ⟨rfl, bb5⟩
  have K1_5 := Lib.hid (K1_4.out.keep bb5)
  have R2_5 := Lib.hid (R2_4.out.keep bb5)
  have R4_5 := Lib.hid (R4_4.out.keep bb5)
  have B_5 := Lib.hid (B_4.out.trans (bb5.mono B_4.out.size))
  clear K1_4 R2_4 R4_4 B_4 bb5
  clear R2_5
  clear R4_5
  obtain ⟨⟨cK10, cK11⟩, _, _⟩ := K1_5.out.two
  go_wp2_with fail
  clear cK10 cK11
  refine (toSys_made p0 a0 len0 cap0 z0 _ (H0.out.keep B_5.out) hn'0).mono ?_
  rintro e w6 ⟨⟨g6, rfl, hg6, mm6⟩, bb6⟩
  have R6_6 := Lib.hid (imade_row mm6 HL0.out hn'0 HZ0.out)
  clear mm6 hg6
  have K1_6 := Lib.hid (K1_5.out.keep bb6)
  have B_6 := Lib.hid (B_5.out.trans (bb6.mono B_5.out.size))
  clear K1_5 B_5 bb6
  go_wp2_with fail
  obtain ⟨w7, hW7⟩ : ∃ W, W = (w6.alloc (.cells #[.int .i64 p0, .slice (some ⟨g6, 0, none⟩) len0 len0] 30)) := ⟨_, rfl⟩
  have bb7 : Below w6.heap.size w6 w7 := by rw [hW7]; exact ((Below.refl _ _).alloc (Nat.le_refl _) _)
  have K8_7 : Hid (Blk.Blk w7 (w6.heap.size) [.int .i64 p0, .slice (some ⟨g6, 0, none⟩) len0 len0] 30) := by
    rw [hW7]
    have hh := Blk.Blk.new w6 #[.int .i64 p0, .slice (some ⟨g6, 0, none⟩) len0 len0] 30
    exact hh
  rw [← hW7]
  clear hW7
  have K1_7 := Lib.hid (K1_6.out.keep bb7)
  have R6_7 := Lib.hid (R6_6.out.keep bb7)
  have B_7 := Lib.hid (B_6.out.trans (bb7.mono B_6.out.size))
  clear K1_6 R6_6 B_6 bb7
  refine (toF32_made a1 len1 cap1 z1 _ (H1.out.keep B_7.out) hn'1).mono ?_
  rintro e w8 ⟨rfl, mm8, bb8, hg8⟩
  have R9_8 := Lib.hid (made_row mm8 hn'1 HZ1.out)
  clear mm8 hg8
  have K1_8 := Lib.hid (K1_7.out.keep bb8)
  have R6_8 := Lib.hid (R6_7.out.keep bb8)
  have K8_8 := Lib.hid (K8_7.out.keep bb8)
  have B_8 := Lib.hid (B_7.out.trans (bb8.mono B_7.out.size))
  clear K1_7 R6_7 K8_7 B_7 bb8
  obtain ⟨⟨cK80, cK81⟩, _, _⟩ := K8_8.out.two
  go_wp2_with fail
  clear cK80 cK81
  refine (iSharedShock_any p0 (some ⟨g6, 0, none⟩) len0 len0 z0 (some ⟨w7.heap.size, 0, none⟩) len1 len1 z1 (n2) (n3) _ R6_8.out R9_8.out (Nat.le_refl _) (Nat.le_refl _) hs3).mono ?_
  rintro e w9 ⟨rfl, bb9⟩
  have K1_9 := Lib.hid (K1_8.out.keep bb9)
  have R6_9 := Lib.hid (R6_8.out.keep bb9)
  have K8_9 := Lib.hid (K8_8.out.keep bb9)
  have R9_9 := Lib.hid (R9_8.out.keep bb9)
  have B_9 := Lib.hid (B_8.out.trans (bb9.mono B_8.out.size))
  clear K1_8 R6_8 K8_8 R9_8 B_8 bb9
  go_wp2_with fail
  refine (samF_any ((shkA p0 z0 z1 n2 n3)) _ (by first | exact hnv0 | exact hnv1)).mono ?_
  rintro e w10 ⟨rfl, bb10⟩
  have K1_10 := Lib.hid (K1_9.out.keep bb10)
  have R6_10 := Lib.hid (R6_9.out.keep bb10)
  have K8_10 := Lib.hid (K8_9.out.keep bb10)
  have R9_10 := Lib.hid (R9_9.out.keep bb10)
  have B_10 := Lib.hid (B_9.out.trans (bb10.mono B_9.out.size))
  clear K1_9 R6_9 K8_9 R9_9 B_9 bb10
  go_wp2_with fail
  have bb11 : Below w10.heap.size w10 w10.drew := (Below.refl _ _).drew
  have K1_11 := Lib.hid (K1_10.out.keep bb11)
  have R6_11 := Lib.hid (R6_10.out.keep bb11)
  have K8_11 := Lib.hid (K8_10.out.keep bb11)
  have R9_11 := Lib.hid (R9_10.out.keep bb11)
  have B_11 := Lib.hid (B_10.out.trans (bb11.mono B_10.out.size))
  clear K1_10 R6_10 K8_10 R9_10 B_10 bb11
  have SK8_11 := Lib.hid K8_11.out.two
  have SK1_11 := Lib.hid K1_11.out.two
  go_region_held3 (fun W => (W.cell? ⟨w6.heap.size, 0, none⟩ = some (.int .i64 p0) ∧ W.cell? ⟨w6.heap.size, 1, none⟩ = some (.slice (some ⟨g6, 0, none⟩) len0 len0)) ∧ (W.cell? ⟨w.heap.size, 0, none⟩ = some (.int .i64 p0) ∧ W.cell? ⟨w.heap.size, 1, none⟩ = some (.slice a0 len0 cap0)))
    (first | exact ⟨SK8_11.out.1, SK1_11.out.1⟩ | exact ⟨SK8_12.out.1, SK1_12.out.1⟩ | exact ⟨SK8_13.out.1, SK1_13.out.1⟩)
    (first | (go_at_call_of 17 (Value.agg #[.int .i64 p0, .slice a0 len0 cap0]); refine (toSys_made p0 a0 len0 cap0 z0 _ (H0.out.keep B_11.out) hn'0).mono ?_; rintro e w12 ⟨⟨g12, rfl, hg12, mm12⟩, bb12⟩; have R11_12 := Lib.hid (imade_row mm12 HL0.out hn'0 HZ0.out); clear mm12 hg12; have K1_12 := Lib.hid (K1_11.out.keep bb12); have R6_12 := Lib.hid (R6_11.out.keep bb12); have K8_12 := Lib.hid (K8_11.out.keep bb12); have R9_12 := Lib.hid (R9_11.out.keep bb12); have B_12 := Lib.hid (B_11.out.trans (bb12.mono B_11.out.size)); clear K1_11 R6_11 K8_11 R9_11 B_11 bb12; have SK8_12 := Lib.hid K8_12.out.two; have SK1_12 := Lib.hid K1_12.out.two) | (go_at_call 21; refine (eqSys_any p0 _ _ len0 _ _ z0 _ R6_12.out R11_12.out hn'0).mono ?_; rintro e w13 ⟨rfl, bb13⟩; have K1_13 := Lib.hid (K1_12.out.keep bb13); have R6_13 := Lib.hid (R6_12.out.keep bb13); have K8_13 := Lib.hid (K8_12.out.keep bb13); have R9_13 := Lib.hid (R9_12.out.keep bb13); have R11_13 := Lib.hid (R11_12.out.keep bb13); have B_13 := Lib.hid (B_12.out.trans (bb13.mono B_12.out.size)); clear K1_12 R6_12 K8_12 R9_12 R11_12 B_12 bb13; clear R6_13; clear R11_13; have SK8_13 := Lib.hid K8_13.out.two; have SK1_13 := Lib.hid K1_13.out.two))
  go_wp2_with fail
  refine (toF32_made a1 len1 cap1 z1 _ (H1.out.keep B_13.out) hn'1).mono ?_
  rintro e w14 ⟨rfl, mm14, bb14, hg14⟩
  have R13_14 := Lib.hid (made_row mm14 hn'1 HZ1.out)
  clear mm14 hg14
  have K1_14 := Lib.hid (K1_13.out.keep bb14)
  have K8_14 := Lib.hid (K8_13.out.keep bb14)
  have R9_14 := Lib.hid (R9_13.out.keep bb14)
  have B_14 := Lib.hid (B_13.out.trans (bb14.mono B_13.out.size))
  clear K1_13 K8_13 R9_13 B_13 bb14
  go_wp2_with fail
  refine (eqFl_any _ _ len1 _ _ z1 _ R9_14.out R13_14.out hn'1).mono ?_
  rintro e w15 ⟨rfl, bb15⟩
  have K1_15 := Lib.hid (K1_14.out.keep bb15)
  have K8_15 := Lib.hid (K8_14.out.keep bb15)
  have R9_15 := Lib.hid (R9_14.out.keep bb15)
  have R13_15 := Lib.hid (R13_14.out.keep bb15)
  have B_15 := Lib.hid (B_14.out.trans (bb15.mono B_14.out.size))
  clear K1_14 K8_14 R9_14 R13_14 B_14 bb15
  clear R9_15
  clear R13_15
  go_wp2_with fail
  go_ret
  exact ⟨rfl, B_15.out⟩
end Go.Proofs.Ytbmgloncimjfhab
