/-
  The exact laws of functions that read a system and return what owns no memory. No conditions beyond the statements' own.
-/
import Derived.Test.YtbmgloncimjfhaaSpcW
import Derived.Deep.RegionHeld3
namespace Go.Proofs.Ytbmgloncimjfhaa
open Go.RowKit Dec Flt Syl Sep
theorem sValidSystem_any (p : Int) (a : Option Addr) (len cap : Nat) (zs : List Int) (w : World) (h : IRow w a len zs) :
    Calls Try.prog 16 #[.agg #[.int .i64 p, .slice a len cap]] w fun e w' => e = .returned (.bool (sysB p zs)) ∧ Below w.heap.size w w' := by
  have H := Lib.hid h
  clear h
  go_enter Try.func16, Try.ntmps16
  go_wp2_with fail
  have b0 : Below w.heap.size w (w.alloc (.cells #[.int .i64 p, .slice a len cap] 27)) := (Below.refl _ _).alloc (Nat.le_refl _) _
  refine (specIs_any w.heap.size p a len cap zs _ (Blk.Blk.new _ _ _) (H.out.keep b0)).mono ?_
  rintro e w1 ⟨rfl, d1⟩
  have B1 := Lib.hid (b0.trans (d1.below _))
  clear b0 d1
  go_wp2_with fail
  go_ret
  exact ⟨rfl, B1.out⟩
theorem iValidSystem_any (p : Int) (a : Option Addr) (len cap : Nat) (zs : List Int) (w : World) (h : IRow w a len zs) (hcap : len ≤ cap) :
    Calls Try.prog 18 #[.agg #[.int .i64 p, .slice a len cap]] w fun e w' => e = .returned (.bool (sysB p zs)) ∧ Below w.heap.size w w' := implVSys_any p a len cap zs w h hcap
set_option maxRecDepth 40000 in
set_option maxHeartbeats 8000000 in
theorem fnExactValidSystem_walk (p0 : Int) (_wp0 : (Lit.int .i64 p0).wf = true) (a0 : Option Addr) (len0 cap0 : Nat) (z0 : List Int) (w : World) (h0 : IRow w a0 len0 z0) :
    Calls Try.prog 3 #[.agg #[.int .i64 p0, .slice a0 len0 cap0]] w fun e w' => e = .returned (.bool true) ∧ Below w.heap.size w w' := by
  have hml0 : len0 ≤ maxLen := h0.2.1
  have H0 := Lib.hid h0
  have HZ0 := Lib.hid h0.2.2.1
  have HL0 := Lib.hid h0.1
  have hxb : ∀ x : Bool, (x != x) = false := by simp
  have hxi : ∀ x : Int, (x != x) = false := by simp
  clear h0
  go_enter Try.func3, Try.ntmps3
  go_wp2_with fail
  obtain ⟨w1, hW1⟩ : ∃ W, W = (w.alloc (.cells #[.int .i64 p0, .slice a0 len0 cap0] 24)) := ⟨_, rfl⟩
  have bb1 : Below w.heap.size w w1 := by rw [hW1]; exact ((Below.refl _ _).alloc (Nat.le_refl _) _)
  have K1_1 : Hid (Blk.Blk w1 (w.heap.size) [.int .i64 p0, .slice a0 len0 cap0] 24) := by
    rw [hW1]
    have hh := Blk.Blk.new w #[.int .i64 p0, .slice a0 len0 cap0] 24
    exact hh
  rw [← hW1]
  clear hW1
  have B_1 := Lib.hid bb1
  clear bb1
  refine (szSys_any p0 a0 len0 cap0 (1048576) _ (by omega) hml0).mono ?_
  rintro e w2 ⟨rfl, bb2⟩
  have K1_2 := Lib.hid (K1_1.out.keep bb2)
  have B_2 := Lib.hid (B_1.out.trans (bb2.mono B_1.out.size))
  clear K1_1 B_1 bb2
  by_cases hn0 : (1048576 : Int) < (len0 : Int)
  · rw [if_pos hn0]
    go_wp2_with fail
    go_ret
    exact ⟨rfl, B_2.out⟩
  rw [if_neg hn0]
  have hn'0 : len0 ≤ 1048576 := by omega
  have hnn0 : ¬ ((1048576 : Int) - len0 < 0) := by omega
  clear hn0
  obtain ⟨⟨cK10, cK11⟩, _, _⟩ := K1_2.out.two
  go_wp2_with fail
  clear cK10 cK11
  refine (toSys_made p0 a0 len0 cap0 z0 _ (H0.out.keep B_2.out) hn'0).mono ?_
  rintro e w3 ⟨⟨g3, rfl, hg3, mm3⟩, bb3⟩
  have R2_3 := Lib.hid (imade_row mm3 HL0.out hn'0 HZ0.out)
  clear mm3 hg3
  have K1_3 := Lib.hid (K1_2.out.keep bb3)
  have B_3 := Lib.hid (B_2.out.trans (bb3.mono B_2.out.size))
  clear K1_2 B_2 bb3
  go_wp2_with fail
  refine (sValidSystem_any p0 (some ⟨g3, 0, none⟩) len0 len0 z0 _ R2_3.out ).mono ?_
  rintro e w4 ⟨rfl, bb4⟩
  have K1_4 := Lib.hid (K1_3.out.keep bb4)
  have R2_4 := Lib.hid (R2_3.out.keep bb4)
  have B_4 := Lib.hid (B_3.out.trans (bb4.mono B_3.out.size))
  clear K1_3 R2_3 B_3 bb4
  clear R2_4
  obtain ⟨⟨cK10, cK11⟩, _, _⟩ := K1_4.out.two
  go_wp2_with fail
  clear cK10 cK11
  refine (toSys_made p0 a0 len0 cap0 z0 _ (H0.out.keep B_4.out) hn'0).mono ?_
  rintro e w5 ⟨⟨g5, rfl, hg5, mm5⟩, bb5⟩
  have R4_5 := Lib.hid (imade_row mm5 HL0.out hn'0 HZ0.out)
  clear mm5 hg5
  have K1_5 := Lib.hid (K1_4.out.keep bb5)
  have B_5 := Lib.hid (B_4.out.trans (bb5.mono B_4.out.size))
  clear K1_4 B_4 bb5
  go_wp2_with fail
  obtain ⟨w6, hW6⟩ : ∃ W, W = (w5.alloc (.cells #[.int .i64 p0, .slice (some ⟨g5, 0, none⟩) len0 len0] 27)) := ⟨_, rfl⟩
  have bb6 : Below w5.heap.size w5 w6 := by rw [hW6]; exact ((Below.refl _ _).alloc (Nat.le_refl _) _)
  have K6_6 : Hid (Blk.Blk w6 (w5.heap.size) [.int .i64 p0, .slice (some ⟨g5, 0, none⟩) len0 len0] 27) := by
    rw [hW6]
    have hh := Blk.Blk.new w5 #[.int .i64 p0, .slice (some ⟨g5, 0, none⟩) len0 len0] 27
    exact hh
  rw [← hW6]
  clear hW6
  have K1_6 := Lib.hid (K1_5.out.keep bb6)
  have R4_6 := Lib.hid (R4_5.out.keep bb6)
  have B_6 := Lib.hid (B_5.out.trans (bb6.mono B_5.out.size))
  clear K1_5 R4_5 B_5 bb6
  refine (iValidSystem_any p0 (some ⟨g5, 0, none⟩) len0 len0 z0 _ R4_6.out (Nat.le_refl _)).mono ?_
  rintro e w7 ⟨rfl, bb7⟩
  have K1_7 := Lib.hid (K1_6.out.keep bb7)
  have R4_7 := Lib.hid (R4_6.out.keep bb7)
  have K6_7 := Lib.hid (K6_6.out.keep bb7)
  have B_7 := Lib.hid (B_6.out.trans (bb7.mono B_6.out.size))
  clear K1_6 R4_6 K6_6 B_6 bb7
  go_wp2_with fail
  have bb8 : Below w7.heap.size w7 w7.drew := (Below.refl _ _).drew
  have K1_8 := Lib.hid (K1_7.out.keep bb8)
  have R4_8 := Lib.hid (R4_7.out.keep bb8)
  have K6_8 := Lib.hid (K6_7.out.keep bb8)
  have B_8 := Lib.hid (B_7.out.trans (bb8.mono B_7.out.size))
  clear K1_7 R4_7 K6_7 B_7 bb8
  have SK6_8 := Lib.hid K6_8.out.two
  have SK1_8 := Lib.hid K1_8.out.two
  go_region_held3 (fun W => (W.cell? ⟨w5.heap.size, 0, none⟩ = some (.int .i64 p0) ∧ W.cell? ⟨w5.heap.size, 1, none⟩ = some (.slice (some ⟨g5, 0, none⟩) len0 len0)) ∧ (W.cell? ⟨w.heap.size, 0, none⟩ = some (.int .i64 p0) ∧ W.cell? ⟨w.heap.size, 1, none⟩ = some (.slice a0 len0 cap0)))
    (first | exact ⟨SK6_8.out.1, SK1_8.out.1⟩ | exact ⟨SK6_9.out.1, SK1_9.out.1⟩ | exact ⟨SK6_10.out.1, SK1_10.out.1⟩)
    (first | (go_at_call_of 17 (Value.agg #[.int .i64 p0, .slice a0 len0 cap0]); refine (toSys_made p0 a0 len0 cap0 z0 _ (H0.out.keep B_8.out) hn'0).mono ?_; rintro e w9 ⟨⟨g9, rfl, hg9, mm9⟩, bb9⟩; have R7_9 := Lib.hid (imade_row mm9 HL0.out hn'0 HZ0.out); clear mm9 hg9; have K1_9 := Lib.hid (K1_8.out.keep bb9); have R4_9 := Lib.hid (R4_8.out.keep bb9); have K6_9 := Lib.hid (K6_8.out.keep bb9); have B_9 := Lib.hid (B_8.out.trans (bb9.mono B_8.out.size)); clear K1_8 R4_8 K6_8 B_8 bb9; have SK6_9 := Lib.hid K6_9.out.two; have SK1_9 := Lib.hid K1_9.out.two) | (go_at_call 19; refine (eqSys_any p0 _ _ len0 _ _ z0 _ R4_9.out R7_9.out hn'0).mono ?_; rintro e w10 ⟨rfl, bb10⟩; have K1_10 := Lib.hid (K1_9.out.keep bb10); have R4_10 := Lib.hid (R4_9.out.keep bb10); have K6_10 := Lib.hid (K6_9.out.keep bb10); have R7_10 := Lib.hid (R7_9.out.keep bb10); have B_10 := Lib.hid (B_9.out.trans (bb10.mono B_9.out.size)); clear K1_9 R4_9 K6_9 R7_9 B_9 bb10; clear R4_10; clear R7_10; have SK6_10 := Lib.hid K6_10.out.two; have SK1_10 := Lib.hid K1_10.out.two))
  go_wp2_with fail
  go_ret
  exact ⟨rfl, B_10.out⟩
end Go.Proofs.Ytbmgloncimjfhaa
