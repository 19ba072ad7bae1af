/-
  The exact law of moved particles. No conditions beyond the statement's own.
-/
import Derived.Test.YtppkeabkjabhdabWl5
import Derived.Test.YtppkeabkjabhdabWl6
import Derived.Test.YtppkeabkjabhdabMkF
import Derived.Deep.RegionHeld3
namespace Go.Proofs.Ytppkeabkjabhdab
open Go.RowKit Dec Flt Syl Sep Cm We
set_option maxRecDepth 40000 in
set_option maxHeartbeats 8000000 in
theorem fnExactMovedParticles_walk (a0 : Option Addr) (len0 cap0 : Nat) (z0 : List Nat) (n1 : Nat) (_wn1 : (Lit.float .f32 n1).wf = true) (n2 : Nat) (_wn2 : (Lit.float .f32 n2).wf = true) (n3 : Int) (_wn3 : (Lit.int .i64 n3).wf = true) (w : World) (h0 : FRow w a0 len0 z0) :
    Calls Try.prog 5 #[.slice a0 len0 cap0, .float .f32 n1, .float .f32 n2, .int .i64 n3] w fun e w' => e = .returned (.bool true) ∧ Below w.heap.size w w' := by
  have hml0 : len0 ≤ maxLen := h0.2.1
  have H0 := Lib.hid h0
  have HZ0 := Lib.hid h0.2.2.1
  have HL0 := Lib.hid h0.1
  have hxb : ∀ x : Bool, (x != x) = false := by simp
  have hxi : ∀ x : Int, (x != x) = false := by simp
  clear h0
  obtain ⟨ts, hts⟩ : ∃ ts, mvA z0 n1 n2 n3 = ts := ⟨_, rfl⟩
  obtain ⟨n, hnl⟩ : ∃ n, ts.length = n := ⟨_, rfl⟩
  have hsml : n ≤ 1023 := by rw [← hnl, ← hts]; exact mvA_len z0 n1 n2 n3
  have hbig : n ≤ 1048576 := by omega
  have HTS := Lib.hid hts
  have HNL := Lib.hid hnl
  clear hts hnl
  have hk0 : ¬ ((1 : Int) + (n : Int) < 0) := by omega
  obtain ⟨sv, hsv⟩ : ∃ sv : Int, mvS z0 n1 n2 n3 = sv := ⟨_, rfl⟩
  have HSV := Lib.hid hsv
  clear hsv
  obtain ⟨bv, hbv⟩ : ∃ bv, mvB z0 n1 n2 n3 = bv := ⟨_, rfl⟩
  have HBV := Lib.hid hbv
  clear hbv
  by_cases hn0 : (1048576 : Int) < (len0 : Int)
  · go_enter Try.func5, Try.ntmps5
    go_wp2_with fail
    go_ret
    exact ⟨rfl, by first | exact Below.refl _ _ | exact (Below.refl _ _).alloc (Nat.le_refl _) _⟩
  have hn'0 : len0 ≤ 1048576 := by omega
  have hs1 : n1 < 4294967296 := by simpa [Lit.wf] using _wn1
  have hs2 : n2 < 4294967296 := by simpa [Lit.wf] using _wn2
  go_enter Try.func5, Try.ntmps5
  go_wp2_with fail
  refine (toF32_made a0 len0 cap0 z0 _ H0.out hn'0).mono ?_
  rintro e w1 ⟨rfl, mm1, bb1, hg1⟩
  have R1_1 := Lib.hid (made_row mm1 hn'0 HZ0.out)
  have O2_1 : Hid (Mid w1 w.heap.size w1.heap.size (some ⟨w.heap.size, 0, none⟩) len0 22) := made_mid mm1 (Nat.le_refl _)
  have F1_1 : Hid (w1.heap.size ≤ w1.heap.size) := Nat.le_refl _
  have W1 : Hid (w.heap.size ≤ w.heap.size) := Nat.le_refl _
  clear mm1 hg1
  have B_1 := Lib.hid bb1
  clear bb1
  go_wp2_with fail
  refine (sMovedParticles_any (some ⟨w.heap.size, 0, none⟩) len0 len0 z0 (n1) (n2) (n3) _ R1_1.out hs1 hs2 ).mono ?_
  rintro e w2 ⟨⟨ar2, cr2, rfl, hr2⟩, bb2⟩
  rw [HTS.out, HNL.out] at hr2
  rw [HTS.out, HNL.out, HSV.out, HBV.out]
  have R3_2 := Lib.hid hr2
  clear hr2
  have R1_2 := Lib.hid (R1_1.out.keep bb2)
  have O2_2 := Lib.hid (O2_1.out.keep bb2)
  have F1_2 : Hid (w1.heap.size ≤ w2.heap.size) := Nat.le_trans F1_1.out bb2.size
  have B_2 := Lib.hid (B_1.out.trans (bb2.mono B_1.out.size))
  clear R1_1 O2_1 F1_1 B_1 bb2
  clear R1_2
  clear O2_2
  go_wp2_with fail
  have PR3_2 := Lib.hid R3_2.out.lt
  refine (toF32_made a0 len0 cap0 z0 _ (H0.out.keep B_2.out) hn'0).mono ?_
  rintro e w3 ⟨rfl, mm3, bb3, hg3⟩
  have R4_3 := Lib.hid (made_row mm3 hn'0 HZ0.out)
  have O5_3 : Hid (Mid w3 w2.heap.size w3.heap.size (some ⟨w2.heap.size, 0, none⟩) len0 22) := made_mid mm3 (Nat.le_refl _)
  have F2_3 : Hid (w3.heap.size ≤ w3.heap.size) := Nat.le_refl _
  have W2 : Hid (w.heap.size ≤ w2.heap.size) := B_2.out.size
  clear mm3 hg3
  have PR4_1 := Lib.hid (O5_3.out.ge F1_2.out)
  have PO5_1 : Hid (w1.heap.size ≤ w2.heap.size) := F1_2.out
  have R3_3 := Lib.hid (R3_2.out.keep bb3)
  have F1_3 : Hid (w1.heap.size ≤ w3.heap.size) := Nat.le_trans F1_2.out bb3.size
  have B_3 := Lib.hid (B_2.out.trans (bb3.mono B_2.out.size))
  clear R3_2 F1_2 B_2 bb3
  go_wp2_with fail
  have PR3_3 := Lib.hid R3_3.out.lt
  have PR4_3 := Lib.hid R4_3.out.lt
  have PO5_3 : Hid (w3.heap.size ≤ w3.heap.size) := F2_3.out
  refine (iMovedParticles_any (some ⟨w2.heap.size, 0, none⟩) len0 len0 z0 (n1) (n2) (n3) _ R4_3.out (Nat.le_refl _) hs1 hs2 ).mono ?_
  rintro e w4 ⟨⟨ar4, cr4, rfl, hr4, ho4⟩, bb4⟩
  rw [HTS.out, HNL.out] at hr4 ho4
  rw [HTS.out, HNL.out, HSV.out, HBV.out]
  have R6_4 := Lib.hid hr4
  have O7_4 := Lib.hid (Mid.of_own ho4)
  clear hr4 ho4
  have F3_4 : Hid (w4.heap.size ≤ w4.heap.size) := Nat.le_refl _
  have W3 : Hid (w.heap.size ≤ w3.heap.size) := B_3.out.size
  have PR6_1 := Lib.hid (O7_4.out.ge F1_3.out)
  have PO7_1 : Hid (w1.heap.size ≤ w3.heap.size) := F1_3.out
  have PR6_2 := Lib.hid (O7_4.out.ge F2_3.out)
  have PO7_2 : Hid (w3.heap.size ≤ w3.heap.size) := F2_3.out
  have R3_4 := Lib.hid (R3_3.out.keep bb4)
  have R4_4 := Lib.hid (R4_3.out.keep bb4)
  have O5_4 := Lib.hid (O5_3.out.keep bb4)
  have F1_4 : Hid (w1.heap.size ≤ w4.heap.size) := Nat.le_trans F1_3.out bb4.size
  have F2_4 : Hid (w3.heap.size ≤ w4.heap.size) := Nat.le_trans F2_3.out bb4.size
  have B_4 := Lib.hid (B_3.out.trans (bb4.mono B_3.out.size))
  clear R3_3 R4_3 O5_3 F1_3 F2_3 B_3 bb4
  go_wp2_with fail
  refine (eqFl_any _ _ n _ _ ts _ R6_4.out R3_4.out hbig).mono ?_
  rintro e w5 ⟨rfl, bb5⟩
  have R3_5 := Lib.hid (R3_4.out.keep bb5)
  have R4_5 := Lib.hid (R4_4.out.keep bb5)
  have O5_5 := Lib.hid (O5_4.out.keep bb5)
  have R6_5 := Lib.hid (R6_4.out.keep bb5)
  have O7_5 := Lib.hid (O7_4.out.keep bb5)
  have F1_5 : Hid (w1.heap.size ≤ w5.heap.size) := Nat.le_trans F1_4.out bb5.size
  have F2_5 : Hid (w3.heap.size ≤ w5.heap.size) := Nat.le_trans F2_4.out bb5.size
  have F3_5 : Hid (w4.heap.size ≤ w5.heap.size) := Nat.le_trans F3_4.out bb5.size
  have B_5 := Lib.hid (B_4.out.trans (bb5.mono B_4.out.size))
  clear R3_4 R4_4 O5_4 R6_4 O7_4 F1_4 F2_4 F3_4 B_4 bb5
  go_wp2_with fail
  have PR3_4 := Lib.hid R3_5.out.lt
  have PR4_4 := Lib.hid R4_5.out.lt
  have PO5_4 : Hid (w3.heap.size ≤ w5.heap.size) := F2_5.out
  have PR6_4 := Lib.hid R6_5.out.lt
  have PO7_4 : Hid (w4.heap.size ≤ w5.heap.size) := F3_5.out
  refine (toF32_made a0 len0 cap0 z0 _ (H0.out.keep B_5.out) hn'0).mono ?_
  rintro e w6 ⟨rfl, mm6, bb6, hg6⟩
  have R8_6 := Lib.hid (made_row mm6 hn'0 HZ0.out)
  have O9_6 : Hid (Mid w6 w5.heap.size w6.heap.size (some ⟨w5.heap.size, 0, none⟩) len0 22) := made_mid mm6 (Nat.le_refl _)
  have F4_6 : Hid (w6.heap.size ≤ w6.heap.size) := Nat.le_refl _
  have W4 : Hid (w.heap.size ≤ w5.heap.size) := B_5.out.size
  clear mm6 hg6
  have PR8_1 := Lib.hid (O9_6.out.ge F1_5.out)
  have PO9_1 : Hid (w1.heap.size ≤ w5.heap.size) := F1_5.out
  have PR8_2 := Lib.hid (O9_6.out.ge F2_5.out)
  have PO9_2 : Hid (w3.heap.size ≤ w5.heap.size) := F2_5.out
  have PR8_3 := Lib.hid (O9_6.out.ge F3_5.out)
  have PO9_3 : Hid (w4.heap.size ≤ w5.heap.size) := F3_5.out
  have R3_6 := Lib.hid (R3_5.out.keep bb6)
  have R4_6 := Lib.hid (R4_5.out.keep bb6)
  have O5_6 := Lib.hid (O5_5.out.keep bb6)
  have R6_6 := Lib.hid (R6_5.out.keep bb6)
  have O7_6 := Lib.hid (O7_5.out.keep bb6)
  have F1_6 : Hid (w1.heap.size ≤ w6.heap.size) := Nat.le_trans F1_5.out bb6.size
  have F2_6 : Hid (w3.heap.size ≤ w6.heap.size) := Nat.le_trans F2_5.out bb6.size
  have F3_6 : Hid (w4.heap.size ≤ w6.heap.size) := Nat.le_trans F3_5.out bb6.size
  have B_6 := Lib.hid (B_5.out.trans (bb6.mono B_5.out.size))
  clear R3_5 R4_5 O5_5 R6_5 O7_5 F1_5 F2_5 F3_5 B_5 bb6
  go_wp2_with fail
  refine (eqFl_any _ _ len0 _ _ z0 _ R4_6.out R8_6.out hn'0).mono ?_
  rintro e w7 ⟨rfl, bb7⟩
  have R3_7 := Lib.hid (R3_6.out.keep bb7)
  have R4_7 := Lib.hid (R4_6.out.keep bb7)
  have O5_7 := Lib.hid (O5_6.out.keep bb7)
  have R6_7 := Lib.hid (R6_6.out.keep bb7)
  have O7_7 := Lib.hid (O7_6.out.keep bb7)
  have R8_7 := Lib.hid (R8_6.out.keep bb7)
  have O9_7 := Lib.hid (O9_6.out.keep bb7)
  have F1_7 : Hid (w1.heap.size ≤ w7.heap.size) := Nat.le_trans F1_6.out bb7.size
  have F2_7 : Hid (w3.heap.size ≤ w7.heap.size) := Nat.le_trans F2_6.out bb7.size
  have F3_7 : Hid (w4.heap.size ≤ w7.heap.size) := Nat.le_trans F3_6.out bb7.size
  have F4_7 : Hid (w6.heap.size ≤ w7.heap.size) := Nat.le_trans F4_6.out bb7.size
  have B_7 := Lib.hid (B_6.out.trans (bb7.mono B_6.out.size))
  clear R3_6 R4_6 O5_6 R6_6 O7_6 R8_6 O9_6 F1_6 F2_6 F3_6 F4_6 B_6 bb7
  clear R8_7
  clear O9_7
  go_wp2_with fail
  refine (mkFl_any (w2.heap.size) (w3.heap.size) 1 _ len0 _ _ O5_7.out hn'0 (by omega)).mono ?_
  rintro e w8 ⟨rfl, mm8, ss8⟩
  have R3_8 := Lib.hid (R3_7.out.sepL ss8 PR3_2.out)
  have R6_8 := Lib.hid (R6_7.out.sepG ss8 PR6_2.out)
  have O7_8 := Lib.hid (O7_7.out.sep ss8 (.inr PO7_2.out))
  have F1_8 : Hid (w1.heap.size ≤ w8.heap.size) := Nat.le_trans F1_7.out ss8.size
  have F2_8 : Hid (w3.heap.size ≤ w8.heap.size) := Nat.le_trans F2_7.out ss8.size
  have F3_8 : Hid (w4.heap.size ≤ w8.heap.size) := Nat.le_trans F3_7.out ss8.size
  have F4_8 : Hid (w6.heap.size ≤ w8.heap.size) := Nat.le_trans F4_7.out ss8.size
  have B_8 := Lib.hid (B_7.out.trans (ss8.below W2.out B_7.out.size))
  clear R3_7 R6_7 O7_7 F1_7 F2_7 F3_7 F4_7 B_7 R4_7 O5_7 mm8 ss8
  have hk8 : ¬ (1 + (len0 : Int) < 0) := by omega
  go_wp2_with fail
  refine (eqFl_any _ _ n _ _ ts _ R6_8.out R3_8.out hbig).mono ?_
  rintro e w9 ⟨rfl, bb9⟩
  have R3_9 := Lib.hid (R3_8.out.keep bb9)
  have R6_9 := Lib.hid (R6_8.out.keep bb9)
  have O7_9 := Lib.hid (O7_8.out.keep bb9)
  have F1_9 : Hid (w1.heap.size ≤ w9.heap.size) := Nat.le_trans F1_8.out bb9.size
  have F2_9 : Hid (w3.heap.size ≤ w9.heap.size) := Nat.le_trans F2_8.out bb9.size
  have F3_9 : Hid (w4.heap.size ≤ w9.heap.size) := Nat.le_trans F3_8.out bb9.size
  have F4_9 : Hid (w6.heap.size ≤ w9.heap.size) := Nat.le_trans F4_8.out bb9.size
  have B_9 := Lib.hid (B_8.out.trans (bb9.mono B_8.out.size))
  clear R3_8 R6_8 O7_8 F1_8 F2_8 F3_8 F4_8 B_8 bb9
  go_wp2_with fail
  refine (mkFl_any (w3.heap.size) (w4.heap.size) 1 _ n _ _ O7_9.out hbig (by omega)).mono ?_
  rintro e w10 ⟨rfl, mm10, ss10⟩
  have R3_10 := Lib.hid (R3_9.out.sepL ss10 PR3_3.out)
  have F1_10 : Hid (w1.heap.size ≤ w10.heap.size) := Nat.le_trans F1_9.out ss10.size
  have F2_10 : Hid (w3.heap.size ≤ w10.heap.size) := Nat.le_trans F2_9.out ss10.size
  have F3_10 : Hid (w4.heap.size ≤ w10.heap.size) := Nat.le_trans F3_9.out ss10.size
  have F4_10 : Hid (w6.heap.size ≤ w10.heap.size) := Nat.le_trans F4_9.out ss10.size
  have B_10 := Lib.hid (B_9.out.trans (ss10.below W3.out B_9.out.size))
  have M10_10 := Lib.hid mm10
  clear R3_9 F1_9 F2_9 F3_9 F4_9 B_9 R6_9 O7_9 mm10 ss10
  have hk10 : ¬ (1 + (n : Int) < 0) := by omega
  go_wp2_with fail
  refine (hdFl_any 1 _ n _ _ M10_10.out hsml rfl).mono ?_
  rintro e w11 ⟨rfl, bb11⟩
  have R3_11 := Lib.hid (R3_10.out.keep bb11)
  have M10_11 := Lib.hid (M10_10.out.keep bb11)
  have F1_11 : Hid (w1.heap.size ≤ w11.heap.size) := Nat.le_trans F1_10.out bb11.size
  have F2_11 : Hid (w3.heap.size ≤ w11.heap.size) := Nat.le_trans F2_10.out bb11.size
  have F3_11 : Hid (w4.heap.size ≤ w11.heap.size) := Nat.le_trans F3_10.out bb11.size
  have F4_11 : Hid (w6.heap.size ≤ w11.heap.size) := Nat.le_trans F4_10.out bb11.size
  have B_11 := Lib.hid (B_10.out.trans (bb11.mono B_10.out.size))
  clear R3_10 M10_10 F1_10 F2_10 F3_10 F4_10 B_10 bb11
  go_wp2_with fail
  have PR3_5 := Lib.hid R3_11.out.lt
  refine (toF32_made a0 len0 cap0 z0 _ (H0.out.keep B_11.out) hn'0).mono ?_
  rintro e w12 ⟨rfl, mm12, bb12, hg12⟩
  have R11_12 := Lib.hid (made_row mm12 hn'0 HZ0.out)
  have O12_12 : Hid (Mid w12 w11.heap.size w12.heap.size (some ⟨w11.heap.size, 0, none⟩) len0 22) := made_mid mm12 (Nat.le_refl _)
  have F5_12 : Hid (w12.heap.size ≤ w12.heap.size) := Nat.le_refl _
  have W5 : Hid (w.heap.size ≤ w11.heap.size) := B_11.out.size
  clear mm12 hg12
  have PR11_1 := Lib.hid (O12_12.out.ge F1_11.out)
  have PO12_1 : Hid (w1.heap.size ≤ w11.heap.size) := F1_11.out
  have PR11_2 := Lib.hid (O12_12.out.ge F2_11.out)
  have PO12_2 : Hid (w3.heap.size ≤ w11.heap.size) := F2_11.out
  have PR11_3 := Lib.hid (O12_12.out.ge F3_11.out)
  have PO12_3 : Hid (w4.heap.size ≤ w11.heap.size) := F3_11.out
  have PR11_4 := Lib.hid (O12_12.out.ge F4_11.out)
  have PO12_4 : Hid (w6.heap.size ≤ w11.heap.size) := F4_11.out
  have R3_12 := Lib.hid (R3_11.out.keep bb12)
  have M10_12 := Lib.hid (M10_11.out.keep bb12)
  have F1_12 : Hid (w1.heap.size ≤ w12.heap.size) := Nat.le_trans F1_11.out bb12.size
  have F2_12 : Hid (w3.heap.size ≤ w12.heap.size) := Nat.le_trans F2_11.out bb12.size
  have F3_12 : Hid (w4.heap.size ≤ w12.heap.size) := Nat.le_trans F3_11.out bb12.size
  have F4_12 : Hid (w6.heap.size ≤ w12.heap.size) := Nat.le_trans F4_11.out bb12.size
  have B_12 := Lib.hid (B_11.out.trans (bb12.mono B_11.out.size))
  clear R3_11 M10_11 F1_11 F2_11 F3_11 F4_11 B_11 bb12
  go_wp2_with fail
  have PR3_6 := Lib.hid R3_12.out.lt
  have PR11_6 := Lib.hid R11_12.out.lt
  have PO12_6 : Hid (w12.heap.size ≤ w12.heap.size) := F5_12.out
  refine (iMovedParticles_any (some ⟨w11.heap.size, 0, none⟩) len0 len0 z0 (n1) (n2) (n3) _ R11_12.out (Nat.le_refl _) hs1 hs2 ).mono ?_
  rintro e w13 ⟨⟨ar13, cr13, rfl, hr13, ho13⟩, bb13⟩
  rw [HTS.out, HNL.out] at hr13 ho13
  rw [HTS.out, HNL.out, HSV.out, HBV.out]
  have R13_13 := Lib.hid hr13
  have O14_13 := Lib.hid (Mid.of_own ho13)
  clear hr13 ho13
  have F6_13 : Hid (w13.heap.size ≤ w13.heap.size) := Nat.le_refl _
  have W6 : Hid (w.heap.size ≤ w12.heap.size) := B_12.out.size
  have PR13_1 := Lib.hid (O14_13.out.ge F1_12.out)
  have PO14_1 : Hid (w1.heap.size ≤ w12.heap.size) := F1_12.out
  have PR13_2 := Lib.hid (O14_13.out.ge F2_12.out)
  have PO14_2 : Hid (w3.heap.size ≤ w12.heap.size) := F2_12.out
  have PR13_3 := Lib.hid (O14_13.out.ge F3_12.out)
  have PO14_3 : Hid (w4.heap.size ≤ w12.heap.size) := F3_12.out
  have PR13_4 := Lib.hid (O14_13.out.ge F4_12.out)
  have PO14_4 : Hid (w6.heap.size ≤ w12.heap.size) := F4_12.out
  have PR13_5 := Lib.hid (O14_13.out.ge F5_12.out)
  have PO14_5 : Hid (w12.heap.size ≤ w12.heap.size) := F5_12.out
  have R3_13 := Lib.hid (R3_12.out.keep bb13)
  have M10_13 := Lib.hid (M10_12.out.keep bb13)
  have R11_13 := Lib.hid (R11_12.out.keep bb13)
  have O12_13 := Lib.hid (O12_12.out.keep bb13)
  have F1_13 : Hid (w1.heap.size ≤ w13.heap.size) := Nat.le_trans F1_12.out bb13.size
  have F2_13 : Hid (w3.heap.size ≤ w13.heap.size) := Nat.le_trans F2_12.out bb13.size
  have F3_13 : Hid (w4.heap.size ≤ w13.heap.size) := Nat.le_trans F3_12.out bb13.size
  have F4_13 : Hid (w6.heap.size ≤ w13.heap.size) := Nat.le_trans F4_12.out bb13.size
  have F5_13 : Hid (w12.heap.size ≤ w13.heap.size) := Nat.le_trans F5_12.out bb13.size
  have B_13 := Lib.hid (B_12.out.trans (bb13.mono B_12.out.size))
  clear R3_12 M10_12 R11_12 O12_12 F1_12 F2_12 F3_12 F4_12 F5_12 B_12 bb13
  clear R11_13
  clear O12_13
  go_wp2_with fail
  refine (eqFl_any _ _ n _ _ ts _ R13_13.out R3_13.out hbig).mono ?_
  rintro e w14 ⟨rfl, bb14⟩
  have R3_14 := Lib.hid (R3_13.out.keep bb14)
  have M10_14 := Lib.hid (M10_13.out.keep bb14)
  have R13_14 := Lib.hid (R13_13.out.keep bb14)
  have O14_14 := Lib.hid (O14_13.out.keep bb14)
  have F1_14 : Hid (w1.heap.size ≤ w14.heap.size) := Nat.le_trans F1_13.out bb14.size
  have F2_14 : Hid (w3.heap.size ≤ w14.heap.size) := Nat.le_trans F2_13.out bb14.size
  have F3_14 : Hid (w4.heap.size ≤ w14.heap.size) := Nat.le_trans F3_13.out bb14.size
  have F4_14 : Hid (w6.heap.size ≤ w14.heap.size) := Nat.le_trans F4_13.out bb14.size
  have F5_14 : Hid (w12.heap.size ≤ w14.heap.size) := Nat.le_trans F5_13.out bb14.size
  have F6_14 : Hid (w13.heap.size ≤ w14.heap.size) := Nat.le_trans F6_13.out bb14.size
  have B_14 := Lib.hid (B_13.out.trans (bb14.mono B_13.out.size))
  clear R3_13 M10_13 R13_13 O14_13 F1_13 F2_13 F3_13 F4_13 F5_13 F6_13 B_13 bb14
  clear R13_14
  clear O14_14
  clear R3_14
  go_wp2_with fail
  refine (hdFl_any 1 _ n _ _ M10_14.out hsml rfl).mono ?_
  rintro e w15 ⟨rfl, bb15⟩
  have M10_15 := Lib.hid (M10_14.out.keep bb15)
  have F1_15 : Hid (w1.heap.size ≤ w15.heap.size) := Nat.le_trans F1_14.out bb15.size
  have F2_15 : Hid (w3.heap.size ≤ w15.heap.size) := Nat.le_trans F2_14.out bb15.size
  have F3_15 : Hid (w4.heap.size ≤ w15.heap.size) := Nat.le_trans F3_14.out bb15.size
  have F4_15 : Hid (w6.heap.size ≤ w15.heap.size) := Nat.le_trans F4_14.out bb15.size
  have F5_15 : Hid (w12.heap.size ≤ w15.heap.size) := Nat.le_trans F5_14.out bb15.size
  have F6_15 : Hid (w13.heap.size ≤ w15.heap.size) := Nat.le_trans F6_14.out bb15.size
  have B_15 := Lib.hid (B_14.out.trans (bb15.mono B_14.out.size))
  clear M10_14 F1_14 F2_14 F3_14 F4_14 F5_14 F6_14 B_14 bb15
  go_wp2_with fail
  go_ret
  exact ⟨rfl, B_15.out⟩
end Go.Proofs.Ytppkeabkjabhdab
