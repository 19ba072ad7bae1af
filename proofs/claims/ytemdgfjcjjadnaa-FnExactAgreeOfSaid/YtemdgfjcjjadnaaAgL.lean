/-
  The exact law of how far two agree. No conditions beyond the statement's own.
-/
import Derived.Test.YtemdgfjcjjadnaaAgI
import Derived.Test.YtemdgfjcjjadnaaMkF
import Derived.Deep.RegionHeld3
namespace Go.Proofs.Ytemdgfjcjjadnaa
open Go.RowKit Dec Flt Syl Sep Cm We Ag
theorem sAgreeOf_any (a : Option Addr) (len cap : Nat) (Z : List Int) (n0 : Int) (w : World) (h : IRow w a len Z) :
    Calls Try.prog 32 #[.slice a len cap, .int .i64 n0] w fun e w' => e = .returned (.tuple #[.float .f32 (okV (ag0 Z n0) (agE Z n0.toNat)), .bool (okB (ag0 Z n0) (agE Z n0.toNat))]) ∧ Below w.heap.size w w' :=
  (sAgree_any a len cap Z n0 w h).mono fun _ _ g => ⟨g.1, g.2.below _⟩
theorem iAgreeOf_any (a : Option Addr) (len cap : Nat) (Z : List Int) (n0 : Int) (w : World) (h : IRow w a len Z) (_hc : len ≤ cap) :
    Calls Try.prog 34 #[.slice a len cap, .int .i64 n0] w fun e w' => e = .returned (.tuple #[.float .f32 (okV (ag0 Z n0) (agE Z n0.toNat)), .bool (okB (ag0 Z n0) (agE Z n0.toNat))]) ∧ Below w.heap.size w w' := iAgree_any a len cap Z n0 w h
set_option maxRecDepth 40000 in
set_option maxHeartbeats 8000000 in
theorem fnExactAgreeOf_walk (a0 : Option Addr) (len0 cap0 : Nat) (z0 : List Int) (n1 : Int) (_wn1 : (Lit.int .i64 n1).wf = true) (w : World) (h0 : IRow w a0 len0 z0) :
    Calls Try.prog 10 #[.slice a0 len0 cap0, .int .i64 n1] w fun e w' => e = .returned (.bool true) ∧ Below w.heap.size w w' := by
  have hml0 : len0 ≤ maxLen := h0.2.1
  have H0 := Lib.hid h0
  have HZ0 := Lib.hid h0.2.2.1
  have HL0 := Lib.hid h0.1
  have hxb : ∀ x : Bool, (x != x) = false := by simp
  have hxi : ∀ x : Int, (x != x) = false := by simp
  clear h0
  by_cases hn0 : (1048576 : Int) < (len0 : Int)
  · go_enter Try.func10, Try.ntmps10
    go_wp2_with fail
    go_ret
    exact ⟨rfl, by first | exact Below.refl _ _ | exact (Below.refl _ _).alloc (Nat.le_refl _) _⟩
  have hn'0 : len0 ≤ 1048576 := by omega
  have hnv0 := okV_num (ag0 z0 n1) (agE z0 n1.toNat)
  have hcv0 := conv_num _ hnv0
  go_enter Try.func10, Try.ntmps10
  go_wp2_with fail
  refine (toI64_made a0 len0 cap0 z0 _ H0.out hn'0).mono ?_
  rintro e w1 ⟨rfl, mm1, bb1, hg1⟩
  have R1_1 := Lib.hid (imade_row mm1 HL0.out hn'0 HZ0.out)
  clear mm1 hg1
  have B_1 := Lib.hid bb1
  clear bb1
  go_wp2_with fail
  refine (sAgreeOf_any (some ⟨w.heap.size, 0, none⟩) len0 len0 z0 (n1) _ R1_1.out  ).mono ?_
  rintro e w2 ⟨rfl, bb2⟩
  have R1_2 := Lib.hid (R1_1.out.keep bb2)
  have B_2 := Lib.hid (B_1.out.trans (bb2.mono B_1.out.size))
  clear R1_1 B_1 bb2
  clear R1_2
  go_wp2_with fail
  refine (toI64_made a0 len0 cap0 z0 _ (H0.out.keep B_2.out) hn'0).mono ?_
  rintro e w3 ⟨rfl, mm3, bb3, hg3⟩
  have R3_3 := Lib.hid (imade_row mm3 HL0.out hn'0 HZ0.out)
  clear mm3 hg3
  have B_3 := Lib.hid (B_2.out.trans (bb3.mono B_2.out.size))
  clear B_2 bb3
  go_wp2_with fail
  refine (iAgreeOf_any (some ⟨w2.heap.size, 0, none⟩) len0 len0 z0 (n1) _ R3_3.out (Nat.le_refl _) ).mono ?_
  rintro e w4 ⟨rfl, bb4⟩
  have R3_4 := Lib.hid (R3_3.out.keep bb4)
  have B_4 := Lib.hid (B_3.out.trans (bb4.mono B_3.out.size))
  clear R3_3 B_3 bb4
  go_wp2_with fail
  refine (samF_any ((okV (ag0 z0 n1) (agE z0 n1.toNat))) _ (by first | exact hnv0 | exact hnv1 | exact hnv2)).mono ?_
  rintro e w5 ⟨rfl, bb5⟩
  have R3_5 := Lib.hid (R3_4.out.keep bb5)
  have B_5 := Lib.hid (B_4.out.trans (bb5.mono B_4.out.size))
  clear R3_4 B_4 bb5
  go_wp2_with fail
  refine (toI64_made a0 len0 cap0 z0 _ (H0.out.keep B_5.out) hn'0).mono ?_
  rintro e w6 ⟨rfl, mm6, bb6, hg6⟩
  have R5_6 := Lib.hid (imade_row mm6 HL0.out hn'0 HZ0.out)
  clear mm6 hg6
  have R3_6 := Lib.hid (R3_5.out.keep bb6)
  have B_6 := Lib.hid (B_5.out.trans (bb6.mono B_5.out.size))
  clear R3_5 B_5 bb6
  go_wp2_with fail
  refine (eqI64_any _ _ len0 _ _ z0 _ R3_6.out R5_6.out hn'0).mono ?_
  rintro e w7 ⟨rfl, bb7⟩
  have R3_7 := Lib.hid (R3_6.out.keep bb7)
  have R5_7 := Lib.hid (R5_6.out.keep bb7)
  have B_7 := Lib.hid (B_6.out.trans (bb7.mono B_6.out.size))
  clear R3_6 R5_6 B_6 bb7
  clear R3_7
  clear R5_7
  go_wp2_with fail
  go_ret
  exact ⟨rfl, B_7.out⟩
end Go.Proofs.Ytemdgfjcjjadnaa
