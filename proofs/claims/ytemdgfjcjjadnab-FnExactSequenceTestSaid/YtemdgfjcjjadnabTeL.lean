/-
  The exact law of how a test of parts ends. No conditions beyond the statement's own.
-/
import Derived.Test.YtemdgfjcjjadnabTeI
import Derived.Test.YtemdgfjcjjadnabMkF
import Derived.Deep.RegionHeld3
namespace Go.Proofs.Ytemdgfjcjjadnab
open Go.RowKit Dec Flt Syl Sep Cm We Sq Te
theorem sSequenceTest_any (a : Option Addr) (len cap : Nat) (G : List Bool) (lo hi al be : Nat) (w : World) (hG : BRow w a len G) (hm : len ≤ 1048576) (hlo : lo < 4294967296) (hhi : hi < 4294967296) (hal : al < 4294967296) (hbe : be < 4294967296) :
    Calls Try.prog 26 #[.slice a len cap, .float .f32 lo, .float .f32 hi, .float .f32 al, .float .f32 be] w fun e w' => e = .returned (.tuple #[.int .i64 (teV G lo hi al be).1, .int .i64 (teV G lo hi al be).2, .bool (te0 G lo hi al be)]) ∧ Below w.heap.size w w' :=
  (sTest_any a len cap G lo hi al be w hG hm hlo hhi hal hbe).mono fun _ _ g => ⟨g.1, g.2.below _⟩
theorem iSequenceTest_any (a : Option Addr) (len cap : Nat) (G : List Bool) (lo hi al be : Nat) (w : World) (hG : BRow w a len G) (_hc : len ≤ cap) (hm : len ≤ 1048576) (hlo : lo < 4294967296) (hhi : hi < 4294967296) (hal : al < 4294967296) (hbe : be < 4294967296) :
    Calls Try.prog 28 #[.slice a len cap, .float .f32 lo, .float .f32 hi, .float .f32 al, .float .f32 be] w fun e w' => e = .returned (.tuple #[.int .i64 (teV G lo hi al be).1, .int .i64 (teV G lo hi al be).2, .bool (te0 G lo hi al be)]) ∧ Below w.heap.size w w' := iTest_any a len cap G lo hi al be w hG hm hlo hhi hal hbe
set_option maxRecDepth 40000 in
set_option maxHeartbeats 8000000 in
theorem fnExactSequenceTest_walk (a0 : Option Addr) (len0 cap0 : Nat) (z0 : List Bool) (n1 : Nat) (_wn1 : (Lit.float .f32 n1).wf = true) (n2 : Nat) (_wn2 : (Lit.float .f32 n2).wf = true) (n3 : Nat) (_wn3 : (Lit.float .f32 n3).wf = true) (n4 : Nat) (_wn4 : (Lit.float .f32 n4).wf = true) (w : World) (h0 : BRow w a0 len0 z0) :
    Calls Try.prog 7 #[.slice a0 len0 cap0, .float .f32 n1, .float .f32 n2, .float .f32 n3, .float .f32 n4] w fun e w' => e = .returned (.bool true) ∧ Below w.heap.size w w' := by
  have hml0 : len0 ≤ maxLen := h0.2.1
  have H0 := Lib.hid h0
  have HZ0 := Lib.hid h0.2.2.1
  have HL0 := Lib.hid h0.1
  have hxb : ∀ x : Bool, (x != x) = false := by simp
  have hxi : ∀ x : Int, (x != x) = false := by simp
  clear h0
  by_cases hn0 : (1048576 : Int) < (len0 : Int)
  · go_enter Try.func7, Try.ntmps7
    go_wp2_with fail
    go_ret
    exact ⟨rfl, by first | exact Below.refl _ _ | exact (Below.refl _ _).alloc (Nat.le_refl _) _⟩
  have hn'0 : len0 ≤ 1048576 := by omega
  have hs1 : n1 < 4294967296 := by simpa [Lit.wf] using _wn1
  have hs2 : n2 < 4294967296 := by simpa [Lit.wf] using _wn2
  have hs3 : n3 < 4294967296 := by simpa [Lit.wf] using _wn3
  have hs4 : n4 < 4294967296 := by simpa [Lit.wf] using _wn4
  go_enter Try.func7, Try.ntmps7
  go_wp2_with fail
  refine (toBo_made a0 len0 cap0 z0 _ H0.out hn'0).mono ?_
  rintro e w1 ⟨rfl, mm1, bb1, hg1⟩
  have R1_1 := Lib.hid (bmade_row mm1 HL0.out hn'0 HZ0.out)
  clear mm1 hg1
  have B_1 := Lib.hid bb1
  clear bb1
  go_wp2_with fail
  refine (sSequenceTest_any (some ⟨w.heap.size, 0, none⟩) len0 len0 z0 (n1) (n2) (n3) (n4) _ R1_1.out hn'0 hs1 hs2 hs3 hs4 ).mono ?_
  rintro e w2 ⟨rfl, bb2⟩
  have R1_2 := Lib.hid (R1_1.out.keep bb2)
  have B_2 := Lib.hid (B_1.out.trans (bb2.mono B_1.out.size))
  clear R1_1 B_1 bb2
  clear R1_2
  go_wp2_with fail
  refine (toBo_made a0 len0 cap0 z0 _ (H0.out.keep B_2.out) hn'0).mono ?_
  rintro e w3 ⟨rfl, mm3, bb3, hg3⟩
  have R3_3 := Lib.hid (bmade_row mm3 HL0.out hn'0 HZ0.out)
  clear mm3 hg3
  have B_3 := Lib.hid (B_2.out.trans (bb3.mono B_2.out.size))
  clear B_2 bb3
  go_wp2_with fail
  refine (iSequenceTest_any (some ⟨w2.heap.size, 0, none⟩) len0 len0 z0 (n1) (n2) (n3) (n4) _ R3_3.out (Nat.le_refl _) hn'0 hs1 hs2 hs3 hs4 ).mono ?_
  rintro e w4 ⟨rfl, bb4⟩
  have R3_4 := Lib.hid (R3_3.out.keep bb4)
  have B_4 := Lib.hid (B_3.out.trans (bb4.mono B_3.out.size))
  clear R3_3 B_3 bb4
  go_wp2_with fail
  refine (toBo_made a0 len0 cap0 z0 _ (H0.out.keep B_4.out) hn'0).mono ?_
  rintro e w5 ⟨rfl, mm5, bb5, hg5⟩
  have R5_5 := Lib.hid (bmade_row mm5 HL0.out hn'0 HZ0.out)
  clear mm5 hg5
  have R3_5 := Lib.hid (R3_4.out.keep bb5)
  have B_5 := Lib.hid (B_4.out.trans (bb5.mono B_4.out.size))
  clear R3_4 B_4 bb5
  go_wp2_with fail
  refine (eqBo_any _ _ len0 _ _ z0 _ R3_5.out R5_5.out hn'0).mono ?_
  rintro e w6 ⟨rfl, bb6⟩
  have R3_6 := Lib.hid (R3_5.out.keep bb6)
  have R5_6 := Lib.hid (R5_5.out.keep bb6)
  have B_6 := Lib.hid (B_5.out.trans (bb6.mono B_5.out.size))
  clear R3_5 R5_5 B_5 bb6
  clear R3_6
  clear R5_6
  go_wp2_with fail
  go_ret
  exact ⟨rfl, B_6.out⟩
end Go.Proofs.Ytemdgfjcjjadnab
