/-
  The exact law of how well a process keeps its bounds. No conditions beyond the statement's own.
-/
import Derived.Test.YtemdgfjcjjadnabCpS
import Derived.Test.YtemdgfjcjjadnabCpI
import Derived.Test.YtemdgfjcjjadnabMkF
import Derived.Deep.RegionHeld3
namespace Go.Proofs.Ytemdgfjcjjadnab
open Go.RowKit Dec Flt Syl Sep Cm We Cp
theorem sCapabilityOf_any (a : Option Addr) (len cap : Nat) (T : List Nat) (l h : Nat) (w : World) (hT : FRow w a len T) (hm : len ≤ 1048576) (hl : l < 4294967296) (hh : h < 4294967296) :
    Calls Try.prog 32 #[.slice a len cap, .float .f32 l, .float .f32 h] w fun e w' => e = .returned (.tuple #[.float .f32 (cpX T l h (cpA T l h)), .float .f32 (cpX T l h (cpE T l h)), .bool (cpB T l h)]) ∧ Below w.heap.size w w' :=
  (sCap_any a len cap T l h w hT hm hl hh).mono fun _ _ g => ⟨g.1, g.2.below _⟩
theorem iCapabilityOf_any (a : Option Addr) (len cap : Nat) (T : List Nat) (l h : Nat) (w : World) (hT : FRow w a len T) (_hc : len ≤ cap) (hm : len ≤ 1048576) (hl : l < 4294967296) (hh : h < 4294967296) :
    Calls Try.prog 34 #[.slice a len cap, .float .f32 l, .float .f32 h] w fun e w' => e = .returned (.tuple #[.float .f32 (cpX T l h (cpA T l h)), .float .f32 (cpX T l h (cpE T l h)), .bool (cpB T l h)]) ∧ Below w.heap.size w w' := iCap_any a len cap T l h w hT hm hl hh
theorem cpA_ok {T : List Nat} {l h : Nat} (hb : cpB T l h = true) : F32.finO (cpA T l h) = true := by unfold cpB at hb; simp only [Bool.and_eq_true] at hb; exact hb.2.2.1
theorem cpE_ok {T : List Nat} {l h : Nat} (hb : cpB T l h = true) : F32.finO (cpE T l h) = true := by unfold cpB at hb; simp only [Bool.and_eq_true] at hb; exact hb.2.2.2
set_option maxRecDepth 40000 in
set_option maxHeartbeats 8000000 in
theorem fnExactCapabilityOf_walk (a0 : Option Addr) (len0 cap0 : Nat) (z0 : List Nat) (n1 : Nat) (_wn1 : (Lit.float .f32 n1).wf = true) (n2 : Nat) (_wn2 : (Lit.float .f32 n2).wf = true) (w : World) (h0 : FRow w a0 len0 z0) :
    Calls Try.prog 9 #[.slice a0 len0 cap0, .float .f32 n1, .float .f32 n2] w fun e w' => e = .returned (.bool true) ∧ Below w.heap.size w w' := by
  have hml0 : len0 ≤ maxLen := h0.2.1
  have H0 := Lib.hid h0
  have HZ0 := Lib.hid h0.2.2.1
  have HL0 := Lib.hid h0.1
  have hxb : ∀ x : Bool, (x != x) = false := by simp
  have hxi : ∀ x : Int, (x != x) = false := by simp
  clear h0
  by_cases hn0 : (1048576 : Int) < (len0 : Int)
  · go_enter Try.func9, Try.ntmps9
    go_wp2_with fail
    go_ret
    exact ⟨rfl, by first | exact Below.refl _ _ | exact (Below.refl _ _).alloc (Nat.le_refl _) _⟩
  have hn'0 : len0 ≤ 1048576 := by omega
  have hs1 : n1 < 4294967296 := by simpa [Lit.wf] using _wn1
  have hs2 : n2 < 4294967296 := by simpa [Lit.wf] using _wn2
  have hnv0 := cpX_num z0 n1 n2 cpA_ok
  have hcv0 := conv_num _ hnv0
  have hnv1 := cpX_num z0 n1 n2 cpE_ok
  have hcv1 := conv_num _ hnv1
  go_enter Try.func9, Try.ntmps9
  go_wp2_with fail
  refine (toF32_made a0 len0 cap0 z0 _ H0.out hn'0).mono ?_
  rintro e w1 ⟨rfl, mm1, bb1, hg1⟩
  have R1_1 := Lib.hid (made_row mm1 hn'0 HZ0.out)
  clear mm1 hg1
  have B_1 := Lib.hid bb1
  clear bb1
  go_wp2_with fail
  refine (sCapabilityOf_any (some ⟨w.heap.size, 0, none⟩) len0 len0 z0 (n1) (n2) _ R1_1.out hn'0 hs1 hs2 ).mono ?_
  rintro e w2 ⟨rfl, bb2⟩
  have R1_2 := Lib.hid (R1_1.out.keep bb2)
  have B_2 := Lib.hid (B_1.out.trans (bb2.mono B_1.out.size))
  clear R1_1 B_1 bb2
  clear R1_2
  go_wp2_with fail
  refine (toF32_made a0 len0 cap0 z0 _ (H0.out.keep B_2.out) hn'0).mono ?_
  rintro e w3 ⟨rfl, mm3, bb3, hg3⟩
  have R3_3 := Lib.hid (made_row mm3 hn'0 HZ0.out)
  clear mm3 hg3
  have B_3 := Lib.hid (B_2.out.trans (bb3.mono B_2.out.size))
  clear B_2 bb3
  go_wp2_with fail
  refine (iCapabilityOf_any (some ⟨w2.heap.size, 0, none⟩) len0 len0 z0 (n1) (n2) _ R3_3.out (Nat.le_refl _) hn'0 hs1 hs2 ).mono ?_
  rintro e w4 ⟨rfl, bb4⟩
  have R3_4 := Lib.hid (R3_3.out.keep bb4)
  have B_4 := Lib.hid (B_3.out.trans (bb4.mono B_3.out.size))
  clear R3_3 B_3 bb4
  go_wp2_with fail
  refine (samF_any ((cpX z0 n1 n2 (cpA z0 n1 n2))) _ (by first | exact hnv0 | exact hnv1 | exact hnv2)).mono ?_
  rintro e w5 ⟨rfl, bb5⟩
  have R3_5 := Lib.hid (R3_4.out.keep bb5)
  have B_5 := Lib.hid (B_4.out.trans (bb5.mono B_4.out.size))
  clear R3_4 B_4 bb5
  go_wp2_with fail
  refine (samF_any ((cpX z0 n1 n2 (cpE z0 n1 n2))) _ (by first | exact hnv0 | exact hnv1 | exact hnv2)).mono ?_
  rintro e w6 ⟨rfl, bb6⟩
  have R3_6 := Lib.hid (R3_5.out.keep bb6)
  have B_6 := Lib.hid (B_5.out.trans (bb6.mono B_5.out.size))
  clear R3_5 B_5 bb6
  go_wp2_with fail
  refine (toF32_made a0 len0 cap0 z0 _ (H0.out.keep B_6.out) hn'0).mono ?_
  rintro e w7 ⟨rfl, mm7, bb7, hg7⟩
  have R5_7 := Lib.hid (made_row mm7 hn'0 HZ0.out)
  clear mm7 hg7
  have R3_7 := Lib.hid (R3_6.out.keep bb7)
  have B_7 := Lib.hid (B_6.out.trans (bb7.mono B_6.out.size))
  clear R3_6 B_6 bb7
  go_wp2_with fail
  refine (eqFl_any _ _ len0 _ _ z0 _ R3_7.out R5_7.out hn'0).mono ?_
  rintro e w8 ⟨rfl, bb8⟩
  have R3_8 := Lib.hid (R3_7.out.keep bb8)
  have R5_8 := Lib.hid (R5_7.out.keep bb8)
  have B_8 := Lib.hid (B_7.out.trans (bb8.mono B_7.out.size))
  clear R3_7 R5_7 B_7 bb8
  clear R3_8
  clear R5_8
  go_wp2_with fail
  go_ret
  exact ⟨rfl, B_8.out⟩
end Go.Proofs.Ytemdgfjcjjadnab
