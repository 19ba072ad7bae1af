/-
  When a line is at a limit, in both. Conditions: numbers are words of 32 bits.
-/
import Derived.Test.YtppkeabkjabhdaaWeP
import Derived.Test.YtppkeabkjabhdaaGrn
namespace We
open Go Flt Dec F32 Cm
theorem cell_three (w : World) (t : TypeId) (x y z : Value) : ∀ j u, [x, y, z][j]? = some u → (w.alloc (.cells #[x, y, z] t)).cell? ⟨w.heap.size, j, none⟩ = some u := by
  intro j u hj
  match j, hj with
  | 0, hj => simp at hj; subst hj; rw [World.cell?_alloc_mark]; rfl
  | 1, hj => simp at hj; subst hj; rw [World.cell?_alloc_mark]; rfl
  | 2, hj => simp at hj; subst hj; rw [World.cell?_alloc_mark]; rfl
  | j + 3, hj => simp at hj
theorem row_three (w : World) (t : TypeId) {x y z : Nat} (hx : x < 4294967296) (hy : y < 4294967296) (hz : z < 4294967296) : FRow (w.alloc (.cells #[.float .f32 x, .float .f32 y, .float .f32 z] t)) (some ⟨w.heap.size, 0, none⟩) 3 [x, y, z] := by
  refine ⟨rfl, by unfold maxLen; omega, by intro v hv; simp at hv; rcases hv with rfl | rfl | rfl <;> assumption, fun j hj => ⟨w.heap.size, 0, rfl, by simp, ?_⟩⟩
  rw [Nat.zero_add]
  refine cell_three w t _ _ _ j _ ?_
  match j, hj with
  | 0, _ => rfl
  | 1, _ => rfl
  | 2, _ => rfl
theorem row_two (w : World) (t : TypeId) {x y : Nat} (hx : x < 4294967296) (hy : y < 4294967296) : FRow (w.alloc (.cells #[.float .f32 x, .float .f32 y] t)) (some ⟨w.heap.size, 0, none⟩) 2 [x, y] := by
  refine ⟨rfl, by unfold maxLen; omega, by intro v hv; simp at hv; rcases hv with rfl | rfl <;> assumption, fun j hj => ⟨w.heap.size, 0, rfl, by simp, ?_⟩⟩
  rw [Nat.zero_add]
  match j, hj with
  | 0, _ => rw [World.cell?_alloc_mark]; rfl
  | 1, _ => rw [World.cell?_alloc_mark]; rfl
theorem all_three (p : Nat → Bool) (x y z : Nat) : [x, y, z].all p = (p x && (p y && p z)) := by simp
theorem all_two (p : Nat → Bool) (x y : Nat) : [x, y].all p = (p x && p y) := by simp
theorem tt0_fin {b s l : Nat} (h : fin .f32 b = true) (h2 : fin .f32 s = true) (h3 : fin .f32 l = true) : tt0 b s l = !(FloatKind.f32.format.order s 0 == some .eq) := by unfold tt0; rw [h, h2, h3]; rfl
theorem tt0_b {b s l : Nat} (h : (fin .f32 b && (fin .f32 s && fin .f32 l)) = false) : tt0 b s l = false := by
  unfold tt0
  cases h1 : fin .f32 b <;> cases h2 : fin .f32 s <;> cases h3 : fin .f32 l <;> simp_all
end We
namespace Go.Proofs.Ytppkeabkjabhdaa
open Go.RowKit Flt Dec Cm We
set_option maxHeartbeats 1600000 in
theorem iTimeToLimit_any (b s l : Nat) (w : World) (hb : b < 4294967296) (hs : s < 4294967296) (hl : l < 4294967296) :
    Calls Try.prog 30 #[.float .f32 b, .float .f32 s, .float .f32 l] w fun e w' => e = .returned (.tuple #[.float .f32 (okV (tt0 b s l) (ttO b s l)), .bool (okB (tt0 b s l) (ttO b s l))]) ∧ Below w.heap.size w w' := by
  have HR : Hid (∀ w : World, FRow (w.alloc (.cells #[.float .f32 b, .float .f32 s, .float .f32 l] 31)) (some ⟨w.heap.size, 0, none⟩) 3 [b, s, l]) := Lib.hid fun w => row_three w _ hb hs hl
  have HB : Hid (∀ w : World, Below w.heap.size w (w.alloc (.cells #[.float .f32 b, .float .f32 s, .float .f32 l] 31))) := Lib.hid fun w => (Below.refl _ _).alloc (Nat.le_refl _) _
  cases hf : (fin .f32 b && (fin .f32 s && fin .f32 l)) with
  | false =>
    have HN := Lib.hid (tt0_b hf)
    have HF : Hid (([b, s, l].all fun z => fin .f32 z) = false) := by show _ = _; rw [all_three]; exact hf
    have HM := Lib.hid (ok_no HN.out (ttO b s l))
    clear hf
    go_enter Try.func30, Try.ntmps30
    go_wp2_with fail
    refine (areFinD_any _ 3 3 [b, s, l] _ (HR.out _)).mono ?_
    rintro e w1 ⟨rfl, d1⟩
    rw [HF.out]
    have G := Lib.hid ((HB.out w).trans (d1.below _))
    clear d1
    go_wp2_with fail
    go_ret2
    rw [HM.out.1, HM.out.2]
    exact ⟨rfl, G.out⟩
  | true =>
    have hff := hf
    rw [Bool.and_eq_true, Bool.and_eq_true] at hff
    have HF : Hid (([b, s, l].all fun z => fin .f32 z) = true) := by show _ = _; rw [all_three]; exact hf
    have HT := Lib.hid (tt0_fin hff.1 hff.2.1 hff.2.2)
    have HB1 := Lib.hid (fin_isN hff.1 hb)
    have HS1 := Lib.hid (fin_isN hff.2.1 hs)
    have HL1 := Lib.hid (fin_isN hff.2.2 hl)
    clear hf hff
    cases hq : (FloatKind.f32.format.order s 0 == some .eq) with
    | true =>
      have HM := Lib.hid (ok_no (show tt0 b s l = false by rw [HT.out, hq]; rfl) (ttO b s l))
      go_enter Try.func30, Try.ntmps30
      go_wp2_with fail
      refine (areFinD_any _ 3 3 [b, s, l] _ (HR.out _)).mono ?_
      rintro e w1 ⟨rfl, d1⟩
      rw [HF.out]
      have G := Lib.hid ((HB.out w).trans (d1.below _))
      clear d1
      go_wp2_with fail
      go_ret2
      rw [HM.out.1, HM.out.2]
      exact ⟨rfl, G.out⟩
    | false =>
      have HM := Lib.hid (ok_yes (show tt0 b s l = true by rw [HT.out, hq]; rfl) (ttO b s l))
      go_enter Try.func30, Try.ntmps30
      go_wp2_with fail
      refine (areFinD_any _ 3 3 [b, s, l] _ (HR.out _)).mono ?_
      rintro e w1 ⟨rfl, d1⟩
      rw [HF.out]
      have G := Lib.hid ((HB.out w).trans (d1.below _))
      clear d1
      obtain ⟨x1, v1, r1, j1, l1, e1⟩ := F32.arith_ex (P := Try.prog) (op := .sub) (.inr (.inl rfl)) 31 HL1.out HB1.out w1
      obtain ⟨x2, v2, r2, j2, l2, e2⟩ := F32.arith_ex (P := Try.prog) (op := .quo) (.inr (.inr (.inr rfl))) 31 j1 HS1.out v1
      have E := Lib.hid (F32.fin_is (show F32.Is (ttO b s l) x2 from j2))
      have G2 := Lib.hid (G.out.trans ((e1.trans e2).below _))
      clear j1 l1 e1 j2 l2 e2
      go_wp2_with fail
      refine (c_onlyFinite x2 _).mono ?_
      rintro e w3 ⟨rfl, d3⟩
      rw [E.out.2, E.out.1, ← HM.out.2, ← HM.out.1]
      have G3 := Lib.hid (G2.out.trans (d3.below _))
      clear d3
      go_wp2_with fail
      go_ret2
      exact ⟨rfl, G3.out⟩
set_option maxHeartbeats 1600000 in
theorem sTimeToLimit_any (b s l : Nat) (w : World) (hb : b < 4294967296) (hs : s < 4294967296) (hl : l < 4294967296) :
    Calls Try.prog 29 #[.float .f32 b, .float .f32 s, .float .f32 l] w fun e w' => e = .returned (.tuple #[.float .f32 (okV (tt0 b s l) (ttO b s l)), .bool (okB (tt0 b s l) (ttO b s l))]) ∧ Below w.heap.size w w' := by
  cases h1 : fin .f32 b with
  | false =>
    have H1 := Lib.hid h1
    have HM := Lib.hid (ok_no (show tt0 b s l = false by unfold tt0; rw [h1]; rfl) (ttO b s l))
    clear h1
    go_enter Try.func29, Try.ntmps29
    go_wp2_with fail
    refine (specFinite_any b _).mono ?_
    rintro e w1 ⟨rfl, d1⟩
    rw [H1.out]
    have D1 := Lib.hid d1
    clear d1
    go_wp2_with fail
    go_ret2
    rw [HM.out.1, HM.out.2]
    exact ⟨rfl, D1.out.below _⟩
  | true =>
    have H1 := Lib.hid h1
    cases h2 : fin .f32 s with
    | false =>
      have H2 := Lib.hid h2
      have HM := Lib.hid (ok_no (show tt0 b s l = false by unfold tt0; rw [h1, h2]; rfl) (ttO b s l))
      clear h1 h2
      go_enter Try.func29, Try.ntmps29
      go_wp2_with fail
      refine (specFinite_any b _).mono ?_
      rintro e w1 ⟨rfl, d1⟩
      rw [H1.out]
      have D1 := Lib.hid d1
      clear d1
      go_wp2_with fail
      refine (specFinite_any s _).mono ?_
      rintro e w2 ⟨rfl, d2⟩
      rw [H2.out]
      have D2 := Lib.hid (D1.out.trans d2)
      clear d2
      go_wp2_with fail
      go_ret2
      rw [HM.out.1, HM.out.2]
      exact ⟨rfl, D2.out.below _⟩
    | true =>
      have H2 := Lib.hid h2
      cases h3 : fin .f32 l with
      | false =>
        have H3 := Lib.hid h3
        have HM := Lib.hid (ok_no (show tt0 b s l = false by unfold tt0; rw [h1, h2, h3]; rfl) (ttO b s l))
        clear h1 h2 h3
        go_enter Try.func29, Try.ntmps29
        go_wp2_with fail
        refine (specFinite_any b _).mono ?_
        rintro e w1 ⟨rfl, d1⟩
        rw [H1.out]
        have D1 := Lib.hid d1
        clear d1
        go_wp2_with fail
        refine (specFinite_any s _).mono ?_
        rintro e w2 ⟨rfl, d2⟩
        rw [H2.out]
        have D2 := Lib.hid (D1.out.trans d2)
        clear d2
        go_wp2_with fail
        refine (specFinite_any l _).mono ?_
        rintro e w3 ⟨rfl, d3⟩
        rw [H3.out]
        have D3 := Lib.hid (D2.out.trans d3)
        clear d3
        go_wp2_with fail
        go_ret2
        rw [HM.out.1, HM.out.2]
        exact ⟨rfl, D3.out.below _⟩
      | true =>
        have H3 := Lib.hid h3
        have HT := Lib.hid (tt0_fin h1 h2 h3)
        have HB1 := Lib.hid (fin_isN h1 hb)
        have HS1 := Lib.hid (fin_isN h2 hs)
        have HL1 := Lib.hid (fin_isN h3 hl)
        clear h1 h2 h3
        cases hq : (FloatKind.f32.format.order s 0 == some .eq) with
        | true =>
          have HM := Lib.hid (ok_no (show tt0 b s l = false by rw [HT.out, hq]; rfl) (ttO b s l))
          go_enter Try.func29, Try.ntmps29
          go_wp2_with fail
          refine (specFinite_any b _).mono ?_
          rintro e w1 ⟨rfl, d1⟩
          rw [H1.out]
          have D1 := Lib.hid d1
          clear d1
          go_wp2_with fail
          refine (specFinite_any s _).mono ?_
          rintro e w2 ⟨rfl, d2⟩
          rw [H2.out]
          have D2 := Lib.hid (D1.out.trans d2)
          clear d2
          go_wp2_with fail
          refine (specFinite_any l _).mono ?_
          rintro e w3 ⟨rfl, d3⟩
          rw [H3.out]
          have D3 := Lib.hid (D2.out.trans d3)
          clear d3
          go_wp2_with fail
          go_ret2
          rw [HM.out.1, HM.out.2]
          exact ⟨rfl, D3.out.below _⟩
        | false =>
          have HM := Lib.hid (ok_yes (show tt0 b s l = true by rw [HT.out, hq]; rfl) (ttO b s l))
          go_enter Try.func29, Try.ntmps29
          go_wp2_with fail
          refine (specFinite_any b _).mono ?_
          rintro e w1 ⟨rfl, d1⟩
          rw [H1.out]
          have D1 := Lib.hid d1
          clear d1
          go_wp2_with fail
          refine (specFinite_any s _).mono ?_
          rintro e w2 ⟨rfl, d2⟩
          rw [H2.out]
          have D2 := Lib.hid (D1.out.trans d2)
          clear d2
          go_wp2_with fail
          refine (specFinite_any l _).mono ?_
          rintro e w3 ⟨rfl, d3⟩
          rw [H3.out]
          have D3 := Lib.hid (D2.out.trans d3)
          clear d3
          obtain ⟨x1, v1, r1, j1, l1, e1⟩ := F32.arith_ex (P := Try.prog) (op := .sub) (.inr (.inl rfl)) 31 HL1.out HB1.out w3
          obtain ⟨x2, v2, r2, j2, l2, e2⟩ := F32.arith_ex (P := Try.prog) (op := .quo) (.inr (.inr (.inr rfl))) 31 j1 HS1.out v1
          have E := Lib.hid (F32.fin_is (show F32.Is (ttO b s l) x2 from j2))
          have G2 := Lib.hid (D3.out.trans (e1.trans e2))
          clear j1 l1 e1 j2 l2 e2
          go_wp2_with fail
          refine (c_Number x2 _).mono ?_
          rintro e w4 ⟨rfl, d4⟩
          rw [E.out.2, E.out.1, ← HM.out.2, ← HM.out.1]
          have G3 := Lib.hid ((G2.out.trans d4).below w.heap.size)
          clear d4
          go_wp2_with fail
          go_ret2
          exact ⟨rfl, G3.out⟩
end Go.Proofs.Ytppkeabkjabhdaa
