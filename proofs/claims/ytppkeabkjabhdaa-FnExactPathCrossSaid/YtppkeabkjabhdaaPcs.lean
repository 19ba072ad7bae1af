/-
  When a path is at a limit, in the model, for whatever is given. Conditions: the lists read as lists of numbers.
-/
import Derived.Test.YtppkeabkjabhdaaPcr
namespace Go.Proofs.Ytppkeabkjabhdaa
open Go.RowKit Flt Dec Cm We Cr
set_option maxRecDepth 100000 in
set_option maxHeartbeats 8000000 in
theorem sPathCross_any (a : Option Addr) (la ca : Nat) (T : List Nat) (b : Option Addr) (lb cb : Nat) (V : List Nat) (l : Nat) (w : World) (h : FRow w a la T) (g : FRow w b lb V) (hll : l < 4294967296) :
    Calls Try.prog 31 #[.slice a la ca, .slice b lb cb, .float .f32 l] w fun e w' => e = .returned (.tuple #[.float .f32 (okV (pxC T V l) (pcR T V l)), .bool (okB (pxC T V l) (pcR T V l))]) ∧ Below w.heap.size w w' := by
  have hTL : T.length = la := h.1
  have hVL : V.length = lb := g.1
  have HT := Lib.hid h
  have HV := Lib.hid g
  by_cases hl : 2 ≤ la ∧ la ≤ 48
  · by_cases hv : lb = la
    · subst hv
      have q1 : ¬ ((lb : Int) < 2) := by omega
      have q2 : ¬ ((lb : Int) > 48) := by omega
      have q3 : ((lb : Int) != (lb : Int)) = false := by simp
      cases h1 : T.all fun z => fin .f32 z with
      | false =>
        have HM := Lib.hid (ok_no (px_p (l := l) (pl_t (V := V) h1)) (pcR T V l))
        have H1 := Lib.hid h1
        clear h g hl h1 hTL hVL
        go_enter Try.func31, Try.ntmps31
        go_wp2_with fail
        refine (specFinD_any a lb ca T _ HT.out (by omega)).mono ?_
        rintro e w1 ⟨rfl, d1⟩
        rw [H1.out]
        have D1 := Lib.hid d1
        clear d1
        go_wp2_with fail
        go_ret2
        rw [HM.out.1, HM.out.2]
        exact ⟨rfl, D1.out.below _⟩
      | true =>
        cases h2 : V.all fun z => fin .f32 z with
        | false =>
          have HM := Lib.hid (ok_no (px_p (l := l) (pl_v (T := T) h2)) (pcR T V l))
          have H1 := Lib.hid h1
          have H2 := Lib.hid h2
          clear h g hl h1 h2 hTL hVL
          go_enter Try.func31, Try.ntmps31
          go_wp2_with fail
          refine (specFinD_any a lb ca T _ HT.out (by omega)).mono ?_
          rintro e w1 ⟨rfl, d1⟩
          rw [H1.out]
          have D1 := Lib.hid d1
          clear d1
          go_wp2_with fail
          refine (specFinD_any b lb cb V _ (frow_drawn HV.out D1.out) (by omega)).mono ?_
          rintro e w2 ⟨rfl, d2⟩
          rw [H2.out]
          have D2 := Lib.hid (D1.out.trans d2)
          clear d2
          go_wp2_with fail
          go_ret2
          rw [HM.out.1, HM.out.2]
          exact ⟨rfl, D2.out.below _⟩
        | true =>
          cases h3 : fin .f32 l with
          | false =>
            have HM := Lib.hid (ok_no (px_l (T := T) (V := V) h3) (pcR T V l))
            have H1 := Lib.hid h1
            have H2 := Lib.hid h2
            have H3 := Lib.hid h3
            clear h g hl h1 h2 h3 hTL hVL
            go_enter Try.func31, Try.ntmps31
            go_wp2_with fail
            refine (specFinD_any a lb ca T _ HT.out (by omega)).mono ?_
            rintro e w1 ⟨rfl, d1⟩
            rw [H1.out]
            have D1 := Lib.hid d1
            clear d1
            go_wp2_with fail
            refine (specFinD_any b lb cb V _ (frow_drawn HV.out D1.out) (by omega)).mono ?_
            rintro e w2 ⟨rfl, d2⟩
            rw [H2.out]
            have D2 := Lib.hid (D1.out.trans d2)
            clear d2
            go_wp2_with fail
            refine (specFinite_any l _).mono ?_
            rintro e w3 ⟨rfl, d3⟩
            rw [H3.out]
            have D3 := Lib.hid (D2.out.trans d3)
            clear d3
            go_wp2_with fail
            go_ret2
            rw [HM.out.1, HM.out.2]
            exact ⟨rfl, D3.out.below _⟩
          | true =>
            obtain ⟨bt, ot, rfl, -, -⟩ := h.2.2.2 0 (by omega)
            obtain ⟨bv, ov, rfl, -, -⟩ := g.2.2.2 0 (by omega)
            exact (sCrossYes_any bt ot bv ov lb ca cb T V l w h g hll hl h1 h2 h3).mono fun e w' ⟨k1, k2⟩ => ⟨k1, k2.below _⟩
    · have HM := Lib.hid (ok_no (px_p (l := l) (pl_same (T := T) (V := V) (by rw [hTL, hVL]; exact hv))) (pcR T V l))
      have q1 : ¬ ((la : Int) < 2) := by omega
      have q2 : ¬ ((la : Int) > 48) := by omega
      have q3 : ((lb : Int) != (la : Int)) = true := by simp; omega
      clear h g hl hv hTL hVL
      go_enter Try.func31, Try.ntmps31
      go_wp2_with fail
      go_ret2
      rw [HM.out.1, HM.out.2]
      exact ⟨rfl, Below.refl _ _⟩
  · have HM := Lib.hid (ok_no (px_p (l := l) (pl_len (T := T) (V := V) (by rw [hTL]; exact hl))) (pcR T V l))
    clear h g hTL hVL
    by_cases q1 : (la : Int) < 2
    all_goals
      go_enter Try.func31, Try.ntmps31
      go_wp2_with fail
      go_ret2
      rw [HM.out.1, HM.out.2]
      exact ⟨rfl, Below.refl _ _⟩
end Go.Proofs.Ytppkeabkjabhdaa
