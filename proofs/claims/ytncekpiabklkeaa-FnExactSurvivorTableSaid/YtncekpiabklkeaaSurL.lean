/-
  Survivors behind failures as the two answer, and their exact law. No conditions beyond the statement's own.
-/
import Derived.Test.YtncekpiabklkeaaSurW
namespace Liv
open Go Flt Dec
/-- what both answer -/
def aS (zs : List (Nat × Bool)) : List Nat := if livB zs then tab zs (tS zs) (tS zs).length else []
theorem aS_len (zs : List (Nat × Bool)) : (aS zs).length ≤ 48 := by
  unfold aS
  cases h : livB zs with
  | true => have h1 := (liv_len h).2; have h2 := tS_len zs; simp only [↓reduceIte]; rw [tab_len]; omega
  | false => simp
end Liv
namespace Go.Proofs.Ytncekpiabklkeaa
open Go.RowKit Liv Flt Go.Sort Stb Dec
set_option maxHeartbeats 1600000 in
theorem specSurv_any (a : Option Addr) (len cap : Nat) (zs : List (Nat × Bool)) (w : World) (h : LRow w a len zs) :
    Calls Try.prog 36 #[.slice a len cap] w fun e w' => (∃ a c, e = .returned (.tuple #[.slice a (aS zs).length c, .bool (livB zs)]) ∧ FRow w' a (aS zs).length (aS zs)) ∧ Below w.heap.size w w' := by
  have H := Lib.hid h
  clear h
  go_enter Try.func36, Try.ntmps36
  go_wp2_with fail
  refine (specLives_any a len cap zs _ H.out).mono ?_
  rintro e w1 ⟨rfl, g1⟩
  have B1 := Lib.hid g1.below
  clear g1
  cases hL : livB zs with
  | false =>
    have HA : Hid (aS zs = []) := by show _ = _; unfold aS; rw [hL]; rfl
    go_wp2_with fail
    go_ret2
    rw [HA.out, hL]
    exact ⟨⟨_, _, rfl, frow_nil _ _⟩, B1.out⟩
  | true =>
    have HA : Hid (aS zs = tab zs (tS zs) (tS zs).length) := by show _ = _; unfold aS; rw [hL]; rfl
    go_wp2_with fail
    refine (specTable_any a len cap zs _ (H.out.keep B1.out) hL).mono ?_
    rintro e w2 ⟨⟨a2, c2, rfl, hr⟩, b2⟩
    have B2 := Lib.hid (B1.out.trans (b2.mono B1.out.size))
    obtain ⟨n, hn⟩ : ∃ n, n = (tS zs).length := ⟨_, rfl⟩
    have HN := Lib.hid hn
    rw [← hn] at hr ⊢
    have HR := Lib.hid hr
    clear hr b2 hn
    go_wp2_with fail
    go_ret2
    rw [HA.out, hL, tab_len, ← HN.out]
    exact ⟨⟨_, _, rfl, HR.out⟩, B2.out⟩
set_option maxHeartbeats 1600000 in
theorem implSurv_any (a : Option Addr) (len cap : Nat) (zs : List (Nat × Bool)) (w : World) (h : LRow w a len zs) :
    Calls Try.prog 37 #[.slice a len cap] w fun e w' => (∃ a c, e = .returned (.tuple #[.slice a (aS zs).length c, .bool (livB zs)]) ∧ FRow w' a (aS zs).length (aS zs) ∧ Own w' w.heap.size a (aS zs).length 35) ∧ Below w.heap.size w w' := by
  have H := Lib.hid h
  clear h
  go_enter Try.func37, Try.ntmps37
  go_wp2_with fail
  refine (implAre_any a len cap zs _ H.out).mono ?_
  rintro e w1 ⟨rfl, b1⟩
  have B1 := Lib.hid b1
  clear b1
  cases hL : livB zs with
  | false =>
    have HA : Hid (aS zs = []) := by show _ = _; unfold aS; rw [hL]; rfl
    go_wp2_with fail
    go_ret2
    rw [HA.out, hL]
    exact ⟨⟨_, _, rfl, frow_nil _ _, .inl rfl⟩, B1.out⟩
  | true =>
    have HA : Hid (aS zs = tab zs (tS zs) (tS zs).length) := by show _ = _; unfold aS; rw [hL]; rfl
    go_wp2_with fail
    refine (momentsOf_any a len cap zs _ (H.out.keep B1.out) hL).mono ?_
    rintro e w2 ⟨⟨g, n, rfl, hn, hg, hM⟩, b2⟩
    have HN := Lib.hid hn
    have HM : Hid (MHas w2 g n zs (tS zs) ∧ g < w2.heap.size) := ⟨hM, hg⟩
    have B2 := Lib.hid (B1.out.trans (b2.mono B1.out.size))
    clear hn hg hM b2
    go_wp2_with fail
    refine (survivorsAt_any g n zs _ HM.out.1 HM.out.2 HN.out hL (liv_VL H.out hL)).mono ?_
    rintro e w3 ⟨⟨g2, rfl, hg2, hs, hf⟩, b3⟩
    have HR : Hid (FRow w3 (some ⟨g2, 0, none⟩) n (tab zs (tS zs) n) ∧ Own w3 w.heap.size (some ⟨g2, 0, none⟩) n 35) := by
      refine ⟨?_, .inr ⟨g2, rfl, Nat.le_trans B2.out.size hg2, hs⟩⟩
      have := hf.row hs.lt (by rw [tab_len, HN.out]; have q1 := tS_len zs; have q2 := (liv_len hL).2; unfold maxLen; omega) (fun z hz => by
        unfold tab at hz
        obtain ⟨j, hj, rfl⟩ := List.mem_map.1 hz
        have := sv_le hL (liv_VL H.out hL) (j + 1) (by have := List.mem_range.1 hj; have := HN.out; omega)
        omega)
      rw [tab_len] at this
      exact this
    have B3 := Lib.hid (B2.out.trans (b3.mono B2.out.size))
    clear hg2 hs hf b3
    go_wp2_with fail
    go_ret2
    rw [HA.out, hL, tab_len, ← HN.out]
    exact ⟨⟨_, _, rfl, HR.out.1, HR.out.2⟩, B3.out⟩
set_option maxRecDepth 100000 in
set_option maxHeartbeats 4000000 in
theorem survLaw_all (a : Option Addr) (len cap : Nat) (zs : List (Nat × Bool)) (w : World) (h : LRow w a len zs) (hn' : len ≤ 1048576) :
    Calls Try.prog 9 #[.slice a len cap] w fun e w' => e = .returned (.bool true) ∧ Below w.heap.size w w' := by
  have hml : len ≤ maxLen := h.2.1
  have H := Lib.hid h
  have HZ := Lib.hid h.2.2.1
  have HL := Lib.hid h.1
  have hx : ∀ x : Bool, (x != x) = false := by simp
  have hxi : ∀ x : Int, (x != x) = false := by simp
  have hnn : ¬ ((1048576 : Int) - len < 0) := by omega
  have hk1 : ¬ ((1 : Int) + 2 * (len : Int) < 0) := by omega
  obtain ⟨ts, hts⟩ : ∃ ts, aS zs = ts := ⟨_, rfl⟩
  obtain ⟨bv, hbv⟩ : ∃ bv, livB zs = bv := ⟨_, rfl⟩
  obtain ⟨n, hnl⟩ : ∃ n, ts.length = n := ⟨_, rfl⟩
  have hn48 : n ≤ 48 := by rw [← hnl, ← hts]; exact aS_len zs
  have H48 : Hid (n ≤ 1023 ∧ n ≤ 1048576) := by show _ ∧ _; omega
  have hk2 : ¬ ((1 : Int) + (n : Int) < 0) := by omega
  have HTS := Lib.hid hts
  have HBV := Lib.hid hbv
  have HNL := Lib.hid hnl
  clear h hts hbv hnl
  go_enter Try.func9, Try.ntmps9
  go_wp2_with fail
  refine (szLifeS_any a len cap 1048576 _ (by decide) hml).mono ?_
  rintro e w1 ⟨rfl, rfl⟩
  rw [if_neg (show ¬ ((1048576 : Int) < (len : Int)) by omega)]
  go_wp2_with fail
  refine (toLifeS_made a len cap zs _ H.out hn').mono ?_
  rintro e w1 ⟨rfl, m1, b1⟩
  have R1 := Lib.hid (m1.row HL.out hml HZ.out)
  have B1 := Lib.hid b1
  clear m1 b1
  go_wp2_with fail
  refine (specSurv_any _ len len zs _ R1.out).mono ?_
  rintro e w2 ⟨⟨aw, cw, rfl, hrw⟩, b2⟩
  rw [HTS.out, HNL.out] at hrw
  rw [HTS.out, HNL.out, HBV.out]
  have W2 := Lib.hid hrw
  have B2 := Lib.hid (B1.out.trans (b2.mono B1.out.size))
  clear hrw b2
  go_wp2_with fail
  refine (toLifeS_made a len cap zs _ (H.out.keep B2.out) hn').mono ?_
  rintro e w3 ⟨rfl, m3, b3⟩
  have M3 := Lib.hid m3
  have R3 := Lib.hid (m3.row HL.out hml HZ.out)
  have D3 : Hid (Below w2.heap.size w2 w3) := Lib.hid b3
  have B3 := Lib.hid (B2.out.trans (b3.mono B2.out.size))
  have G3 : Hid (w.heap.size ≤ w2.heap.size ∧ w2.heap.size < w3.heap.size) := ⟨B2.out.size, m3.1.lt⟩
  clear m3 b3
  go_wp2_with fail
  refine (implSurv_any _ len len zs _ R3.out).mono ?_
  rintro e w4 ⟨⟨ag, cg, rfl, hrg, hog⟩, b4⟩
  rw [HTS.out, HNL.out] at hrg hog
  rw [HTS.out, HNL.out, HBV.out]
  have G4 := Lib.hid hrg
  have S4 := Lib.hid hog
  have R4 := Lib.hid (R3.out.keep b4)
  have M4 := Lib.hid (M3.out.1.keep b4)
  have D4 := Lib.hid (D3.out.trans (b4.mono D3.out.size))
  have B4 := Lib.hid (B3.out.trans (b4.mono B3.out.size))
  clear hrg hog b4
  go_wp2_with fail
  refine (eqF32_any _ _ n cg cw ts _ G4.out (W2.out.keep D4.out) H48.out.2).mono ?_
  rintro e w5 ⟨rfl, d5⟩
  have b5 : Below w4.heap.size w4 w5 := d5.below _
  have R5 := Lib.hid (R4.out.keep b5)
  have M5 := Lib.hid (M4.out.keep b5)
  have G5 := Lib.hid (G4.out.keep b5)
  have S5 := Lib.hid (S4.out.keep b5)
  have D5 := Lib.hid (D4.out.trans (b5.mono D4.out.size))
  have B5 := Lib.hid (B4.out.trans (b5.mono B4.out.size))
  clear d5 b5
  go_wp2_with fail
  refine (toLifeS_made a len cap zs _ (H.out.keep B5.out) hn').mono ?_
  rintro e w6 ⟨rfl, m6, b6⟩
  have R6 := Lib.hid (m6.row HL.out hml HZ.out)
  have R56 := Lib.hid (R5.out.keep b6)
  have M6 := Lib.hid (M5.out.keep b6)
  have G6 := Lib.hid (G5.out.keep b6)
  have S6 := Lib.hid (S5.out.keep b6)
  have D6 := Lib.hid (D5.out.trans (b6.mono D5.out.size))
  have B6 := Lib.hid (B5.out.trans (b6.mono B5.out.size))
  clear m6 b6
  go_wp2_with fail
  refine (eqLifeS_any _ _ len len len zs _ R56.out R6.out hn').mono ?_
  rintro e w7 ⟨rfl, b7⟩
  have M7 := Lib.hid (M6.out.keep b7)
  have G7 := Lib.hid (G6.out.keep b7)
  have S7 := Lib.hid (S6.out.keep b7)
  have D7 := Lib.hid (D6.out.trans (b7.mono D6.out.size))
  have B7 := Lib.hid (B6.out.trans (b7.mono B6.out.size))
  clear b7
  go_wp2_with fail
  refine (markO_any _ len len _ M7.out hn').mono ?_
  rintro e w8 ⟨rfl, _, o8⟩
  have G8 := Lib.hid (G7.out.only S7.out o8 G3.out.2)
  have S8 := Lib.hid (S7.out.only o8 G3.out.2)
  have D8 := Lib.hid (D7.out.trans o8.1)
  have B8 := Lib.hid (B7.out.trans (o8.1.mono G3.out.1))
  clear o8
  go_wp2_with fail
  refine (eqF32_any _ _ n cg cw ts _ G8.out (W2.out.keep D8.out) H48.out.2).mono ?_
  rintro e w9 ⟨rfl, d9⟩
  have b9 : Below w8.heap.size w8 w9 := d9.below _
  have S9 := Lib.hid (S8.out.keep b9)
  have D9 := Lib.hid (D8.out.trans (b9.mono D8.out.size))
  have B9 := Lib.hid (B8.out.trans (b9.mono B8.out.size))
  clear d9 b9
  go_wp2_with fail
  refine (markF32_any _ _ n cg _ S9.out H48.out.1).mono ?_
  rintro e w10 ⟨rfl, m10, b10⟩
  have K10 := Lib.hid m10
  have D10 := Lib.hid (D9.out.trans (b10.mono (Nat.le_of_lt G3.out.2)))
  have B10 := Lib.hid (B9.out.trans (b10.mono (Nat.le_trans G3.out.1 (Nat.le_of_lt G3.out.2))))
  clear m10 b10
  go_wp2_with fail
  refine (heldF32_any _ n _ _ K10.out H48.out.1).mono ?_
  rintro e w11 ⟨rfl, b11⟩
  have K11 := Lib.hid (K10.out.keep b11)
  have D11 := Lib.hid (D10.out.trans (b11.mono D10.out.size))
  have B11 := Lib.hid (B10.out.trans (b11.mono B10.out.size))
  clear b11
  go_wp2_with fail
  refine (toLifeS_made a len cap zs _ (H.out.keep B11.out) hn').mono ?_
  rintro e w12 ⟨rfl, m12, b12⟩
  have R12 := Lib.hid (m12.row HL.out hml HZ.out)
  have K12 := Lib.hid (K11.out.keep b12)
  have D12 := Lib.hid (D11.out.trans (b12.mono D11.out.size))
  have B12 := Lib.hid (B11.out.trans (b12.mono B11.out.size))
  clear m12 b12
  go_wp2_with fail
  refine (implSurv_any _ len len zs _ R12.out).mono ?_
  rintro e w13 ⟨⟨ah, ch, rfl, hrh, _⟩, b13⟩
  rw [HTS.out, HNL.out] at hrh
  rw [HTS.out, HNL.out, HBV.out]
  have G13 := Lib.hid hrh
  have K13 := Lib.hid (K12.out.keep b13)
  have D13 := Lib.hid (D12.out.trans (b13.mono D12.out.size))
  have B13 := Lib.hid (B12.out.trans (b13.mono B12.out.size))
  clear hrh b13
  go_wp2_with fail
  refine (eqF32_any _ _ n ch cw ts _ G13.out (W2.out.keep D13.out) H48.out.2).mono ?_
  rintro e w14 ⟨rfl, d14⟩
  have b14 : Below w13.heap.size w13 w14 := d14.below _
  have K14 := Lib.hid (K13.out.keep b14)
  have B14 := Lib.hid (B13.out.trans (b14.mono B13.out.size))
  clear d14 b14
  go_wp2_with fail
  refine (heldF32_any _ n _ _ K14.out H48.out.1).mono ?_
  rintro e w15 ⟨rfl, b15⟩
  have B15 := Lib.hid (B14.out.trans (b15.mono B14.out.size))
  clear b15
  go_wp2_with fail
  go_ret
  exact ⟨rfl, B15.out⟩
set_option maxRecDepth 100000 in
theorem fnExactSurvivorTable_walk (a : Option Addr) (len cap : Nat) (zs : List (Nat × Bool)) (w : World) (h : LRow w a len zs) :
    Calls Try.prog 9 #[.slice a len cap] w fun e w' => e = .returned (.bool true) ∧ Below w.heap.size w w' := by
  by_cases hn : (1048576 : Int) < (len : Int)
  · have hml : len ≤ maxLen := h.2.1
    clear h
    go_enter Try.func9, Try.ntmps9
    go_wp2_with fail
    refine (szLifeS_any a len cap 1048576 _ (by decide) hml).mono ?_
    rintro e w1 ⟨rfl, rfl⟩
    rw [if_pos hn]
    go_wp2_with fail
    go_ret
    exact ⟨rfl, Below.refl _ _⟩
  · exact survLaw_all a len cap zs w h (lim3 hn)
end Go.Proofs.Ytncekpiabklkeaa
