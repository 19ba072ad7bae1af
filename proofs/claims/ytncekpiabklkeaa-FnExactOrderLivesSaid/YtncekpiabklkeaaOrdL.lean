/-
  The exact law of lives in order. No conditions beyond the statement's own.
-/
import Derived.Test.YtncekpiabklkeaaOrdW
import Derived.Test.YtncekpiabklkeaaMkL
namespace Go.Proofs.Ytncekpiabklkeaa
open Go.RowKit Liv Flt Go.Sort Stb
theorem specOrder_no (a : Option Addr) (len cap : Nat) (zs : List (Nat × Bool)) (w : World) (h : LRow w a len zs) (hL : livB zs = false) :
    Calls Try.prog 22 #[.slice a len cap] w fun e w' => e = .returned (.tuple #[.slice none 0 0, .bool false]) ∧ Below w.heap.size w w' := by
  have H := Lib.hid h
  have HL := Lib.hid hL
  clear h hL
  go_enter Try.func22, Try.ntmps22
  go_wp2_with fail
  refine (specLives_any a len cap zs _ H.out).mono ?_
  rintro e w1 ⟨rfl, g1⟩
  rw [HL.out]
  go_wp2_with fail
  go_ret2
  exact ⟨rfl, g1.below⟩
theorem specOrder_yes (a : Option Addr) (len cap : Nat) (zs : List (Nat × Bool)) (w : World) (h : LRow w a len zs) (hL : livB zs = true) :
    Calls Try.prog 22 #[.slice a len cap] w fun e w' => (∃ g c d, e = .returned (.tuple #[.slice (some ⟨g, 0, none⟩) len c, .bool true]) ∧ w.heap.size ≤ g ∧ ARow 57 w' g d ∧ d.size = len ∧ d.toList = ordL zs) ∧ Below w.heap.size w w' := by
  have H := Lib.hid h
  have HL := Lib.hid hL
  have hl := liv_len hL
  have h48 : 0 < len ∧ len ≤ 1048576 := by rw [h.1] at hl; omega
  have H48 := Lib.hid h48
  clear h hL hl h48
  go_enter Try.func22, Try.ntmps22
  go_wp2_with fail
  refine (specLives_any a len cap zs _ H.out).mono ?_
  rintro e w1 ⟨rfl, g1⟩
  rw [HL.out]
  have B1 := Lib.hid g1.below
  clear g1
  go_wp2_with fail
  refine (specOrderL_any a len cap zs _ (H.out.keep B1.out) H48.out.1 H48.out.2 (liv_VL H.out HL.out)).mono ?_
  rintro e w2 ⟨⟨g, c, d, rfl, hg, hA, hs, ho⟩, b2⟩
  have HF : Hid (w.heap.size ≤ g ∧ ARow 57 w2 g d ∧ d.size = len ∧ d.toList = ordL zs) := ⟨Nat.le_trans B1.out.size hg, hA, hs, ho⟩
  have B2 := Lib.hid (B1.out.trans (b2.mono B1.out.size))
  clear hg hA hs ho b2
  go_wp2_with fail
  go_ret2
  exact ⟨⟨g, c, d, rfl, HF.out⟩, B2.out⟩
theorem lim2 {len : Nat} (h : ¬ ((1048576 : Int) < (len : Int))) : len ≤ 1048576 := by omega
/-- what came in stays as it is beside the blocks of the call -/
theorem only_below {w w1 w2 : World} {g : Nat} (hb : Below w.heap.size w w1) (hg : w.heap.size ≤ g) (ho : Only g w1 w2) : Below w.heap.size w w2 := hb.trans (ho.1.mono hg)
set_option maxRecDepth 100000 in
set_option maxHeartbeats 4000000 in
theorem orderLaw_no (a : Option Addr) (len cap : Nat) (zs : List (Nat × Bool)) (w : World) (h : LRow w a len zs) (hn' : len ≤ 1048576) (hL : livB zs = false) :
    Calls Try.prog 5 #[.slice a len cap] w fun e w' => e = .returned (.bool true) ∧ Below w.heap.size w w' := by
  have hml : len ≤ maxLen := h.2.1
  have H := Lib.hid h
  have HZ := Lib.hid h.2.2.1
  have HL := Lib.hid h.1
  have HLV := Lib.hid hL
  have hx : ∀ x : Bool, (x != x) = false := by simp
  have hxi : ∀ x : Int, (x != x) = false := by simp
  have hnn : ¬ ((1048576 : Int) - len < 0) := by omega
  clear h hL
  go_enter Try.func5, Try.ntmps5
  go_wp2_with fail
  refine (szLifeS_any a len cap 1048576 _ (by decide) hml).mono ?_
  rintro e w1 ⟨rfl, rfl⟩
  rw [if_neg (show ¬ ((1048576 : Int) < (len : Int)) by omega)]
  go_wp2_with fail
  refine (toLifeS_made a len cap zs _ H.out hn').mono ?_
  rintro e w1 ⟨rfl, m1, b1⟩
  have R1 := Lib.hid (m1.row HL.out hml HZ.out)
  have B1 := Lib.hid b1
  clear m1 b1
  go_wp2_with fail
  refine (specOrder_no _ len len zs _ R1.out HLV.out).mono ?_
  rintro e w2 ⟨rfl, b2⟩
  have B2 := Lib.hid (B1.out.trans (b2.mono B1.out.size))
  clear b2
  go_wp2_with fail
  refine (toLifeS_made a len cap zs _ (H.out.keep B2.out) hn').mono ?_
  rintro e w3 ⟨rfl, m3, b3⟩
  have M3 := Lib.hid m3
  have R3 := Lib.hid (m3.row HL.out hml HZ.out)
  have B3 := Lib.hid (B2.out.trans (b3.mono B2.out.size))
  have G3 : Hid (w.heap.size ≤ w2.heap.size) := B2.out.size
  clear m3 b3
  go_wp2_with fail
  refine (implOrder_no _ len len zs _ R3.out HLV.out).mono ?_
  rintro e w4 ⟨rfl, b4⟩
  have R4 := Lib.hid (R3.out.keep b4)
  have M4 := Lib.hid (M3.out.keep b4)
  have B4 := Lib.hid (B3.out.trans (b4.mono B3.out.size))
  clear b4
  go_wp2_with fail
  refine (eqLifeS_any _ _ 0 0 0 [] _ (lrow_nil _ _) (lrow_nil _ _) (by decide)).mono ?_
  rintro e w5 ⟨rfl, b5⟩
  have R5 := Lib.hid (R4.out.keep b5)
  have M5 := Lib.hid (M4.out.keep b5)
  have B5 := Lib.hid (B4.out.trans (b5.mono B4.out.size))
  clear b5
  go_wp2_with fail
  refine (toLifeS_made a len cap zs _ (H.out.keep B5.out) hn').mono ?_
  rintro e w6 ⟨rfl, m6, b6⟩
  have R6 := Lib.hid (m6.row HL.out hml HZ.out)
  have R56 := Lib.hid (R5.out.keep b6)
  have M6 := Lib.hid (M5.out.keep b6)
  have B6 := Lib.hid (B5.out.trans (b6.mono B5.out.size))
  clear m6 b6
  go_wp2_with fail
  refine (eqLifeS_any _ _ len len len zs _ R56.out R6.out hn').mono ?_
  rintro e w7 ⟨rfl, b7⟩
  have M7 := Lib.hid (M6.out.keep b7)
  have B7 := Lib.hid (B6.out.trans (b7.mono B6.out.size))
  clear b7
  go_wp2_with fail
  refine (markO_any _ len len _ M7.out.1 hn').mono ?_
  rintro e w8 ⟨rfl, _, o8⟩
  have B8 := Lib.hid (only_below B7.out G3.out o8)
  clear o8
  go_wp2_with fail
  refine (eqLifeS_any _ _ 0 0 0 [] _ (lrow_nil _ _) (lrow_nil _ _) (by decide)).mono ?_
  rintro e w9 ⟨rfl, b9⟩
  have B9 := Lib.hid (B8.out.trans (b9.mono B8.out.size))
  clear b9
  go_wp2_with fail
  refine (markO_nil _ _ _).mono ?_
  rintro e w10 ⟨rfl, rfl⟩
  go_wp2_with fail
  refine (heldO_any _ 0 _ _ (fun j hj => absurd hj (Nat.not_lt_zero _)) (by decide)).mono ?_
  rintro e w11 ⟨rfl, b11⟩
  have B11 := Lib.hid (B9.out.trans (b11.mono B9.out.size))
  clear b11
  go_wp2_with fail
  refine (toLifeS_made a len cap zs _ (H.out.keep B11.out) hn').mono ?_
  rintro e w12 ⟨rfl, m12, b12⟩
  have R12 := Lib.hid (m12.row HL.out hml HZ.out)
  have B12 := Lib.hid (B11.out.trans (b12.mono B11.out.size))
  clear m12 b12
  go_wp2_with fail
  refine (implOrder_no _ len len zs _ R12.out HLV.out).mono ?_
  rintro e w13 ⟨rfl, b13⟩
  have B13 := Lib.hid (B12.out.trans (b13.mono B12.out.size))
  clear b13
  go_wp2_with fail
  refine (eqLifeS_any _ _ 0 0 0 [] _ (lrow_nil _ _) (lrow_nil _ _) (by decide)).mono ?_
  rintro e w14 ⟨rfl, b14⟩
  have B14 := Lib.hid (B13.out.trans (b14.mono B13.out.size))
  clear b14
  go_wp2_with fail
  refine (heldO_any _ 0 _ _ (fun j hj => absurd hj (Nat.not_lt_zero _)) (by decide)).mono ?_
  rintro e w15 ⟨rfl, b15⟩
  have B15 := Lib.hid (B14.out.trans (b15.mono B14.out.size))
  clear b15
  go_wp2_with fail
  go_ret
  exact ⟨rfl, B15.out⟩
set_option maxRecDepth 100000 in
set_option maxHeartbeats 4000000 in
theorem orderLaw_yes (a : Option Addr) (len cap : Nat) (zs : List (Nat × Bool)) (w : World) (h : LRow w a len zs) (hL : livB zs = true) :
    Calls Try.prog 5 #[.slice a len cap] w fun e w' => e = .returned (.bool true) ∧ Below w.heap.size w w' := by
  have hml : len ≤ maxLen := h.2.1
  have H := Lib.hid h
  have HZ := Lib.hid h.2.2.1
  have HL := Lib.hid h.1
  have HLV := Lib.hid hL
  have hl := liv_len hL
  rw [h.1] at hl
  have hn' : len ≤ 1048576 := by omega
  have H48 : Hid (len ≤ 511) := by show _ ≤ _; omega
  have HO : Hid (∀ d : Array (Nat × Bool), d.toList = ordL zs → ∀ z ∈ d.toList, z.1 < 4294967296) := Lib.hid fun d hd z hz => h.2.2.1 z ((ord_perm zs).mem_iff.1 (hd ▸ hz))
  have hx : ∀ x : Bool, (x != x) = false := by simp
  have hxi : ∀ x : Int, (x != x) = false := by simp
  have hnn : ¬ ((1048576 : Int) - len < 0) := by omega
  have hk1 : ¬ ((1 : Int) + 2 * (len : Int) < 0) := by omega
  clear h hL hl
  go_enter Try.func5, Try.ntmps5
  go_wp2_with fail
  refine (szLifeS_any a len cap 1048576 _ (by decide) hml).mono ?_
  rintro e w1 ⟨rfl, rfl⟩
  rw [if_neg (show ¬ ((1048576 : Int) < (len : Int)) by omega)]
  go_wp2_with fail
  refine (toLifeS_made a len cap zs _ H.out hn').mono ?_
  rintro e w1 ⟨rfl, m1, b1⟩
  have R1 := Lib.hid (m1.row HL.out hml HZ.out)
  have B1 := Lib.hid b1
  clear m1 b1
  go_wp2_with fail
  refine (specOrder_yes _ len len zs _ R1.out HLV.out).mono ?_
  rintro e w2 ⟨⟨gw, cw, dw, rfl, hgw, hAw, hsw, how⟩, b2⟩
  have W2 : Hid (LRow w2 (some ⟨gw, 0, none⟩) len (ordL zs)) := by
    have := hAw.row hsw hml (HO.out dw how)
    rw [how] at this
    exact this
  have GW : Hid (gw < w2.heap.size) := hAw.1.lt
  have B2 := Lib.hid (B1.out.trans (b2.mono B1.out.size))
  clear hgw hAw hsw how b2
  go_wp2_with fail
  refine (toLifeS_made a len cap zs _ (H.out.keep B2.out) hn').mono ?_
  rintro e w3 ⟨rfl, m3, b3⟩
  have M3 := Lib.hid m3
  have R3 := Lib.hid (m3.row HL.out hml HZ.out)
  have W3 := Lib.hid (W2.out.keep b3)
  have B3 := Lib.hid (B2.out.trans (b3.mono B2.out.size))
  have G3 : Hid (w.heap.size ≤ w2.heap.size ∧ w2.heap.size < w3.heap.size) := ⟨B2.out.size, m3.1.lt⟩
  clear m3 b3
  go_wp2_with fail
  refine (implOrder_yes _ len len zs _ R3.out HLV.out).mono ?_
  rintro e w4 ⟨⟨gg, cg, dg, rfl, hgg, hAg, hsg, hog⟩, b4⟩
  have G4 : Hid (LRow w4 (some ⟨gg, 0, none⟩) len (ordL zs)) := by
    have := hAg.row hsg hml (HO.out dg hog)
    rw [hog] at this
    exact this
  have S4 : Hid (LSlots w4 gg len 57) := by have := hAg.1; rw [hsg] at this; exact this
  have GG : Hid (w3.heap.size ≤ gg) := hgg
  have R4 := Lib.hid (R3.out.keep b4)
  have M4 := Lib.hid (M3.out.1.keep b4)
  have W4 := Lib.hid (W3.out.keep b4)
  have B4 := Lib.hid (B3.out.trans (b4.mono B3.out.size))
  clear hgg hAg hsg hog b4
  go_wp2_with fail
  refine (eqLifeS_any _ _ len cg cw (ordL zs) _ G4.out W4.out hn').mono ?_
  rintro e w5 ⟨rfl, b5⟩
  have R5 := Lib.hid (R4.out.keep b5)
  have M5 := Lib.hid (M4.out.keep b5)
  have W5 := Lib.hid (W4.out.keep b5)
  have G5 := Lib.hid (G4.out.keep b5)
  have S5 := Lib.hid (S4.out.keep b5)
  have B5 := Lib.hid (B4.out.trans (b5.mono B4.out.size))
  clear b5
  go_wp2_with fail
  refine (toLifeS_made a len cap zs _ (H.out.keep B5.out) hn').mono ?_
  rintro e w6 ⟨rfl, m6, b6⟩
  have R6 := Lib.hid (m6.row HL.out hml HZ.out)
  have R56 := Lib.hid (R5.out.keep b6)
  have M6 := Lib.hid (M5.out.keep b6)
  have W6 := Lib.hid (W5.out.keep b6)
  have G6 := Lib.hid (G5.out.keep b6)
  have S6 := Lib.hid (S5.out.keep b6)
  have B6 := Lib.hid (B5.out.trans (b6.mono B5.out.size))
  clear m6 b6
  go_wp2_with fail
  refine (eqLifeS_any _ _ len len len zs _ R56.out R6.out hn').mono ?_
  rintro e w7 ⟨rfl, b7⟩
  have M7 := Lib.hid (M6.out.keep b7)
  have W7 := Lib.hid (W6.out.keep b7)
  have G7 := Lib.hid (G6.out.keep b7)
  have S7 := Lib.hid (S6.out.keep b7)
  have B7 := Lib.hid (B6.out.trans (b7.mono B6.out.size))
  clear b7
  go_wp2_with fail
  refine (markO_any _ len len _ M7.out hn').mono ?_
  rintro e w8 ⟨rfl, _, o8⟩
  have W8 := Lib.hid (W7.out.only o8 (by intro b off e; cases e; have := GW.out; omega))
  have G8 := Lib.hid (G7.out.only o8 (by intro b off e; cases e; have := GG.out; have := G3.out; omega))
  have S8 := Lib.hid (S7.out.only o8 (by have := GG.out; have := G3.out; omega))
  have B8 := Lib.hid (only_below B7.out G3.out.1 o8)
  clear o8
  go_wp2_with fail
  refine (eqLifeS_any _ _ len cg cw (ordL zs) _ G8.out W8.out hn').mono ?_
  rintro e w9 ⟨rfl, b9⟩
  have W9 := Lib.hid (W8.out.keep b9)
  have S9 := Lib.hid (S8.out.keep b9)
  have B9 := Lib.hid (B8.out.trans (b9.mono B8.out.size))
  clear b9
  go_wp2_with fail
  refine (markO_any gg len cg _ S9.out hn').mono ?_
  rintro e w10 ⟨rfl, m10, o10⟩
  have W10 := Lib.hid (W9.out.only o10 (by intro b off e; cases e; have := GW.out; have := GG.out; have := G3.out; omega))
  have K10 := Lib.hid m10
  have B10 := Lib.hid (only_below B9.out (by have := GG.out; have := G3.out; omega) o10)
  clear o10 m10
  go_wp2_with fail
  refine (heldO_any _ len _ _ K10.out H48.out).mono ?_
  rintro e w11 ⟨rfl, b11⟩
  have W11 := Lib.hid (W10.out.keep b11)
  have K11 := Lib.hid (K10.out.keep b11)
  have B11 := Lib.hid (B10.out.trans (b11.mono B10.out.size))
  clear b11
  go_wp2_with fail
  refine (toLifeS_made a len cap zs _ (H.out.keep B11.out) hn').mono ?_
  rintro e w12 ⟨rfl, m12, b12⟩
  have R12 := Lib.hid (m12.row HL.out hml HZ.out)
  have W12 := Lib.hid (W11.out.keep b12)
  have K12 := Lib.hid (K11.out.keep b12)
  have B12 := Lib.hid (B11.out.trans (b12.mono B11.out.size))
  clear m12 b12
  go_wp2_with fail
  refine (implOrder_yes _ len len zs _ R12.out HLV.out).mono ?_
  rintro e w13 ⟨⟨gh, ch, dh, rfl, hgh, hAh, hsh, hoh⟩, b13⟩
  have G13 : Hid (LRow w13 (some ⟨gh, 0, none⟩) len (ordL zs)) := by
    have := hAh.row hsh hml (HO.out dh hoh)
    rw [hoh] at this
    exact this
  have W13 := Lib.hid (W12.out.keep b13)
  have K13 := Lib.hid (K12.out.keep b13)
  have B13 := Lib.hid (B12.out.trans (b13.mono B12.out.size))
  clear hgh hAh hsh hoh b13
  go_wp2_with fail
  refine (eqLifeS_any _ _ len ch cw (ordL zs) _ G13.out W13.out hn').mono ?_
  rintro e w14 ⟨rfl, b14⟩
  have K14 := Lib.hid (K13.out.keep b14)
  have B14 := Lib.hid (B13.out.trans (b14.mono B13.out.size))
  clear b14
  go_wp2_with fail
  refine (heldO_any _ len _ _ K14.out H48.out).mono ?_
  rintro e w15 ⟨rfl, b15⟩
  have B15 := Lib.hid (B14.out.trans (b15.mono B14.out.size))
  clear b15
  go_wp2_with fail
  go_ret
  exact ⟨rfl, B15.out⟩
set_option maxRecDepth 100000 in
theorem fnExactOrderLives_walk (a : Option Addr) (len cap : Nat) (zs : List (Nat × Bool)) (w : World) (h : LRow w a len zs) :
    Calls Try.prog 5 #[.slice a len cap] w fun e w' => e = .returned (.bool true) ∧ Below w.heap.size w w' := by
  by_cases hn : (1048576 : Int) < (len : Int)
  · have hml : len ≤ maxLen := h.2.1
    clear h
    go_enter Try.func5, Try.ntmps5
    go_wp2_with fail
    refine (szLifeS_any a len cap 1048576 _ (by decide) hml).mono ?_
    rintro e w1 ⟨rfl, rfl⟩
    rw [if_pos hn]
    go_wp2_with fail
    go_ret
    exact ⟨rfl, Below.refl _ _⟩
  · cases hL : livB zs
    · exact orderLaw_no a len cap zs w h (lim2 hn) hL
    · exact orderLaw_yes a len cap zs w h hL
end Go.Proofs.Ytncekpiabklkeaa
