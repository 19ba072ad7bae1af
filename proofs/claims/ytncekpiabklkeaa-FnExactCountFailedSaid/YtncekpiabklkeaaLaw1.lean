/-
  The exact laws of functions that read lives and return what owns no memory. No conditions beyond the statements' own.
-/
import Derived.Test.YtncekpiabklkeaaTot
namespace Go.Proofs.Ytncekpiabklkeaa
open Go.RowKit Liv Flt
theorem lim {len : Nat} (h : ¬ ((1048576 : Int) < (len : Int))) : len ≤ 1048576 := by omega
set_option maxRecDepth 40000 in
set_option maxHeartbeats 1600000 in
theorem fnExactAreLives_walk (a : Option Addr) (len cap : Nat) (zs : List (Nat × Bool)) (w : World) (h : LRow w a len zs) :
    Calls Try.prog 3 #[.slice a len cap] w fun e w' => e = .returned (.bool true) ∧ Below w.heap.size w w' := by
  have hml : len ≤ maxLen := h.2.1
  have H := Lib.hid h
  have HZ := Lib.hid h.2.2.1
  have HL := Lib.hid h.1
  have hx : ∀ x : Bool, (x != x) = false := by simp
  have hxi : ∀ x : Int, (x != x) = false := by simp
  clear h
  by_cases hn : (1048576 : Int) < (len : Int)
  · go_enter Try.func3, Try.ntmps3
    go_wp2_with fail
    refine (szLifeS_any a len cap 1048576 _ (by decide) hml).mono ?_
    rintro e w1 ⟨rfl, rfl⟩
    rw [if_pos hn]
    go_wp2_with fail
    go_ret
    exact ⟨rfl, Below.refl _ _⟩
  · have hn' := lim hn
    have hnn : ¬ ((1048576 : Int) - len < 0) := by omega

    go_enter Try.func3, Try.ntmps3
    go_wp2_with fail
    refine (szLifeS_any a len cap 1048576 _ (by decide) hml).mono ?_
    rintro e w1 ⟨rfl, rfl⟩
    rw [if_neg (show ¬ ((1048576 : Int) < (len : Int)) by omega)]
    go_wp2_with fail
    refine (toLifeS_made a len cap zs _ H.out hn').mono ?_
    rintro e w1 ⟨rfl, m1, b1⟩
    have R1 := Lib.hid (m1.row HL.out hml HZ.out)
    have B1 := Lib.hid b1
    clear m1 b1
    go_wp2_with fail
    refine (specAre_any _ len len zs _ R1.out).mono ?_
    rintro e w2 ⟨rfl, g2⟩
    have b2 := g2.below
    clear g2
    have B2 := Lib.hid (B1.out.trans (b2.mono B1.out.size))
    clear b2
    go_wp2_with fail
    refine (toLifeS_made a len cap zs _ (H.out.keep B2.out) hn').mono ?_
    rintro e w3 ⟨rfl, m3, b3⟩
    have R3 := Lib.hid (m3.row HL.out hml HZ.out)
    have B3 := Lib.hid (B2.out.trans (b3.mono B2.out.size))
    clear m3 b3
    go_wp2_with fail
    refine (implAre_any _ len len zs _ R3.out).mono ?_
    rintro e w4 ⟨rfl, b4⟩
    have R4 := Lib.hid (R3.out.keep b4)
    have B4 := Lib.hid (B3.out.trans (b4.mono B3.out.size))
    clear b4

    go_wp2_with fail
    refine (toLifeS_made a len cap zs _ (H.out.keep B4.out) hn').mono ?_
    rintro e w5 ⟨rfl, m5, b5⟩
    have R5 := Lib.hid (m5.row HL.out hml HZ.out)
    have R45 := Lib.hid (R4.out.keep b5)
    have B5 := Lib.hid (B4.out.trans (b5.mono B4.out.size))
    clear m5 b5
    go_wp2_with fail
    refine (eqLifeS_any _ _ len len len zs _ R45.out R5.out hn').mono ?_
    rintro e w6 ⟨rfl, b6⟩
    have B6 := Lib.hid (B5.out.trans (b6.mono B5.out.size))
    clear b6
    go_wp2_with fail
    go_ret
    exact ⟨rfl, B6.out⟩
set_option maxRecDepth 40000 in
set_option maxHeartbeats 1600000 in
theorem fnExactCountFailed_walk (a : Option Addr) (len cap : Nat) (zs : List (Nat × Bool)) (w : World) (h : LRow w a len zs) :
    Calls Try.prog 6 #[.slice a len cap] w fun e w' => e = .returned (.bool true) ∧ Below w.heap.size w w' := by
  have hml : len ≤ maxLen := h.2.1
  have H := Lib.hid h
  have HZ := Lib.hid h.2.2.1
  have HL := Lib.hid h.1
  have hx : ∀ x : Bool, (x != x) = false := by simp
  have hxi : ∀ x : Int, (x != x) = false := by simp
  clear h
  by_cases hn : (1048576 : Int) < (len : Int)
  · go_enter Try.func6, Try.ntmps6
    go_wp2_with fail
    refine (szLifeS_any a len cap 1048576 _ (by decide) hml).mono ?_
    rintro e w1 ⟨rfl, rfl⟩
    rw [if_pos hn]
    go_wp2_with fail
    go_ret
    exact ⟨rfl, Below.refl _ _⟩
  · have hn' := lim hn
    have hnn : ¬ ((1048576 : Int) - len < 0) := by omega
    obtain ⟨n, hnl⟩ : ∃ n : Int, n = (if livB zs then ((zs.countP (·.2) : Nat) : Int) else (0 : Int)) := ⟨_, rfl⟩
    have HQ := Lib.hid hnl
    clear hnl
    go_enter Try.func6, Try.ntmps6
    go_wp2_with fail
    refine (szLifeS_any a len cap 1048576 _ (by decide) hml).mono ?_
    rintro e w1 ⟨rfl, rfl⟩
    rw [if_neg (show ¬ ((1048576 : Int) < (len : Int)) by omega)]
    go_wp2_with fail
    refine (toLifeS_made a len cap zs _ H.out hn').mono ?_
    rintro e w1 ⟨rfl, m1, b1⟩
    have R1 := Lib.hid (m1.row HL.out hml HZ.out)
    have B1 := Lib.hid b1
    clear m1 b1
    go_wp2_with fail
    refine (specCount_any _ len len zs _ R1.out hn').mono ?_
    rintro e w2 ⟨rfl, b2⟩
    rw [← HQ.out]
    have B2 := Lib.hid (B1.out.trans (b2.mono B1.out.size))
    clear b2
    go_wp2_with fail
    refine (toLifeS_made a len cap zs _ (H.out.keep B2.out) hn').mono ?_
    rintro e w3 ⟨rfl, m3, b3⟩
    have R3 := Lib.hid (m3.row HL.out hml HZ.out)
    have B3 := Lib.hid (B2.out.trans (b3.mono B2.out.size))
    clear m3 b3
    go_wp2_with fail
    refine (implCount_any _ len len zs _ R3.out hn').mono ?_
    rintro e w4 ⟨rfl, b4⟩
    rw [← HQ.out]
    have R4 := Lib.hid (R3.out.keep b4)
    have B4 := Lib.hid (B3.out.trans (b4.mono B3.out.size))
    clear b4

    go_wp2_with fail
    refine (toLifeS_made a len cap zs _ (H.out.keep B4.out) hn').mono ?_
    rintro e w5 ⟨rfl, m5, b5⟩
    have R5 := Lib.hid (m5.row HL.out hml HZ.out)
    have R45 := Lib.hid (R4.out.keep b5)
    have B5 := Lib.hid (B4.out.trans (b5.mono B4.out.size))
    clear m5 b5
    go_wp2_with fail
    refine (eqLifeS_any _ _ len len len zs _ R45.out R5.out hn').mono ?_
    rintro e w6 ⟨rfl, b6⟩
    have B6 := Lib.hid (B5.out.trans (b6.mono B5.out.size))
    clear b6
    go_wp2_with fail
    go_ret
    exact ⟨rfl, B6.out⟩
set_option maxRecDepth 40000 in
set_option maxHeartbeats 1600000 in
theorem fnExactTimeOfTest_walk (a : Option Addr) (len cap : Nat) (zs : List (Nat × Bool)) (w : World) (h : LRow w a len zs) :
    Calls Try.prog 7 #[.slice a len cap] w fun e w' => e = .returned (.bool true) ∧ Below w.heap.size w w' := by
  have hml : len ≤ maxLen := h.2.1
  have H := Lib.hid h
  have HZ := Lib.hid h.2.2.1
  have HL := Lib.hid h.1
  have hx : ∀ x : Bool, (x != x) = false := by simp
  have hxi : ∀ x : Int, (x != x) = false := by simp
  clear h
  by_cases hn : (1048576 : Int) < (len : Int)
  · go_enter Try.func7, Try.ntmps7
    go_wp2_with fail
    refine (szLifeS_any a len cap 1048576 _ (by decide) hml).mono ?_
    rintro e w1 ⟨rfl, rfl⟩
    rw [if_pos hn]
    go_wp2_with fail
    go_ret
    exact ⟨rfl, Below.refl _ _⟩
  · have hn' := lim hn
    have hnn : ¬ ((1048576 : Int) - len < 0) := by omega
    have hW := widen _ (totA_num zs)
    have hq := (W_spec _ (totA_num zs)).2.1
    have hr := W_lt (totA zs)
    have hdf : (if livB zs && fin .f32 (tot zs) then tot zs else 0) = totA zs := rfl
    generalize totA zs = v at *
    have HQ := Lib.hid hdf
    clear hdf
    generalize W v = o at *
    go_enter Try.func7, Try.ntmps7
    go_wp2_with fail
    refine (szLifeS_any a len cap 1048576 _ (by decide) hml).mono ?_
    rintro e w1 ⟨rfl, rfl⟩
    rw [if_neg (show ¬ ((1048576 : Int) < (len : Int)) by omega)]
    go_wp2_with fail
    refine (toLifeS_made a len cap zs _ H.out hn').mono ?_
    rintro e w1 ⟨rfl, m1, b1⟩
    have R1 := Lib.hid (m1.row HL.out hml HZ.out)
    have B1 := Lib.hid b1
    clear m1 b1
    go_wp2_with fail
    refine (specTime_any _ len len zs _ R1.out).mono ?_
    rintro e w2 ⟨rfl, b2⟩
    rw [HQ.out]
    have B2 := Lib.hid (B1.out.trans (b2.mono B1.out.size))
    clear b2
    go_wp2_with fail
    refine (toLifeS_made a len cap zs _ (H.out.keep B2.out) hn').mono ?_
    rintro e w3 ⟨rfl, m3, b3⟩
    have R3 := Lib.hid (m3.row HL.out hml HZ.out)
    have B3 := Lib.hid (B2.out.trans (b3.mono B2.out.size))
    clear m3 b3
    go_wp2_with fail
    refine (implTime_any _ len len zs _ R3.out).mono ?_
    rintro e w4 ⟨rfl, b4⟩
    rw [HQ.out]
    have R4 := Lib.hid (R3.out.keep b4)
    have B4 := Lib.hid (B3.out.trans (b4.mono B3.out.size))
    clear b4
    go_wp2_with fail
    refine (sameFloat_eq o hr hq _).mono ?_
    rintro e w5 ⟨rfl, rfl⟩
    go_wp2_with fail
    refine (toLifeS_made a len cap zs _ (H.out.keep B4.out) hn').mono ?_
    rintro e w5 ⟨rfl, m5, b5⟩
    have R5 := Lib.hid (m5.row HL.out hml HZ.out)
    have R45 := Lib.hid (R4.out.keep b5)
    have B5 := Lib.hid (B4.out.trans (b5.mono B4.out.size))
    clear m5 b5
    go_wp2_with fail
    refine (eqLifeS_any _ _ len len len zs _ R45.out R5.out hn').mono ?_
    rintro e w6 ⟨rfl, b6⟩
    have B6 := Lib.hid (B5.out.trans (b6.mono B5.out.size))
    clear b6
    go_wp2_with fail
    go_ret
    exact ⟨rfl, B6.out⟩
end Go.Proofs.Ytncekpiabklkeaa
