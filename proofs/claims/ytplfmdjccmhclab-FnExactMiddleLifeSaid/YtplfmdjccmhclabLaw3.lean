/-
  The exact laws of functions that read lives and return what owns no memory. No conditions beyond the statements' own.
-/
import Derived.Test.YtplfmdjccmhclabSatW
namespace Go.Proofs.Ytplfmdjccmhclab
open Go.RowKit Liv Flt Go.Sort Stb Dec
theorem midT_num {w : World} {a : Option Addr} {len : Nat} {zs : List (Nat × Bool)} (h : LRow w a len zs) : nan .f32 (midT zs) = false := by
  unfold midT
  cases hL : livB zs with
  | false => rw [if_neg (by decide)]; decide
  | true =>
    rw [if_pos rfl]
    cases halfO zs with
    | none => show nan .f32 0 = false; decide
    | some i =>
      show nan .f32 ((tS zs).getD i 0) = false
      by_cases hi : i < (tS zs).length
      · obtain ⟨z, hz, e⟩ := tS_mem (getD_mem hi)
        rw [← e]
        exact (pos_bits (liv_VL h hL z hz).1 (liv_VL h hL z hz).2).2.2.1
      · rw [show (tS zs).getD i 0 = 0 by simp [List.getD, Nat.le_of_not_lt hi]]; decide
theorem satT_num {w : World} {a : Option Addr} {len : Nat} {zs : List (Nat × Bool)} (h : LRow w a len zs) (t : Nat) : nan .f32 (satT zs t) = false := by
  unfold satT
  cases hO : okB zs t with
  | false => rw [if_neg (by decide)]; decide
  | true =>
    rw [if_pos rfl]
    have hL : livB zs = true := by unfold okB at hO; rw [Bool.and_eq_true] at hO; exact hO.1
    exact one_num (sv_le hL (liv_VL h hL) _ (atN_le zs t))
set_option maxRecDepth 40000 in
set_option maxHeartbeats 1600000 in
theorem fnExactMiddleLife_walk (a : Option Addr) (len cap : Nat) (zs : List (Nat × Bool)) (w : World) (h : LRow w a len zs) :
    Calls Try.prog 6 #[.slice a len cap] w fun e w' => e = .returned (.bool true) ∧ Below w.heap.size w w' := by
  have hml : len ≤ maxLen := h.2.1
  have H := Lib.hid h
  have HZ := Lib.hid h.2.2.1
  have HL := Lib.hid h.1
  have hx : ∀ x : Bool, (x != x) = false := by simp
  have hxi : ∀ x : Int, (x != x) = false := by simp
  clear h
  by_cases hn : (1048576 : Int) < (len : Int)
  · go_enter Try.func6, Try.ntmps6
    go_wp2_with fail
    refine (szLifeS_any a len cap 1048576 _ (by decide) hml).mono ?_
    rintro e w1 ⟨rfl, rfl⟩
    rw [if_pos hn]
    go_wp2_with fail
    go_ret
    exact ⟨rfl, Below.refl _ _⟩
  · have hn' := lim3 hn
    have hnn : ¬ ((1048576 : Int) - len < 0) := by omega
    have hnum : nan .f32 (midT zs) = false := midT_num H.out
    have hW := widen _ hnum
    have hq := (W_spec _ hnum).2.1
    have hr := W_lt (midT zs)
    clear hnum
    obtain ⟨v, hv⟩ : ∃ v, midT zs = v := ⟨_, rfl⟩
    have HQ := Lib.hid hv
    rw [hv] at hW hq hr
    clear hv
    generalize W v = o at *
    go_enter Try.func6, Try.ntmps6
    go_wp2_with fail
    refine (szLifeS_any a len cap 1048576 _ (by decide) hml).mono ?_
    rintro e w1 ⟨rfl, rfl⟩
    rw [if_neg (show ¬ ((1048576 : Int) < (len : Int)) by omega)]
    go_wp2_with fail
    refine (toLifeS_made a len cap zs _ H.out hn').mono ?_
    rintro e w1 ⟨rfl, m1, b1⟩
    have R1 := Lib.hid (m1.row HL.out hml HZ.out)
    have B1 := Lib.hid b1
    clear m1 b1
    go_wp2_with fail
    refine (specMid_any _ len len zs _ R1.out).mono ?_
    rintro e w2 ⟨rfl, b2⟩
    rw [HQ.out]
    have B2 := Lib.hid (B1.out.trans (b2.mono B1.out.size))
    clear b2
    go_wp2_with fail
    refine (toLifeS_made a len cap zs _ (H.out.keep B2.out) hn').mono ?_
    rintro e w3 ⟨rfl, m3, b3⟩
    have R3 := Lib.hid (m3.row HL.out hml HZ.out)
    have B3 := Lib.hid (B2.out.trans (b3.mono B2.out.size))
    clear m3 b3
    go_wp2_with fail
    refine (implMid_any _ len len zs _ R3.out).mono ?_
    rintro e w4 ⟨rfl, b4⟩
    rw [HQ.out]
    have R4 := Lib.hid (R3.out.keep b4)
    have B4 := Lib.hid (B3.out.trans (b4.mono B3.out.size))
    clear b4
    go_wp2_with fail
    refine (sameFloat_eq o hr hq _).mono ?_
    rintro e w5 ⟨rfl, rfl⟩
    go_wp2_with fail
    refine (toLifeS_made a len cap zs _ (H.out.keep B4.out) hn').mono ?_
    rintro e w5 ⟨rfl, m5, b5⟩
    have R5 := Lib.hid (m5.row HL.out hml HZ.out)
    have R45 := Lib.hid (R4.out.keep b5)
    have B5 := Lib.hid (B4.out.trans (b5.mono B4.out.size))
    clear m5 b5
    go_wp2_with fail
    refine (eqLifeS_any _ _ len len len zs _ R45.out R5.out hn').mono ?_
    rintro e w6 ⟨rfl, b6⟩
    have B6 := Lib.hid (B5.out.trans (b6.mono B5.out.size))
    clear b6
    go_wp2_with fail
    go_ret
    exact ⟨rfl, B6.out⟩
set_option maxRecDepth 40000 in
set_option maxHeartbeats 1600000 in
theorem fnExactSurvivorAt_walk (a : Option Addr) (len cap : Nat) (zs : List (Nat × Bool)) (t : Nat) (_wt : (Lit.float .f32 t).wf = true) (w : World) (h : LRow w a len zs) :
    Calls Try.prog 3 #[.slice a len cap, .float .f32 t] w fun e w' => e = .returned (.bool true) ∧ Below w.heap.size w w' := by
  have hml : len ≤ maxLen := h.2.1
  have H := Lib.hid h
  have HZ := Lib.hid h.2.2.1
  have HL := Lib.hid h.1
  have hx : ∀ x : Bool, (x != x) = false := by simp
  have hxi : ∀ x : Int, (x != x) = false := by simp
  clear h
  by_cases hn : (1048576 : Int) < (len : Int)
  · go_enter Try.func3, Try.ntmps3
    go_wp2_with fail
    refine (szLifeS_any a len cap 1048576 _ (by decide) hml).mono ?_
    rintro e w1 ⟨rfl, rfl⟩
    rw [if_pos hn]
    go_wp2_with fail
    go_ret
    exact ⟨rfl, Below.refl _ _⟩
  · have hn' := lim3 hn
    have hnn : ¬ ((1048576 : Int) - len < 0) := by omega
    have hnum : nan .f32 (satT zs t) = false := satT_num H.out t
    have hW := widen _ hnum
    have hq := (W_spec _ hnum).2.1
    have hr := W_lt (satT zs t)
    clear hnum
    obtain ⟨v, hv⟩ : ∃ v, satT zs t = v := ⟨_, rfl⟩
    have HQ := Lib.hid hv
    rw [hv] at hW hq hr
    clear hv
    generalize W v = o at *
    go_enter Try.func3, Try.ntmps3
    go_wp2_with fail
    refine (szLifeS_any a len cap 1048576 _ (by decide) hml).mono ?_
    rintro e w1 ⟨rfl, rfl⟩
    rw [if_neg (show ¬ ((1048576 : Int) < (len : Int)) by omega)]
    go_wp2_with fail
    refine (toLifeS_made a len cap zs _ H.out hn').mono ?_
    rintro e w1 ⟨rfl, m1, b1⟩
    have R1 := Lib.hid (m1.row HL.out hml HZ.out)
    have B1 := Lib.hid b1
    clear m1 b1
    go_wp2_with fail
    refine (specAt_any _ len len t zs _ R1.out).mono ?_
    rintro e w2 ⟨rfl, b2⟩
    rw [HQ.out]
    have B2 := Lib.hid (B1.out.trans (b2.mono B1.out.size))
    clear b2
    go_wp2_with fail
    refine (toLifeS_made a len cap zs _ (H.out.keep B2.out) hn').mono ?_
    rintro e w3 ⟨rfl, m3, b3⟩
    have R3 := Lib.hid (m3.row HL.out hml HZ.out)
    have B3 := Lib.hid (B2.out.trans (b3.mono B2.out.size))
    clear m3 b3
    go_wp2_with fail
    refine (implAt_any _ len len t zs _ R3.out).mono ?_
    rintro e w4 ⟨rfl, b4⟩
    rw [HQ.out]
    have R4 := Lib.hid (R3.out.keep b4)
    have B4 := Lib.hid (B3.out.trans (b4.mono B3.out.size))
    clear b4
    go_wp2_with fail
    refine (sameFloat_eq o hr hq _).mono ?_
    rintro e w5 ⟨rfl, rfl⟩
    go_wp2_with fail
    refine (toLifeS_made a len cap zs _ (H.out.keep B4.out) hn').mono ?_
    rintro e w5 ⟨rfl, m5, b5⟩
    have R5 := Lib.hid (m5.row HL.out hml HZ.out)
    have R45 := Lib.hid (R4.out.keep b5)
    have B5 := Lib.hid (B4.out.trans (b5.mono B4.out.size))
    clear m5 b5
    go_wp2_with fail
    refine (eqLifeS_any _ _ len len len zs _ R45.out R5.out hn').mono ?_
    rintro e w6 ⟨rfl, b6⟩
    have B6 := Lib.hid (B5.out.trans (b6.mono B5.out.size))
    clear b6
    go_wp2_with fail
    go_ret
    exact ⟨rfl, B6.out⟩
end Go.Proofs.Ytplfmdjccmhclab
