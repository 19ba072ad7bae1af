/-
  The angle of a point as the program computes it: its steps, each with a result, and their bounds. Plain facts; no conditions beyond those stated.
-/
import Derived.Test.YtfmicahibmpjmaaDoorSin
namespace Flt
open Ieee

/-! angles -/
def sq (x : Nat) : Nat := (Ieee.double.sqrt x).getD 0
def shrink (t : Nat) : Nat := fo .quo t (fo .add oneW (sq (fo .add oneW (fo .mul t t))))
def shr : Nat → Nat → Nat
  | 0, t => t
  | n + 1, t => shrink (shr n t)
def aC (u : Nat) : Nat → Nat
  | 0 => 0
  | j + 1 => fo .sub (fo .quo oneW (Go.floatOfInt .f64 (15 - 2 * (j : Int)))) (fo .mul u (aC u j))
abbrev eightW : Nat := 4620693217682128896
def flatC (t : Nat) : Nat := fo .quo (fo .mul eightW (fo .mul (shr 3 t) (aC (fo .mul (shr 3 t) (shr 3 t)) 8))) tauW
theorem eight_le : LeP eightW 3 := by refine ⟨by decide, by decide, by omega, by omega⟩

theorem shrink_step {t : Nat} (h : LeP t 1) (p : Plus t) : ∃ m a s b r, Go.floatBits .mul .f64 t t = some m ∧ Go.floatBits .add .f64 oneW m = some a ∧ Ieee.double.sqrt a = some s ∧ Go.floatBits .add .f64 oneW s = some b ∧
    Go.floatBits .quo .f64 t b = some r ∧ LeP r 1 ∧ Plus r ∧ r = shrink t := by
  have u3 : U oneW = ((2 ^ (0 + 1074 : Int).toNat : Nat) : Int) := by decide +kernel
  obtain ⟨m, m1, m2⟩ := mul_le h h (by omega) (by omega)
  have m3 := mul_self_plus m1
  obtain ⟨a, a1, a2⟩ := add_le (K := 3) one_le m2 (by omega) (by omega) (by omega)
  obtain ⟨_, a4⟩ := add_ge (J := 0) one_le m2 a1 a2 (by omega) (by omega) (by rw [u3]; have := U_zero_le m3; omega)
  obtain ⟨s, s1, s2, s3⟩ := sqrt_le (A := 2) (a2.mono (by omega) (by omega)) a4 (by omega) (by omega) (by omega)
  obtain ⟨b, b1, b2⟩ := add_le (K := 3) one_le s2 (by omega) (by omega) (by omega)
  obtain ⟨b3, b4⟩ := add_ge (J := 0) one_le s2 b1 b2 (by omega) (by omega) (by rw [u3]; have := U_zero_le s3; omega)
  obtain ⟨r, r1, r2⟩ := quo_le h b2 b3 (by omega) (by omega)
  refine ⟨m, a, s, b, r, m1, a1, s1, b1, r1, r2, quo_plus h b2 p b4 r1, ?_⟩
  unfold shrink sq
  rw [fo_eq m1, fo_eq a1, s1, Option.getD_some, fo_eq b1, fo_eq r1]

theorem shr_le {t : Nat} (h : LeP t 1) (p : Plus t) : ∀ n, LeP (shr n t) 1 ∧ Plus (shr n t) := by
  intro n
  induction n with
  | zero => exact ⟨h, p⟩
  | succ n ih =>
    obtain ⟨_, _, _, _, r, _, _, _, _, _, r2, r3, r4⟩ := shrink_step ih.1 ih.2
    show LeP (shrink (shr n t)) 1 ∧ Plus (shrink (shr n t))
    rw [← r4]; exact ⟨r2, r3⟩

theorem a_step {u q : Nat} {j : Nat} (hu : LeP u 2) (hq : LeP q ((3 * j : Nat) : Int)) (hj : j ≤ 7) (he : q = aC u j) : ∃ d m r, Go.floatBits .quo .f64 oneW (Go.floatOfInt .f64 (15 - 2 * (j : Int))) = some d ∧ Go.floatBits .mul .f64 u q = some m ∧ Go.floatBits .sub .f64 d m = some r ∧
    LeP r ((3 * (j + 1) : Nat) : Int) ∧ r = aC u (j + 1) := by
  have k1 := ofInt_le (15 - 2 * (j : Int)) 4 (by omega) (by omega)
  obtain ⟨k2, k3⟩ := ofInt_ge (15 - 2 * (j : Int)) 0 (by omega) (by omega) (by omega)
  obtain ⟨d, d1, d2⟩ := quo_le one_le k1 k2 (by omega) (by omega)
  obtain ⟨m, m1, m2⟩ := mul_le hu hq (by omega) (by omega)
  obtain ⟨r, r1, r2⟩ := sub_le (K := ((3 * (j + 1) : Nat) : Int)) d2 m2 (by omega) (by omega) (by omega)
  refine ⟨d, m, r, d1, m1, r1, r2, ?_⟩
  show r = fo .sub (fo .quo oneW (Go.floatOfInt .f64 (15 - 2 * (j : Int)))) (fo .mul u (aC u j))
  rw [← he, fo_eq d1, fo_eq m1, fo_eq r1]
theorem aC_le {u : Nat} (hu : LeP u 2) : ∀ j : Nat, j ≤ 8 → LeP (aC u j) ((3 * j : Nat) : Int) := by
  intro j
  induction j with
  | zero => intro _; exact zero_le'
  | succ j ih =>
    intro h
    obtain ⟨_, _, r, _, _, _, r2, r3⟩ := a_step hu (ih (by omega)) (by omega) rfl
    rw [← r3]; exact r2
theorem u_step {t : Nat} (h : LeP t 1) : ∃ u, Go.floatBits .mul .f64 t t = some u ∧ LeP u 2 ∧ u = fo .mul t t := by
  obtain ⟨u, u1, u2⟩ := mul_le h h (by omega) (by omega)
  exact ⟨u, u1, u2, (fo_eq u1).symm⟩
theorem e_step {t p : Nat} (ht : LeP t 1) (hp : LeP p 24) : ∃ a b r, Go.floatBits .mul .f64 t p = some a ∧ Go.floatBits .mul .f64 eightW a = some b ∧ Go.floatBits .quo .f64 b tauW = some r ∧ LeP r 26 ∧ r = fo .quo (fo .mul eightW (fo .mul t p)) tauW := by
  obtain ⟨a, a1, a2⟩ := mul_le ht hp (by omega) (by omega)
  obtain ⟨b, b1, b2⟩ := mul_le eight_le a2 (by omega) (by omega)
  obtain ⟨r, r1, r2⟩ := quo_le b2 tau_le tau_ge (by omega) (by omega)
  refine ⟨a, b, r, a1, b1, r1, r2, ?_⟩
  rw [fo_eq a1, fo_eq b1, fo_eq r1]
theorem flatC_le {t : Nat} (h : LeP t 1) (p : Plus t) : LeP (flatC t) 26 := by
  obtain ⟨h3, _⟩ := shr_le h p 3
  obtain ⟨u, _, u2, u3⟩ := u_step h3
  obtain ⟨_, _, r, _, _, _, r2, r3⟩ := e_step h3 (aC_le u2 8 (by omega))
  unfold flatC
  rw [← u3, ← r3]; exact r2

/-- a number between two powers of two -/
theorem bracket {a : Nat} (h1 : 3603000000000000000 ≤ a) (h2 : a ≤ 5700000000000000000) : ∃ A : Int, GeP a A ∧ LeP a (A + 1) ∧ Plus a ∧ -400 ≤ A ∧ A ≤ 400 := by
  have hsw : Ieee.double.signWeight = 9223372036854775808 := by decide
  have hb : Ieee.double.binade = 4503599627370496 := by decide
  refine ⟨(a / 4503599627370496 : Nat) - 1023, ⟨?_, by omega⟩, ⟨by omega, ?_, by omega, by omega⟩, by unfold Plus; omega, by omega, by omega⟩
  · rw [hsw, hb, Nat.mod_eq_of_lt (by omega)]; omega
  · rw [hsw, hb, Nat.mod_eq_of_lt (by omega)]; omega

/-- the quotient of the lesser one and the greater one -/
theorem ratio {a b : Nat} (h1 : 3603000000000000000 ≤ a) (h2 : a ≤ 5700000000000000000) (hb : b ≤ a) : ∃ r, Go.floatBits .quo .f64 b a = some r ∧ LeP r 1 ∧ Plus r ∧ r = fo .quo b a := by
  obtain ⟨A, g, l, p, b1, b2⟩ := bracket h1 h2
  have hsw : Ieee.double.signWeight = 9223372036854775808 := by decide
  have pb : Plus b := by unfold Plus at *; omega
  have lb : LeP b (A + 1) := by
    obtain ⟨_, l2, l3, l4⟩ := l
    refine ⟨by omega, ?_, l3, l4⟩
    unfold Plus at p pb
    rw [hsw, Nat.mod_eq_of_lt pb]
    rw [hsw, Nat.mod_eq_of_lt p] at l2
    omega
  obtain ⟨r, r1, r2⟩ := quo_le lb l g (by omega) (by omega)
  refine ⟨r, r1, r2.mono (by omega) (by omega), quo_plus lb l pb p r1, (fo_eq r1).symm⟩

def absW (x : Nat) : Nat := x % 9223372036854775808
def tanC (y x : Nat) : Nat := if absW x < absW y then fo .quo (absW x) (absW y) else fo .quo (absW y) (absW x)
def ang1 (y x : Nat) : Nat := if absW x < absW y then fo .sub quartW (flatC (tanC y x)) else flatC (tanC y x)
def ang2 (y x : Nat) : Nat := if S .f64 x < 0 then fo .sub halfW (ang1 y x) else ang1 y x
def angleW (y x : Nat) : Nat := if S .f64 y < 0 then negW (ang2 y x) else ang2 y x

theorem q1_step {f : Nat} (h : LeP f 26) : ∃ r, Go.floatBits .sub .f64 quartW f = some r ∧ LeP r 27 ∧ r = fo .sub quartW f := by
  obtain ⟨r, r1, r2⟩ := sub_le (K := 27) quart_le h (by omega) (by omega) (by omega)
  exact ⟨r, r1, r2, (fo_eq r1).symm⟩
theorem h1_step {f : Nat} (h : LeP f 27) : ∃ r, Go.floatBits .sub .f64 halfW f = some r ∧ LeP r 28 ∧ r = fo .sub halfW f := by
  obtain ⟨r, r1, r2⟩ := sub_le (K := 28) half_le h (by omega) (by omega) (by omega)
  exact ⟨r, r1, r2, (fo_eq r1).symm⟩

/-- the numbers of which an angle is told -/
def AngOk (y x : Nat) : Prop := (absW x < absW y → 3603000000000000000 ≤ absW y ∧ absW y ≤ 5700000000000000000) ∧ (¬ absW x < absW y → 3603000000000000000 ≤ absW x ∧ absW x ≤ 5700000000000000000)
theorem tan_ok {y x : Nat} (h : AngOk y x) : LeP (tanC y x) 1 ∧ Plus (tanC y x) := by
  unfold tanC
  by_cases c : absW x < absW y
  · obtain ⟨h1, h2⟩ := h.1 c
    obtain ⟨r, _, r2, r3, r4⟩ := ratio h1 h2 (Nat.le_of_lt c)
    rw [if_pos c, ← r4]; exact ⟨r2, r3⟩
  · obtain ⟨h1, h2⟩ := h.2 c
    obtain ⟨r, _, r2, r3, r4⟩ := ratio h1 h2 (Nat.le_of_not_lt c)
    rw [if_neg c, ← r4]; exact ⟨r2, r3⟩
theorem ang1_le {y x : Nat} (h : AngOk y x) : LeP (ang1 y x) 27 := by
  obtain ⟨h1, h2⟩ := tan_ok h
  have h3 := flatC_le h1 h2
  unfold ang1
  split
  · obtain ⟨r, _, r2, r3⟩ := q1_step h3
    rw [← r3]; exact r2
  · exact h3.mono (by omega) (by omega)
theorem ang2_le {y x : Nat} (h : AngOk y x) : LeP (ang2 y x) 28 := by
  have h3 := ang1_le h
  unfold ang2
  split
  · obtain ⟨r, _, r2, r3⟩ := h1_step h3
    rw [← r3]; exact r2
  · exact h3.mono (by omega) (by omega)
theorem angleW_le {y x : Nat} (h : AngOk y x) : LeP (angleW y x) 28 := by
  unfold angleW
  split
  · exact neg_LeP (ang2_le h)
  · exact ang2_le h
/-- of two finite float32 numbers, not both zero -/
theorem ang_ok {b a : Nat} (hb : fin .f32 b = true) (ha : fin .f32 a = true) (hb' : b < 4294967296) (ha' : a < 4294967296) (h0 : b % 2147483648 ≠ 0 ∨ a % 2147483648 ≠ 0) : AngOk (W b) (W a) := by
  have key : ∀ c : Nat, fin .f32 c = true → c < 4294967296 → c % 2147483648 ≠ 0 → 3603000000000000000 ≤ absW (W c) ∧ absW (W c) ≤ 5700000000000000000 := by
    intro c hc hl hz
    have g := W_GeP hc hz
    have l := W_LeP hc
    have hsw : Ieee.double.signWeight = 9223372036854775808 := by decide
    have e1 : ((-149 + 1022 : Int).toNat + 1) * Ieee.double.binade = 874 * 4503599627370496 := by decide
    have e2 : ((128 + 1022 : Int).toNat + 1) * Ieee.double.binade = 1151 * 4503599627370496 := by decide
    obtain ⟨g1, _⟩ := g
    obtain ⟨_, l1, _⟩ := l
    rw [e1, hsw] at g1
    rw [e2, hsw] at l1
    unfold absW
    omega
  have zero : ∀ c : Nat, fin .f32 c = true → c % 2147483648 = 0 → absW (W c) = 0 := fun c hc hz => (W_rel c c (fin_num hc) (fin_num hc)).2.2.1 hz
  constructor
  · intro h
    by_cases hz : b % 2147483648 = 0
    · have := zero b hb hz; omega
    · exact key b hb hb' hz
  · intro h
    by_cases hz : a % 2147483648 = 0
    · have h1 := zero a ha hz
      have h2 := key b hb hb' (by omega)
      omega
    · exact key a ha ha' hz
end Flt
