/-
  The sine of a number of turns as the program computes it: its steps, each with a result, and their bounds. Plain facts; no conditions beyond those stated.
-/
import Derived.Test.YtfmicahibmpjmaaDoorLog
namespace Flt
open Ieee

/-! what stands behind the point -/
theorem cut_zero_eq (s : Bool) (n d : Nat) : Toward.zero.cut s n d = n / 2 ^ d := by
  unfold Toward.cut
  simp only [Nat.shiftLeft_eq, Nat.one_mul, Bool.toNat_false, Nat.add_zero]
  by_cases hd : d ≤ n.log2 + 2
  · rw [Nat.min_eq_left hd]
  · rw [Nat.min_eq_right (by omega)]
    have hlt : n < 2 ^ (n.log2 + 2) := by
      calc n < 2 ^ (n.log2 + 1) := Nat.lt_log2_self
        _ ≤ 2 ^ (n.log2 + 2) := Nat.pow_le_pow_right (by omega) (by omega)
    have hlt2 : n < 2 ^ d := Nat.lt_of_lt_of_le hlt (Nat.pow_le_pow_right (by omega) (by omega))
    rw [Nat.div_eq_of_lt hlt, Nat.div_eq_of_lt hlt2]

def E1074 : Nat := 1074
/-- the units of 1 -/
def unit1 : Nat := 2 ^ E1074

theorem ofInt_U (n : Int) (h : n.natAbs ≤ 2 ^ 52) : U (Go.floatOfInt .f64 n) = n * (unit1 : Int) := by
  have e : Go.floatOfInt .f64 n = Ieee.double.nearest (n < 0) n.natAbs 0 := rfl
  have hsw : Ieee.double.signWeight = 9223372036854775808 := by decide
  by_cases h0 : n = 0
  · subst h0
    rw [e]
    have : Ieee.double.nearest (decide ((0 : Int) < 0)) (Int.natAbs 0) 0 = 0 := by decide
    rw [this, Int.zero_mul]
    decide +kernel
  · have hm : n.natAbs ≠ 0 := by omega
    have lp : Ieee.double.leastPlace = -1074 := by decide
    have fb : Ieee.double.fractionBits = 52 := rfl
    have eb : (2 : Nat) ^ Ieee.double.exponentBits = 2048 := by decide
    have hL : n.natAbs.log2 ≤ 52 := by
      have h1 : 2 ^ n.natAbs.log2 ≤ 2 ^ 52 := Nat.le_trans (Nat.log2_self_le hm) h
      exact (Nat.pow_le_pow_iff_right (by omega : 1 < 2)).1 h1
    obtain ⟨r, h1, h2, h3⟩ := nearest_exact Ieee.double (decide (n < 0)) n.natAbs 0 hm (by rw [fb]; exact hL) (by rw [lp, fb]; omega) (by rw [lp, fb, eb]; omega)
    have hr : r < Ieee.double.signWeight := Nat.lt_trans h2 (infRung_lt _)
    obtain ⟨w1, w2⟩ := word_mod Ieee.double (decide (n < 0)) r hr
    rw [e, h1]
    unfold U
    rw [w1, w2, h3, lp]
    have e1 : (0 - (-1074 : Int)).toNat = E1074 := by decide
    rw [e1]
    unfold unit1
    rw [Int.natCast_mul]
    by_cases hn : n < 0
    · rw [decide_eq_true hn, if_pos rfl, ← Int.mul_assoc]
      congr 1
      omega
    · rw [decide_eq_false hn, if_neg (by decide), ← Int.mul_assoc]
      congr 1
      omega

def truncI (x : Nat) : Int := (Go.floatToIntVal .f64 x .i64).getD 0

theorem trunc_spec {x : Nat} (h : LeP x 52) : Go.floatToIntVal .f64 x .i64 = some (truncI x) ∧ (truncI x).natAbs ≤ 2 ^ 52 ∧ (U x - truncI x * (unit1 : Int)).natAbs ≤ unit1 := by
  obtain ⟨n, h1, h2⟩ := toInt_ok (K := 52) h (by omega)
  have hn : truncI x = n := by unfold truncI; rw [h1]; rfl
  rw [hn]
  refine ⟨h1, h2, ?_⟩
  obtain ⟨m, e, a1, a2, a3⟩ := h.read
  have hd : Go.FloatKind.f64.decode x = .number (x / Ieee.double.signWeight % 2 == 1) m (-1074 + e) := a1
  unfold Go.floatToIntVal at h1
  rw [hd] at h1
  simp only [Datum.toInt, Datum.integral] at h1
  split at h1
  · have h1' := Option.some.inj h1
    rw [cut_zero_eq, signed_eq, Nat.pow_zero, Nat.mul_one] at h1'
    unfold U
    rw [← a2, ← h1']
    have key : (((m * 2 ^ e : Nat) : Int) - ((m <<< (-1074 + (e : Int)).toNat / 2 ^ (-(-1074 + (e : Int))).toNat : Nat) : Int) * (unit1 : Int)).natAbs ≤ unit1 := by
      rw [Nat.shiftLeft_eq]
      unfold unit1
      by_cases he : E1074 ≤ e
      · have g1 : (-(-1074 + (e : Int))).toNat = 0 := by unfold E1074 at he; omega
        have g2 : (-1074 + (e : Int)).toNat + E1074 = e := by unfold E1074 at *; omega
        rw [g1, Nat.pow_zero, Nat.div_one, ← Int.natCast_mul, Nat.mul_assoc, ← Nat.pow_add, g2, Int.sub_self]
        exact Nat.zero_le _
      · have g1 : (-1074 + (e : Int)).toNat = 0 := by unfold E1074 at he; omega
        have g2 : (-(-1074 + (e : Int))).toNat + e = E1074 := by unfold E1074 at *; omega
        rw [g1, Nat.pow_zero, Nat.mul_one]
        generalize (-(-1074 + (e : Int))).toNat = d at *
        rw [← g2, Nat.pow_add]
        have hdm := Nat.div_add_mod m (2 ^ d)
        have hlt : m % 2 ^ d < 2 ^ d := Nat.mod_lt _ (Nat.two_pow_pos _)
        have hsub : ((m * 2 ^ e : Nat) : Int) - ((m / 2 ^ d : Nat) : Int) * ((2 ^ d * 2 ^ e : Nat) : Int) = ((m % 2 ^ d * 2 ^ e : Nat) : Int) := by
          rw [← Int.natCast_mul]
          have : m * 2 ^ e = m / 2 ^ d * (2 ^ d * 2 ^ e) + m % 2 ^ d * 2 ^ e := by
            rw [← Nat.mul_assoc, ← Nat.add_mul, Nat.mul_comm (m / 2 ^ d), hdm]
          omega
        rw [hsub, Int.natAbs_natCast]
        exact Nat.mul_le_mul_right _ (Nat.le_of_lt hlt)
    cases (x / Ieee.double.signWeight % 2 == 1)
    · simp only [Bool.false_eq_true, if_false, Int.one_mul]
      exact key
    · simp only [if_true]
      refine Nat.le_trans (Nat.le_of_eq ?_) key
      generalize ((m * 2 ^ e : Nat) : Int) = A
      generalize ((m <<< (-1074 + (e : Int)).toNat / 2 ^ (-(-1074 + (e : Int))).toNat : Nat) : Int) = B
      rw [Int.mul_assoc]
      generalize B * (unit1 : Int) = C
      omega
  · cases h1

abbrev halfW : Nat := 4602678819172646912
abbrev quartW : Nat := 4598175219545276416
abbrev tauW : Nat := 4618760256179416344
theorem half_le : LeP halfW 0 := by refine ⟨by decide, by decide, by omega, by omega⟩
theorem quart_le : LeP quartW 0 := by refine ⟨by decide, by decide, by omega, by omega⟩
theorem tau_le : LeP tauW 3 := by refine ⟨by decide, by decide, by omega, by omega⟩
theorem tau_ge : GeP tauW 2 := by refine ⟨by decide, by omega⟩

/-- less what is whole -/
def fracC (x : Nat) : Nat := fo .sub x (Go.floatOfInt .f64 (truncI x))
def partC (x : Nat) : Nat := if S .f64 (fracC x) < 0 then fo .add (fracC x) oneW else fracC x

theorem unit1_eq : (2 : Nat) ^ ((0 : Int) + 1074).toNat = unit1 := by decide +kernel

theorem frac_step {x : Nat} (h : LeP x 52) : Go.floatBits .sub .f64 x (Go.floatOfInt .f64 (truncI x)) = some (fracC x) ∧ LeP (fracC x) 0 := by
  obtain ⟨h1, h2, h3⟩ := trunc_spec h
  have h4 := ofInt_le (truncI x) 52 h2 (by omega)
  have h5 := ofInt_U (truncI x) h2
  obtain ⟨r, r1, r2⟩ := sub_val (K := 0) h h4 (by omega) (by omega) (by rw [h5, unit1_eq]; exact h3)
  have : fracC x = r := fo_eq r1
  rw [this]; exact ⟨r1, r2⟩
theorem part_step {f : Nat} (h : LeP f 0) : ∃ r, Go.floatBits .add .f64 f oneW = some r ∧ LeP r 1 ∧ r = fo .add f oneW := by
  obtain ⟨r, r1, r2⟩ := add_le (K := 1) h one_le (by omega) (by omega) (by omega)
  exact ⟨r, r1, r2, (fo_eq r1).symm⟩

def lowC (f : Nat) : Nat := if S .f64 halfW ≤ S .f64 f then fo .sub f halfW else f
def foldC (f : Nat) : Nat := if S .f64 quartW < S .f64 f then fo .sub halfW f else f
theorem low_step {f : Nat} (h : LeP f 1) : ∃ r, Go.floatBits .sub .f64 f halfW = some r ∧ LeP r 2 ∧ r = fo .sub f halfW := by
  obtain ⟨r, r1, r2⟩ := sub_le (K := 2) h half_le (by omega) (by omega) (by omega)
  exact ⟨r, r1, r2, (fo_eq r1).symm⟩
theorem fold_step {f : Nat} (h : LeP f 2) : ∃ r, Go.floatBits .sub .f64 halfW f = some r ∧ LeP r 3 ∧ r = fo .sub halfW f := by
  obtain ⟨r, r1, r2⟩ := sub_le (K := 3) half_le h (by omega) (by omega) (by omega)
  exact ⟨r, r1, r2, (fo_eq r1).symm⟩

def pC (u : Nat) : Nat → Nat
  | 0 => oneW
  | j + 1 => fo .sub oneW (fo .quo (fo .mul u (pC u j)) (Go.floatOfInt .f64 (2 * (8 - (j : Int)) * (2 * (8 - (j : Int)) + 1))))
def negW (r : Nat) : Nat := Go.Op.negFloat .f64 r
def sinT (g : Nat) : Nat := fo .mul (fo .mul g tauW) (pC (fo .mul (fo .mul g tauW) (fo .mul g tauW)) 8)
def sineW (x : Nat) : Nat := if S .f64 halfW ≤ S .f64 (partC x) then negW (sinT (foldC (lowC (partC x)))) else sinT (foldC (lowC (partC x)))

theorem z_step {g : Nat} (h : LeP g 3) : ∃ z u, Go.floatBits .mul .f64 g tauW = some z ∧ Go.floatBits .mul .f64 z z = some u ∧ LeP z 6 ∧ LeP u 12 ∧ z = fo .mul g tauW ∧ u = fo .mul (fo .mul g tauW) (fo .mul g tauW) := by
  obtain ⟨z, z1, z2⟩ := mul_le h tau_le (by omega) (by omega)
  obtain ⟨u, u1, u2⟩ := mul_le z2 z2 (by omega) (by omega)
  refine ⟨z, u, z1, u1, z2, u2, (fo_eq z1).symm, ?_⟩
  rw [fo_eq z1, fo_eq u1]

theorem kk_bd (j : Nat) (hj : j ≤ 7) : (6 : Int) ≤ 2 * (8 - (j : Int)) * (2 * (8 - (j : Int)) + 1) ∧ 2 * (8 - (j : Int)) * (2 * (8 - (j : Int)) + 1) ≤ 272 := by
  have : j = 0 ∨ j = 1 ∨ j = 2 ∨ j = 3 ∨ j = 4 ∨ j = 5 ∨ j = 6 ∨ j = 7 := by omega
  rcases this with rfl | rfl | rfl | rfl | rfl | rfl | rfl | rfl <;> decide

theorem p_step {u p : Nat} {j : Nat} (hu : LeP u 12) (hp : LeP p ((11 * j : Nat) : Int)) (hj : j ≤ 7) (he : p = pC u j) :
    ∃ m d r, Go.floatBits .mul .f64 u p = some m ∧ Go.floatBits .quo .f64 m (Go.floatOfInt .f64 (2 * (8 - (j : Int)) * (2 * (8 - (j : Int)) + 1))) = some d ∧ Go.floatBits .sub .f64 oneW d = some r ∧
      LeP r ((11 * (j + 1) : Nat) : Int) ∧ r = pC u (j + 1) := by
  obtain ⟨b1, b2⟩ := kk_bd j hj
  have k1 := ofInt_le (2 * (8 - (j : Int)) * (2 * (8 - (j : Int)) + 1)) 9 (by omega) (by omega)
  obtain ⟨k2, k3⟩ := ofInt_ge (2 * (8 - (j : Int)) * (2 * (8 - (j : Int)) + 1)) 2 (by omega) (by omega) (by omega)
  obtain ⟨m, m1, m2⟩ := mul_le hu hp (by omega) (by omega)
  obtain ⟨d, d1, d2⟩ := quo_le m2 k1 k2 (by omega) (by omega)
  obtain ⟨r, r1, r2⟩ := sub_le (K := ((11 * (j + 1) : Nat) : Int)) one_le d2 (by omega) (by omega) (by omega)
  refine ⟨m, d, r, m1, d1, r1, r2, ?_⟩
  show r = fo .sub oneW (fo .quo (fo .mul u (pC u j)) (Go.floatOfInt .f64 (2 * (8 - (j : Int)) * (2 * (8 - (j : Int)) + 1))))
  rw [← he, fo_eq m1, fo_eq d1, fo_eq r1]

theorem t_step {z p : Nat} (hz : LeP z 6) (hp : LeP p 88) : ∃ r, Go.floatBits .mul .f64 z p = some r ∧ LeP r 94 ∧ r = fo .mul z p := by
  obtain ⟨r, r1, r2⟩ := mul_le hz hp (by omega) (by omega)
  exact ⟨r, r1, r2, (fo_eq r1).symm⟩

theorem neg_LeP {r : Nat} {K : Int} (h : LeP r K) : LeP (negW r) K := by
  obtain ⟨h1, h2, h3, h4⟩ := h
  have e : negW r = r ^^^ 2 ^ 63 := rfl
  have hm : (r ^^^ 2 ^ 63) % 2 ^ 63 = r % 2 ^ 63 := by
    apply Nat.eq_of_testBit_eq
    intro i
    rw [Nat.testBit_mod_two_pow, Nat.testBit_mod_two_pow, Nat.testBit_xor, Nat.testBit_two_pow]
    by_cases hi : i < 63
    · have : ¬ 63 = i := by omega
      simp [this]
    · simp [hi]
  have hsw : Ieee.double.signWeight = 2 ^ 63 := by decide
  refine ⟨?_, ?_, h3, h4⟩
  · rw [e]
    have : r ^^^ 2 ^ 63 < 2 ^ 64 := Nat.xor_lt_two_pow (by omega) (by decide)
    omega
  · rw [e, hsw, hm, ← hsw]; exact h2

theorem pC_le {u : Nat} (hu : LeP u 12) : ∀ j : Nat, j ≤ 8 → LeP (pC u j) ((11 * j : Nat) : Int) := by
  intro j
  induction j with
  | zero => intro _; exact one_le
  | succ j ih =>
    intro h
    obtain ⟨_, _, r, _, _, _, r2, r3⟩ := p_step hu (ih (by omega)) (by omega) rfl
    rw [← r3]; exact r2
theorem sinT_le {g : Nat} (h : LeP g 3) : LeP (sinT g) 94 := by
  obtain ⟨z, u, _, _, z2, u2, z3, u3⟩ := z_step h
  have hp := pC_le u2 8 (by omega)
  obtain ⟨r, _, r2, r3⟩ := t_step z2 hp
  unfold sinT
  rw [← u3, ← z3, ← r3]; exact r2
theorem partC_le {x : Nat} (h : LeP x 52) : LeP (partC x) 1 := by
  obtain ⟨_, h2⟩ := frac_step h
  unfold partC
  split
  · obtain ⟨r, _, r2, r3⟩ := part_step h2
    rw [← r3]; exact r2
  · exact h2.mono (by omega) (by omega)
theorem lowC_le {f : Nat} (h : LeP f 1) : LeP (lowC f) 2 := by
  unfold lowC
  split
  · obtain ⟨r, _, r2, r3⟩ := low_step h
    rw [← r3]; exact r2
  · exact h.mono (by omega) (by omega)
theorem foldC_le {f : Nat} (h : LeP f 2) : LeP (foldC f) 3 := by
  unfold foldC
  split
  · obtain ⟨r, _, r2, r3⟩ := fold_step h
    rw [← r3]; exact r2
  · exact h.mono (by omega) (by omega)
theorem sineW_le {x : Nat} (h : LeP x 52) : LeP (sineW x) 94 := by
  have := sinT_le (foldC_le (lowC_le (partC_le h)))
  unfold sineW
  split
  · exact neg_LeP this
  · exact this
theorem le52 {x : Nat} (hl : x < 18446744073709551616) (h : x % 9223372036854775808 < 4841369599423283200) : LeP x 52 := by
  have e : (((52 : Int) + 1022).toNat + 1) * Ieee.double.binade = 4841369599423283200 := by decide
  have hsw : Ieee.double.signWeight = 9223372036854775808 := by decide
  refine ⟨hl, ?_, by omega, by omega⟩
  rw [e, hsw]; omega
end Flt
