/-
  Bounds of float64 results by powers of two: products, sums, quotients, square roots, narrowing. Plain facts; no conditions beyond those stated.
-/
import Derived.Test.YtemdgfjcjjadnaaFlt
namespace Flt
open Ieee

/-! bounds of rounded numbers by powers of two -/
theorem pow_log2 {m : Nat} (h : m ≠ 0) : 2 ^ m.log2 ≤ m := Nat.log2_self_le h

theorem cut_even_le (s : Bool) (n d t : Nat) (h : n < 2 ^ (t + d)) : Toward.even.cut s n d ≤ 2 ^ t := by
  unfold Toward.cut
  simp only [Nat.shiftLeft_eq, Nat.one_mul]
  have hg : n / 2 ^ min d (n.log2 + 2) < 2 ^ t ∨ n / 2 ^ min d (n.log2 + 2) = 0 := by
    by_cases hd : d ≤ n.log2 + 2
    · left
      rw [Nat.min_eq_left hd]
      exact Nat.div_lt_of_lt_mul (by rw [← Nat.pow_add, Nat.add_comm d t]; exact h)
    · right
      rw [Nat.min_eq_right (by omega)]
      refine Nat.div_eq_of_lt ?_
      calc n < 2 ^ (n.log2 + 1) := Nat.lt_log2_self
        _ ≤ 2 ^ (n.log2 + 2) := Nat.pow_le_pow_right (by omega) (by omega)
  have hp : 0 < 2 ^ t := Nat.two_pow_pos _
  have : ∀ b : Bool, b.toNat ≤ 1 := by decide
  rcases hg with hg | hg
  · have := this (decide (2 ^ min d (n.log2 + 2) < 2 * (n % 2 ^ min d (n.log2 + 2))) || (2 ^ min d (n.log2 + 2) == 2 * (n % 2 ^ min d (n.log2 + 2)) && n / 2 ^ min d (n.log2 + 2) % 2 == 1))
    omega
  · rw [hg]
    have := this (decide (2 ^ min d (n.log2 + 2) < 2 * (n % 2 ^ min d (n.log2 + 2))) || (2 ^ min d (n.log2 + 2) == 2 * (n % 2 ^ min d (n.log2 + 2)) && 0 % 2 == 1))
    omega

theorem cut_pow (s : Bool) (t d : Nat) : Toward.even.cut s (2 ^ (t + d)) d = 2 ^ t := by
  unfold Toward.cut
  have hl : (2 ^ (t + d)).log2 = t + d := Nat.log2_two_pow
  simp only [Nat.shiftLeft_eq, Nat.one_mul, hl]
  rw [Nat.min_eq_left (by omega), Nat.pow_add, Nat.mul_div_cancel _ (Nat.two_pow_pos _), Nat.mul_mod_left]
  have : 0 < 2 ^ d := Nat.two_pow_pos _
  simp

/-- a number of absolute value at most 2 ^ K is rounded to one -/
theorem nearest_le (f : Format) (s : Bool) (mag : Nat) (place K c : Int) (hc : c ≤ place) (hcK : c ≤ K)
    (h : mag * 2 ^ (place - c).toNat ≤ 2 ^ (K - c).toNat) (hlo : f.leastPlace + f.fractionBits ≤ K) (hhi : (K - f.leastPlace - f.fractionBits).toNat + 1 < 2 ^ f.exponentBits - 1) :
    ∃ r, f.nearest s mag place = f.word s r ∧ r ≤ ((K - f.leastPlace - f.fractionBits).toNat + 1) * f.binade ∧ r < f.infRung := by
  have hinf : ((K - f.leastPlace - f.fractionBits).toNat + 1) * f.binade < f.infRung := by
    unfold Format.infRung; exact Nat.mul_lt_mul_of_pos_right hhi (bin_pos f)
  obtain ⟨q, hq⟩ : ∃ q, q = (K - f.leastPlace - f.fractionBits).toNat := ⟨_, rfl⟩
  rw [← hq] at hinf ⊢
  by_cases h0 : mag = 0
  · subst h0
    exact ⟨0, by unfold Format.nearest; simp, Nat.zero_le _, by omega⟩
  have hL := pow_log2 h0
  have hU : mag < 2 ^ (mag.log2 + 1) := Nat.lt_log2_self
  have hle : (mag.log2 : Int) + place ≤ K := by
    have h1 : 2 ^ (mag.log2 + (place - c).toNat) ≤ 2 ^ (K - c).toNat := by
      rw [Nat.pow_add]; exact Nat.le_trans (Nat.mul_le_mul_right _ hL) h
    have h2 := (Nat.pow_le_pow_iff_right (by omega : 1 < 2)).1 h1
    omega
  unfold Format.nearest
  rw [if_neg h0]
  simp only
  generalize mag.log2 = L at *
  by_cases hsub : place + (L : Int) - f.fractionBits ≤ f.leastPlace
  · -- at the least place
    have e1 : max (place + (L : Int) - f.fractionBits) f.leastPlace = f.leastPlace := by omega
    rw [e1]
    obtain ⟨up, hup⟩ : ∃ up, up = (place - f.leastPlace).toNat := ⟨_, rfl⟩
    obtain ⟨dn, hdn⟩ : ∃ dn, dn = (f.leastPlace - place).toNat := ⟨_, rfl⟩
    rw [← hup, ← hdn, Nat.shiftLeft_eq]
    have hk : Toward.even.cut s (mag * 2 ^ up) dn ≤ 2 ^ (f.fractionBits + 1) := by
      refine cut_even_le s _ dn (f.fractionBits + 1) ?_
      calc mag * 2 ^ up < 2 ^ (L + 1) * 2 ^ up := Nat.mul_lt_mul_of_pos_right hU (Nat.two_pow_pos _)
        _ = 2 ^ (L + 1 + up) := (Nat.pow_add 2 (L + 1) up).symm
        _ ≤ 2 ^ (f.fractionBits + 1 + dn) := Nat.pow_le_pow_right (by omega) (by omega)
    have hk2 : (f.leastPlace - f.leastPlace).toNat = 0 := by omega
    rw [hk2, Nat.zero_mul, Nat.zero_add]
    by_cases heq : q = 0
    · -- K is the least normal number's place
      have hk3 : Toward.even.cut s (mag * 2 ^ up) dn ≤ 2 ^ f.fractionBits := by
        by_cases hstr : (L : Int) + place < K
        · refine cut_even_le s _ dn f.fractionBits ?_
          calc mag * 2 ^ up < 2 ^ (L + 1) * 2 ^ up := Nat.mul_lt_mul_of_pos_right hU (Nat.two_pow_pos _)
            _ = 2 ^ (L + 1 + up) := (Nat.pow_add 2 (L + 1) up).symm
            _ ≤ 2 ^ (f.fractionBits + dn) := Nat.pow_le_pow_right (by omega) (by omega)
        · have hm : mag = 2 ^ L := by
            have h1 : mag * 2 ^ (place - c).toNat ≤ 2 ^ L * 2 ^ (place - c).toNat := by
              rw [← Nat.pow_add]
              exact Nat.le_trans h (Nat.pow_le_pow_right (by omega) (by omega))
            have := Nat.le_of_mul_le_mul_right h1 (Nat.two_pow_pos _)
            omega
          rw [hm, ← Nat.pow_add, show L + up = f.fractionBits + dn from by omega, cut_pow]
          exact Nat.le_refl _
      refine ⟨_, rfl, ?_, ?_⟩
      · rw [heq]; unfold Format.binade; omega
      · have : f.binade = 2 ^ f.fractionBits := rfl
        rw [heq] at hinf
        omega
    · refine ⟨_, rfl, ?_, ?_⟩
      · have : 2 * f.binade ≤ (q + 1) * f.binade := Nat.mul_le_mul_right _ (by omega)
        have e : f.binade = 2 ^ f.fractionBits := rfl
        rw [Nat.pow_succ] at hk
        omega
      · have : 2 * f.binade ≤ (q + 1) * f.binade := Nat.mul_le_mul_right _ (by omega)
        have e : f.binade = 2 ^ f.fractionBits := rfl
        rw [Nat.pow_succ] at hk
        omega
  · have e1 : max (place + (L : Int) - f.fractionBits) f.leastPlace = place + L - f.fractionBits := by omega
    rw [e1]
    obtain ⟨up, hup⟩ : ∃ up, up = (place - (place + (L : Int) - f.fractionBits)).toNat := ⟨_, rfl⟩
    obtain ⟨dn, hdn⟩ : ∃ dn, dn = ((place + (L : Int) - f.fractionBits) - place).toNat := ⟨_, rfl⟩
    obtain ⟨g, hg⟩ : ∃ g, g = (place + (L : Int) - f.fractionBits - f.leastPlace).toNat := ⟨_, rfl⟩
    rw [← hup, ← hdn, ← hg, Nat.shiftLeft_eq]
    have hud : L + up = f.fractionBits + dn := by omega
    have e : f.binade = 2 ^ f.fractionBits := rfl
    have hk : Toward.even.cut s (mag * 2 ^ up) dn ≤ 2 ^ (f.fractionBits + 1) := by
      refine cut_even_le s _ dn (f.fractionBits + 1) ?_
      calc mag * 2 ^ up < 2 ^ (L + 1) * 2 ^ up := Nat.mul_lt_mul_of_pos_right hU (Nat.two_pow_pos _)
        _ = 2 ^ (L + 1 + up) := (Nat.pow_add 2 (L + 1) up).symm
        _ ≤ 2 ^ (f.fractionBits + 1 + dn) := Nat.pow_le_pow_right (by omega) (by omega)
    by_cases hstr : (L : Int) + place < K
    · refine ⟨_, rfl, ?_, ?_⟩
      · have : (g + 2) * f.binade ≤ (q + 1) * f.binade := Nat.mul_le_mul_right _ (by omega)
        rw [Nat.add_mul] at this
        rw [Nat.pow_succ] at hk
        omega
      · have : (g + 2) * f.binade ≤ (q + 1) * f.binade := Nat.mul_le_mul_right _ (by omega)
        rw [Nat.add_mul] at this
        rw [Nat.pow_succ] at hk
        omega
    · have hm : mag = 2 ^ L := by
        have h1 : mag * 2 ^ (place - c).toNat ≤ 2 ^ L * 2 ^ (place - c).toNat := by
          rw [← Nat.pow_add]
          exact Nat.le_trans h (Nat.pow_le_pow_right (by omega) (by omega))
        have := Nat.le_of_mul_le_mul_right h1 (Nat.two_pow_pos _)
        omega
      have hgq : g = q := by omega
      rw [hm, ← Nat.pow_add, hud, cut_pow, hgq]
      refine ⟨_, rfl, ?_, ?_⟩
      · rw [Nat.add_mul]; omega
      · rw [Nat.add_mul] at hinf; omega

/-- a finite float64 of absolute value at most 2 ^ K -/
def LeP (b : Nat) (K : Int) : Prop := b < 18446744073709551616 ∧ b % Ieee.double.signWeight ≤ ((K + 1022).toNat + 1) * Ieee.double.binade ∧ -1022 ≤ K ∧ K ≤ 1022

theorem LeP.lt {b : Nat} {K : Int} (h : LeP b K) : b < 18446744073709551616 := h.1
theorem LeP.fin_rung {b : Nat} {K : Int} (h : LeP b K) : b % Ieee.double.signWeight < Ieee.double.infRung := by
  obtain ⟨_, h2, h3, h4⟩ := h
  have : ((K + 1022).toNat + 1) * Ieee.double.binade ≤ 2045 * Ieee.double.binade := Nat.mul_le_mul_right _ (by omega)
  have e : 2045 * Ieee.double.binade < Ieee.double.infRung := by decide
  omega
theorem LeP.num {b : Nat} {K : Int} (h : LeP b K) : nan .f64 b = false := nan_false (Nat.le_of_lt h.fin_rung)
theorem LeP.isFin {b : Nat} {K : Int} (h : LeP b K) : fin .f64 b = true := decide_eq_true h.fin_rung
theorem LeP.mono {b : Nat} {K J : Int} (h : LeP b K) (hj : K ≤ J) (hJ : J ≤ 1022) : LeP b J := by
  obtain ⟨h1, h2, h3, h4⟩ := h
  refine ⟨h1, Nat.le_trans h2 (Nat.mul_le_mul_right _ (by omega)), by omega, hJ⟩

theorem units_pow (q : Nat) : units Ieee.double.binade ((q + 1) * Ieee.double.binade) = 2 ^ (52 + q) := by
  have hB := bin_pos Ieee.double
  have e : Ieee.double.binade = 2 ^ 52 := rfl
  unfold units
  rw [if_neg (by rw [Nat.add_mul]; omega), Nat.mul_div_cancel _ hB, Nat.mul_mod_left, Nat.add_sub_cancel, Nat.add_zero, e, ← Nat.pow_add]

theorem units_le {B r q : Nat} (hB : 0 < B) (h : r ≤ q) : units B r ≤ units B q := by
  rcases Nat.lt_or_ge r q with h1 | h1
  · exact Nat.le_of_lt (units_lt hB h1)
  · rw [show r = q from by omega]; exact Nat.le_refl _

theorem LeP.read {b : Nat} {K : Int} (h : LeP b K) :
    ∃ m e : Nat, Ieee.double.read b = .number (b / Ieee.double.signWeight % 2 == 1) m (-1074 + e) ∧ m * 2 ^ e = units Ieee.double.binade (b % Ieee.double.signWeight) ∧ m * 2 ^ e ≤ 2 ^ (K + 1074).toNat := by
  obtain ⟨m, e, h1, h2, h3, h4⟩ := read_num Ieee.double b h.fin_rung
  refine ⟨m, e, h1, h2, ?_⟩
  rw [h2]
  have := units_le (bin_pos Ieee.double) h.2.1
  rw [units_pow] at this
  rw [show (K + 1074).toNat = 52 + (K + 1022).toNat from by have := h.2.2.1; omega]
  exact this

/-- what nearest_le gives, as LeP -/
theorem wrote {s : Bool} {mag : Nat} {place K c : Int} (hc : c ≤ place) (hcK : c ≤ K) (h : mag * 2 ^ (place - c).toNat ≤ 2 ^ (K - c).toNat) (h1 : -1022 ≤ K) (h2 : K ≤ 1022) :
    LeP (Ieee.double.nearest s mag place) K := by
  have lp : Ieee.double.leastPlace = -1074 := by decide
  have fb : Ieee.double.fractionBits = 52 := rfl
  have eb : (2 : Nat) ^ Ieee.double.exponentBits = 2048 := by decide
  obtain ⟨r, e1, e2, e3⟩ := nearest_le Ieee.double s mag place K c hc hcK h (by rw [lp, fb]; omega) (by rw [lp, fb, eb]; omega)
  have e2' : r ≤ ((K + 1022).toNat + 1) * Ieee.double.binade := by
    rw [lp, fb] at e2
    rw [show (K - -1074 - ((52 : Nat) : Int)).toNat = (K + 1022).toNat from by omega] at e2
    exact e2
  have hr : r < Ieee.double.signWeight := Nat.lt_trans e3 (infRung_lt _)
  rw [e1]
  refine ⟨Ieee.Format.word_lt Ieee.double s hr, ?_, h1, h2⟩
  rw [(word_mod Ieee.double s r hr).1]
  exact e2'

theorem mul_le {a b : Nat} {A B : Int} (ha : LeP a A) (hb : LeP b B) (h1 : -1022 ≤ A + B) (h2 : A + B ≤ 1022) :
    ∃ r, Go.floatBits .mul .f64 a b = some r ∧ LeP r (A + B) := by
  obtain ⟨m, e, a1, a2, a3⟩ := ha.read
  obtain ⟨n, f, b1, b2, b3⟩ := hb.read
  refine ⟨_, by show Ieee.double.mul a b = _; unfold Format.mul; rw [a1, b1]; rfl, ?_⟩
  refine wrote (c := -2148) (by omega) (by omega) ?_ h1 h2
  rw [show (-1074 + (e : Int) + (-1074 + f) - -2148).toNat = e + f from by omega, Nat.pow_add,
    show m * n * (2 ^ e * 2 ^ f) = (m * 2 ^ e) * (n * 2 ^ f) from by rw [Nat.mul_mul_mul_comm]]
  refine Nat.le_trans (Nat.mul_le_mul a3 b3) ?_
  rw [← Nat.pow_add]
  have := ha.2.2.1; have := hb.2.2.1
  exact Nat.pow_le_pow_right (by omega) (by omega)

/-- signed units -/
def U (b : Nat) : Int := (if (b / Ieee.double.signWeight % 2 == 1) then -1 else 1) * (units Ieee.double.binade (b % Ieee.double.signWeight) : Int)

theorem sum_val (s t : Bool) (m n e f : Nat) (K : Int) (h1 : -1022 ≤ K) (h2 : K ≤ 1022)
    (h : ((if s then -1 else 1) * ((m * 2 ^ e : Nat) : Int) + (if t then -1 else 1) * ((n * 2 ^ f : Nat) : Int)).natAbs ≤ 2 ^ (K + 1074).toNat) :
    ∃ r, ((Datum.number s m (-1074 + e)).sum (.number t n (-1074 + f))).map Ieee.double.write = some r ∧ LeP r K := by
  simp only [Datum.sum, Option.map_some]
  refine ⟨_, rfl, ?_⟩
  simp only [Format.write]
  rw [signed_eq, signed_eq]
  have g1 : (-1074 + (e : Int) - min (-1074 + (e : Int)) (-1074 + f)).toNat + min e f = e := by omega
  have g2 : (-1074 + (f : Int) - min (-1074 + (e : Int)) (-1074 + f)).toNat + min e f = f := by omega
  refine wrote (c := -1074) (by omega) (by omega) ?_ h1 h2
  rw [show (min (-1074 + (e : Int)) (-1074 + f) - -1074).toNat = min e f from by omega, show (K - -1074).toNat = (K + 1074).toNat from by omega]
  refine Nat.le_trans (Nat.le_of_eq ?_) h
  have hp : ((2 ^ min e f : Nat) : Int).natAbs = 2 ^ min e f := Int.natAbs_natCast _
  rw [← hp, ← Int.natAbs_mul, Int.add_mul, Int.mul_assoc, Int.mul_assoc, ← Int.natCast_mul, ← Int.natCast_mul, Nat.mul_assoc, Nat.mul_assoc, ← Nat.pow_add, ← Nat.pow_add, g1, g2]

theorem add_val {a b : Nat} {A B K : Int} (ha : LeP a A) (hb : LeP b B) (h1 : -1022 ≤ K) (h2 : K ≤ 1022) (h : (U a + U b).natAbs ≤ 2 ^ (K + 1074).toNat) :
    ∃ r, Go.floatBits .add .f64 a b = some r ∧ LeP r K := by
  obtain ⟨m, e, a1, a2, a3⟩ := ha.read
  obtain ⟨n, f, b1, b2, b3⟩ := hb.read
  unfold U at h
  rw [← a2, ← b2] at h
  have := sum_val _ _ m n e f K h1 h2 h
  obtain ⟨r, e1, e2⟩ := this
  exact ⟨r, by show Ieee.double.add a b = _; unfold Format.add; rw [a1, b1]; exact e1, e2⟩

theorem sub_val {a b : Nat} {A B K : Int} (ha : LeP a A) (hb : LeP b B) (h1 : -1022 ≤ K) (h2 : K ≤ 1022) (h : (U a - U b).natAbs ≤ 2 ^ (K + 1074).toNat) :
    ∃ r, Go.floatBits .sub .f64 a b = some r ∧ LeP r K := by
  obtain ⟨m, e, a1, a2, a3⟩ := ha.read
  obtain ⟨n, f, b1, b2, b3⟩ := hb.read
  unfold U at h
  rw [← a2, ← b2] at h
  have := sum_val (a / Ieee.double.signWeight % 2 == 1) (!(b / Ieee.double.signWeight % 2 == 1)) m n e f K h1 h2 (by
    refine Nat.le_trans (Nat.le_of_eq ?_) h
    congr 1
    cases (b / Ieee.double.signWeight % 2 == 1) <;> simp <;> omega)
  obtain ⟨r, e1, e2⟩ := this
  exact ⟨r, by show Ieee.double.sub a b = _; unfold Format.sub; rw [a1, b1]; exact e1, e2⟩

theorem U_le {a : Nat} {A : Int} (ha : LeP a A) : (U a).natAbs ≤ 2 ^ (A + 1074).toNat := by
  obtain ⟨m, e, a1, a2, a3⟩ := ha.read
  unfold U
  rw [← a2]
  cases (a / Ieee.double.signWeight % 2 == 1) <;> simp only [if_true, if_false, Bool.false_eq_true, Int.one_mul, Int.neg_mul, Int.natAbs_neg, Int.natAbs_natCast] <;> exact a3

theorem add_le {a b : Nat} {A B K : Int} (ha : LeP a A) (hb : LeP b B) (hA : A < K) (hB : B < K) (h2 : K ≤ 1022) :
    ∃ r, Go.floatBits .add .f64 a b = some r ∧ LeP r K := by
  have u1 := U_le ha
  have u2 := U_le hb
  have l1 := ha.2.2.1
  have l2 := hb.2.2.1
  refine add_val ha hb (by omega) h2 ?_
  have p1 : 2 ^ (A + 1074).toNat ≤ 2 ^ (K + 1073).toNat := Nat.pow_le_pow_right (by omega) (by omega)
  have p2 : 2 ^ (B + 1074).toNat ≤ 2 ^ (K + 1073).toNat := Nat.pow_le_pow_right (by omega) (by omega)
  rw [show (K + 1074).toNat = (K + 1073).toNat + 1 from by omega, Nat.pow_succ]
  omega

theorem sub_le {a b : Nat} {A B K : Int} (ha : LeP a A) (hb : LeP b B) (hA : A < K) (hB : B < K) (h2 : K ≤ 1022) :
    ∃ r, Go.floatBits .sub .f64 a b = some r ∧ LeP r K := by
  have u1 := U_le ha
  have u2 := U_le hb
  have l1 := ha.2.2.1
  have l2 := hb.2.2.1
  refine sub_val ha hb (by omega) h2 ?_
  have p1 : 2 ^ (A + 1074).toNat ≤ 2 ^ (K + 1073).toNat := Nat.pow_le_pow_right (by omega) (by omega)
  have p2 : 2 ^ (B + 1074).toNat ≤ 2 ^ (K + 1073).toNat := Nat.pow_le_pow_right (by omega) (by omega)
  rw [show (K + 1074).toNat = (K + 1073).toNat + 1 from by omega, Nat.pow_succ]
  omega

/-- a float64 of absolute value at least 2 ^ K -/
def GeP (b : Nat) (K : Int) : Prop := ((K + 1022).toNat + 1) * Ieee.double.binade ≤ b % Ieee.double.signWeight ∧ -1022 ≤ K

theorem GeP.units {b : Nat} {K : Int} (h : GeP b K) : 2 ^ (K + 1074).toNat ≤ units Ieee.double.binade (b % Ieee.double.signWeight) := by
  have := units_le (bin_pos Ieee.double) h.1
  rw [units_pow] at this
  rw [show (K + 1074).toNat = 52 + (K + 1022).toNat from by have := h.2; omega]
  exact this

theorem quo_le {a b : Nat} {A B C : Int} (ha : LeP a A) (hb : LeP b C) (gb : GeP b B) (h1 : -1022 ≤ A - B) (h2 : A - B ≤ 1022) :
    ∃ r, Go.floatBits .quo .f64 a b = some r ∧ LeP r (A - B) := by
  obtain ⟨m, e, a1, a2, a3⟩ := ha.read
  obtain ⟨n, f, b1, b2, b3⟩ := hb.read
  have g := gb.units
  have gB := gb.2
  have hA := ha.2.2.1
  rw [← b2] at g
  have hn : n ≠ 0 := by
    rintro rfl
    have : 0 < 2 ^ (B + 1074).toNat := Nat.two_pow_pos _
    omega
  have hnU : n < 2 ^ (n.log2 + 1) := Nat.lt_log2_self
  show ∃ r, Ieee.double.div a b = some r ∧ _
  unfold Format.div
  rw [a1, b1]
  simp only [Datum.quotient, if_neg hn, Option.map_some]
  refine ⟨_, rfl, ?_⟩
  simp only [Format.write]
  by_cases hm : m = 0
  · subst hm
    refine wrote (c := min (-1074 + (e : Int) - (-1074 + (f : Int)) - ((Ieee.double.fractionBits + 2 + n.log2 - Nat.log2 0 : Nat) : Int) - 1) (A - B)) (by omega) (by omega) ?_ h1 h2
    simp [Nat.zero_shiftLeft]
  · have hmL := pow_log2 hm
    have hfb : Ieee.double.fractionBits = 52 := rfl
    rw [hfb]
    generalize hmore : 52 + 2 + n.log2 - m.log2 = more
    -- exponents
    have x1 : m.log2 + e ≤ (A + 1074).toNat := by
      have : 2 ^ (m.log2 + e) ≤ 2 ^ (A + 1074).toNat := by
        rw [Nat.pow_add]; exact Nat.le_trans (Nat.mul_le_mul_right _ hmL) a3
      exact (Nat.pow_le_pow_iff_right (by omega : 1 < 2)).1 this
    have x2 : (B + 1074).toNat < n.log2 + 1 + f := by
      have : 2 ^ (B + 1074).toNat < 2 ^ (n.log2 + 1 + f) := by
        rw [Nat.pow_add]
        exact Nat.lt_of_le_of_lt g (Nat.mul_lt_mul_of_pos_right hnU (Nat.two_pow_pos _))
      exact (Nat.pow_lt_pow_iff_right (by omega : 1 < 2)).1 this
    obtain ⟨x, hx⟩ : ∃ x : Nat, (x : Int) = A - B + f - e + more := ⟨(A - B + f - e + more).toNat, by omega⟩
    have key : m * 2 ^ more ≤ 2 ^ x * n := by
      -- multiply by 2^e * 2^(B+1074)
      have hpos : 0 < 2 ^ (e + (B + 1074).toNat + f) := Nat.two_pow_pos _
      refine Nat.le_of_mul_le_mul_right ?_ hpos
      calc m * 2 ^ more * 2 ^ (e + (B + 1074).toNat + f) = (m * 2 ^ e) * 2 ^ (more + (B + 1074).toNat + f) := by
            rw [Nat.mul_assoc, Nat.mul_assoc, ← Nat.pow_add, ← Nat.pow_add]; congr 2; omega
        _ ≤ 2 ^ (A + 1074).toNat * 2 ^ (more + (B + 1074).toNat + f) := Nat.mul_le_mul_right _ a3
        _ = 2 ^ (x + e + (B + 1074).toNat) * 2 ^ (B + 1074).toNat := by
            rw [← Nat.pow_add, ← Nat.pow_add]; congr 1; omega
        _ ≤ 2 ^ (x + e + (B + 1074).toNat) * (n * 2 ^ f) := Nat.mul_le_mul_left _ g
        _ = 2 ^ x * n * 2 ^ (e + (B + 1074).toNat + f) := by
            rw [show x + e + (B + 1074).toNat = x + (e + (B + 1074).toNat) from by omega, Nat.pow_add 2 x, Nat.pow_add 2 (e + (B + 1074).toNat) f]
            simp only [Nat.mul_assoc, Nat.mul_left_comm]
    have hd : 2 * (m <<< more / n) + (m <<< more % n != 0).toNat ≤ 2 * 2 ^ x := by
      rw [Nat.shiftLeft_eq]
      have hdm := Nat.div_add_mod (m * 2 ^ more) n
      have hq : m * 2 ^ more / n ≤ 2 ^ x := by
        refine Nat.div_le_of_le_mul ?_
        rw [Nat.mul_comm n (2 ^ x)]; exact key
      rcases Nat.lt_or_ge (m * 2 ^ more / n) (2 ^ x) with h | h
      · have : (m * 2 ^ more % n != 0).toNat ≤ 1 := Bool.toNat_le _
        omega
      · have hqe : m * 2 ^ more / n = 2 ^ x := by omega
        rw [hqe] at hdm ⊢
        rw [Nat.mul_comm n] at hdm
        have : m * 2 ^ more % n = 0 := by omega
        simp [this]
    refine wrote (c := -1074 + (e : Int) - (-1074 + (f : Int)) - more - 1) (by omega) (by omega) ?_ h1 h2
    rw [Int.sub_self, Int.toNat_zero, Nat.pow_zero, Nat.mul_one, show (A - B - (-1074 + (e : Int) - (-1074 + (f : Int)) - more - 1)).toNat = x + 1 from by omega, Nat.pow_succ, Nat.mul_comm (2 ^ x)]
    exact hd

theorem cut_even_ge (s : Bool) (n d t : Nat) (h : 2 ^ (t + d) ≤ n) : 2 ^ t ≤ Toward.even.cut s n d := by
  unfold Toward.cut
  simp only [Nat.shiftLeft_eq, Nat.one_mul]
  have hd : d ≤ n.log2 + 2 := by
    have h0 : n ≠ 0 := by have : 0 < 2 ^ (t + d) := Nat.two_pow_pos _; omega
    have h1 : 2 ^ (t + d) < 2 ^ (n.log2 + 1) := Nat.lt_of_le_of_lt h Nat.lt_log2_self
    have := (Nat.pow_lt_pow_iff_right (by omega : 1 < 2)).1 h1
    omega
  rw [Nat.min_eq_left hd]
  have : 2 ^ t ≤ n / 2 ^ d := (Nat.le_div_iff_mul_le (Nat.two_pow_pos _)).2 (by rw [← Nat.pow_add]; exact h)
  omega

/-- a number of absolute value at least 2 ^ K is rounded to one -/
theorem nearest_ge (f : Format) (s : Bool) (mag : Nat) (place K c : Int) (hc : c ≤ place) (hcK : c ≤ K)
    (h : 2 ^ (K - c).toNat ≤ mag * 2 ^ (place - c).toNat) (hlo : f.leastPlace + f.fractionBits ≤ K) (hhi : (K - f.leastPlace - f.fractionBits).toNat + 1 ≤ 2 ^ f.exponentBits - 1)
    (r : Nat) (hr : f.nearest s mag place = f.word s r) (hsw : r < f.signWeight) : ((K - f.leastPlace - f.fractionBits).toNat + 1) * f.binade ≤ r := by
  have h0 : mag ≠ 0 := by
    rintro rfl
    have : 0 < 2 ^ (K - c).toNat := Nat.two_pow_pos _
    omega
  have hL := pow_log2 h0
  have hU : mag < 2 ^ (mag.log2 + 1) := Nat.lt_log2_self
  have hle : K ≤ (mag.log2 : Int) + place := by
    have h1 : 2 ^ (K - c).toNat < 2 ^ (mag.log2 + 1 + (place - c).toNat) := by
      rw [Nat.pow_add 2 (mag.log2 + 1)]
      exact Nat.lt_of_le_of_lt h (Nat.mul_lt_mul_of_pos_right hU (Nat.two_pow_pos _))
    have h2 := (Nat.pow_lt_pow_iff_right (by omega : 1 < 2)).1 h1
    omega
  unfold Format.nearest at hr
  rw [if_neg h0] at hr
  simp only at hr
  generalize mag.log2 = L at *
  have e1 : max (place + (L : Int) - f.fractionBits) f.leastPlace = place + L - f.fractionBits := by omega
  rw [e1] at hr
  have hw : ∀ x, x ≤ f.infRung → f.word s x = f.word s r → x = r := by
    intro x hx he
    have hx' : x < f.signWeight := Nat.lt_of_le_of_lt hx (infRung_lt f)
    have a1 := (word_mod f s x hx').1
    have a2 := (word_mod f s r hsw).1
    rw [he] at a1
    omega
  have := hw _ (Nat.min_le_right _ _) hr
  rw [← this]
  obtain ⟨up, hup⟩ : ∃ up, up = (place - (place + (L : Int) - f.fractionBits)).toNat := ⟨_, rfl⟩
  obtain ⟨dn, hdn⟩ : ∃ dn, dn = ((place + (L : Int) - f.fractionBits) - place).toNat := ⟨_, rfl⟩
  obtain ⟨g, hg⟩ : ∃ g, g = (place + (L : Int) - f.fractionBits - f.leastPlace).toNat := ⟨_, rfl⟩
  rw [← hup, ← hdn, ← hg, Nat.shiftLeft_eq]
  have hk : 2 ^ f.fractionBits ≤ Toward.even.cut s (mag * 2 ^ up) dn := by
    refine cut_even_ge s _ dn f.fractionBits ?_
    calc 2 ^ (f.fractionBits + dn) = 2 ^ (L + up) := by congr 1; omega
      _ = 2 ^ L * 2 ^ up := Nat.pow_add _ _ _
      _ ≤ mag * 2 ^ up := Nat.mul_le_mul_right _ hL
  have e : f.binade = 2 ^ f.fractionBits := rfl
  refine Nat.le_min.2 ⟨?_, ?_⟩
  · have : (((K - f.leastPlace - f.fractionBits).toNat + 1)) * f.binade ≤ (g + 1) * f.binade := Nat.mul_le_mul_right _ (by omega)
    rw [Nat.add_mul g] at this
    omega
  · unfold Format.infRung
    exact Nat.mul_le_mul_right _ hhi

theorem nearest_word (f : Format) (s : Bool) (mag : Nat) (place : Int) : ∃ r, f.nearest s mag place = f.word s r ∧ r < f.signWeight := by
  unfold Format.nearest
  split
  · exact ⟨0, rfl, sw_pos f⟩
  · exact ⟨_, rfl, Nat.lt_of_le_of_lt (Nat.min_le_right _ _) (infRung_lt f)⟩

/-- it has no sign -/
def Plus (b : Nat) : Prop := b < 9223372036854775808

theorem plus_word {r : Nat} (h : r < Ieee.double.signWeight) : Plus (Ieee.double.word false r) := by
  have : Ieee.double.signWeight = 9223372036854775808 := by decide
  unfold Plus Format.word; simp only [Bool.false_eq_true, if_false]; omega

theorem U_plus {b : Nat} (h : Plus b) : U b = (units Ieee.double.binade b : Int) := by
  have : Ieee.double.signWeight = 9223372036854775808 := by decide
  unfold U
  unfold Plus at h
  rw [this, Nat.mod_eq_of_lt h, Nat.div_eq_of_lt h, if_neg (by decide), Int.one_mul]

theorem mul_self_plus {a r : Nat} (h : Go.floatBits .mul .f64 a a = some r) : Plus r := by
  have h' : Ieee.double.mul a a = some r := h
  unfold Format.mul at h'
  cases hd : Ieee.double.read a with
  | number s m e =>
    rw [hd] at h'
    simp only [Datum.product, Option.map_some, Option.some.injEq, Format.write, Bool.xor_self] at h'
    obtain ⟨q, h1, h2⟩ := nearest_word Ieee.double false (m * m) (e + e)
    rw [← h', h1]
    exact plus_word h2
  | infinity s =>
    rw [hd] at h'
    simp only [Datum.product, Option.map_some, Option.some.injEq, Format.write, Bool.xor_self] at h'
    rw [← h']
    exact plus_word (infRung_lt _)
  | nan s t => rw [hd] at h'; simp [Datum.product] at h'

theorem add_ge {a b r : Nat} {A B K J : Int} (ha : LeP a A) (hb : LeP b B) (hr : Go.floatBits .add .f64 a b = some r) (_hrK : LeP r K) (hJ : -1022 ≤ J) (hJ2 : J ≤ 1000)
    (h : (2 ^ (J + 1074).toNat : Nat) ≤ U a + U b) : GeP r J ∧ Plus r := by
  obtain ⟨m, e, a1, a2, a3⟩ := ha.read
  obtain ⟨n, f, b1, b2, b3⟩ := hb.read
  have hr' : Ieee.double.add a b = some r := hr
  unfold Format.add at hr'
  rw [a1, b1] at hr'
  unfold U at h
  rw [← a2, ← b2] at h
  simp only [Datum.sum, Option.map_some, Option.some.injEq, Format.write] at hr'
  rw [signed_eq, signed_eq] at hr'
  have g1 : (-1074 + (e : Int) - min (-1074 + (e : Int)) (-1074 + f)).toNat + min e f = e := by omega
  have g2 : (-1074 + (f : Int) - min (-1074 + (e : Int)) (-1074 + f)).toNat + min e f = f := by omega
  have hp : ((2 ^ min e f : Nat) : Int).natAbs = 2 ^ min e f := Int.natAbs_natCast _
  obtain ⟨tot, htot⟩ : ∃ tot : Int, tot = ((if (a / Ieee.double.signWeight % 2 == 1) then -1 else 1) * ((m * 2 ^ (-1074 + (e : Int) - min (-1074 + (e : Int)) (-1074 + f)).toNat : Nat) : Int) + (if (b / Ieee.double.signWeight % 2 == 1) then -1 else 1) * ((n * 2 ^ (-1074 + (f : Int) - min (-1074 + (e : Int)) (-1074 + f)).toNat : Nat) : Int)) := ⟨_, rfl⟩
  rw [← htot] at hr'
  have hv : tot * ((2 ^ min e f : Nat) : Int) = ((if (a / Ieee.double.signWeight % 2 == 1) then -1 else 1) * ((m * 2 ^ e : Nat) : Int) + (if (b / Ieee.double.signWeight % 2 == 1) then -1 else 1) * ((n * 2 ^ f : Nat) : Int)) := by
    rw [htot, Int.add_mul, Int.mul_assoc, Int.mul_assoc, ← Int.natCast_mul, ← Int.natCast_mul, Nat.mul_assoc, Nat.mul_assoc, ← Nat.pow_add, ← Nat.pow_add, g1, g2]
  rw [← hv] at h
  have hp0 : (0 : Int) < ((2 ^ min e f : Nat) : Int) := by exact_mod_cast Nat.two_pow_pos _
  have hpos : 0 < tot := by
    have h1 : (0 : Int) < ((2 ^ (J + 1074).toNat : Nat) : Int) := Int.natCast_pos.2 (Nat.two_pow_pos _)
    have h2 : 0 * ((2 ^ min e f : Nat) : Int) < tot * ((2 ^ min e f : Nat) : Int) := by rw [Int.zero_mul]; omega
    exact Int.lt_of_mul_lt_mul_right h2 (Int.le_of_lt hp0)
  rw [if_neg (by omega), decide_eq_false (by omega)] at hr'
  obtain ⟨q, w1, w2⟩ := nearest_word Ieee.double false tot.natAbs (min (-1074 + (e : Int)) (-1074 + f))
  have lp : Ieee.double.leastPlace = -1074 := by decide
  have fb : Ieee.double.fractionBits = 52 := rfl
  have eb : (2 : Nat) ^ Ieee.double.exponentBits = 2048 := by decide
  have hge := nearest_ge Ieee.double false tot.natAbs (min (-1074 + (e : Int)) (-1074 + f)) J (-1074) (by omega) (by omega) (by
    rw [show (J - -1074).toNat = (J + 1074).toNat from by omega, show (min (-1074 + (e : Int)) (-1074 + f) - -1074).toNat = min e f from by omega]
    have : ((tot.natAbs * 2 ^ min e f : Nat) : Int) = tot * ((2 ^ min e f : Nat) : Int) := by rw [Int.natCast_mul, Int.natAbs_of_nonneg (by omega)]
    omega) (by rw [lp, fb]; omega) (by rw [lp, fb, eb]; omega) q w1 w2
  have hq : r = q := by rw [← hr', w1]; rfl
  subst hq
  have hsw : Ieee.double.signWeight = 9223372036854775808 := by decide
  refine ⟨⟨?_, hJ⟩, by unfold Plus; omega⟩
  rw [lp, fb, show (J - -1074 - ((52 : Nat) : Int)).toNat = (J + 1022).toNat from by omega] at hge
  rw [Nat.mod_eq_of_lt w2]
  exact hge

/-! square roots -/
theorem rootFrom_sq (n : Nat) : ∀ todo root : Nat, root * root ≤ n → Datum.rootFrom n todo root * Datum.rootFrom n todo root ≤ n := by
  intro todo
  induction todo with
  | zero => intro root h; exact h
  | succ t ih =>
    intro root h
    unfold Datum.rootFrom
    simp only
    split
    · exact ih _ (by assumption)
    · exact ih _ h

theorem sqrt_le {a : Nat} {A : Int} (ha : LeP a (2 * A)) (hp : Plus a) (h1 : -1022 ≤ A) (h2 : A ≤ 1022) (h0 : -1022 ≤ 2 * A) :
    ∃ r, Ieee.double.sqrt a = some r ∧ LeP r A ∧ Plus r := by
  obtain ⟨m, e, a1, a2, a3⟩ := ha.read
  have hsw : Ieee.double.signWeight = 9223372036854775808 := by decide
  have hs : (a / Ieee.double.signWeight % 2 == 1) = false := by
    unfold Plus at hp; rw [hsw, Nat.div_eq_of_lt hp]; rfl
  rw [hs] at a1
  unfold Format.sqrt
  rw [a1]
  simp only [Datum.root, Bool.false_eq_true, if_false]
  by_cases hm : m = 0
  · rw [if_pos hm]
    subst hm
    refine ⟨_, rfl, ?_, ?_⟩
    · refine wrote (c := min (-1074 + (e : Int)) A) (by omega) (by omega) (by simp) h1 h2
    · show Plus (Ieee.double.nearest false 0 _)
      obtain ⟨q, w1, w2⟩ := nearest_word Ieee.double false 0 (-1074 + (e : Int))
      rw [w1]; exact plus_word w2
  · rw [if_neg hm]
    refine ⟨_, rfl, ?_, ?_⟩
    rotate_left
    · simp only [Format.write]
      obtain ⟨q, w1, w2⟩ := nearest_word Ieee.double false _ _
      rw [w1]; exact plus_word w2
    · simp only [Format.write]
      have fb : Ieee.double.fractionBits = 52 := rfl
      rw [fb]
      generalize hmore : 2 * (52 + 2) - m.log2 + ((-1074 + (e : Int) - ((2 * (52 + 2) - m.log2 : Nat) : Int)) % 2).toNat = more
      have hpar : (-1074 + (e : Int) - more) % 2 = 0 := by omega
      obtain ⟨h, hh⟩ : ∃ h : Int, -1074 + (e : Int) - more = 2 * h := ⟨(-1074 + (e : Int) - more) / 2, by omega⟩
      have hmL := pow_log2 hm
      have x1 : m.log2 + e ≤ (2 * A + 1074).toNat := by
        have : 2 ^ (m.log2 + e) ≤ 2 ^ (2 * A + 1074).toNat := by
          rw [Nat.pow_add]; exact Nat.le_trans (Nat.mul_le_mul_right _ hmL) a3
        exact (Nat.pow_le_pow_iff_right (by omega : 1 < 2)).1 this
      have hAh : h ≤ A := by omega
      generalize hn : m <<< more = n
      have hnle : n ≤ 2 ^ (A - h).toNat * 2 ^ (A - h).toNat := by
        rw [← hn, Nat.shiftLeft_eq, ← Nat.pow_add]
        refine Nat.le_of_mul_le_mul_right ?_ (Nat.two_pow_pos e)
        calc m * 2 ^ more * 2 ^ e = (m * 2 ^ e) * 2 ^ more := by rw [Nat.mul_right_comm]
          _ ≤ 2 ^ (2 * A + 1074).toNat * 2 ^ more := Nat.mul_le_mul_right _ a3
          _ = 2 ^ ((A - h).toNat + (A - h).toNat) * 2 ^ e := by
            rw [← Nat.pow_add, ← Nat.pow_add]; congr 1; omega
      have hsq := rootFrom_sq n (n.log2 / 2 + 1) 0 (by omega)
      generalize Datum.rootFrom n (n.log2 / 2 + 1) 0 = w at *
      have hw : w ≤ 2 ^ (A - h).toNat := by
        refine Nat.le_of_not_lt fun hlt => ?_
        have : 2 ^ (A - h).toNat * 2 ^ (A - h).toNat < w * w := Nat.mul_lt_mul'' hlt hlt
        omega
      have hd : 2 * w + (w * w != n).toNat ≤ 2 * 2 ^ (A - h).toNat := by
        rcases Nat.lt_or_ge w (2 ^ (A - h).toNat) with h' | h'
        · have : (w * w != n).toNat ≤ 1 := Bool.toNat_le _
          omega
        · have hwe : w = 2 ^ (A - h).toNat := by omega
          have : w * w = n := by rw [← hwe] at hnle; omega
          have hb : (w * w != n) = false := by rw [this]; simp
          rw [hb, hwe]; simp
      rw [hh, show 2 * h / 2 - 1 = h - 1 from by omega]
      refine wrote (c := h - 1) (by omega) (by omega) ?_ h1 h2
      rw [Int.sub_self, Int.toNat_zero, Nat.pow_zero, Nat.mul_one, show (A - (h - 1)).toNat = (A - h).toNat + 1 from by omega, Nat.pow_succ, Nat.mul_comm (2 ^ _) 2]
      exact hd

/-! narrowing -/
theorem narrow_ok {r : Nat} {K : Int} (h : LeP r K) (hK : K ≤ 126) : ∃ v, Go.floatToFloatBits .f64 r .f32 = some v ∧ v < 4294967296 ∧ nan .f32 v = false := by
  obtain ⟨m, e, a1, a2, a3⟩ := h.read
  have hlo := h.2.2.1
  have lp : Ieee.single.leastPlace = -149 := by decide
  have fb : Ieee.single.fractionBits = 23 := rfl
  have eb : (2 : Nat) ^ Ieee.single.exponentBits = 256 := by decide
  obtain ⟨J, hJ1, hJ2, hJ3⟩ : ∃ J : Int, K ≤ J ∧ -126 ≤ J ∧ J ≤ 126 := ⟨max K (-126), by omega, by omega, by omega⟩
  obtain ⟨q, w1, w2, w3⟩ := nearest_le Ieee.single (r / Ieee.double.signWeight % 2 == 1) m (-1074 + e) J (-1074) (by omega) (by omega)
    (by rw [show (-1074 + (e : Int) - -1074).toNat = e from by omega]
        exact Nat.le_trans a3 (Nat.pow_le_pow_right (by omega) (by omega))) (by rw [lp, fb]; omega) (by rw [lp, fb, eb]; omega)
  have hq : q < Ieee.single.signWeight := Nat.lt_trans w3 (infRung_lt _)
  obtain ⟨g1, g2⟩ := word_mod Ieee.single (r / Ieee.double.signWeight % 2 == 1) q hq
  have hd : Go.FloatKind.f64.decode r = .number (r / Ieee.double.signWeight % 2 == 1) m (-1074 + e) := a1
  refine ⟨Ieee.single.nearest (r / Ieee.double.signWeight % 2 == 1) m (-1074 + e), ?_, ?_, ?_⟩
  · unfold Go.floatToFloatBits
    rw [if_neg (by decide), hd]
    simp only
    rw [if_neg]
    · rfl
    · show ¬ (Ieee.single.read (Ieee.single.nearest _ m _)).isInfinity = true
      rw [w1]
      obtain ⟨m', e', q1, _⟩ := read_num Ieee.single (Ieee.single.word (r / Ieee.double.signWeight % 2 == 1) q) (by omega)
      rw [q1]; simp [Datum.isInfinity]
  · rw [w1]; exact Ieee.Format.word_lt Ieee.single _ hq
  · rw [w1]; exact nan_false (by show _ % Ieee.single.signWeight ≤ Ieee.single.infRung; omega)

def e277 : Nat := 277
theorem W_LeP {b : Nat} (h : fin .f32 b = true) : LeP (W b) 128 := by
  have hn := fin_num h
  obtain ⟨h1, h2, h3⟩ := W_spec b hn
  have hf : b % Ieee.single.signWeight < Ieee.single.infRung := of_decide_eq_true h
  rcases h3 with ⟨_, h4, h5⟩ | ⟨h4, _⟩
  · refine ⟨W_lt b, ?_, by omega, by omega⟩
    have hB := bin_pos Ieee.double
    have : units Ieee.double.binade (W b % Ieee.double.signWeight) ≤ 2 ^ (52 + (128 + 1022 : Int).toNat) := by
      rw [h5]
      have u1 := units_lt (bin_pos Ieee.single) hf
      have u2 : units Ieee.single.binade Ieee.single.infRung = 2 ^ e277 := by decide +kernel
      rw [u2] at u1
      have e : 52 + (128 + 1022 : Int).toNat = e277 + sh := by decide
      rw [e, Nat.pow_add]
      exact Nat.mul_le_mul_right _ (by omega)
    rw [← units_pow] at this
    rcases Nat.lt_or_ge (((128 + 1022 : Int).toNat + 1) * Ieee.double.binade) (W b % Ieee.double.signWeight) with hlt | hge
    · have := units_lt hB hlt; omega
    · exact hge
  · omega

theorem nan_read {k : Go.FloatKind} {b : Nat} (h : nan k b = true) : ∃ s t, k.format.read b = .nan s t := by
  obtain ⟨t, ht⟩ := read_nan k.format b (by simpa [nan] using h) (bin_le k)
  exact ⟨_, t, ht⟩
theorem sqrt_nan {a : Nat} (h : nan .f64 a = true) : Ieee.double.sqrt a = none := by
  obtain ⟨s, t, ht⟩ := nan_read h
  unfold Format.sqrt; rw [show Ieee.double.read a = _ from ht]; rfl
end Flt
