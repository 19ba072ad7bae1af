/-
  Quarters of a turn taken away without rounding, and the parts of a phasor. Plain facts; no conditions beyond those stated.
-/
import Derived.Test.YtmgmelbpggedkacAng
namespace Flt
open Ieee

/-! exact differences; quarters of a turn -/
theorem log2_mul_pow {m k : Nat} (hm : m ≠ 0) : (m * 2 ^ k).log2 = m.log2 + k := by
  have hp : 0 < 2 ^ k := Nat.two_pow_pos _
  refine (Nat.log2_eq_iff (Nat.pos_iff_ne_zero.1 (Nat.mul_pos (by omega) hp))).2 ⟨?_, ?_⟩
  · rw [Nat.pow_add]; exact Nat.mul_le_mul_right _ (Nat.log2_self_le hm)
  · rw [show m.log2 + k + 1 = m.log2 + 1 + k from by omega, Nat.pow_add]; exact Nat.mul_lt_mul_of_pos_right Nat.lt_log2_self hp

theorem nearest_shift (f : Format) (s : Bool) (m k : Nat) (p : Int) (hm : m ≠ 0) (hL : m.log2 ≤ f.fractionBits) (hlow : f.leastPlace ≤ p + k + m.log2 - f.fractionBits) :
    f.nearest s (m * 2 ^ k) p = f.nearest s m (p + k) := by
  have hp : 0 < 2 ^ k := Nat.two_pow_pos _
  have h0 : m * 2 ^ k ≠ 0 := Nat.pos_iff_ne_zero.1 (Nat.mul_pos (by omega) hp)
  unfold Format.nearest
  rw [if_neg hm, if_neg h0, log2_mul_pow hm]
  simp only
  generalize m.log2 = L at *
  have e1 : max (p + ((L + k : Nat) : Int) - f.fractionBits) f.leastPlace = p + k + L - f.fractionBits := by omega
  have e2 : max (p + (k : Int) + L - f.fractionBits) f.leastPlace = p + k + L - f.fractionBits := by omega
  rw [e1, e2]
  have e3 : (p + (k : Int) + L - f.fractionBits - (p + k)).toNat = 0 := by omega
  have e4 : (p + (k : Int) - (p + k + L - f.fractionBits)).toNat = f.fractionBits - L := by omega
  rw [e3, e4, cut_zero, Nat.shiftLeft_eq, Nat.shiftLeft_eq]
  congr 3
  by_cases h : k ≤ f.fractionBits - L
  · rw [show (p + (k : Int) + L - f.fractionBits - p).toNat = 0 from by omega, cut_zero, show (p - (p + (k : Int) + L - f.fractionBits)).toNat = f.fractionBits - L - k from by omega,
      Nat.mul_assoc, ← Nat.pow_add, show k + (f.fractionBits - L - k) = f.fractionBits - L from by omega]
  · rw [show (p - (p + (k : Int) + L - f.fractionBits)).toNat = 0 from by omega, Nat.pow_zero, Nat.mul_one, show (p + (k : Int) + L - f.fractionBits - p).toNat = k - (f.fractionBits - L) from by omega]
    have : m * 2 ^ k = m * 2 ^ (f.fractionBits - L) * 2 ^ (k - (f.fractionBits - L)) := by
      rw [Nat.mul_assoc, ← Nat.pow_add]; congr 2; omega
    rw [this, cut_exact]

def E1020 : Nat := 1020
/-- a quarter less: without rounding -/
theorem quart_exact {f : Nat} (h1 : quartW ≤ f) (h2 : f ≤ 4611686018427387904) : ∃ r, Go.floatBits .sub .f64 f quartW = some r ∧ LeP r 1 ∧ Plus r ∧ (units Ieee.double.binade r : Int) = units Ieee.double.binade f - units Ieee.double.binade quartW := by
  have hq : quartW = 4598175219545276416 := rfl
  obtain ⟨m, q, r1, r2, r3, r4⟩ := read_norm f (by omega) (by omega)
  have hr : Ieee.double.read quartW = .number false 4503599627370496 (-1074 + (1020 : Nat)) := by decide
  have hqle : 1020 ≤ q := by omega
  have hqge : q ≤ 1023 := by omega
  obtain ⟨k, rfl⟩ : ∃ k, q = 1020 + k := ⟨q - 1020, by omega⟩
  have hk : k = 0 ∨ k = 1 ∨ k = 2 ∨ k = 3 := by omega
  obtain ⟨n, hn1, hn2⟩ : ∃ n, m * 2 ^ k = n * 2 ^ k + 4503599627370496 ∧ n < 2 ^ 53 := by
    refine ⟨m - 2 ^ (52 - k), ?_, Nat.lt_of_le_of_lt (Nat.sub_le _ _) r3⟩
    have e52 : (2 : Nat) ^ 52 = 4503599627370496 := by decide
    rcases hk with rfl | rfl | rfl | rfl
    · omega
    · rw [show (52 : Nat) - 1 = 51 from rfl, show (2 : Nat) ^ 51 = 2251799813685248 from by decide]; omega
    · rw [show (52 : Nat) - 2 = 50 from rfl, show (2 : Nat) ^ 50 = 1125899906842624 from by decide]; omega
    · rw [show (52 : Nat) - 3 = 49 from rfl, show (2 : Nat) ^ 49 = 562949953421312 from by decide]; omega
  have hval : Go.floatBits .sub .f64 f quartW = some (Ieee.double.nearest false (n * 2 ^ k) (-1074 + (1020 : Nat))) := by
    show Ieee.double.sub f quartW = _
    unfold Format.sub
    rw [r1, hr]
    simp only [Datum.opposite, Datum.sum, Option.map_some, Option.some.injEq]
    have b1 : min (-1074 + ((1020 + k : Nat) : Int)) (-1074 + ((1020 : Nat) : Int)) = -1074 + ((1020 : Nat) : Int) := by omega
    rw [b1, show (-1074 + ((1020 + k : Nat) : Int) - (-1074 + ((1020 : Nat) : Int))).toNat = k from by omega, Int.sub_self, Int.toNat_zero, signed_eq, signed_eq, hn1]
    have t : (if false = true then (-1 : Int) else 1) * ((n * 2 ^ k + 4503599627370496 : Nat) : Int) + (if (!false) = true then (-1 : Int) else 1) * ((4503599627370496 * 2 ^ 0 : Nat) : Int) = ((n * 2 ^ k : Nat) : Int) := by
      simp; omega
    rw [t, Int.natAbs_natCast]
    have hneg : (if ((n * 2 ^ k : Nat) : Int) = 0 then (false && !false) else decide (((n * 2 ^ k : Nat) : Int) < 0)) = false := by
      by_cases hz : ((n * 2 ^ k : Nat) : Int) = 0
      · rw [if_pos hz]; rfl
      · rw [if_neg hz]; exact decide_eq_false (by omega)
    rw [hneg]
    rfl
  have u1 : units Ieee.double.binade f = m * 2 ^ (E1020 + k) := by
    have hsw : Ieee.double.signWeight = 9223372036854775808 := by decide
    have hi : f % Ieee.double.signWeight < Ieee.double.infRung := by
      have : Ieee.double.infRung = 9218868437227405312 := by decide
      rw [hsw, this]; omega
    obtain ⟨m', e', x1, x2, _⟩ := read_num Ieee.double f hi
    rw [r1] at x1
    simp only [Datum.number.injEq] at x1
    have lp : Ieee.double.leastPlace = -1074 := by decide
    rw [hsw, Nat.mod_eq_of_lt (by omega)] at x2
    rw [← x2, ← x1.2.1]
    congr 2
    have := x1.2.2
    rw [lp] at this
    unfold E1020
    omega
  have u2 : units Ieee.double.binade quartW = 4503599627370496 * 2 ^ E1020 := by decide +kernel
  refine ⟨_, hval, ?_⟩
  by_cases hz : n = 0
  · subst hz
    have : Ieee.double.nearest false (0 * 2 ^ k) (-1074 + (1020 : Nat)) = 0 := by unfold Format.nearest; simp [Format.word]
    rw [this]
    refine ⟨zero_le'.mono (by omega) (by omega), by unfold Plus; decide, ?_⟩
    rw [units_zero _ (bin_pos _), u1, u2, Nat.pow_add, Nat.mul_comm (2 ^ E1020), ← Nat.mul_assoc, hn1, Nat.zero_mul, Nat.zero_add]
    omega
  · have lp : Ieee.double.leastPlace = -1074 := by decide
    have fb : Ieee.double.fractionBits = 52 := rfl
    have eb : (2 : Nat) ^ Ieee.double.exponentBits = 2048 := by decide
    have hL : n.log2 ≤ 52 := by
      have := (Nat.log2_lt hz).2 hn2
      omega
    rw [nearest_shift Ieee.double false n k _ hz (by rw [fb]; exact hL) (by rw [lp, fb]; omega)]
    obtain ⟨r, w1, w2, w3⟩ := nearest_exact Ieee.double false n (-1074 + (1020 : Nat) + k) hz (by rw [fb]; exact hL) (by rw [lp, fb]; omega) (by rw [lp, fb, eb]; omega)
    have hu : units Ieee.double.binade r = units Ieee.double.binade f - units Ieee.double.binade quartW := by
      rw [w3, u1, u2, lp, show (-1074 + ((1020 : Nat) : Int) + k - -1074).toNat = E1020 + k from by unfold E1020; omega, Nat.pow_add, Nat.mul_comm (2 ^ E1020), ← Nat.mul_assoc, ← Nat.mul_assoc, hn1, Nat.add_mul, Nat.add_sub_cancel]
    have hle : units Ieee.double.binade quartW ≤ units Ieee.double.binade f := units_le (bin_pos _) h1
    have hrf : r ≤ f := by
      refine Nat.le_of_not_lt fun hlt => ?_
      have := units_lt (bin_pos Ieee.double) hlt
      omega
    have hw : Ieee.double.word false r = r := rfl
    rw [w1, hw]
    have e1 : (((1 : Int) + 1022).toNat + 1) * Ieee.double.binade = 4611686018427387904 := by decide
    have hsw : Ieee.double.signWeight = 9223372036854775808 := by decide
    refine ⟨⟨by omega, ?_, by omega, by omega⟩, by unfold Plus; omega, by omega⟩
    rw [e1, hsw, Nat.mod_eq_of_lt (by omega)]; omega

/-- quarters taken away, and how many -/
def qr : Nat → Nat → Int → Nat × Int
  | 0, f, q => (f, q)
  | n + 1, f, q => if S .f64 quartW ≤ S .f64 f then qr n (fo .sub f quartW) (q + 1) else (f, q)
def PhI (f0 n f : Nat) (q : Int) : Prop := qr n f q = qr 8 f0 0 ∧ LeP f 1 ∧ U f ≤ (n : Int) * (units Ieee.double.binade quartW : Int) ∧ q + n = 8 ∧ n ≤ 8

theorem ph_start {f0 : Nat} (h : LeP f0 1) : PhI f0 8 f0 0 := by
  refine ⟨rfl, h, ?_, by omega, by omega⟩
  have h1 := U_le h
  have e : (2 : Nat) ^ (1 + 1074 : Int).toNat = 8 * units Ieee.double.binade quartW := by decide +kernel
  rw [e] at h1
  omega
theorem ph_geq {f : Nat} (h : LeP f 1) (c : S .f64 quartW ≤ S .f64 f) : quartW ≤ f ∧ f ≤ 4611686018427387904 := by
  obtain ⟨l1, l2, _, _⟩ := h
  have e1 : (((1 : Int) + 1022).toNat + 1) * Ieee.double.binade = 4611686018427387904 := by decide
  have hsw : Ieee.double.signWeight = 9223372036854775808 := by decide
  rw [e1, hsw] at l2
  rw [S64 f l1, S64 quartW (by decide), if_pos (by decide : quartW < 9223372036854775808)] at c
  have hq : quartW = 4598175219545276416 := rfl
  split at c
  · omega
  · omega
theorem ph_more {f0 n f : Nat} {q : Int} (h : PhI f0 n f q) (c : S .f64 quartW ≤ S .f64 f) : ∃ r m, Go.floatBits .sub .f64 f quartW = some r ∧ n = m + 1 ∧ PhI f0 m r (q + 1) ∧ 0 ≤ q ∧ q ≤ 8 := by
  obtain ⟨h1, h2, h3, h4, h5⟩ := h
  obtain ⟨g1, g2⟩ := ph_geq h2 c
  obtain ⟨r, r1, r2, r3, r4⟩ := quart_exact g1 g2
  have pf : Plus f := by unfold Plus; omega
  have uf := U_plus pf
  have ur := U_plus r3
  have hle := units_le (bin_pos Ieee.double) g1
  have hpos : 0 < units Ieee.double.binade quartW := by
    have := units_lt (bin_pos Ieee.double) (show 0 < quartW by decide); omega
  have hn : n ≠ 0 := by
    rintro rfl
    rw [uf] at h3
    simp at h3
    omega
  obtain ⟨m, rfl⟩ : ∃ m, n = m + 1 := ⟨n - 1, by omega⟩
  refine ⟨r, m, r1, rfl, ⟨?_, r2, ?_, by omega, by omega⟩, by omega, by omega⟩
  · unfold qr at h1
    rw [if_pos c, fo_eq r1] at h1
    exact h1
  · rw [ur, r4, ← uf]
    have : ((m + 1 : Nat) : Int) * (units Ieee.double.binade quartW : Int) = (m : Int) * (units Ieee.double.binade quartW : Int) + (units Ieee.double.binade quartW : Int) := by
      rw [Int.natCast_add, Int.add_mul]; simp
    omega
theorem ph_done {f0 n f : Nat} {q : Int} (h : PhI f0 n f q) (c : ¬ S .f64 quartW ≤ S .f64 f) : qr 8 f0 0 = (f, q) ∧ LeP f 1 ∧ 0 ≤ q ∧ q ≤ 8 := by
  obtain ⟨h1, h2, h3, h4, h5⟩ := h
  refine ⟨?_, h2, by omega, by omega⟩
  rw [← h1]
  cases n with
  | zero => rfl
  | succ n => unfold qr; rw [if_neg c]

def nw (y : Nat) : Nat := (Go.floatToFloatBits .f64 y .f32).getD 0
def phC (f : Nat) : Nat := sineW (fo .sub quartW f)
def phS (f : Nat) : Nat := sineW f
def ph2 (f : Nat) (q : Int) : Nat × Nat :=
  if q = 1 then (nw (fo .sub 0 (phS f)), nw (phC f)) else if q = 2 then (nw (fo .sub 0 (phC f)), nw (fo .sub 0 (phS f))) else if q = 3 then (nw (phS f), nw (fo .sub 0 (phC f))) else (nw (phC f), nw (phS f))
/-- the phasor's parts -/
def ph (x : Nat) : Nat × Nat := ph2 (qr 8 (partC x) 0).1 (qr 8 (partC x) 0).2

theorem nw_ok {y : Nat} {K : Int} (h : LeP y K) (hK : K ≤ 126) : Go.floatToFloatBits .f64 y .f32 = some (nw y) ∧ nw y < 4294967296 ∧ nan .f32 (nw y) = false := by
  obtain ⟨v, v1, v2, v3⟩ := narrow_ok h hK
  have : nw y = v := by unfold nw; rw [v1]; rfl
  rw [this]; exact ⟨v1, v2, v3⟩
theorem small_mod {x : Nat} {K : Int} (h : LeP x K) (hK : K ≤ 51) : x % 9223372036854775808 < 4841369599423283200 := by
  obtain ⟨l1, l2, l3, _⟩ := h
  have hsw : Ieee.double.signWeight = 9223372036854775808 := by decide
  have hb : Ieee.double.binade = 4503599627370496 := by decide
  have : ((K + 1022).toNat + 1) * Ieee.double.binade ≤ 1074 * Ieee.double.binade := Nat.mul_le_mul_right _ (by omega)
  rw [hsw] at l2
  rw [hb] at this l2
  omega
theorem ph_parts {f : Nat} (h : LeP f 1) : ∃ d c1 s1, Go.floatBits .sub .f64 quartW f = some d ∧ LeP d 2 ∧ d = fo .sub quartW f ∧ LeP (phC f) 94 ∧ LeP (phS f) 94 ∧
    Go.floatBits .sub .f64 0 (phC f) = some c1 ∧ Go.floatBits .sub .f64 0 (phS f) = some s1 ∧ LeP c1 95 ∧ LeP s1 95 ∧ c1 = fo .sub 0 (phC f) ∧ s1 = fo .sub 0 (phS f) := by
  obtain ⟨d, d1, d2⟩ := sub_le (K := 2) quart_le h (by omega) (by omega) (by omega)
  have hd := (fo_eq d1).symm
  have hc : LeP (phC f) 94 := by unfold phC; rw [← hd]; exact sineW_le (d2.mono (by omega) (by omega))
  have hs : LeP (phS f) 94 := sineW_le (h.mono (by omega) (by omega))
  obtain ⟨c1, c2, c3⟩ := sub_le (K := 95) zero_le' hc (by omega) (by omega) (by omega)
  obtain ⟨s1, s2, s3⟩ := sub_le (K := 95) zero_le' hs (by omega) (by omega) (by omega)
  exact ⟨d, c1, s1, d1, d2, hd, hc, hs, c2, s2, c3, s3, (fo_eq c2).symm, (fo_eq s2).symm⟩
end Flt
