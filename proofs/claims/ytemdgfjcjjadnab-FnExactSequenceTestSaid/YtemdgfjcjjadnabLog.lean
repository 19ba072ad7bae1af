/-
  The logarithm of a float64 as the program computes it: its steps, each with a result, and their bounds. Plain facts; no conditions beyond those stated.
-/
import Derived.Test.YtemdgfjcjjadnabBnd
import Derived.Laws.Cover2
namespace Flt
open Ieee

theorem geB (k : Go.FloatKind) (a b : Nat) (ha : nan k a = false) (hb : nan k b = false) : (k.format.order a b == some .gt || k.format.order a b == some .eq) = decide (S k b ≤ S k a) := by
  rw [gtB k a b ha hb, eqB k a b ha hb, Bool.eq_iff_iff]; simp; omega
theorem leB (k : Go.FloatKind) (a b : Nat) (ha : nan k a = false) (hb : nan k b = false) : (k.format.order a b == some .lt || k.format.order a b == some .eq) = decide (S k a ≤ S k b) := by
  rw [ltB k a b ha hb, eqB k a b ha hb, Bool.eq_iff_iff]; simp; omega

theorem S_plus {x : Nat} (h : Plus x) : S .f64 x = x := by
  unfold Plus at h; rw [S64 x (by omega), if_pos h]

/-- an operation's result, where it has one -/
def fo (op : Go.BinOp) (a b : Nat) : Nat := (Go.floatBits op .f64 a b).getD 0
theorem fo_eq {op : Go.BinOp} {a b r : Nat} (h : Go.floatBits op .f64 a b = some r) : fo op a b = r := by unfold fo; rw [h]; rfl

theorem plus_product {m n : Nat} {e f : Int} : Plus (Ieee.double.nearest false (m * n) (e + f)) := by
  obtain ⟨q, h1, h2⟩ := nearest_word Ieee.double false (m * n) (e + f)
  rw [h1]; exact plus_word h2

theorem read_plus {b : Nat} {K : Int} (h : LeP b K) (hp : Plus b) : ∃ m e : Nat, Ieee.double.read b = .number false m (-1074 + e) ∧ m * 2 ^ e = units Ieee.double.binade (b % Ieee.double.signWeight) ∧ m * 2 ^ e ≤ 2 ^ (K + 1074).toNat := by
  obtain ⟨m, e, a1, a2, a3⟩ := h.read
  have hsw : Ieee.double.signWeight = 9223372036854775808 := by decide
  have hs : (b / Ieee.double.signWeight % 2 == 1) = false := by
    unfold Plus at hp; rw [hsw, Nat.div_eq_of_lt hp]; rfl
  rw [hs] at a1
  exact ⟨m, e, a1, a2, a3⟩

theorem mul_plus {a b r : Nat} {A B : Int} (ha : LeP a A) (hb : LeP b B) (pa : Plus a) (pb : Plus b) (h : Go.floatBits .mul .f64 a b = some r) : Plus r := by
  obtain ⟨m, e, a1, _, _⟩ := read_plus ha pa
  obtain ⟨n, f, b1, _, _⟩ := read_plus hb pb
  have h' : Ieee.double.mul a b = some r := h
  unfold Format.mul at h'
  rw [a1, b1] at h'
  simp only [Datum.product, Option.map_some, Option.some.injEq, Format.write, Bool.xor_self] at h'
  rw [← h']; exact plus_product

theorem quo_plus {a b r : Nat} {A B : Int} (ha : LeP a A) (hb : LeP b B) (pa : Plus a) (pb : Plus b) (h : Go.floatBits .quo .f64 a b = some r) : Plus r := by
  obtain ⟨m, e, a1, _, _⟩ := read_plus ha pa
  obtain ⟨n, f, b1, _, _⟩ := read_plus hb pb
  have h' : Ieee.double.div a b = some r := h
  unfold Format.div at h'
  rw [a1, b1] at h'
  simp only [Datum.quotient] at h'
  split at h'
  · split at h'
    · simp at h'
    · simp only [Option.map_some, Option.some.injEq, Format.write, Bool.xor_self] at h'
      rw [← h']; exact plus_word (infRung_lt _)
  · simp only [Option.map_some, Option.some.injEq, Format.write, Bool.xor_self] at h'
    obtain ⟨q, h1, h2⟩ := nearest_word Ieee.double false (2 * (m <<< (double.fractionBits + 2 + n.log2 - m.log2) / n) + (m <<< (double.fractionBits + 2 + n.log2 - m.log2) % n != 0).toNat) (-1074 + (e : Int) - (-1074 + f) - ((double.fractionBits + 2 + n.log2 - m.log2 : Nat) : Int) - 1)
    rw [← h', h1]; exact plus_word h2

theorem mul_ge {a b r : Nat} {A B J I : Int} (ha : LeP a A) (hb : LeP b B) (pa : Plus a) (pb : Plus b) (ga : GeP a J) (gb : GeP b I) (h1 : -1022 ≤ J + I) (h2 : J + I ≤ 1000)
    (h : Go.floatBits .mul .f64 a b = some r) : GeP r (J + I) := by
  obtain ⟨m, e, a1, a2, _⟩ := read_plus ha pa
  obtain ⟨n, f, b1, b2, _⟩ := read_plus hb pb
  have g1 := ga.units
  have g2 := gb.units
  rw [← a2] at g1
  rw [← b2] at g2
  have h' : Ieee.double.mul a b = some r := h
  unfold Format.mul at h'
  rw [a1, b1] at h'
  simp only [Datum.product, Option.map_some, Option.some.injEq, Format.write, Bool.xor_self] at h'
  obtain ⟨q, w1, w2⟩ := nearest_word Ieee.double false (m * n) (-1074 + (e : Int) + (-1074 + f))
  have lp : Ieee.double.leastPlace = -1074 := by decide
  have fb : Ieee.double.fractionBits = 52 := rfl
  have eb : (2 : Nat) ^ Ieee.double.exponentBits = 2048 := by decide
  have q1 := ga.2
  have q2 := gb.2
  have hge := nearest_ge Ieee.double false (m * n) (-1074 + (e : Int) + (-1074 + f)) (J + I) (-2148) (by omega) (by omega) (by
    rw [show (-1074 + (e : Int) + (-1074 + f) - -2148).toNat = e + f from by omega, Nat.pow_add, show m * n * (2 ^ e * 2 ^ f) = (m * 2 ^ e) * (n * 2 ^ f) from by rw [Nat.mul_mul_mul_comm],
      show (J + I - -2148).toNat = (J + 1074).toNat + (I + 1074).toNat from by omega, Nat.pow_add]
    exact Nat.mul_le_mul g1 g2) (by rw [lp, fb]; omega) (by rw [lp, fb, eb]; omega) q w1 w2
  have hq : r = q := by rw [← h', w1]; rfl
  subst hq
  refine ⟨?_, h1⟩
  rw [lp, fb, show (J + I - -1074 - ((52 : Nat) : Int)).toNat = (J + I + 1022).toNat from by omega] at hge
  rw [Nat.mod_eq_of_lt w2]
  exact hge

/-- whole numbers as floats -/
theorem ofInt_le (n : Int) (K : Nat) (h : n.natAbs ≤ 2 ^ K) (hK : K ≤ 1000) : LeP (Go.floatOfInt .f64 n) K := by
  show LeP (Ieee.double.nearest (n < 0) n.natAbs 0) K
  exact wrote (c := 0) (by omega) (by omega) (by simpa using h) (by omega) (by omega)
theorem ofInt_ge (n : Int) (J : Nat) (h0 : 0 < n) (h : 2 ^ J ≤ n.natAbs) (hJ : J ≤ 1000) : GeP (Go.floatOfInt .f64 n) J ∧ Plus (Go.floatOfInt .f64 n) := by
  have e : Go.floatOfInt .f64 n = Ieee.double.nearest false n.natAbs 0 := by
    show Ieee.double.nearest (n < 0) n.natAbs 0 = _
    rw [decide_eq_false (by omega)]
  rw [e]
  obtain ⟨q, w1, w2⟩ := nearest_word Ieee.double false n.natAbs 0
  have lp : Ieee.double.leastPlace = -1074 := by decide
  have fb : Ieee.double.fractionBits = 52 := rfl
  have eb : (2 : Nat) ^ Ieee.double.exponentBits = 2048 := by decide
  have hge := nearest_ge Ieee.double false n.natAbs 0 J 0 (by omega) (by omega) (by simpa using h) (by rw [lp, fb]; omega) (by rw [lp, fb, eb]; omega) q w1 w2
  rw [lp, fb, show ((J : Int) - -1074 - ((52 : Nat) : Int)).toNat = ((J : Int) + 1022).toNat from by omega] at hge
  rw [w1]
  refine ⟨⟨?_, by omega⟩, plus_word w2⟩
  rw [(word_mod Ieee.double false q w2).1]
  exact hge

abbrev oneW : Nat := 4607182418800017408
abbrev twoW : Nat := 4611686018427387904
theorem one_le : LeP oneW 0 := by refine ⟨by decide, by decide, by omega, by omega⟩
theorem one_ge : GeP oneW 0 := by refine ⟨by decide, by omega⟩
theorem one_plus : Plus oneW := by unfold Plus; decide
theorem two_le : LeP twoW 1 := by refine ⟨by decide, by decide, by omega, by omega⟩
theorem two_ge : GeP twoW 1 := by refine ⟨by decide, by omega⟩
theorem two_plus : Plus twoW := by unfold Plus; decide
theorem zero_le' : LeP 0 0 := by refine ⟨by decide, by decide, by omega, by omega⟩
theorem U_zero_le {a : Nat} (h : Plus a) : 0 ≤ U a := by rw [U_plus h]; omega

/-- halved till it is less than 1.5, and how often -/
def hv : Nat → Nat → Int → Nat × Int
  | 0, x, e => (x, e)
  | n + 1, x, e => if 4609434218613702656 ≤ x then hv n (fo .quo x twoW) (e + 1) else (x, e)
/-- doubled till it is at least 0.75 -/
def dbl : Nat → Nat → Int → Nat × Int
  | 0, x, e => (x, e)
  | n + 1, x, e => if x < 4604930618986332160 then dbl n (fo .mul x twoW) (e - 1) else (x, e)
def qC (u : Nat) : Nat → Nat
  | 0 => 0
  | j + 1 => fo .add (fo .quo oneW (Go.floatOfInt .f64 (25 - 2 * (j : Int)))) (fo .mul u (qC u j))
def sC (x : Nat) : Nat := fo .quo (fo .sub x oneW) (fo .add x oneW)
def lnE (x : Nat) (e : Int) : Nat := fo .add (fo .mul twoW (fo .mul (sC x) (qC (fo .mul (sC x) (sC x)) 13))) (fo .mul (Go.floatOfInt .f64 e) 4604418534313441775)
def logC (x : Nat) : Nat := lnE (dbl 2000 (hv 2000 x 0).1 (hv 2000 x 0).2).1 (dbl 2000 (hv 2000 x 0).1 (hv 2000 x 0).2).2

/-! halving and doubling move the exponent alone -/
theorem cut_exact (s : Bool) (m j : Nat) : Toward.even.cut s (m * 2 ^ j) j = m := by
  by_cases hm : m = 0
  · subst hm
    unfold Toward.cut
    simp
  unfold Toward.cut
  have hj : j ≤ (m * 2 ^ j).log2 + 2 := by
    have h1 : 2 ^ j ≤ m * 2 ^ j := Nat.le_mul_of_pos_left _ (by omega)
    have h2 : 2 ^ j < 2 ^ ((m * 2 ^ j).log2 + 1) := Nat.lt_of_le_of_lt h1 Nat.lt_log2_self
    have := (Nat.pow_lt_pow_iff_right (by omega : 1 < 2)).1 h2
    omega
  simp only [Nat.shiftLeft_eq, Nat.one_mul]
  rw [Nat.min_eq_left hj, Nat.mul_div_cancel _ (Nat.two_pow_pos _), Nat.mul_mod_left]
  have : 0 < 2 ^ j := Nat.two_pow_pos _
  simp

theorem log2_full {m : Nat} (h1 : 2 ^ 52 ≤ m) (h2 : m < 2 ^ 53) : m.log2 = 52 := (Nat.log2_eq_iff (by omega)).2 ⟨h1, h2⟩
theorem log2_shift {m j : Nat} (h1 : 2 ^ 52 ≤ m) (h2 : m < 2 ^ 53) : (m * 2 ^ j).log2 = 52 + j := by
  refine (Nat.log2_eq_iff (by have : 0 < 2 ^ j := Nat.two_pow_pos _; have : 0 < m * 2 ^ j := Nat.mul_pos (by omega) this; omega)).2 ⟨?_, ?_⟩
  · rw [Nat.pow_add]; exact Nat.mul_le_mul_right _ h1
  · rw [show 52 + j + 1 = 53 + j from by omega, Nat.pow_add]; exact Nat.mul_lt_mul_of_pos_right h2 (Nat.two_pow_pos _)

theorem nearest_full (m : Nat) (q j : Nat) (h1 : 2 ^ 52 ≤ m) (h2 : m < 2 ^ 53) (hq : q < 2045) :
    Ieee.double.nearest false (m * 2 ^ j) (-1074 + (q : Int) - j) = q * 4503599627370496 + m := by
  have lp : Ieee.double.leastPlace = -1074 := by decide
  have fb : Ieee.double.fractionBits = 52 := rfl
  have hb : Ieee.double.binade = 4503599627370496 := by decide
  have hi : Ieee.double.infRung = 9218868437227405312 := by decide
  have h0 : m * 2 ^ j ≠ 0 := by have : 0 < 2 ^ j := Nat.two_pow_pos _; have : 0 < m * 2 ^ j := Nat.mul_pos (by omega) this; omega
  unfold Format.nearest
  rw [if_neg h0]
  simp only
  rw [log2_shift h1 h2, lp, fb, hb, hi]
  have e1 : max (-1074 + (q : Int) - j + ((52 + j : Nat) : Int) - ((52 : Nat) : Int)) (-1074) = -1074 + q := by omega
  rw [e1, show (-1074 + (q : Int) - j - (-1074 + q)).toNat = 0 from by omega, show (-1074 + (q : Int) - (-1074 + (q : Int) - j)).toNat = j from by omega,
    show (-1074 + (q : Int) - -1074).toNat = q from by omega, Nat.shiftLeft_zero, cut_exact]
  have h53 : m < 9007199254740992 := h2
  unfold Format.word
  simp only [Bool.false_eq_true, if_false]
  omega

theorem read_norm (y : Nat) (h1 : 4503599627370496 ≤ y) (h2 : y < 9218868437227405312) :
    ∃ m q : Nat, Ieee.double.read y = .number false m (-1074 + q) ∧ 2 ^ 52 ≤ m ∧ m < 2 ^ 53 ∧ y = q * 4503599627370496 + m := by
  have hsw : Ieee.double.signWeight = 9223372036854775808 := by decide
  have hb : Ieee.double.binade = 4503599627370496 := by decide
  have hi : Ieee.double.infRung = 9218868437227405312 := by decide
  have lp : Ieee.double.leastPlace = -1074 := by decide
  refine ⟨4503599627370496 + y % 4503599627370496, y / 4503599627370496 - 1, ?_, by omega, by omega, by omega⟩
  unfold Format.read
  simp only
  rw [hsw, hb, hi, lp, Nat.mod_eq_of_lt (by omega), Nat.div_eq_of_lt (by omega), if_neg (by omega), if_pos h2]
  rfl

theorem half_exact {y : Nat} (h1 : 9007199254740992 ≤ y) (h2 : y < 9200000000000000000) : Go.floatBits .quo .f64 y twoW = some (y - 4503599627370496) := by
  obtain ⟨m, q, r1, r2, r3, r4⟩ := read_norm y (by omega) (by omega)
  have ht : Ieee.double.read twoW = .number false 4503599627370496 (-51) := by decide
  show Ieee.double.div y twoW = _
  unfold Format.div
  rw [r1, ht]
  simp only [Datum.quotient]
  rw [if_neg (by decide)]
  have l1 : Nat.log2 4503599627370496 = 52 := log2_full (by decide) (by decide)
  have fb : Ieee.double.fractionBits = 52 := rfl
  rw [fb, l1, log2_full r2 r3, Nat.shiftLeft_eq]
  have d1 : m * 2 ^ (52 + 2 + 52 - 52) / 4503599627370496 = m * 4 := by
    rw [show (2 : Nat) ^ (52 + 2 + 52 - 52) = 4 * 4503599627370496 from by decide, ← Nat.mul_assoc, Nat.mul_div_cancel _ (by decide)]
  have d2 : m * 2 ^ (52 + 2 + 52 - 52) % 4503599627370496 = 0 := by
    rw [show (2 : Nat) ^ (52 + 2 + 52 - 52) = 4 * 4503599627370496 from by decide, ← Nat.mul_assoc, Nat.mul_mod_left]
  simp only [Option.map_some, Option.some.injEq, d1, d2]
  have hq1 : 1 ≤ q := by omega
  have := nearest_full m (q - 1) 3 r2 r3 (by omega)
  rw [show 2 * (m * 4) + (0 != 0 : Bool).toNat = m * 2 ^ 3 from by simp; omega, show -1074 + (q : Int) - -51 - ((52 + 2 + 52 - 52 : Nat) : Int) - 1 = -1074 + ((q - 1 : Nat) : Int) - ((3 : Nat) : Int) from by omega]
  show Ieee.double.nearest (false ^^ false) _ _ = _
  rw [Bool.xor_self, this]
  omega

theorem dbl_exact {y : Nat} (h1 : 4503599627370496 ≤ y) (h2 : y < 9200000000000000000) : Go.floatBits .mul .f64 y twoW = some (y + 4503599627370496) := by
  obtain ⟨m, q, r1, r2, r3, r4⟩ := read_norm y (by omega) (by omega)
  have ht : Ieee.double.read twoW = .number false 4503599627370496 (-51) := by decide
  show Ieee.double.mul y twoW = _
  unfold Format.mul
  rw [r1, ht]
  simp only [Datum.product, Option.map_some, Format.write, Option.some.injEq]
  have := nearest_full m (q + 1) 52 r2 r3 (by omega)
  rw [show m * 4503599627370496 = m * 2 ^ 52 from by rfl, show -1074 + (q : Int) + -51 = -1074 + ((q + 1 : Nat) : Int) - ((52 : Nat) : Int) from by omega, Bool.xor_self, this]
  omega

/-- what the first loop keeps -/
def HvI (x n y : Nat) (e : Int) : Prop := hv n y e = hv 2000 x 0 ∧ 3603000000000000000 ≤ y ∧ y ≤ 5700000000000000000 ∧ y ≤ n * 4503599627370496 ∧ e + n = 2000 ∧ n ≤ 2000
theorem hv_start {x : Nat} (h1 : 3603000000000000000 ≤ x) (h2 : x ≤ 5700000000000000000) : HvI x 2000 x 0 := ⟨rfl, h1, h2, by omega, by omega, by omega⟩
theorem hv_more {x n y : Nat} {e : Int} (h : HvI x n y e) (hy : 4609434218613702656 ≤ y) : Go.floatBits .quo .f64 y twoW = some (y - 4503599627370496) ∧ ∃ m, n = m + 1 ∧ HvI x m (y - 4503599627370496) (e + 1) ∧ 0 ≤ e ∧ e ≤ 2000 := by
  obtain ⟨h1, h2, h3, h4, h5, h6⟩ := h
  have hq := half_exact (y := y) (by omega) (by omega)
  obtain ⟨m, rfl⟩ : ∃ m, n = m + 1 := ⟨n - 1, by omega⟩
  refine ⟨hq, m, rfl, ⟨?_, by omega, by omega, by omega, by omega, by omega⟩, by omega, by omega⟩
  unfold hv at h1
  rw [if_pos hy, fo_eq hq] at h1
  exact h1
theorem hv_done {x n y : Nat} {e : Int} (h : HvI x n y e) (hy : ¬ 4609434218613702656 ≤ y) : hv 2000 x 0 = (y, e) ∧ 3603000000000000000 ≤ y ∧ y < 4609434218613702656 ∧ 0 ≤ e ∧ e ≤ 2000 := by
  obtain ⟨h1, h2, h3, h4, h5, h6⟩ := h
  refine ⟨?_, h2, by omega, by omega, by omega⟩
  rw [← h1]
  cases n with
  | zero => rfl
  | succ n => unfold hv; rw [if_neg hy]

/-- what the second loop keeps -/
def DbI (y0 : Nat) (e0 : Int) (n y : Nat) (e : Int) : Prop := dbl n y e = dbl 2000 y0 e0 ∧ 3603000000000000000 ≤ y ∧ y < 4609434218613702656 ∧ 4609434218613702656 ≤ y + n * 4503599627370496 ∧ e - n = e0 - 2000 ∧ n ≤ 2000
theorem db_start {y : Nat} {e : Int} (h1 : 3603000000000000000 ≤ y) (h2 : y < 4609434218613702656) : DbI y e 2000 y e := ⟨rfl, h1, h2, by omega, by omega, by omega⟩
theorem db_more {y0 n y : Nat} {e0 e : Int} (h : DbI y0 e0 n y e) (hy : y < 4604930618986332160) (he : 0 ≤ e0 ∧ e0 ≤ 2000) : Go.floatBits .mul .f64 y twoW = some (y + 4503599627370496) ∧ ∃ m, n = m + 1 ∧ DbI y0 e0 m (y + 4503599627370496) (e - 1) ∧ -2000 ≤ e ∧ e ≤ 2000 := by
  obtain ⟨h1, h2, h3, h4, h5, h6⟩ := h
  have hq := dbl_exact (y := y) (by omega) (by omega)
  obtain ⟨m, rfl⟩ : ∃ m, n = m + 1 := ⟨n - 1, by omega⟩
  refine ⟨hq, m, rfl, ⟨?_, by omega, by omega, by omega, by omega, by omega⟩, by omega, by omega⟩
  unfold dbl at h1
  rw [if_pos hy, fo_eq hq] at h1
  exact h1
theorem db_done {y0 n y : Nat} {e0 e : Int} (h : DbI y0 e0 n y e) (hy : ¬ y < 4604930618986332160) (he : 0 ≤ e0 ∧ e0 ≤ 2000) : dbl 2000 y0 e0 = (y, e) ∧ LeP y 1 ∧ Plus y ∧ e.natAbs ≤ 4096 := by
  obtain ⟨h1, h2, h3, h4, h5, h6⟩ := h
  have e1 : (((1 : Int) + 1022).toNat + 1) * Ieee.double.binade = 4611686018427387904 := by decide
  have hsw : Ieee.double.signWeight = 9223372036854775808 := by decide
  refine ⟨?_, ⟨by omega, ?_, by omega, by omega⟩, by unfold Plus; omega, by omega⟩
  · rw [← h1]
    cases n with
    | zero => rfl
    | succ n => unfold dbl; rw [if_neg hy]
  · rw [e1, hsw, Nat.mod_eq_of_lt (by omega)]; omega
theorem logC_eq {x y1 y2 : Nat} {e1 e2 : Int} (h1 : hv 2000 x 0 = (y1, e1)) (h2 : dbl 2000 y1 e1 = (y2, e2)) : logC x = lnE y2 e2 := by
  unfold logC; rw [h1]; simp only; rw [h2]

/-- the rest of the logarithm: all operations have results -/
theorem s_step {x : Nat} (hx : LeP x 1) (px : Plus x) : ∃ a b s u, Go.floatBits .sub .f64 x oneW = some a ∧ Go.floatBits .add .f64 x oneW = some b ∧ Go.floatBits .quo .f64 a b = some s ∧ Go.floatBits .mul .f64 s s = some u ∧
    LeP s 0 ∧ LeP u 0 ∧ s = sC x ∧ u = fo .mul (sC x) (sC x) := by
  have u1 := U_le hx
  have u2 := U_zero_le px
  have u3 : U oneW = ((2 ^ (0 + 1074 : Int).toNat : Nat) : Int) := by decide +kernel
  have e : (2 : Nat) ^ (1 + 1074 : Int).toNat = 2 * 2 ^ (0 + 1074 : Int).toNat := by decide +kernel
  rw [e] at u1
  generalize hg : 2 ^ (0 + 1074 : Int).toNat = g at *
  obtain ⟨a, a1, a2⟩ := sub_val (K := 0) hx one_le (by omega) (by omega) (by rw [u3, hg]; omega)
  obtain ⟨b, b1, b2⟩ := add_le (K := 2) hx one_le (by omega) (by omega) (by omega)
  obtain ⟨b3, b4⟩ := add_ge (J := 0) hx one_le b1 b2 (by omega) (by omega) (by rw [u3, hg]; omega)
  obtain ⟨s, s1, s2⟩ := quo_le a2 b2 b3 (by omega) (by omega)
  obtain ⟨u, v1, v2⟩ := mul_le s2 s2 (by omega) (by omega)
  have hs : s = sC x := by unfold sC; rw [fo_eq a1, fo_eq b1, fo_eq s1]
  exact ⟨a, b, s, u, a1, b1, s1, v1, s2, v2, hs, by rw [← hs, fo_eq v1]⟩

theorem q_step {u q : Nat} {j : Nat} (hu : LeP u 0) (hq : LeP q j) (hj : j ≤ 12) (he : q = qC u j) : ∃ d m r, Go.floatBits .quo .f64 oneW (Go.floatOfInt .f64 (25 - 2 * (j : Int))) = some d ∧ Go.floatBits .mul .f64 u q = some m ∧ Go.floatBits .add .f64 d m = some r ∧ LeP r ((j + 1 : Nat) : Int) ∧ r = qC u (j + 1) := by
  have k1 := ofInt_le (25 - 2 * (j : Int)) 5 (by omega) (by omega)
  obtain ⟨k2, k3⟩ := ofInt_ge (25 - 2 * (j : Int)) 0 (by omega) (by omega) (by omega)
  obtain ⟨d, d1, d2⟩ := quo_le one_le k1 k2 (by omega) (by omega)
  obtain ⟨m, m1, m2⟩ := mul_le hu hq (by omega) (by omega)
  obtain ⟨r, r1, r2⟩ := add_le (K := ((j + 1 : Nat) : Int)) d2 m2 (by omega) (by omega) (by omega)
  refine ⟨d, m, r, d1, m1, r1, r2, ?_⟩
  show r = fo .add (fo .quo oneW (Go.floatOfInt .f64 (25 - 2 * (j : Int)))) (fo .mul u (qC u j))
  rw [← he, fo_eq d1, fo_eq m1, fo_eq r1]

theorem l_step {x : Nat} {s q : Nat} {e : Int} (hs : LeP s 0) (hq : LeP q 13) (he : e.natAbs ≤ 4096) (h1 : s = sC x) (h2 : q = qC (fo .mul (sC x) (sC x)) 13) :
    ∃ a b c r, Go.floatBits .mul .f64 s q = some a ∧ Go.floatBits .mul .f64 twoW a = some b ∧ Go.floatBits .mul .f64 (Go.floatOfInt .f64 e) 4604418534313441775 = some c ∧ Go.floatBits .add .f64 b c = some r ∧ LeP r 15 ∧ r = lnE x e := by
  have k1 := ofInt_le e 12 (by omega) (by omega)
  have hc : LeP 4604418534313441775 0 := by refine ⟨by decide, by decide, by omega, by omega⟩
  obtain ⟨a, a1, a2⟩ := mul_le hs hq (by omega) (by omega)
  obtain ⟨b, b1, b2⟩ := mul_le two_le a2 (by omega) (by omega)
  obtain ⟨c, c1, c2⟩ := mul_le k1 hc (by omega) (by omega)
  obtain ⟨r, r1, r2⟩ := add_le (K := 15) b2 c2 (by omega) (by omega) (by omega)
  refine ⟨a, b, c, r, a1, b1, c1, r1, r2, ?_⟩
  unfold lnE
  rw [← h2, ← h1, fo_eq a1, fo_eq b1, fo_eq c1, fo_eq r1]

theorem W_GeP {b : Nat} (h : fin .f32 b = true) (h0 : b % 2147483648 ≠ 0) : GeP (W b) (-149) := by
  have hn := fin_num h
  obtain ⟨h1, h2, h3⟩ := W_spec b hn
  have hf : b % Ieee.single.signWeight < Ieee.single.infRung := of_decide_eq_true h
  rcases h3 with ⟨_, h4, h5⟩ | ⟨h4, _⟩
  · refine ⟨?_, by omega⟩
    have hB := bin_pos Ieee.double
    have : units Ieee.double.binade (((-149 + 1022 : Int).toNat + 1) * Ieee.double.binade) ≤ units Ieee.double.binade (W b % Ieee.double.signWeight) := by
      rw [units_pow, h5]
      have e : 52 + (-149 + 1022 : Int).toNat = sh := by decide
      rw [e]
      have u1 : units Ieee.single.binade 0 < units Ieee.single.binade (b % Ieee.single.signWeight) := units_lt (bin_pos _) (by show 0 < b % 2147483648; omega)
      exact Nat.le_mul_of_pos_left _ (by omega)
    rcases Nat.lt_or_ge (W b % Ieee.double.signWeight) (((-149 + 1022 : Int).toNat + 1) * Ieee.double.binade) with hlt | hge
    · have := units_lt hB hlt; omega
    · exact hge
  · omega

/-- the bits of a finite float32 above zero, widened -/
theorem W_range {b : Nat} (h : fin .f32 b = true) (h0 : b % 2147483648 ≠ 0) (hp : b < 2147483648) : 3603000000000000000 ≤ W b ∧ W b ≤ 5700000000000000000 := by
  have g := W_GeP h h0
  have l := W_LeP h
  have hsg := W_sign b (by omega) (fin_num h)
  have hsw : Ieee.double.signWeight = 9223372036854775808 := by decide
  have e1 : ((-149 + 1022 : Int).toNat + 1) * Ieee.double.binade = 874 * 4503599627370496 := by decide
  have e2 : ((128 + 1022 : Int).toNat + 1) * Ieee.double.binade = 1151 * 4503599627370496 := by decide
  obtain ⟨g1, _⟩ := g
  obtain ⟨_, l1, _⟩ := l
  rw [e1, hsw] at g1
  rw [e2, hsw] at l1
  omega
/-! rounding down, and whole numbers out of floats -/
def fl (x : Nat) : Nat := Go.FloatKind.f64.encode ((Go.FloatKind.f64.decode x).integral .down)

theorem cut_down_le (s : Bool) (n d t : Nat) (h : n ≤ 2 ^ t * 2 ^ d) : Toward.down.cut s n d ≤ 2 ^ t := by
  unfold Toward.cut
  simp only [Nat.shiftLeft_eq, Nat.one_mul]
  by_cases hd : d ≤ n.log2 + 2
  · rw [Nat.min_eq_left hd]
    have hp : 0 < 2 ^ d := Nat.two_pow_pos _
    have hq : n / 2 ^ d ≤ 2 ^ t := Nat.div_le_of_le_mul (by rw [Nat.mul_comm]; exact h)
    rcases Nat.lt_or_ge (n / 2 ^ d) (2 ^ t) with h' | h'
    · have : (s && n % 2 ^ d != 0).toNat ≤ 1 := Bool.toNat_le _
      omega
    · have he : n / 2 ^ d = 2 ^ t := by omega
      have hdm := Nat.div_add_mod n (2 ^ d)
      rw [he, Nat.mul_comm] at hdm
      have : n % 2 ^ d = 0 := by omega
      simp [this, he]
  · rw [Nat.min_eq_right (by omega)]
    have hlt : n < 2 ^ (n.log2 + 2) := by
      calc n < 2 ^ (n.log2 + 1) := Nat.lt_log2_self
        _ ≤ 2 ^ (n.log2 + 2) := Nat.pow_le_pow_right (by omega) (by omega)
    rw [Nat.div_eq_of_lt hlt]
    have : (s && n % 2 ^ (n.log2 + 2) != 0).toNat ≤ 1 := Bool.toNat_le _
    have hp : 0 < 2 ^ t := Nat.two_pow_pos _
    omega

theorem cut_zero_le (s : Bool) (n d t : Nat) (h : n ≤ 2 ^ t * 2 ^ d) : Toward.zero.cut s n d ≤ 2 ^ t := by
  unfold Toward.cut
  simp only [Nat.shiftLeft_eq, Nat.one_mul, Bool.toNat_false, Nat.add_zero]
  by_cases hd : d ≤ n.log2 + 2
  · rw [Nat.min_eq_left hd]
    exact Nat.div_le_of_le_mul (by rw [Nat.mul_comm]; exact h)
  · rw [Nat.min_eq_right (by omega)]
    have hlt : n < 2 ^ (n.log2 + 2) := by
      calc n < 2 ^ (n.log2 + 1) := Nat.lt_log2_self
        _ ≤ 2 ^ (n.log2 + 2) := Nat.pow_le_pow_right (by omega) (by omega)
    rw [Nat.div_eq_of_lt hlt]; exact Nat.zero_le _

theorem split_le {m e K : Nat} (h : m * 2 ^ e ≤ 2 ^ (K + 1074)) : m <<< (-1074 + (e : Int)).toNat ≤ 2 ^ K * 2 ^ (-(-1074 + (e : Int))).toNat := by
  rw [Nat.shiftLeft_eq]
  by_cases h1 : 1074 ≤ e
  · rw [show (-(-1074 + (e : Int))).toNat = 0 from by omega, Nat.pow_zero, Nat.mul_one]
    refine Nat.le_of_mul_le_mul_right ?_ (Nat.two_pow_pos (e - (-1074 + (e : Int)).toNat))
    rw [Nat.mul_assoc, ← Nat.pow_add, ← Nat.pow_add, show (-1074 + (e : Int)).toNat + (e - (-1074 + (e : Int)).toNat) = e from by omega, show K + (e - (-1074 + (e : Int)).toNat) = K + 1074 from by omega]
    exact h
  · rw [show (-1074 + (e : Int)).toNat = 0 from by omega, Nat.pow_zero, Nat.mul_one]
    refine Nat.le_of_mul_le_mul_right ?_ (Nat.two_pow_pos e)
    rw [Nat.mul_assoc, ← Nat.pow_add, ← Nat.pow_add, show K + ((-(-1074 + (e : Int))).toNat + e) = K + 1074 from by omega]
    exact h

theorem fl_le {x K : Nat} (h : LeP x K) : LeP (fl x) K := by
  obtain ⟨m, e, a1, a2, a3⟩ := h.read
  have hK := h.2.2.2
  have hd : Go.FloatKind.f64.decode x = .number (x / Ieee.double.signWeight % 2 == 1) m (-1074 + e) := a1
  unfold fl
  rw [hd]
  show LeP (Ieee.double.nearest _ _ 0) K
  rw [show ((K : Int) + 1074).toNat = K + 1074 from by omega] at a3
  refine wrote (c := 0) (by omega) (by omega) ?_ (by omega) hK
  simp only [Int.sub_zero, Int.toNat_zero, Nat.pow_zero, Nat.mul_one, Int.toNat_natCast]
  exact cut_down_le _ _ _ _ (split_le a3)

theorem toInt_ok {x K : Nat} (h : LeP x K) (hK : K ≤ 62) : ∃ n, Go.floatToIntVal .f64 x .i64 = some n ∧ n.natAbs ≤ 2 ^ K := by
  obtain ⟨m, e, a1, a2, a3⟩ := h.read
  have hd : Go.FloatKind.f64.decode x = .number (x / Ieee.double.signWeight % 2 == 1) m (-1074 + e) := a1
  rw [show ((K : Int) + 1074).toNat = K + 1074 from by omega] at a3
  have hb := cut_zero_le (x / Ieee.double.signWeight % 2 == 1) _ _ _ (split_le a3)
  have hK2 : 2 ^ K ≤ 2 ^ 62 := Nat.pow_le_pow_right (by omega) hK
  have e0 : (2 : Nat) ^ 62 = 4611686018427387904 := by decide
  unfold Go.floatToIntVal
  rw [hd]
  simp only [Datum.toInt, Datum.integral]
  generalize Toward.zero.cut (x / Ieee.double.signWeight % 2 == 1) (m <<< (-1074 + (e : Int)).toNat) (-(-1074 + (e : Int))).toNat = c at *
  have hs : (signed (x / Ieee.double.signWeight % 2 == 1) c 0).natAbs = c := by
    rw [signed_eq, Nat.pow_zero, Nat.mul_one]
    cases (x / Ieee.double.signWeight % 2 == 1) <;> simp
  generalize signed (x / Ieee.double.signWeight % 2 == 1) c 0 = z at *
  have hmin : Go.IntKind.i64.min = -9223372036854775808 := by decide
  have hmax : Go.IntKind.i64.max = 9223372036854775807 := by decide
  rw [hmin, hmax, if_pos (by omega)]
  exact ⟨z, rfl, by omega⟩
theorem hv_run {x : Nat} : ∀ (n y : Nat) (e : Int), HvI x n y e → ∃ z f, hv 2000 x 0 = (z, f) ∧ 3603000000000000000 ≤ z ∧ z < 4609434218613702656 ∧ 0 ≤ f ∧ f ≤ 2000 := by
  intro n
  induction n with
  | zero =>
    intro y e h
    by_cases hy : 4609434218613702656 ≤ y
    · obtain ⟨_, m, hm, _⟩ := hv_more h hy; omega
    · exact ⟨y, e, hv_done h hy⟩
  | succ n ih =>
    intro y e h
    by_cases hy : 4609434218613702656 ≤ y
    · obtain ⟨_, m, hm, h2, _⟩ := hv_more h hy
      obtain rfl : n = m := by omega
      exact ih _ _ h2
    · exact ⟨y, e, hv_done h hy⟩
theorem db_run {y0 : Nat} {e0 : Int} (he : 0 ≤ e0 ∧ e0 ≤ 2000) : ∀ (n y : Nat) (e : Int), DbI y0 e0 n y e → ∃ z f, dbl 2000 y0 e0 = (z, f) ∧ LeP z 1 ∧ Plus z ∧ f.natAbs ≤ 4096 := by
  intro n
  induction n with
  | zero =>
    intro y e h
    by_cases hy : y < 4604930618986332160
    · obtain ⟨_, m, hm, _⟩ := db_more h hy he; omega
    · exact ⟨y, e, db_done h hy he⟩
  | succ n ih =>
    intro y e h
    by_cases hy : y < 4604930618986332160
    · obtain ⟨_, m, hm, h2, _⟩ := db_more h hy he
      obtain rfl : n = m := by omega
      exact ih _ _ h2
    · exact ⟨y, e, db_done h hy he⟩
theorem qC_le {u : Nat} (hu : LeP u 0) : ∀ j : Nat, j ≤ 13 → LeP (qC u j) j := by
  intro j
  induction j with
  | zero => intro _; exact zero_le'
  | succ j ih =>
    intro h
    obtain ⟨d, m, r, _, _, _, r2, r3⟩ := q_step hu (ih (by omega)) (by omega) rfl
    rw [← r3]; exact r2
theorem logC_le {x : Nat} (h1 : 3603000000000000000 ≤ x) (h2 : x ≤ 5700000000000000000) : LeP (logC x) 15 := by
  obtain ⟨y, e, a1, a2, a3, a4, a5⟩ := hv_run 2000 x 0 (hv_start h1 h2)
  obtain ⟨z, f, b1, b2, b3, b4⟩ := db_run ⟨a4, a5⟩ 2000 y e (db_start a2 a3)
  rw [logC_eq a1 b1]
  obtain ⟨_, _, s, u, _, _, _, _, s2, u2, s3, u3⟩ := s_step b2 b3
  obtain ⟨_, _, _, r, _, _, _, _, r2, r3⟩ := l_step (x := z) (e := f) s2 (qC_le u2 13 (by omega)) b4 s3 (by rw [u3])
  rw [← r3]; exact r2
theorem log_narrow (x : Nat) (h1 : 3603000000000000000 ≤ x) (h2 : x ≤ 5700000000000000000) : ∃ v, Go.floatToFloatBits .f64 (logC x) .f32 = some v := by
  obtain ⟨v, hv, _⟩ := narrow_ok (logC_le h1 h2) (by omega)
  exact ⟨v, hv⟩
/-! tenths of decibels -/
def tenthsR (x : Nat) : Nat := fo .add (fo .mul (logC x) 4631308968768463603) 4602678819172646912
def tenthsI (x : Nat) : Int := (Go.floatToIntVal .f64 (fl (tenthsR x)) .i64).getD 0
theorem tenth_step {x : Nat} (h1 : 3603000000000000000 ≤ x) (h2 : x ≤ 5700000000000000000) : ∃ m r, Go.floatBits .mul .f64 (logC x) 4631308968768463603 = some m ∧ Go.floatBits .add .f64 m 4602678819172646912 = some r ∧
    nan .f64 r = false ∧ Go.floatToIntVal .f64 (fl r) .i64 = some (tenthsI x) := by
  have hc : LeP 4631308968768463603 6 := by refine ⟨by decide, by decide, by omega, by omega⟩
  have hh : LeP 4602678819172646912 0 := by refine ⟨by decide, by decide, by omega, by omega⟩
  obtain ⟨m, m1, m2⟩ := mul_le (logC_le h1 h2) hc (by omega) (by omega)
  obtain ⟨r, r1, r2⟩ := add_le (K := ((22 : Nat) : Int)) m2 hh (by omega) (by omega) (by omega)
  obtain ⟨n, n1, n2⟩ := toInt_ok (fl_le r2) (by omega)
  refine ⟨m, r, m1, r1, r2.num, ?_⟩
  have hr : r = tenthsR x := by unfold tenthsR; rw [fo_eq m1, fo_eq r1]
  have : tenthsI x = n := by unfold tenthsI; rw [← hr, n1]; rfl
  rw [this]; exact n1
theorem fl_run {x : Nat} (h : nan .f64 x = false) : ∀ s t, Go.FloatKind.f64.decode x ≠ .nan s t := by
  intro s t
  rcases read_case .f64 x h with ⟨m, e, h1, _⟩ | ⟨h1, _⟩
  · rw [show Go.FloatKind.f64.decode x = _ from h1]; simp
  · rw [show Go.FloatKind.f64.decode x = _ from h1]; simp
end Flt
