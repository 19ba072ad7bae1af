/-
  Bounds of float32 results by powers of two: products, sums, quotients. Plain facts; no conditions beyond those stated.
-/
import Derived.Test.YtemdgfjcjjadnabBnd
namespace Flt.S3
open Ieee Flt
/-- a finite float32 of absolute value at most 2 ^ K -/
def LeP (b : Nat) (K : Int) : Prop := b < 4294967296 ∧ b % Ieee.single.signWeight ≤ ((K + 126).toNat + 1) * Ieee.single.binade ∧ -126 ≤ K ∧ K ≤ 126

theorem LeP.lt {b : Nat} {K : Int} (h : LeP b K) : b < 4294967296 := h.1
theorem LeP.fin_rung {b : Nat} {K : Int} (h : LeP b K) : b % Ieee.single.signWeight < Ieee.single.infRung := by
  obtain ⟨_, h2, h3, h4⟩ := h
  have : ((K + 126).toNat + 1) * Ieee.single.binade ≤ 253 * Ieee.single.binade := Nat.mul_le_mul_right _ (by omega)
  have e : 253 * Ieee.single.binade < Ieee.single.infRung := by decide
  omega
theorem LeP.num {b : Nat} {K : Int} (h : LeP b K) : nan .f32 b = false := nan_false (Nat.le_of_lt h.fin_rung)
theorem LeP.isFin {b : Nat} {K : Int} (h : LeP b K) : fin .f32 b = true := decide_eq_true h.fin_rung
theorem LeP.mono {b : Nat} {K J : Int} (h : LeP b K) (hj : K ≤ J) (hJ : J ≤ 126) : LeP b J := by
  obtain ⟨h1, h2, h3, h4⟩ := h
  refine ⟨h1, Nat.le_trans h2 (Nat.mul_le_mul_right _ (by omega)), by omega, hJ⟩

theorem units_pow (q : Nat) : units Ieee.single.binade ((q + 1) * Ieee.single.binade) = 2 ^ (23 + q) := by
  have hB := bin_pos Ieee.single
  have e : Ieee.single.binade = 2 ^ 23 := rfl
  unfold units
  rw [if_neg (by rw [Nat.add_mul]; omega), Nat.mul_div_cancel _ hB, Nat.mul_mod_left, Nat.add_sub_cancel, Nat.add_zero, e, ← Nat.pow_add]

theorem LeP.read {b : Nat} {K : Int} (h : LeP b K) :
    ∃ m e : Nat, Ieee.single.read b = .number (b / Ieee.single.signWeight % 2 == 1) m (-149 + e) ∧ m * 2 ^ e = units Ieee.single.binade (b % Ieee.single.signWeight) ∧ m * 2 ^ e ≤ 2 ^ (K + 149).toNat := by
  obtain ⟨m, e, h1, h2, h3, h4⟩ := read_num Ieee.single b h.fin_rung
  refine ⟨m, e, h1, h2, ?_⟩
  rw [h2]
  have := units_le (bin_pos Ieee.single) h.2.1
  rw [units_pow] at this
  rw [show (K + 149).toNat = 23 + (K + 126).toNat from by have := h.2.2.1; omega]
  exact this

/-- what nearest_le gives, as LeP -/
theorem wrote {s : Bool} {mag : Nat} {place K c : Int} (hc : c ≤ place) (hcK : c ≤ K) (h : mag * 2 ^ (place - c).toNat ≤ 2 ^ (K - c).toNat) (h1 : -126 ≤ K) (h2 : K ≤ 126) :
    LeP (Ieee.single.nearest s mag place) K := by
  have lp : Ieee.single.leastPlace = -149 := by decide
  have fb : Ieee.single.fractionBits = 23 := rfl
  have eb : (2 : Nat) ^ Ieee.single.exponentBits = 256 := by decide
  obtain ⟨r, e1, e2, e3⟩ := nearest_le Ieee.single s mag place K c hc hcK h (by rw [lp, fb]; omega) (by rw [lp, fb, eb]; omega)
  have e2' : r ≤ ((K + 126).toNat + 1) * Ieee.single.binade := by
    rw [lp, fb] at e2
    rw [show (K - -149 - ((23 : Nat) : Int)).toNat = (K + 126).toNat from by omega] at e2
    exact e2
  have hr : r < Ieee.single.signWeight := Nat.lt_trans e3 (infRung_lt _)
  rw [e1]
  refine ⟨Ieee.Format.word_lt Ieee.single s hr, ?_, h1, h2⟩
  rw [(word_mod Ieee.single s r hr).1]
  exact e2'

theorem mul_le {a b : Nat} {A B : Int} (ha : LeP a A) (hb : LeP b B) (h1 : -126 ≤ A + B) (h2 : A + B ≤ 126) :
    ∃ r, Go.floatBits .mul .f32 a b = some r ∧ LeP r (A + B) := by
  obtain ⟨m, e, a1, a2, a3⟩ := ha.read
  obtain ⟨n, f, b1, b2, b3⟩ := hb.read
  refine ⟨_, by show Ieee.single.mul a b = _; unfold Format.mul; rw [a1, b1]; rfl, ?_⟩
  refine wrote (c := -298) (by omega) (by omega) ?_ h1 h2
  rw [show (-149 + (e : Int) + (-149 + f) - -298).toNat = e + f from by omega, Nat.pow_add,
    show m * n * (2 ^ e * 2 ^ f) = (m * 2 ^ e) * (n * 2 ^ f) from by rw [Nat.mul_mul_mul_comm]]
  refine Nat.le_trans (Nat.mul_le_mul a3 b3) ?_
  rw [← Nat.pow_add]
  have := ha.2.2.1; have := hb.2.2.1
  exact Nat.pow_le_pow_right (by omega) (by omega)

/-- signed units -/
def U (b : Nat) : Int := (if (b / Ieee.single.signWeight % 2 == 1) then -1 else 1) * (units Ieee.single.binade (b % Ieee.single.signWeight) : Int)

theorem sum_val (s t : Bool) (m n e f : Nat) (K : Int) (h1 : -126 ≤ K) (h2 : K ≤ 126)
    (h : ((if s then -1 else 1) * ((m * 2 ^ e : Nat) : Int) + (if t then -1 else 1) * ((n * 2 ^ f : Nat) : Int)).natAbs ≤ 2 ^ (K + 149).toNat) :
    ∃ r, ((Datum.number s m (-149 + e)).sum (.number t n (-149 + f))).map Ieee.single.write = some r ∧ LeP r K := by
  simp only [Datum.sum, Option.map_some]
  refine ⟨_, rfl, ?_⟩
  simp only [Format.write]
  rw [signed_eq, signed_eq]
  have g1 : (-149 + (e : Int) - min (-149 + (e : Int)) (-149 + f)).toNat + min e f = e := by omega
  have g2 : (-149 + (f : Int) - min (-149 + (e : Int)) (-149 + f)).toNat + min e f = f := by omega
  refine wrote (c := -149) (by omega) (by omega) ?_ h1 h2
  rw [show (min (-149 + (e : Int)) (-149 + f) - -149).toNat = min e f from by omega, show (K - -149).toNat = (K + 149).toNat from by omega]
  refine Nat.le_trans (Nat.le_of_eq ?_) h
  have hp : ((2 ^ min e f : Nat) : Int).natAbs = 2 ^ min e f := Int.natAbs_natCast _
  rw [← hp, ← Int.natAbs_mul, Int.add_mul, Int.mul_assoc, Int.mul_assoc, ← Int.natCast_mul, ← Int.natCast_mul, Nat.mul_assoc, Nat.mul_assoc, ← Nat.pow_add, ← Nat.pow_add, g1, g2]

theorem add_val {a b : Nat} {A B K : Int} (ha : LeP a A) (hb : LeP b B) (h1 : -126 ≤ K) (h2 : K ≤ 126) (h : (U a + U b).natAbs ≤ 2 ^ (K + 149).toNat) :
    ∃ r, Go.floatBits .add .f32 a b = some r ∧ LeP r K := by
  obtain ⟨m, e, a1, a2, a3⟩ := ha.read
  obtain ⟨n, f, b1, b2, b3⟩ := hb.read
  unfold U at h
  rw [← a2, ← b2] at h
  have := sum_val _ _ m n e f K h1 h2 h
  obtain ⟨r, e1, e2⟩ := this
  exact ⟨r, by show Ieee.single.add a b = _; unfold Format.add; rw [a1, b1]; exact e1, e2⟩

theorem sub_val {a b : Nat} {A B K : Int} (ha : LeP a A) (hb : LeP b B) (h1 : -126 ≤ K) (h2 : K ≤ 126) (h : (U a - U b).natAbs ≤ 2 ^ (K + 149).toNat) :
    ∃ r, Go.floatBits .sub .f32 a b = some r ∧ LeP r K := by
  obtain ⟨m, e, a1, a2, a3⟩ := ha.read
  obtain ⟨n, f, b1, b2, b3⟩ := hb.read
  unfold U at h
  rw [← a2, ← b2] at h
  have := sum_val (a / Ieee.single.signWeight % 2 == 1) (!(b / Ieee.single.signWeight % 2 == 1)) m n e f K h1 h2 (by
    refine Nat.le_trans (Nat.le_of_eq ?_) h
    congr 1
    cases (b / Ieee.single.signWeight % 2 == 1) <;> simp <;> omega)
  obtain ⟨r, e1, e2⟩ := this
  exact ⟨r, by show Ieee.single.sub a b = _; unfold Format.sub; rw [a1, b1]; exact e1, e2⟩

theorem U_le {a : Nat} {A : Int} (ha : LeP a A) : (U a).natAbs ≤ 2 ^ (A + 149).toNat := by
  obtain ⟨m, e, a1, a2, a3⟩ := ha.read
  unfold U
  rw [← a2]
  cases (a / Ieee.single.signWeight % 2 == 1) <;> simp only [if_true, if_false, Bool.false_eq_true, Int.one_mul, Int.neg_mul, Int.natAbs_neg, Int.natAbs_natCast] <;> exact a3

theorem add_le {a b : Nat} {A B K : Int} (ha : LeP a A) (hb : LeP b B) (hA : A < K) (hB : B < K) (h2 : K ≤ 126) :
    ∃ r, Go.floatBits .add .f32 a b = some r ∧ LeP r K := by
  have u1 := U_le ha
  have u2 := U_le hb
  have l1 := ha.2.2.1
  have l2 := hb.2.2.1
  refine add_val ha hb (by omega) h2 ?_
  have p1 : 2 ^ (A + 149).toNat ≤ 2 ^ (K + 148).toNat := Nat.pow_le_pow_right (by omega) (by omega)
  have p2 : 2 ^ (B + 149).toNat ≤ 2 ^ (K + 148).toNat := Nat.pow_le_pow_right (by omega) (by omega)
  rw [show (K + 149).toNat = (K + 148).toNat + 1 from by omega, Nat.pow_succ]
  omega

theorem sub_le {a b : Nat} {A B K : Int} (ha : LeP a A) (hb : LeP b B) (hA : A < K) (hB : B < K) (h2 : K ≤ 126) :
    ∃ r, Go.floatBits .sub .f32 a b = some r ∧ LeP r K := by
  have u1 := U_le ha
  have u2 := U_le hb
  have l1 := ha.2.2.1
  have l2 := hb.2.2.1
  refine sub_val ha hb (by omega) h2 ?_
  have p1 : 2 ^ (A + 149).toNat ≤ 2 ^ (K + 148).toNat := Nat.pow_le_pow_right (by omega) (by omega)
  have p2 : 2 ^ (B + 149).toNat ≤ 2 ^ (K + 148).toNat := Nat.pow_le_pow_right (by omega) (by omega)
  rw [show (K + 149).toNat = (K + 148).toNat + 1 from by omega, Nat.pow_succ]
  omega

/-- a float32 of absolute value at least 2 ^ K -/
def GeP (b : Nat) (K : Int) : Prop := ((K + 126).toNat + 1) * Ieee.single.binade ≤ b % Ieee.single.signWeight ∧ -126 ≤ K

theorem GeP.units {b : Nat} {K : Int} (h : GeP b K) : 2 ^ (K + 149).toNat ≤ units Ieee.single.binade (b % Ieee.single.signWeight) := by
  have := units_le (bin_pos Ieee.single) h.1
  rw [units_pow] at this
  rw [show (K + 149).toNat = 23 + (K + 126).toNat from by have := h.2; omega]
  exact this

theorem quo_le {a b : Nat} {A B C : Int} (ha : LeP a A) (hb : LeP b C) (gb : GeP b B) (h1 : -126 ≤ A - B) (h2 : A - B ≤ 126) :
    ∃ r, Go.floatBits .quo .f32 a b = some r ∧ LeP r (A - B) := by
  obtain ⟨m, e, a1, a2, a3⟩ := ha.read
  obtain ⟨n, f, b1, b2, b3⟩ := hb.read
  have g := gb.units
  have gB := gb.2
  have hA := ha.2.2.1
  rw [← b2] at g
  have hn : n ≠ 0 := by
    rintro rfl
    have : 0 < 2 ^ (B + 149).toNat := Nat.two_pow_pos _
    omega
  have hnU : n < 2 ^ (n.log2 + 1) := Nat.lt_log2_self
  show ∃ r, Ieee.single.div a b = some r ∧ _
  unfold Format.div
  rw [a1, b1]
  simp only [Datum.quotient, if_neg hn, Option.map_some]
  refine ⟨_, rfl, ?_⟩
  simp only [Format.write]
  by_cases hm : m = 0
  · subst hm
    refine wrote (c := min (-149 + (e : Int) - (-149 + (f : Int)) - ((Ieee.single.fractionBits + 2 + n.log2 - Nat.log2 0 : Nat) : Int) - 1) (A - B)) (by omega) (by omega) ?_ h1 h2
    simp [Nat.zero_shiftLeft]
  · have hmL := pow_log2 hm
    have hfb : Ieee.single.fractionBits = 23 := rfl
    rw [hfb]
    generalize hmore : 23 + 2 + n.log2 - m.log2 = more
    -- exponents
    have x1 : m.log2 + e ≤ (A + 149).toNat := by
      have : 2 ^ (m.log2 + e) ≤ 2 ^ (A + 149).toNat := by
        rw [Nat.pow_add]; exact Nat.le_trans (Nat.mul_le_mul_right _ hmL) a3
      exact (Nat.pow_le_pow_iff_right (by omega : 1 < 2)).1 this
    have x2 : (B + 149).toNat < n.log2 + 1 + f := by
      have : 2 ^ (B + 149).toNat < 2 ^ (n.log2 + 1 + f) := by
        rw [Nat.pow_add]
        exact Nat.lt_of_le_of_lt g (Nat.mul_lt_mul_of_pos_right hnU (Nat.two_pow_pos _))
      exact (Nat.pow_lt_pow_iff_right (by omega : 1 < 2)).1 this
    obtain ⟨x, hx⟩ : ∃ x : Nat, (x : Int) = A - B + f - e + more := ⟨(A - B + f - e + more).toNat, by omega⟩
    have key : m * 2 ^ more ≤ 2 ^ x * n := by
      -- multiply by 2^e * 2^(B+149)
      have hpos : 0 < 2 ^ (e + (B + 149).toNat + f) := Nat.two_pow_pos _
      refine Nat.le_of_mul_le_mul_right ?_ hpos
      calc m * 2 ^ more * 2 ^ (e + (B + 149).toNat + f) = (m * 2 ^ e) * 2 ^ (more + (B + 149).toNat + f) := by
            rw [Nat.mul_assoc, Nat.mul_assoc, ← Nat.pow_add, ← Nat.pow_add]; congr 2; omega
        _ ≤ 2 ^ (A + 149).toNat * 2 ^ (more + (B + 149).toNat + f) := Nat.mul_le_mul_right _ a3
        _ = 2 ^ (x + e + (B + 149).toNat) * 2 ^ (B + 149).toNat := by
            rw [← Nat.pow_add, ← Nat.pow_add]; congr 1; omega
        _ ≤ 2 ^ (x + e + (B + 149).toNat) * (n * 2 ^ f) := Nat.mul_le_mul_left _ g
        _ = 2 ^ x * n * 2 ^ (e + (B + 149).toNat + f) := by
            rw [show x + e + (B + 149).toNat = x + (e + (B + 149).toNat) from by omega, Nat.pow_add 2 x, Nat.pow_add 2 (e + (B + 149).toNat) f]
            simp only [Nat.mul_assoc, Nat.mul_left_comm]
    have hd : 2 * (m <<< more / n) + (m <<< more % n != 0).toNat ≤ 2 * 2 ^ x := by
      rw [Nat.shiftLeft_eq]
      have hdm := Nat.div_add_mod (m * 2 ^ more) n
      have hq : m * 2 ^ more / n ≤ 2 ^ x := by
        refine Nat.div_le_of_le_mul ?_
        rw [Nat.mul_comm n (2 ^ x)]; exact key
      rcases Nat.lt_or_ge (m * 2 ^ more / n) (2 ^ x) with h | h
      · have : (m * 2 ^ more % n != 0).toNat ≤ 1 := Bool.toNat_le _
        omega
      · have hqe : m * 2 ^ more / n = 2 ^ x := by omega
        rw [hqe] at hdm ⊢
        rw [Nat.mul_comm n] at hdm
        have : m * 2 ^ more % n = 0 := by omega
        simp [this]
    refine wrote (c := -149 + (e : Int) - (-149 + (f : Int)) - more - 1) (by omega) (by omega) ?_ h1 h2
    rw [Int.sub_self, Int.toNat_zero, Nat.pow_zero, Nat.mul_one, show (A - B - (-149 + (e : Int) - (-149 + (f : Int)) - more - 1)).toNat = x + 1 from by omega, Nat.pow_succ, Nat.mul_comm (2 ^ x)]
    exact hd

/-- it has no sign -/
def Plus (b : Nat) : Prop := b < 2147483648

theorem plus_word {r : Nat} (h : r < Ieee.single.signWeight) : Plus (Ieee.single.word false r) := by
  have : Ieee.single.signWeight = 2147483648 := by decide
  unfold Plus Format.word; simp only [Bool.false_eq_true, if_false]; omega

theorem U_plus {b : Nat} (h : Plus b) : U b = (units Ieee.single.binade b : Int) := by
  have : Ieee.single.signWeight = 2147483648 := by decide
  unfold U
  unfold Plus at h
  rw [this, Nat.mod_eq_of_lt h, Nat.div_eq_of_lt h, if_neg (by decide), Int.one_mul]

theorem mul_self_plus {a r : Nat} (h : Go.floatBits .mul .f32 a a = some r) : Plus r := by
  have h' : Ieee.single.mul a a = some r := h
  unfold Format.mul at h'
  cases hd : Ieee.single.read a with
  | number s m e =>
    rw [hd] at h'
    simp only [Datum.product, Option.map_some, Option.some.injEq, Format.write, Bool.xor_self] at h'
    obtain ⟨q, h1, h2⟩ := nearest_word Ieee.single false (m * m) (e + e)
    rw [← h', h1]
    exact plus_word h2
  | infinity s =>
    rw [hd] at h'
    simp only [Datum.product, Option.map_some, Option.some.injEq, Format.write, Bool.xor_self] at h'
    rw [← h']
    exact plus_word (infRung_lt _)
  | nan s t => rw [hd] at h'; simp [Datum.product] at h'

theorem add_ge {a b r : Nat} {A B K J : Int} (ha : LeP a A) (hb : LeP b B) (hr : Go.floatBits .add .f32 a b = some r) (_hrK : LeP r K) (hJ : -126 ≤ J) (hJ2 : J ≤ 120)
    (h : (2 ^ (J + 149).toNat : Nat) ≤ U a + U b) : GeP r J ∧ Plus r := by
  obtain ⟨m, e, a1, a2, a3⟩ := ha.read
  obtain ⟨n, f, b1, b2, b3⟩ := hb.read
  have hr' : Ieee.single.add a b = some r := hr
  unfold Format.add at hr'
  rw [a1, b1] at hr'
  unfold U at h
  rw [← a2, ← b2] at h
  simp only [Datum.sum, Option.map_some, Option.some.injEq, Format.write] at hr'
  rw [signed_eq, signed_eq] at hr'
  have g1 : (-149 + (e : Int) - min (-149 + (e : Int)) (-149 + f)).toNat + min e f = e := by omega
  have g2 : (-149 + (f : Int) - min (-149 + (e : Int)) (-149 + f)).toNat + min e f = f := by omega
  have hp : ((2 ^ min e f : Nat) : Int).natAbs = 2 ^ min e f := Int.natAbs_natCast _
  obtain ⟨tot, htot⟩ : ∃ tot : Int, tot = ((if (a / Ieee.single.signWeight % 2 == 1) then -1 else 1) * ((m * 2 ^ (-149 + (e : Int) - min (-149 + (e : Int)) (-149 + f)).toNat : Nat) : Int) + (if (b / Ieee.single.signWeight % 2 == 1) then -1 else 1) * ((n * 2 ^ (-149 + (f : Int) - min (-149 + (e : Int)) (-149 + f)).toNat : Nat) : Int)) := ⟨_, rfl⟩
  rw [← htot] at hr'
  have hv : tot * ((2 ^ min e f : Nat) : Int) = ((if (a / Ieee.single.signWeight % 2 == 1) then -1 else 1) * ((m * 2 ^ e : Nat) : Int) + (if (b / Ieee.single.signWeight % 2 == 1) then -1 else 1) * ((n * 2 ^ f : Nat) : Int)) := by
    rw [htot, Int.add_mul, Int.mul_assoc, Int.mul_assoc, ← Int.natCast_mul, ← Int.natCast_mul, Nat.mul_assoc, Nat.mul_assoc, ← Nat.pow_add, ← Nat.pow_add, g1, g2]
  rw [← hv] at h
  have hp0 : (0 : Int) < ((2 ^ min e f : Nat) : Int) := by exact_mod_cast Nat.two_pow_pos _
  have hpos : 0 < tot := by
    have h1 : (0 : Int) < ((2 ^ (J + 149).toNat : Nat) : Int) := Int.natCast_pos.2 (Nat.two_pow_pos _)
    have h2 : 0 * ((2 ^ min e f : Nat) : Int) < tot * ((2 ^ min e f : Nat) : Int) := by rw [Int.zero_mul]; omega
    exact Int.lt_of_mul_lt_mul_right h2 (Int.le_of_lt hp0)
  rw [if_neg (by omega), decide_eq_false (by omega)] at hr'
  obtain ⟨q, w1, w2⟩ := nearest_word Ieee.single false tot.natAbs (min (-149 + (e : Int)) (-149 + f))
  have lp : Ieee.single.leastPlace = -149 := by decide
  have fb : Ieee.single.fractionBits = 23 := rfl
  have eb : (2 : Nat) ^ Ieee.single.exponentBits = 256 := by decide
  have hge := nearest_ge Ieee.single false tot.natAbs (min (-149 + (e : Int)) (-149 + f)) J (-149) (by omega) (by omega) (by
    rw [show (J - -149).toNat = (J + 149).toNat from by omega, show (min (-149 + (e : Int)) (-149 + f) - -149).toNat = min e f from by omega]
    have : ((tot.natAbs * 2 ^ min e f : Nat) : Int) = tot * ((2 ^ min e f : Nat) : Int) := by rw [Int.natCast_mul, Int.natAbs_of_nonneg (by omega)]
    omega) (by rw [lp, fb]; omega) (by rw [lp, fb, eb]; omega) q w1 w2
  have hq : r = q := by rw [← hr', w1]; rfl
  subst hq
  have hsw : Ieee.single.signWeight = 2147483648 := by decide
  refine ⟨⟨?_, hJ⟩, by unfold Plus; omega⟩
  rw [lp, fb, show (J - -149 - ((23 : Nat) : Int)).toNat = (J + 126).toNat from by omega] at hge
  rw [Nat.mod_eq_of_lt w2]
  exact hge
end Flt.S3
