/-
  Plain facts on the bits of floats: order as a comparison of signed rungs, exact widening of a float32, sameness. No Go in sight; no conditions beyond those stated.
-/
import Derived.Laws.FloatArith
import Derived.Laws.BitsAllLaws
namespace Flt
open Ieee

/-! bits of a float as a signed rung -/
/-- a number without a number -/
def nan (k : Go.FloatKind) (b : Nat) : Bool := decide (k.format.infRung < b % k.format.signWeight)
/-- the rung with its sign -/
def S (k : Go.FloatKind) (b : Nat) : Int :=
  if b / k.format.signWeight % 2 == 1 then -((b % k.format.signWeight : Nat) : Int) else ((b % k.format.signWeight : Nat) : Int)

/-- units of a rung -/
def units (B r : Nat) : Nat := if r < B then r else (B + r % B) * 2 ^ (r / B - 1)

theorem units_lt {B r s : Nat} (hB : 0 < B) (h : r < s) : units B r < units B s := by
  unfold units
  by_cases hs : s < B
  · rw [if_pos hs, if_pos (by omega)]; exact h
  · rw [if_neg hs]
    have hsB : 1 ≤ s / B := by rw [Nat.le_div_iff_mul_le hB]; omega
    have hsm : s % B < B := Nat.mod_lt _ hB
    by_cases hr : r < B
    · rw [if_pos hr]
      calc r < B := hr
        _ ≤ B + s % B := by omega
        _ ≤ (B + s % B) * 2 ^ (s / B - 1) := Nat.le_mul_of_pos_right _ (Nat.two_pow_pos _)
    · rw [if_neg hr]
      have hrB : 1 ≤ r / B := by rw [Nat.le_div_iff_mul_le hB]; omega
      have hrm : r % B < B := Nat.mod_lt _ hB
      have hq : r / B ≤ s / B := Nat.div_le_div_right (by omega)
      rcases Nat.lt_or_ge (r / B) (s / B) with hl | hg
      · calc (B + r % B) * 2 ^ (r / B - 1) < (2 * B) * 2 ^ (r / B - 1) := Nat.mul_lt_mul_of_pos_right (by omega) (Nat.two_pow_pos _)
          _ = B * 2 ^ (r / B - 1 + 1) := by rw [Nat.pow_succ, Nat.mul_comm 2 B, Nat.mul_assoc, Nat.mul_comm 2]
          _ ≤ B * 2 ^ (s / B - 1) := Nat.mul_le_mul_left _ (Nat.pow_le_pow_right (by omega) (by omega))
          _ ≤ (B + s % B) * 2 ^ (s / B - 1) := Nat.mul_le_mul_right _ (by omega)
      · have he : r / B = s / B := by omega
        rw [he]
        refine Nat.mul_lt_mul_of_pos_right ?_ (Nat.two_pow_pos _)
        have h1 := Nat.div_add_mod r B
        have h2 := Nat.div_add_mod s B
        rw [he] at h1
        omega

theorem units_cmp {B : Nat} (hB : 0 < B) (r s : Nat) : compare (units B r : Int) (units B s : Int) = compare (r : Int) (s : Int) := by
  rcases Nat.lt_trichotomy r s with h | h | h
  · have := units_lt hB h
    rw [Int.compare_eq_lt.2 (by omega), Int.compare_eq_lt.2 (by omega)]
  · subst h; simp
  · have := units_lt hB h
    rw [Int.compare_eq_gt.2 (by omega), Int.compare_eq_gt.2 (by omega)]

theorem sw_pos (f : Format) : 0 < f.signWeight := Nat.two_pow_pos _
theorem bin_pos (f : Format) : 0 < f.binade := Nat.two_pow_pos _


theorem signed_eq (s : Bool) (m e : Nat) : signed s m e = (if s then -1 else 1) * ((m * 2 ^ e : Nat) : Int) := by
  unfold signed
  rw [Nat.shiftLeft_eq]
  cases s <;> simp

theorem order_num (lp : Int) (s t : Bool) (m n e f : Nat) :
    (Datum.number s m (lp + e)).order (.number t n (lp + f)) =
      some (compare ((if s then -1 else 1) * ((m * 2 ^ e : Nat) : Int)) ((if t then -1 else 1) * ((n * 2 ^ f : Nat) : Int))) := by
  have key : ∀ (a b c : Int), 0 < c → compare (a * c) (b * c) = compare a b := by
    intro a b c hc
    rcases Int.lt_trichotomy a b with h | h | h
    · rw [Int.compare_eq_lt.2 h, Int.compare_eq_lt.2 (Int.mul_lt_mul_of_pos_right h hc)]
    · subst h; simp
    · rw [Int.compare_eq_gt.2 h, Int.compare_eq_gt.2 (Int.mul_lt_mul_of_pos_right h hc)]
  simp only [Datum.order]
  congr 1
  rw [signed_eq, signed_eq]
  have h1 : (lp + (e : Int) - min (lp + e) (lp + f)).toNat + min e f = e := by omega
  have h2 : (lp + (f : Int) - min (lp + e) (lp + f)).toNat + min e f = f := by omega
  have hp : (0 : Int) < ((2 ^ min e f : Nat) : Int) := by exact_mod_cast Nat.two_pow_pos _
  rw [← key _ _ _ hp]
  congr 1
  · rw [Int.mul_assoc, ← Int.natCast_mul, Nat.mul_assoc, ← Nat.pow_add, h1]
  · rw [Int.mul_assoc, ← Int.natCast_mul, Nat.mul_assoc, ← Nat.pow_add, h2]

/-- what a word reads as, if it is a number -/
theorem read_num (f : Format) (b : Nat) (h : b % f.signWeight < f.infRung) :
    ∃ m e : Nat, f.read b = .number (b / f.signWeight % 2 == 1) m (f.leastPlace + e) ∧ m * 2 ^ e = units f.binade (b % f.signWeight) ∧ m < 2 * f.binade ∧ e ≤ b % f.signWeight / f.binade - 1 := by
  have hB := bin_pos f
  unfold Format.read units
  by_cases hr : b % f.signWeight < f.binade
  · refine ⟨b % f.signWeight, 0, ?_, ?_, by omega, by omega⟩
    · simp [hr]
    · simp [hr]
  · refine ⟨f.binade + b % f.signWeight % f.binade, b % f.signWeight / f.binade - 1, ?_, ?_, by have := Nat.mod_lt (b % f.signWeight) hB; omega, Nat.le_refl _⟩
    · simp only [if_neg hr, if_pos h]
    · rw [if_neg hr]

theorem read_inf (f : Format) (b : Nat) (h : b % f.signWeight = f.infRung) (hb : f.binade ≤ f.infRung) : f.read b = .infinity (b / f.signWeight % 2 == 1) := by
  unfold Format.read
  simp only
  rw [if_neg (by omega), if_neg (by omega), if_pos h]

theorem read_nan (f : Format) (b : Nat) (h : f.infRung < b % f.signWeight) (hb : f.binade ≤ f.infRung) : ∃ t, f.read b = .nan (b / f.signWeight % 2 == 1) t := by
  unfold Format.read
  simp only
  rw [if_neg (by omega), if_neg (by omega), if_neg (by omega)]
  exact ⟨_, rfl⟩

theorem bin_le (k : Go.FloatKind) : k.format.binade ≤ k.format.infRung := by cases k <;> decide

theorem order_nan (k : Go.FloatKind) (a b : Nat) (h : nan k a = true ∨ nan k b = true) : k.format.order a b = none := by
  unfold Format.order
  rcases h with h | h
  · obtain ⟨t, ht⟩ := read_nan k.format a (by simpa [nan] using h) (bin_le k)
    rw [ht]; cases k.format.read b <;> rfl
  · obtain ⟨t, ht⟩ := read_nan k.format b (by simpa [nan] using h) (bin_le k)
    rw [ht]; cases k.format.read a <;> rfl


theorem units_zero (B : Nat) (hB : 0 < B) : units B 0 = 0 := by unfold units; rw [if_pos hB]

theorem cmp_signed {B : Nat} (hB : 0 < B) (s t : Bool) (r q : Nat) :
    compare ((if s then -1 else 1) * (units B r : Int)) ((if t then -1 else 1) * (units B q : Int)) =
    compare (if s then -(r : Int) else (r : Int)) (if t then -(q : Int) else (q : Int)) := by
  have mono : ∀ x y : Nat, x < y → units B x < units B y := fun x y => units_lt hB
  have u0 := units_zero B hB
  have pos : ∀ x : Nat, 0 < x → 0 < units B x := fun x hx => by have := mono 0 x hx; omega
  have hr : r = 0 ∨ 0 < r := by omega
  have hq : q = 0 ∨ 0 < q := by omega
  have tri := Nat.lt_trichotomy r q
  have neg : ∀ x y : Int, compare (-x) (-y) = compare y x := by
    intro x y
    rcases Int.lt_trichotomy x y with h | h | h
    · rw [Int.compare_eq_gt.2 h, Int.compare_eq_gt.2 (by omega)]
    · subst h; simp
    · rw [Int.compare_eq_lt.2 h, Int.compare_eq_lt.2 (by omega)]
  have pr := pos r
  have pq := pos q
  cases s <;> cases t <;> simp only [if_true, if_false, Bool.false_eq_true, Int.one_mul, Int.neg_mul, neg]
  · exact units_cmp hB r q
  · rcases hr with rfl | h1 <;> rcases hq with rfl | h2
    · simp [u0]
    · have := pos q h2
      rw [Int.compare_eq_gt.2 (by omega), Int.compare_eq_gt.2 (by omega)]
    · have := pos r h1
      rw [Int.compare_eq_gt.2 (by omega), Int.compare_eq_gt.2 (by omega)]
    · have := pos r h1
      rw [Int.compare_eq_gt.2 (by omega), Int.compare_eq_gt.2 (by omega)]
  · rcases hr with rfl | h1 <;> rcases hq with rfl | h2
    · simp [u0]
    · have := pos q h2
      rw [Int.compare_eq_lt.2 (by omega), Int.compare_eq_lt.2 (by omega)]
    · have := pos r h1
      rw [Int.compare_eq_lt.2 (by omega), Int.compare_eq_lt.2 (by omega)]
    · have := pos r h1
      rw [Int.compare_eq_lt.2 (by omega), Int.compare_eq_lt.2 (by omega)]
  · exact units_cmp hB q r

theorem read_case (k : Go.FloatKind) (b : Nat) (h : nan k b = false) :
    (∃ m e : Nat, k.format.read b = .number (b / k.format.signWeight % 2 == 1) m (k.format.leastPlace + e) ∧ m * 2 ^ e = units k.format.binade (b % k.format.signWeight) ∧ b % k.format.signWeight < k.format.infRung ∧ m < 2 * k.format.binade ∧ e ≤ b % k.format.signWeight / k.format.binade - 1) ∨
    (k.format.read b = .infinity (b / k.format.signWeight % 2 == 1) ∧ b % k.format.signWeight = k.format.infRung) := by
  have h' : ¬ k.format.infRung < b % k.format.signWeight := by simpa [nan] using h
  rcases Nat.lt_or_ge (b % k.format.signWeight) k.format.infRung with hl | hg
  · obtain ⟨m, e, h1, h2, h3, h4⟩ := read_num k.format b hl
    exact .inl ⟨m, e, h1, h2, hl, h3, h4⟩
  · exact .inr ⟨read_inf k.format b (by omega) (bin_le k), by omega⟩

theorem order_eq (k : Go.FloatKind) (a b : Nat) (ha : nan k a = false) (hb : nan k b = false) :
    k.format.order a b = some (compare (S k a) (S k b)) := by
  unfold Format.order S
  rcases read_case k a ha with ⟨m, e, h1, h2, h3, _, _⟩ | ⟨h1, h3⟩ <;> rcases read_case k b hb with ⟨n, f, g1, g2, g3, _, _⟩ | ⟨g1, g3⟩
  · rw [h1, g1, order_num, h2, g2, cmp_signed (bin_pos _)]
  · rw [h1, g1]
    simp only [Datum.order]
    congr 1
    cases (b / k.format.signWeight % 2 == 1) <;> cases (a / k.format.signWeight % 2 == 1) <;> simp only [if_true, if_false, Bool.false_eq_true]
    all_goals first | rw [Int.compare_eq_lt.2 (by omega)] | rw [Int.compare_eq_gt.2 (by omega)]
  · rw [h1, g1]
    simp only [Datum.order]
    congr 1
    cases (b / k.format.signWeight % 2 == 1) <;> cases (a / k.format.signWeight % 2 == 1) <;> simp only [if_true, if_false, Bool.false_eq_true]
    all_goals first | rw [Int.compare_eq_lt.2 (by omega)] | rw [Int.compare_eq_gt.2 (by omega)]
  · rw [h1, g1]
    have pos : 0 < k.format.infRung := by have := bin_le k; have := bin_pos k.format; omega
    simp only [Datum.order]
    congr 1
    cases (b / k.format.signWeight % 2 == 1) <;> cases (a / k.format.signWeight % 2 == 1) <;> simp only [if_true, if_false, Bool.false_eq_true, h3, g3] 
    · simp
    · rw [Int.compare_eq_lt.2 (by omega)]; rfl
    · rw [Int.compare_eq_gt.2 (by omega)]; rfl
    · simp


/-! exact writing -/
theorem cut_zero (way : Toward) (neg : Bool) (n : Nat) : way.cut neg n 0 = n := by
  unfold Toward.cut
  simp
  cases way <;> simp [Nat.mod_one]

theorem sw_eq (f : Format) : f.signWeight = 2 ^ f.exponentBits * f.binade := by
  unfold Format.signWeight Format.binade; rw [Nat.pow_add]

theorem nearest_exact (f : Format) (s : Bool) (m : Nat) (place : Int) (hm : m ≠ 0) (hL : m.log2 ≤ f.fractionBits)
    (hlow : f.leastPlace ≤ place + m.log2 - f.fractionBits) (hhi : (place + m.log2 - f.fractionBits - f.leastPlace).toNat + 1 < 2 ^ f.exponentBits - 1) :
    ∃ r, f.nearest s m place = f.word s r ∧ r < f.infRung ∧ units f.binade r = m * 2 ^ (place - f.leastPlace).toNat := by
  obtain ⟨q, hq⟩ : ∃ q, q = (place + m.log2 - f.fractionBits - f.leastPlace).toNat := ⟨_, rfl⟩
  have hB := bin_pos f
  have h1 : 2 ^ m.log2 ≤ m := Nat.log2_self_le hm
  have h2 : m < 2 ^ (m.log2 + 1) := Nat.lt_log2_self
  have k1 : f.binade ≤ m * 2 ^ (f.fractionBits - m.log2) := by
    have : f.binade = 2 ^ m.log2 * 2 ^ (f.fractionBits - m.log2) := by
      unfold Format.binade; rw [← Nat.pow_add]; congr 1; omega
    rw [this]; exact Nat.mul_le_mul_right _ h1
  have k2 : m * 2 ^ (f.fractionBits - m.log2) < 2 * f.binade := by
    have : 2 * f.binade = 2 ^ (m.log2 + 1) * 2 ^ (f.fractionBits - m.log2) := by
      unfold Format.binade; rw [← Nat.pow_add, ← Nat.pow_succ']; congr 1; omega
    rw [this]; exact Nat.mul_lt_mul_of_pos_right h2 (Nat.two_pow_pos _)
  obtain ⟨K, hK⟩ : ∃ K, K = m * 2 ^ (f.fractionBits - m.log2) := ⟨_, rfl⟩
  rw [← hK] at k1 k2
  have hinf : q * f.binade + K < f.infRung := by
    unfold Format.infRung
    have : (q + 2) * f.binade ≤ (2 ^ f.exponentBits - 1) * f.binade := Nat.mul_le_mul_right _ (by omega)
    rw [Nat.add_mul] at this
    omega
  refine ⟨q * f.binade + K, ?_, hinf, ?_⟩
  · unfold Format.nearest
    rw [if_neg hm]
    simp only
    have e1 : max (place + (m.log2 : Int) - f.fractionBits) f.leastPlace = place + m.log2 - f.fractionBits := by omega
    rw [e1]
    have e2 : (place + (m.log2 : Int) - f.fractionBits - place).toNat = 0 := by omega
    have e3 : (place - (place + (m.log2 : Int) - f.fractionBits)).toNat = f.fractionBits - m.log2 := by omega
    rw [e2, e3, cut_zero, Nat.shiftLeft_eq, ← hK, ← hq, Nat.min_eq_left (by omega)]
  · unfold units
    rw [if_neg (by omega)]
    have d1 : (q * f.binade + K) / f.binade = q + 1 := by
      rw [show q * f.binade + K = (K - f.binade) + (q + 1) * f.binade from by rw [Nat.add_mul]; omega, Nat.add_mul_div_right _ _ hB, Nat.div_eq_of_lt (by omega)]; omega
    have d2 : (q * f.binade + K) % f.binade = K - f.binade := by
      rw [show q * f.binade + K = (K - f.binade) + (q + 1) * f.binade from by rw [Nat.add_mul]; omega, Nat.add_mul_mod_self_right, Nat.mod_eq_of_lt (by omega)]
    rw [d1, d2, show f.binade + (K - f.binade) = K from by omega, Nat.add_sub_cancel, hK, Nat.mul_assoc, ← Nat.pow_add]
    congr 2
    omega

theorem word_mod (f : Format) (s : Bool) (r : Nat) (h : r < f.signWeight) : f.word s r % f.signWeight = r ∧ (f.word s r / f.signWeight % 2 == 1) = s := by
  unfold Format.word
  cases s
  · simp [Nat.mod_eq_of_lt h, Nat.div_eq_of_lt h]
  · simp only [if_true]
    rw [Nat.add_mod_left, Nat.mod_eq_of_lt h, Nat.add_div_left _ (sw_pos f), Nat.div_eq_of_lt h]
    simp

theorem infRung_lt (f : Format) : f.infRung < f.signWeight := Ieee.Format.infRung_lt f

theorem nan_false {k : Go.FloatKind} {b : Nat} (h : b % k.format.signWeight ≤ k.format.infRung) : nan k b = false := by
  unfold nan; exact decide_eq_false (by omega)

theorem nan_le {k : Go.FloatKind} {b : Nat} (h : nan k b = false) : b % k.format.signWeight ≤ k.format.infRung := by
  unfold nan at h; have := of_decide_eq_false h; omega

/-- float64(x) of a float32 -/
def W (b : Nat) : Nat := Go.FloatKind.f64.encode (Go.FloatKind.f32.decode b)

/-- so many places lie between the two formats' least places -/
def sh : Nat := 925
theorem sh_eq : sh = 925 := rfl

theorem W_num (s : Bool) (m e : Nat) (hm : m < 2 ^ 24) (he : e ≤ 253) :
    ∃ r, Ieee.double.nearest s m (-149 + e) = Ieee.double.word s r ∧ r < Ieee.double.infRung ∧ units Ieee.double.binade r = m * 2 ^ e * 2 ^ sh := by
  by_cases h0 : m = 0
  · subst h0
    exact ⟨0, by unfold Format.nearest; simp, by decide, by rw [Nat.zero_mul, Nat.zero_mul]; rfl⟩
  · have hL : m.log2 < 24 := (Nat.log2_lt h0).2 hm
    have lp : Ieee.double.leastPlace = -1074 := by decide
    have fb : Ieee.double.fractionBits = 52 := rfl
    have eb : Ieee.double.exponentBits = 11 := rfl
    obtain ⟨r, h1, h2, h3⟩ := nearest_exact Ieee.double s m (-149 + e) h0 (by omega) (by rw [lp, fb]; omega) (by rw [lp, fb, eb]; omega)
    refine ⟨r, h1, h2, ?_⟩
    rw [h3, lp, Nat.mul_assoc, ← Nat.pow_add]
    have := sh_eq
    congr 2
    omega

theorem W_spec (b : Nat) (h : nan .f32 b = false) :
    (W b / Ieee.double.signWeight % 2 == 1) = (b / Ieee.single.signWeight % 2 == 1) ∧ nan .f64 (W b) = false ∧
    ((b % Ieee.single.signWeight < Ieee.single.infRung ∧ W b % Ieee.double.signWeight < Ieee.double.infRung ∧ units Ieee.double.binade (W b % Ieee.double.signWeight) = units Ieee.single.binade (b % Ieee.single.signWeight) * 2 ^ sh) ∨
     (b % Ieee.single.signWeight = Ieee.single.infRung ∧ W b % Ieee.double.signWeight = Ieee.double.infRung)) := by
  rcases read_case .f32 b h with ⟨m, e, h1, h2, h3, h4, h5⟩ | ⟨h1, h3⟩
  · have e1 : b % Ieee.single.signWeight < 255 * Ieee.single.binade := h3
    have h5' : e ≤ b % Ieee.single.signWeight / Ieee.single.binade - 1 := h5
    have e2 : b % Ieee.single.signWeight / Ieee.single.binade < 255 := Nat.div_lt_of_lt_mul (by rw [Nat.mul_comm]; exact e1)
    obtain ⟨r, g1, g2, g3⟩ := W_num (b / Ieee.single.signWeight % 2 == 1) m e h4 (by omega)
    have hW : W b = Ieee.double.word (b / Ieee.single.signWeight % 2 == 1) r := by
      rw [← g1]; unfold W Go.FloatKind.encode Go.FloatKind.decode; rw [h1]; rfl
    have hr : r < Ieee.double.signWeight := Nat.lt_trans g2 (infRung_lt _)
    obtain ⟨w1, w2⟩ := word_mod Ieee.double (b / Ieee.single.signWeight % 2 == 1) r hr
    rw [← hW] at w1 w2
    refine ⟨w2, nan_false (by show W b % Ieee.double.signWeight ≤ Ieee.double.infRung; omega), .inl ⟨h3, by omega, ?_⟩⟩
    rw [w1, g3, h2]; rfl
  · have hW : W b = Ieee.double.word (b / Ieee.single.signWeight % 2 == 1) Ieee.double.infRung := by
      unfold W Go.FloatKind.encode Go.FloatKind.decode; rw [h1]; rfl
    obtain ⟨w1, w2⟩ := word_mod Ieee.double (b / Ieee.single.signWeight % 2 == 1) Ieee.double.infRung (infRung_lt _)
    rw [← hW] at w1 w2
    exact ⟨w2, nan_false (by show W b % Ieee.double.signWeight ≤ Ieee.double.infRung; omega), .inr ⟨h3, w1⟩⟩


theorem units_inj {B r q : Nat} (hB : 0 < B) (h : units B r = units B q) : r = q := by
  rcases Nat.lt_trichotomy r q with h1 | h1 | h1
  · have := units_lt hB h1; omega
  · exact h1
  · have := units_lt hB h1; omega

theorem units_lt_iff {B r q : Nat} (hB : 0 < B) : units B r < units B q ↔ r < q := by
  constructor
  · intro h
    rcases Nat.lt_trichotomy r q with h1 | h1 | h1
    · exact h1
    · subst h1; omega
    · have := units_lt hB h1; omega
  · exact units_lt hB

theorem cmp_like (s t : Bool) (r q r' q' : Nat) (h1 : r < q → r' < q') (h2 : q < r → q' < r') (h3 : r = q → r' = q') (h4 : r = 0 ↔ r' = 0) (h5 : q = 0 ↔ q' = 0) :
    compare (if s then -(r' : Int) else (r' : Int)) (if t then -(q' : Int) else (q' : Int)) = compare (if s then -(r : Int) else (r : Int)) (if t then -(q : Int) else (q : Int)) := by
  have tri := Nat.lt_trichotomy r q
  have fin : ∀ (x y x' y' : Int), (x < y → x' < y') → (y < x → y' < x') → (x = y → x' = y') → compare x' y' = compare x y := by
    intro x y x' y' a b c
    rcases Int.lt_trichotomy x y with h | h | h
    · rw [Int.compare_eq_lt.2 h, Int.compare_eq_lt.2 (a h)]
    · rw [h, c h]; simp
    · rw [Int.compare_eq_gt.2 h, Int.compare_eq_gt.2 (b h)]
  cases s <;> cases t <;> simp only [if_true, if_false, Bool.false_eq_true] <;> apply fin <;> omega

theorem W_rel (a b : Nat) (ha : nan .f32 a = false) (hb : nan .f32 b = false) :
    (a % Ieee.single.signWeight < b % Ieee.single.signWeight → W a % Ieee.double.signWeight < W b % Ieee.double.signWeight) ∧
    (a % Ieee.single.signWeight = b % Ieee.single.signWeight → W a % Ieee.double.signWeight = W b % Ieee.double.signWeight) ∧
    (a % Ieee.single.signWeight = 0 ↔ W a % Ieee.double.signWeight = 0) := by
  obtain ⟨_, _, ca⟩ := W_spec a ha
  obtain ⟨_, _, cb⟩ := W_spec b hb
  have p : 0 < 2 ^ sh := Nat.two_pow_pos _
  have B1 := bin_pos Ieee.single
  have B2 := bin_pos Ieee.double
  have i1 : Ieee.single.infRung ≠ 0 := by decide
  have i2 : Ieee.double.infRung ≠ 0 := by decide
  generalize 2 ^ sh = c at *
  rcases ca with ⟨a1, a2, a3⟩ | ⟨a1, a2⟩
  · refine ⟨fun h => ?_, fun h => ?_, fun h => ?_, fun h => ?_⟩
    · rcases cb with ⟨b1, b2, b3⟩ | ⟨b1, b2⟩
      · rw [← units_lt_iff B2, a3, b3]
        exact Nat.mul_lt_mul_of_pos_right (units_lt B1 h) p
      · omega
    · rcases cb with ⟨b1, b2, b3⟩ | ⟨b1, b2⟩
      · exact units_inj B2 (by rw [a3, b3, h])
      · omega
    · refine units_inj B2 ?_
      rw [a3, h, units_zero _ B1, units_zero _ B2, Nat.zero_mul]
    · rw [h, units_zero _ B2] at a3
      have : units Ieee.single.binade (a % Ieee.single.signWeight) = 0 := by
        rcases Nat.mul_eq_zero.1 a3.symm with h' | h'
        · exact h'
        · omega
      exact units_inj B1 (by rw [this, units_zero _ B1])
  · refine ⟨fun h => ?_, fun h => ?_, fun h => ?_, fun h => ?_⟩
    · rcases cb with ⟨b1, b2, b3⟩ | ⟨b1, b2⟩ <;> omega
    · rcases cb with ⟨b1, b2, b3⟩ | ⟨b1, b2⟩ <;> omega
    · omega
    · omega

theorem W_cmp (a b : Nat) (ha : nan .f32 a = false) (hb : nan .f32 b = false) : compare (S .f64 (W a)) (S .f64 (W b)) = compare (S .f32 a) (S .f32 b) := by
  have r1 := W_rel a b ha hb
  have r2 := W_rel b a hb ha
  have s1 := (W_spec a ha).1
  have s2 := (W_spec b hb).1
  unfold S
  show compare (if W a / Ieee.double.signWeight % 2 == 1 then _ else _) (if W b / Ieee.double.signWeight % 2 == 1 then _ else _) = compare (if a / Ieee.single.signWeight % 2 == 1 then _ else _) (if b / Ieee.single.signWeight % 2 == 1 then _ else _)
  rw [s1, s2]
  exact cmp_like _ _ _ _ _ _ r1.1 r2.1 r1.2.1 r1.2.2 r2.2.2

theorem W_conv (b : Nat) (h : nan .f32 b = false) : Go.floatToFloatBits .f32 b .f64 = some (W b) := by
  have hW := W_spec b h
  unfold Go.floatToFloatBits
  rw [if_neg (by decide)]
  rcases read_case .f32 b h with ⟨m, e, h1, h2, h3, h4, h5⟩ | ⟨h1, h3⟩
  · have e0 : Go.FloatKind.f32.decode b = .number (b / Go.FloatKind.f32.format.signWeight % 2 == 1) m (Go.FloatKind.f32.format.leastPlace + e) := h1
    have hWe : W b = Go.FloatKind.f64.encode (.number (b / Go.FloatKind.f32.format.signWeight % 2 == 1) m (Go.FloatKind.f32.format.leastPlace + e)) := by unfold W; rw [e0]
    rw [e0]
    simp only
    rw [← hWe]
    have h3' : b % Ieee.single.signWeight < Ieee.single.infRung := h3
    have hf : W b % Ieee.double.signWeight < Ieee.double.infRung := by
      rcases hW.2.2 with ⟨_, h', _⟩ | ⟨h', _⟩
      · exact h'
      · omega
    obtain ⟨m', e', q1, _⟩ := read_num Ieee.double (W b) hf
    rw [if_neg]
    have : Go.FloatKind.f64.decode (W b) = _ := q1
    rw [this]; simp [Datum.isInfinity]
  · have e0 : Go.FloatKind.f32.decode b = .infinity (b / Go.FloatKind.f32.format.signWeight % 2 == 1) := h1
    rw [e0]
    simp only
    unfold W
    rw [e0]


/-! comparisons, as the walk spells them -/
theorem order_self (k : Go.FloatKind) (a : Nat) : (k.format.order a a != some .eq) = nan k a := by
  cases h : nan k a
  · rw [order_eq k a a h h]; simp
  · rw [order_nan k a a (.inl h)]; rfl

theorem order_self' (k : Go.FloatKind) (a : Nat) : (k.format.order a a == some .eq) = !nan k a := by
  cases h : nan k a
  · rw [order_eq k a a h h]; simp
  · rw [order_nan k a a (.inl h)]; rfl

theorem cmp_eq (x y : Int) : (some (compare x y) == some Ordering.eq) = decide (x = y) := by
  rcases Int.lt_trichotomy x y with h | h | h
  · rw [Int.compare_eq_lt.2 h, decide_eq_false (by omega)]; rfl
  · subst h; simp
  · rw [Int.compare_eq_gt.2 h, decide_eq_false (by omega)]; rfl
theorem cmp_lt (x y : Int) : (some (compare x y) == some Ordering.lt) = decide (x < y) := by
  rcases Int.lt_trichotomy x y with h | h | h
  · rw [Int.compare_eq_lt.2 h, decide_eq_true h]; rfl
  · subst h; simp
  · rw [Int.compare_eq_gt.2 h, decide_eq_false (by omega)]; rfl
theorem cmp_gt (x y : Int) : (some (compare x y) == some Ordering.gt) = decide (y < x) := by
  rcases Int.lt_trichotomy x y with h | h | h
  · rw [Int.compare_eq_lt.2 h, decide_eq_false (by omega)]; rfl
  · subst h; simp
  · rw [Int.compare_eq_gt.2 h, decide_eq_true h]; rfl

section
variable (k : Go.FloatKind) (a b : Nat) (ha : nan k a = false) (hb : nan k b = false)
include ha hb
theorem eqB : (k.format.order a b == some .eq) = decide (S k a = S k b) := by rw [order_eq k a b ha hb, cmp_eq]
theorem neB : (k.format.order a b != some .eq) = !decide (S k a = S k b) := by rw [bne, eqB k a b ha hb]
theorem ltB : (k.format.order a b == some .lt) = decide (S k a < S k b) := by rw [order_eq k a b ha hb, cmp_lt]
theorem gtB : (k.format.order a b == some .gt) = decide (S k b < S k a) := by rw [order_eq k a b ha hb, cmp_gt]
end

theorem S32 (b : Nat) (h : b < 4294967296) : S .f32 b = if b < 2147483648 then (b : Int) else 2147483648 - b := by
  have e : S .f32 b = if b / 2147483648 % 2 == 1 then -((b % 2147483648 : Nat) : Int) else ((b % 2147483648 : Nat) : Int) := rfl
  rw [e]
  by_cases h1 : b < 2147483648
  · rw [if_pos h1, if_neg (by simp; omega)]; omega
  · rw [if_neg h1, if_pos (by simp; omega)]; omega

theorem S64 (b : Nat) (h : b < 18446744073709551616) : S .f64 b = if b < 9223372036854775808 then (b : Int) else 9223372036854775808 - b := by
  have e : S .f64 b = if b / 9223372036854775808 % 2 == 1 then -((b % 9223372036854775808 : Nat) : Int) else ((b % 9223372036854775808 : Nat) : Int) := rfl
  rw [e]
  by_cases h1 : b < 9223372036854775808
  · rw [if_pos h1, if_neg (by simp; omega)]; omega
  · rw [if_neg h1, if_pos (by simp; omega)]; omega

theorem nan32 (b : Nat) (h : b < 4294967296) : nan .f32 b = decide (2139095040 < (if b < 2147483648 then b else b - 2147483648)) := by
  have e : nan .f32 b = decide (2139095040 < b % 2147483648) := rfl
  rw [e]
  congr 1
  apply propext
  split <;> omega

theorem nan64 (b : Nat) (h : b < 18446744073709551616) : nan .f64 b = decide (9218868437227405312 < (if b < 9223372036854775808 then b else b - 9223372036854775808)) := by
  have e : nan .f64 b = decide (9218868437227405312 < b % 9223372036854775808) := rfl
  rw [e]
  congr 1
  apply propext
  split <;> omega

theorem W_lt (b : Nat) : W b < 18446744073709551616 := Ieee.Format.write_lt Ieee.double _

theorem W_sign (b : Nat) (hb : b < 4294967296) (h : nan .f32 b = false) : 9223372036854775808 ≤ W b ↔ 2147483648 ≤ b := by
  have h1 := (W_spec b h).1
  have h2 := W_lt b
  have h3 : (W b / 9223372036854775808 % 2 == 1) = (b / 2147483648 % 2 == 1) := h1
  rw [Bool.eq_iff_iff] at h3
  simp at h3
  omega

/-- the bits that the document tells: one for all that are no numbers -/
def bitsC (b : Nat) : Int := if nan .f32 b then 2143289344 else b
def sameB (a b : Nat) : Bool := bitsC a == bitsC b
/-- has it a sign -/
def sg (b : Nat) : Bool := decide (2147483648 ≤ b)

theorem bitsC_num {b : Nat} (h : nan .f32 b = false) : bitsC b = b := by unfold bitsC; rw [h]; rfl
theorem bitsC_nan {b : Nat} (h : nan .f32 b = true) : bitsC b = 2143289344 := by unfold bitsC; rw [h]; rfl

theorem same_nn {a b : Nat} (ha : nan .f32 a = true) (hb : nan .f32 b = true) : sameB a b = true := by
  unfold sameB; rw [bitsC_nan ha, bitsC_nan hb]; rfl
theorem same_nx {a b : Nat} (h : b < 4294967296) (ha : nan .f32 a = true) (hb : nan .f32 b = false) : sameB a b = false := by
  unfold sameB; rw [bitsC_nan ha, bitsC_num hb]
  rw [nan32 b h] at hb
  have := of_decide_eq_false hb
  split at this <;> (simp; omega)
theorem same_xn {a b : Nat} (h : a < 4294967296) (ha : nan .f32 a = false) (hb : nan .f32 b = true) : sameB a b = false := by
  have := same_nx h hb ha
  unfold sameB at *
  rw [Bool.beq_comm]; exact this
theorem same_xx {a b : Nat} (h1 : a < 4294967296) (h2 : b < 4294967296) (ha : nan .f32 a = false) (hb : nan .f32 b = false) :
    sameB a b = (decide (S .f32 a = S .f32 b) && (sg a == sg b)) := by
  unfold sameB sg
  rw [bitsC_num ha, bitsC_num hb, S32 a h1, S32 b h2, Bool.eq_iff_iff]
  simp
  split <;> split <;> omega


/-! finite numbers -/
def fin (k : Go.FloatKind) (b : Nat) : Bool := decide (b % k.format.signWeight < k.format.infRung)
theorem fin_num {k : Go.FloatKind} {b : Nat} (h : fin k b = true) : nan k b = false := nan_false (by have := of_decide_eq_true h; omega)
theorem nan_fin {k : Go.FloatKind} {b : Nat} (h : nan k b = true) : fin k b = false := by
  unfold fin nan at *; have := of_decide_eq_true h; exact decide_eq_false (by omega)

theorem sub_self (k : Go.FloatKind) (b : Nat) : Go.floatBits .sub k b b = if fin k b then some 0 else none := by
  show k.format.sub b b = _
  unfold Format.sub
  cases hn : nan k b
  · rcases read_case k b hn with ⟨m, e, h1, h2, h3, _, _⟩ | ⟨h1, h3⟩
    · have hf : fin k b = true := decide_eq_true h3
      rw [h1, hf]
      have e0 : ∀ x : Int, x + -x = 0 := by intro x; omega
      have e1 : ∀ s : Bool, signed s m 0 + signed (!s) m 0 = 0 := by intro s; cases s <;> simp [signed, Int.add_right_neg, Int.add_left_neg]
      simp only [Datum.opposite, Datum.sum, Int.min_self, Int.sub_self, Int.toNat_zero, e1]
      simp [Format.write, Format.nearest, Format.word]
    · have hf : fin k b = false := decide_eq_false (by omega)
      rw [h1, hf]
      simp [Datum.opposite, Datum.sum]
  · obtain ⟨t, ht⟩ := read_nan k.format b (by simpa [nan] using hn) (bin_le k)
    rw [ht, nan_fin hn]
    simp [Datum.sum]

theorem fin_W (b : Nat) (h : nan .f32 b = false) : fin .f64 (W b) = fin .f32 b := by
  have i1 : Ieee.double.infRung ≠ 0 := by decide
  rcases (W_spec b h).2.2 with ⟨h1, h2, _⟩ | ⟨h1, h2⟩
  · unfold fin; rw [decide_eq_true (show W b % Go.FloatKind.f64.format.signWeight < Go.FloatKind.f64.format.infRung from h2), decide_eq_true (show b % Go.FloatKind.f32.format.signWeight < Go.FloatKind.f32.format.infRung from h1)]
  · unfold fin
    have a1 : ¬ W b % Go.FloatKind.f64.format.signWeight < Go.FloatKind.f64.format.infRung := by show ¬ W b % Ieee.double.signWeight < Ieee.double.infRung; omega
    have a2 : ¬ b % Go.FloatKind.f32.format.signWeight < Go.FloatKind.f32.format.infRung := by show ¬ b % Ieee.single.signWeight < Ieee.single.infRung; omega
    rw [decide_eq_false a1, decide_eq_false a2]

/-! bit facts -/
theorem and_low (a n : Nat) : a &&& (2 ^ n - 1) = a % 2 ^ n := Nat.and_two_pow_sub_one_eq_mod a n

theorem and_mask (x n m : Nat) : x &&& ((2 ^ n - 1) * 2 ^ m) = (x / 2 ^ m % 2 ^ n) * 2 ^ m := by
  apply Nat.eq_of_testBit_eq
  intro i
  rw [Nat.testBit_and, Nat.testBit_mul_two_pow, Nat.testBit_mul_two_pow, Nat.testBit_mod_two_pow, Nat.testBit_two_pow_sub_one, Nat.testBit_div_two_pow]
  by_cases h : m ≤ i
  · simp [h]
    rw [Bool.and_comm]
  · simp [h]

theorem abs_bits (x : Nat) (h : x < 18446744073709551616) : Go.bits .andNot .u64 (x : Int) 9223372036854775808 = ((x % 9223372036854775808 : Nat) : Int) := by
  have := Go.u64_andNot_nat x 9223372036854775808 h (by decide)
  rw [show ((9223372036854775808 : Nat) : Int) = 9223372036854775808 from rfl] at this
  rw [this, show 18446744073709551615 - 9223372036854775808 = 2 ^ 63 - 1 from by decide, and_low]

theorem sign_bits (x : Nat) (h : x < 18446744073709551616) : Go.bits .and .u64 (x : Int) 9223372036854775808 = ((x / 9223372036854775808 * 9223372036854775808 : Nat) : Int) := by
  have := Go.u64_and_nat x 9223372036854775808 h (by decide)
  rw [show ((9223372036854775808 : Nat) : Int) = 9223372036854775808 from rfl] at this
  rw [this, show 9223372036854775808 = (2 ^ 1 - 1) * 2 ^ 63 from by decide, and_mask, Nat.mod_eq_of_lt (by omega)]

theorem i64_and_nat (a b : Nat) (ha : a < 9223372036854775808) (hb : b < 9223372036854775808) : Go.bits .and .i64 (a : Int) (b : Int) = ((a &&& b : Nat) : Int) := by
  have hx : a &&& b < 2 ^ 63 := Nat.and_lt_two_pow _ (by omega)
  show Go.IntKind.i64.wrap ((BitVec.ofInt 64 (a : Int) &&& BitVec.ofInt 64 (b : Int)).toNat : Int) = _
  rw [BitVec.toNat_and, BitVec.ofInt_natCast, BitVec.ofInt_natCast, BitVec.toNat_ofNat, BitVec.toNat_ofNat, Nat.mod_eq_of_lt (by omega), Nat.mod_eq_of_lt (by omega)]
  generalize a &&& b = c at *
  have e : Go.IntKind.i64.wrap (c : Int) = ((c : Int) + 9223372036854775808) % 18446744073709551616 - 9223372036854775808 := by
    simp [Go.IntKind.wrap, Go.IntKind.bits, Go.IntKind.signed]; omega
  rw [e]; omega

/-- the field of the exponent of a float32's bits -/
theorem exp_bits (x : Nat) (h : x < 4294967296) : Go.bits .and .i64 (x : Int) 2139095040 = ((x / 8388608 % 256 * 8388608 : Nat) : Int) := by
  have := i64_and_nat x 2139095040 (by omega) (by decide)
  rw [show ((2139095040 : Nat) : Int) = 2139095040 from rfl] at this
  rw [this, show 2139095040 = (2 ^ 8 - 1) * 2 ^ 23 from by decide, and_mask]

theorem top_bit (x : Nat) (h : x < 4294967296) : Go.bits .and .i64 (x : Int) 2147483648 = ((x / 2147483648 * 2147483648 : Nat) : Int) := by
  have := i64_and_nat x 2147483648 (by omega) (by decide)
  rw [show ((2147483648 : Nat) : Int) = 2147483648 from rfl] at this
  rw [this, show 2147483648 = (2 ^ 1 - 1) * 2 ^ 31 from by decide, and_mask, Nat.mod_eq_of_lt (by omega)]
end Flt
