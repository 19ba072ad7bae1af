/-
  The exponential function's steps at numbers from -64 to 0: each has a result, and the last one is at most 1. Plain facts; no conditions beyond those stated.
-/
import Derived.Test.YtiebbmgehhcdmaaExpW
import Derived.Test.YtiebbmgehhcdmaaB32
namespace Flt.ExN
open Ieee Flt
/-- it has a sign -/
def sg (f : Format) (b : Nat) : Bool := b / f.signWeight % 2 == 1
theorem read_neg (f : Format) (b : Nat) : (f.read b).neg = sg f b := by
  unfold Format.read sg
  simp only
  split
  · rfl
  · split
    · rfl
    · split <;> rfl
theorem write_neg (f : Format) (d : Datum) (h : d.isNaN = false) : sg f (f.write d) = d.neg := by
  cases d with
  | number s m p =>
    obtain ⟨r, h1, h2⟩ := nearest_word f s m p
    show sg f (f.nearest s m p) = s
    rw [h1]
    exact (word_mod f s r h2).2
  | infinity s => exact (word_mod f s _ (infRung_lt f)).2
  | nan s t => cases h
theorem product_neg {d e g : Datum} (h : d.product e = some g) : g.isNaN = false ∧ g.neg = (d.neg ^^ e.neg) := by
  cases d <;> cases e <;> simp only [Datum.product] at h
  all_goals first
    | (cases h; done)
    | (cases h; exact ⟨rfl, rfl⟩)
    | (split at h
       · cases h
       · cases h; exact ⟨rfl, by first | rfl | exact Bool.xor_comm _ _⟩)
theorem quotient_neg {n : Nat} {d e g : Datum} (h : d.quotient n e = some g) : g.isNaN = false ∧ g.neg = (d.neg ^^ e.neg) := by
  cases d <;> cases e <;> simp only [Datum.quotient] at h
  all_goals first
    | (cases h; done)
    | (cases h; exact ⟨rfl, rfl⟩)
    | (split at h
       · split at h
         · cases h
         · cases h; exact ⟨rfl, rfl⟩
       · cases h; exact ⟨rfl, rfl⟩)
theorem mul_sg {k : Go.FloatKind} {a b r : Nat} (h : Go.floatBits .mul k a b = some r) : sg k.format r = (sg k.format a ^^ sg k.format b) := by
  have h' : ((k.format.read a).product (k.format.read b)).map k.format.write = some r := h
  rw [Option.map_eq_some_iff] at h'
  obtain ⟨g, h1, h2⟩ := h'
  obtain ⟨n, e⟩ := product_neg h1
  rw [← h2, write_neg _ _ n, e, read_neg, read_neg]
theorem quo_sg {k : Go.FloatKind} {a b r : Nat} (h : Go.floatBits .quo k a b = some r) : sg k.format r = (sg k.format a ^^ sg k.format b) := by
  have h' : ((k.format.read a).quotient (k.format.fractionBits + 2) (k.format.read b)).map k.format.write = some r := h
  rw [Option.map_eq_some_iff] at h'
  obtain ⟨g, h1, h2⟩ := h'
  obtain ⟨n, e⟩ := quotient_neg h1
  rw [← h2, write_neg _ _ n, e, read_neg, read_neg]
theorem mul_sgD {a b r : Nat} (h : Go.floatBits .mul .f64 a b = some r) : sg Ieee.double r = (sg Ieee.double a ^^ sg Ieee.double b) := mul_sg h
theorem quo_sgD {a b r : Nat} (h : Go.floatBits .quo .f64 a b = some r) : sg Ieee.double r = (sg Ieee.double a ^^ sg Ieee.double b) := quo_sg h
theorem sg_plus {b : Nat} (h : Plus b) : sg Ieee.double b = false := by
  have : Ieee.double.signWeight = 9223372036854775808 := by decide
  unfold Plus at h
  unfold sg
  rw [this, Nat.div_eq_of_lt h]; rfl
theorem U_minus {b : Nat} (h : sg Ieee.double b = true) : U b ≤ 0 := by
  unfold U
  unfold sg at h
  rw [h]
  simp only [if_true]
  omega

/-- widening keeps bounds -/
theorem W_le {b : Nat} {K : Int} (h : S3.LeP b K) (hK : K ≤ 126) : LeP (W b) K := by
  have hn := h.num
  obtain ⟨h1, h2, h3⟩ := W_spec b hn
  have hf := h.fin_rung
  have hl := h.2.2.1
  have hb := units_le (bin_pos Ieee.single) h.2.1
  rw [S3.units_pow] at hb
  rcases h3 with ⟨_, h4, h5⟩ | ⟨h4, _⟩
  · refine ⟨W_lt b, ?_, by omega, by omega⟩
    have hB := bin_pos Ieee.double
    have : units Ieee.double.binade (W b % Ieee.double.signWeight) ≤ 2 ^ (52 + (K + 1022).toNat) := by
      rw [h5]
      have e : 52 + (K + 1022).toNat = 23 + (K + 126).toNat + sh := by rw [sh_eq]; omega
      rw [e, Nat.pow_add]
      exact Nat.mul_le_mul_right _ hb
    rw [← units_pow] at this
    rcases Nat.lt_or_ge (((K + 1022).toNat + 1) * Ieee.double.binade) (W b % Ieee.double.signWeight) with hlt | hge
    · have := units_lt hB hlt; omega
    · exact hge
  · omega
theorem W_sg {b : Nat} (h : nan .f32 b = false) : sg Ieee.double (W b) = sg Ieee.single b := (W_spec b h).1

/-- narrowing keeps bounds -/
theorem narrow_le {r : Nat} {K : Int} (h : LeP r K) (h1 : -126 ≤ K) (hK : K ≤ 126) : ∃ v, Go.floatToFloatBits .f64 r .f32 = some v ∧ S3.LeP v K := by
  obtain ⟨m, e, a1, a2, a3⟩ := h.read
  have lp : Ieee.single.leastPlace = -149 := by decide
  have fb : Ieee.single.fractionBits = 23 := rfl
  have eb : (2 : Nat) ^ Ieee.single.exponentBits = 256 := by decide
  obtain ⟨q, w1, w2, w3⟩ := nearest_le Ieee.single (r / Ieee.double.signWeight % 2 == 1) m (-1074 + e) K (-1074) (by omega) (by omega)
    (by rw [show (-1074 + (e : Int) - -1074).toNat = e from by omega]
        exact a3) (by rw [lp, fb]; omega) (by rw [lp, fb, eb]; omega)
  have hq : q < Ieee.single.signWeight := Nat.lt_trans w3 (infRung_lt _)
  obtain ⟨g1, g2⟩ := word_mod Ieee.single (r / Ieee.double.signWeight % 2 == 1) q hq
  have hd : Go.FloatKind.f64.decode r = .number (r / Ieee.double.signWeight % 2 == 1) m (-1074 + e) := a1
  refine ⟨Ieee.single.nearest (r / Ieee.double.signWeight % 2 == 1) m (-1074 + e), ?_, ?_, ?_, h1, hK⟩
  · unfold Go.floatToFloatBits
    rw [if_neg (by decide), hd]
    simp only
    rw [if_neg]
    · rfl
    · show ¬ (Ieee.single.read (Ieee.single.nearest _ m _)).isInfinity = true
      rw [w1]
      obtain ⟨m', e', q1, _⟩ := read_num Ieee.single (Ieee.single.word (r / Ieee.double.signWeight % 2 == 1) q) (by omega)
      rw [q1]; simp [Datum.isInfinity]
  · rw [w1]; exact Ieee.Format.word_lt Ieee.single _ hq
  · rw [w1, g1]
    rw [lp, fb, show (K - -149 - ((23 : Nat) : Int)).toNat = (K + 126).toNat from by omega] at w2
    exact w2

theorem one_le : LeP 4607182418800017408 0 := ⟨by omega, by decide, by omega, by omega⟩
theorem U_one : U 4607182418800017408 = ((2 ^ (0 + 1074 : Int).toNat : Nat) : Int) := by
  have h := units_pow 1022
  rw [show (1022 + 1) * Ieee.double.binade = 4607182418800017408 from by decide] at h
  rw [U_plus (by unfold Plus; omega), h, show 52 + 1022 = (0 + 1074 : Int).toNat from by decide]
theorem whole_ok (k : Nat) (h : k < 12) : LeP (Go.floatOfInt .f64 ((k + 1 : Nat) : Int)) 4 ∧ GeP (Go.floatOfInt .f64 ((k + 1 : Nat) : Int)) 0 ∧ Plus (Go.floatOfInt .f64 ((k + 1 : Nat) : Int)) := by
  have : (List.range 12).all (fun k => decide (Go.floatOfInt .f64 ((k + 1 : Nat) : Int) < 9223372036854775808) && decide (Go.floatOfInt .f64 ((k + 1 : Nat) : Int) % Ieee.double.signWeight ≤ 1027 * Ieee.double.binade) && decide (1023 * Ieee.double.binade ≤ Go.floatOfInt .f64 ((k + 1 : Nat) : Int) % Ieee.double.signWeight)) = true := by decide +kernel
  have := List.all_eq_true.1 this k (List.mem_range.2 h)
  simp only [Bool.and_eq_true, decide_eq_true_eq] at this
  obtain ⟨⟨h1, h2⟩, h3⟩ := this
  exact ⟨⟨by omega, h2, by omega, by omega⟩, ⟨h3, by omega⟩, h1⟩
theorem expL_ok {t : Nat} (ht : LeP t (-2)) (hm : sg Ieee.double t = true) : ∀ n v, n ≤ 12 → LeP v 0 → Plus v → ∃ p, expL t n v = some p ∧ LeP p 0 ∧ Plus p
  | 0, v, _, hv, hp => ⟨v, rfl, hv, hp⟩
  | n + 1, v, hn, hv, hp => by
    obtain ⟨m, m1, m2⟩ := mul_le ht hv (by omega) (by omega)
    have m3 : sg Ieee.double m = true := by rw [mul_sgD m1, hm, sg_plus hp]; rfl
    obtain ⟨w1, w2, w3⟩ := whole_ok n (by omega)
    obtain ⟨d, d1, d2⟩ := quo_le m2 w1 w2 (by omega) (by omega)
    have d3 : sg Ieee.double d = true := by rw [quo_sgD d1, m3, sg_plus w3]; rfl
    have u1 := U_minus d3
    have u2 := U_le d2
    have d2' : LeP d (-2) := d2.mono (by omega) (by omega)
    have u3 := U_le d2'
    have e1 : 2 ^ (0 + 1074 : Int).toNat = 4 * 2 ^ (-2 + 1074 : Int).toNat := by
      rw [show (0 + 1074 : Int).toNat = 2 + (-2 + 1074 : Int).toNat from by decide, Nat.pow_add]
    have e2 : 2 ^ (-1 + 1074 : Int).toNat = 2 * 2 ^ (-2 + 1074 : Int).toNat := by
      rw [show (-1 + 1074 : Int).toNat = 1 + (-2 + 1074 : Int).toNat from by decide, Nat.pow_add]
    have hone := U_one
    generalize (2 : Nat) ^ (-2 + 1074 : Int).toNat = q at *
    rw [e1] at hone
    obtain ⟨y, y1, y2⟩ := add_val (K := 0) one_le d2' (by omega) (by omega) (by rw [e1, hone]; omega)
    obtain ⟨y3, y4⟩ := add_ge one_le d2' y1 y2 (J := -1) (by omega) (by omega) (by rw [e2, hone]; omega)
    obtain ⟨p, p1, p2⟩ := expL_ok ht hm n y (by omega) y2 y4
    refine ⟨p, ?_, p2⟩
    unfold expL
    rw [m1, Option.bind_some, d1, Option.bind_some, y1, Option.bind_some]
    exact p1
theorem sqL_ok : ∀ n v, LeP v 0 → ∃ q, sqL n v = some q ∧ LeP q 0
  | 0, v, h => ⟨v, rfl, h⟩
  | n + 1, v, h => by
    obtain ⟨m, m1, m2⟩ := mul_le h h (by omega) (by omega)
    obtain ⟨q, q1, q2⟩ := sqL_ok n m m2
    refine ⟨q, ?_, q2⟩
    unfold sqL
    rw [m1, Option.bind_some]
    exact q1
theorem w256 : LeP 4643211215818981376 8 ∧ GeP 4643211215818981376 8 ∧ Plus 4643211215818981376 :=
  ⟨⟨by omega, by decide, by omega, by omega⟩, ⟨by decide, by omega⟩, by unfold Plus; omega⟩
/-- the steps at a negative number of at least -64 -/
theorem exp_minus {x : Nat} (hx : S3.LeP x 6) (hm : sg Ieee.single x = true) : ∃ r, expRun x = some r ∧ S3.LeP r 0 := by
  have hW := W_le hx (by omega)
  have hs : sg Ieee.double (W x) = true := by rw [W_sg hx.num, hm]
  obtain ⟨t, t1, t2⟩ := quo_le hW w256.1 w256.2.1 (by omega) (by omega)
  have t3 : sg Ieee.double t = true := by rw [quo_sgD t1, hs, sg_plus w256.2.2]; rfl
  obtain ⟨p, p1, p2, _⟩ := expL_ok (t2.mono (by omega) (by omega)) t3 12 _ (Nat.le_refl _) one_le (by unfold Plus; omega)
  obtain ⟨q, q1, q2⟩ := sqL_ok 8 p p2
  obtain ⟨r, r1, r2⟩ := narrow_le q2 (by omega) (by omega)
  refine ⟨r, ?_, r2⟩
  unfold expRun
  rw [t1, Option.bind_some, p1, Option.bind_some, q1, Option.bind_some]
  exact r1
/-- 0 less a mean -/
theorem sub_mean {m : Nat} (h0 : 0 < m) (h : m ≤ 1115684864) : ∃ x, Go.floatBits .sub .f32 0 m = some x ∧ S3.LeP x 6 ∧ sg Ieee.single x = true := by
  have hm : S3.LeP m 6 := ⟨by omega, by
    have : Ieee.single.signWeight = 2147483648 := by decide
    rw [this, Nat.mod_eq_of_lt (by omega)]
    exact h, by omega, by omega⟩
  have hz : S3.LeP 0 (-126) := ⟨by omega, by decide, by omega, by omega⟩
  have hU0 : S3.U 0 = 0 := by decide
  have hU := S3.U_le hm
  obtain ⟨x, x1, x2⟩ := S3.sub_val (K := 6) hz hm (by omega) (by omega) (by rw [hU0]; omega)
  refine ⟨x, x1, x2, ?_⟩
  have h' : ((Ieee.single.read 0).sum (Ieee.single.read m).opposite).map Ieee.single.write = some x := x1
  obtain ⟨n, e, a1, a2, _⟩ := hm.read
  have hsw : Ieee.single.signWeight = 2147483648 := by decide
  have hn : n ≠ 0 := by
    rintro rfl
    rw [Nat.zero_mul, hsw, Nat.mod_eq_of_lt (by omega)] at a2
    have := units_lt (bin_pos Ieee.single) (show 0 < m by omega)
    omega
  rw [a1, show Ieee.single.read 0 = .number false 0 (-149) from by decide] at h'
  have hs : (m / Ieee.single.signWeight % 2 == 1) = false := by rw [hsw, Nat.div_eq_of_lt (by omega)]; rfl
  rw [hs] at h'
  simp only [Datum.opposite, Datum.sum, Option.map_some, Option.some.injEq] at h'
  have hp : 0 < n * 2 ^ (-149 + (e : Int) - min (-149) (-149 + (e : Int))).toNat := Nat.mul_pos (by omega) (Nat.two_pow_pos _)
  rw [signed_eq, signed_eq, Nat.zero_mul] at h'
  generalize n * 2 ^ (-149 + (e : Int) - min (-149) (-149 + (e : Int))).toNat = tot at *
  rw [← h', write_neg _ _ rfl]
  show (if _ then _ else _) = true
  simp only [Bool.not_false, if_true, Bool.false_eq_true, if_false]
  rw [if_neg (by omega)]
  exact decide_eq_true (by omega)
end Flt.ExN
