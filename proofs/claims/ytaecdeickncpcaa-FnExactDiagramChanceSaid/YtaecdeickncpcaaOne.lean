/-
  Numbers from 0 to 1: products of two, and how many of so many. No conditions beyond those stated.
-/
import Derived.Test.YtaecdeickncpcaaBnd
import Derived.Test.YtaecdeickncpcaaF32
namespace Liv
open Go Flt Ieee F32
theorem units1_le {b : Nat} (h : b ≤ 1065353216) : units Ieee.single.binade (b % Ieee.single.signWeight) ≤ 2 ^ 149 := by
  have e : Ieee.single.signWeight = 2147483648 := by decide
  have hb : b % Ieee.single.signWeight = b := by rw [e]; exact Nat.mod_eq_of_lt (by omega)
  rw [hb]
  have := units_le (bin_pos Ieee.single) (r := b) (q := 1065353216) h
  refine Nat.le_trans this ?_
  decide
theorem pow_mul_le (a b c : Nat) (h : a + b = c) : 2 ^ a * 2 ^ b ≤ 2 ^ c := by
  rw [← h, Nat.pow_add]
  exact Nat.le_refl _
theorem one_mul {a b : Nat} (ha : a ≤ 1065353216) (hb : b ≤ 1065353216) : ∃ r, Go.floatBits .mul .f32 a b = some r ∧ r ≤ 1065353216 := by
  have e : Ieee.single.signWeight = 2147483648 := by decide
  have ei : Ieee.single.infRung = 2139095040 := by decide
  have lp : Ieee.single.leastPlace = -149 := by decide
  have fb : Ieee.single.fractionBits = 23 := rfl
  have eb : (2 : Nat) ^ Ieee.single.exponentBits = 256 := by decide
  have ebn : Ieee.single.binade = 8388608 := by decide
  obtain ⟨m, x, a1, a2, _⟩ := read_num Ieee.single a (by rw [e, ei]; omega)
  obtain ⟨n, y, b1, b2, _⟩ := read_num Ieee.single b (by rw [e, ei]; omega)
  have ua := units1_le ha
  have ub := units1_le hb
  rw [← a2] at ua
  rw [← b2] at ub
  have sa : (a / Ieee.single.signWeight % 2 == 1) = false := by rw [e, Nat.div_eq_of_lt (by omega)]; rfl
  have sb : (b / Ieee.single.signWeight % 2 == 1) = false := by rw [e, Nat.div_eq_of_lt (by omega)]; rfl
  rw [sa] at a1
  rw [sb] at b1
  rw [lp] at a1 b1
  have hbound : m * n * 2 ^ ((-149 + (x : Int) + (-149 + y)) - -298).toNat ≤ 2 ^ ((0 : Int) - -298).toNat := by
    rw [show ((-149 + (x : Int) + (-149 + y)) - -298).toNat = x + y from by omega, Nat.pow_add, show m * n * (2 ^ x * 2 ^ y) = (m * 2 ^ x) * (n * 2 ^ y) from by rw [Nat.mul_mul_mul_comm]]
    refine Nat.le_trans (Nat.mul_le_mul ua ub) ?_
    exact pow_mul_le 149 149 _ (by decide)
  obtain ⟨r, h1, h2, h3⟩ := nearest_le Ieee.single false (m * n) (-149 + (x : Int) + (-149 + y)) 0 (-298) (by omega) (by omega) hbound (by rw [lp, fb]; omega) (by rw [lp, fb, eb]; omega)
  have h2' : r ≤ 1065353216 := by
    rw [lp, fb, ebn] at h2
    exact h2
  refine ⟨r, ?_, h2'⟩
  show Ieee.single.mul a b = _
  unfold Format.mul
  rw [a1, b1]
  show some (Ieee.single.nearest (false ^^ false) (m * n) _) = _
  rw [show (false ^^ false) = false from rfl, h1]
  simp [Format.word]
end Liv
