/-
  Seeds, and the shares that are drawn from them: a whole number times 2^-24 is that divided by 2^24. Plain facts; no conditions beyond those stated.
-/
import Derived.Test.YtppkeabkjabhdabWeP
import Derived.Test.YtppkeabkjabhdabInt
namespace We
open Go Flt Ieee F32
def nx (s : Nat) : Nat := (1664525 * s + 1013904223) % 4294967296
theorem prod_num (s t : Bool) (m n : Nat) (i j : Int) : (Datum.number s m i).product (.number t n j) = some (.number (s ^^ t) (m * n) (i + j)) := rfl
theorem nx_lt (s : Nat) : nx s < 4294967296 := Nat.mod_lt _ (by decide)
def nxk (s : Nat) : Nat → Nat
  | 0 => s
  | k + 1 => nx (nxk s k)
theorem nxk_lt {s : Nat} (h : s < 4294967296) : ∀ k, nxk s k < 4294967296
  | 0 => h
  | _ + 1 => nx_lt _
theorem nxk_one (s k : Nat) : nxk (nx s) k = nxk s (k + 1) := by
  induction k with
  | zero => simp only [nxk]
  | succ k ih => exact congrArg nx ih
theorem nxk_add (s j k : Nat) : nxk (nxk s j) k = nxk s (j + k) := by
  induction k with
  | zero => rfl
  | succ k ih => exact congrArg nx ih
/-- a whole number of up to 24 digits is a number -/
theorem two24 {n : Nat} (h : n < 16777216) : n < 2 ^ (Go.FloatKind.f32.format.fractionBits + 1) := by
  rw [show (2 : Nat) ^ (Go.FloatKind.f32.format.fractionBits + 1) = 16777216 from by decide +kernel]; exact h
theorem quot_num (dg : Nat) (s t : Bool) (m n : Nat) (i j : Int) (more q : Nat) (hn : n ≠ 0) (hm : dg + n.log2 - m.log2 = more) (hq : m <<< more = q * n) :
    (Datum.number s m i).quotient dg (.number t n j) = some (.number (s ^^ t) (2 * q) (i - j - more - 1)) := by
  unfold Datum.quotient
  simp only
  rw [if_neg hn, hm, hq, Nat.mul_div_cancel _ (Nat.pos_of_ne_zero hn), Nat.mul_mod_left]
  rfl
theorem whole24 (n : Nat) (h : n < 16777216) : Is (some (Go.floatOfInt .f32 (n : Int))) (Go.floatOfInt .f32 (n : Int)) := by
  have r := int_rep .f32 (n : Int) (by rw [Int.natAbs_natCast]; exact two24 h)
  exact ⟨rfl, r.num, by have := r.lt; exact this⟩
theorem read_c : Ieee.single.read 864026624 = .number false 8388608 (-149 + (102 : Nat)) := by decide +kernel
theorem read_d : Ieee.single.read 1266679808 = .number false 8388608 (-149 + (150 : Nat)) := by decide +kernel
theorem part_eq (n : Nat) (h : n < 16777216) : Go.floatBits .mul .f32 (Go.floatOfInt .f32 (n : Int)) 864026624 = Go.floatBits .quo .f32 (Go.floatOfInt .f32 (n : Int)) 1266679808 := by
  by_cases h0 : n = 0
  · subst h0; decide +kernel
  · have r := int_rep .f32 (n : Int) (by rw [Int.natAbs_natCast]; exact two24 h)
    rw [Int.natAbs_natCast, decide_eq_false (show ¬ ((n : Int) < 0) by omega)] at r
    generalize Go.floatOfInt .f32 (n : Int) = x at *
    obtain ⟨rr, hx, hr1, hr2⟩ := r
    obtain ⟨w1, w2⟩ := word_mod Ieee.single false rr (Nat.lt_trans hr1 (infRung_lt _))
    obtain ⟨m, e, q1, q2, q3, _⟩ := read_num Ieee.single x (by rw [hx]; show Ieee.single.word false rr % _ < _; rw [w1]; exact hr1)
    have hxs : x = Ieee.single.word false rr := hx
    rw [hxs, w1] at q2
    rw [hxs, w2] at q1
    have hu : units Ieee.single.binade rr = n * 2 ^ 149 := hr2
    rw [hu] at q2
    have hm24 : m < 16777216 := q3
    have hm0 : m ≠ 0 := by
      rintro rfl
      rw [Nat.zero_mul] at q2
      have : 0 < n * 2 ^ 149 := Nat.mul_pos (by omega) (Nat.two_pow_pos _)
      omega
    have hlog : m.log2 ≤ 23 := by
      have := (Nat.log2_lt (n := m) (k := 24) hm0).2 hm24
      omega
    have he : 126 ≤ e := by
      refine Nat.le_of_not_lt fun hlt => ?_
      have h1 : m * 2 ^ e < 16777216 * 2 ^ 125 := Nat.lt_of_lt_of_le (Nat.mul_lt_mul_of_pos_right hm24 (Nat.two_pow_pos _)) (Nat.mul_le_mul_left _ (Nat.pow_le_pow_right (by decide) (by omega)))
      have h2 : 1 * 2 ^ 149 ≤ n * 2 ^ 149 := Nat.mul_le_mul_right _ (by omega)
      have h3 : (16777216 * 2 ^ 125 : Nat) = 1 * 2 ^ 149 := by decide
      omega
    have hlp : Ieee.single.leastPlace = -149 := rfl
    show Ieee.single.mul x 864026624 = Ieee.single.div x 1266679808
    unfold Format.mul Format.div
    rw [hxs, q1, read_c, read_d, hlp]
    have hmore : Ieee.single.fractionBits + 2 + Nat.log2 8388608 - m.log2 = 26 - m.log2 + 22 := by
      have : Nat.log2 8388608 = 23 := by decide +kernel
      rw [this]
      show 23 + 2 + 23 - m.log2 = _
      omega
    obtain ⟨d, hd⟩ : ∃ d, 26 - m.log2 = d := ⟨_, rfl⟩
    have hd1 : 1 ≤ d := by omega
    have hsh : m <<< (d + 22) = m * 2 ^ (d - 1) * 8388608 := by
      rw [Nat.shiftLeft_eq, Nat.mul_assoc, show (8388608 : Nat) = 2 ^ 23 by decide, ← Nat.pow_add, show d - 1 + 23 = d + 22 by omega]
    have hp := prod_num false false m 8388608 (-149 + (e : Int)) (-149 + (102 : Nat))
    have hq := quot_num (Ieee.single.fractionBits + 2) false false m 8388608 (-149 + (e : Int)) (-149 + (150 : Nat)) (d + 22) (m * 2 ^ (d - 1)) (by decide) (by rw [hmore, hd]) hsh
    have h2d : 2 * (m * 2 ^ (d - 1)) = m * 2 ^ d := by
      obtain ⟨c, rfl⟩ : ∃ c, d = c + 1 := ⟨d - 1, by omega⟩
      rw [Nat.add_sub_cancel, Nat.pow_succ, Nat.mul_left_comm, Nat.mul_comm 2]
    rw [h2d] at hq
    rw [hp, hq]
    show some (Ieee.single.nearest false (m * 8388608) _) = some (Ieee.single.nearest false (m * 2 ^ d) _)
    refine congrArg some ?_
    rw [show (8388608 : Nat) = 2 ^ 23 by decide, nearest_shift Ieee.single false m 23 _ hm0 hlog (by rw [hlp]; omega), nearest_shift Ieee.single false m d _ hm0 hlog (by rw [hlp]; omega)]
    refine congrArg _ ?_
    omega
/-- the share of a seed -/
def drO (s : Nat) : Option Nat := F32.opO .quo (some (Go.floatOfInt .f32 ((s / 256 : Nat) : Int))) (some 1266679808)
theorem drO_mul {s : Nat} (h : s < 4294967296) : drO s = F32.opO .mul (some (Go.floatOfInt .f32 ((s / 256 : Nat) : Int))) (some 864026624) := by
  show Go.floatBits .quo .f32 _ _ = Go.floatBits .mul .f32 _ _
  exact (part_eq (s / 256) (by omega)).symm
/-- the sum of shares, less a half each -/
def nsO (s : Nat) : Nat → Option Nat
  | 0 => some 0
  | k + 1 => F32.opO .add (nsO s k) (F32.opO .sub (drO (nxk s (k + 1))) (some 1056964608))
def nmO (s : Nat) : Option Nat := F32.opO .mul (nsO s 4) (some 1071494103)
theorem half_is : Is (some 1056964608) 1056964608 := ⟨rfl, by decide, by decide⟩
theorem root_is : Is (some 1071494103) 1071494103 := ⟨rfl, by decide, by decide⟩
theorem part_is : Is (some 864026624) 864026624 := ⟨rfl, by decide, by decide⟩
theorem whole_is24 : Is (some 1266679808) 1266679808 := ⟨rfl, by decide, by decide⟩
theorem nx_int (s : Nat) : ((1664525 : Int) * (s : Int) + 1013904223).tmod 4294967296 = (nx s : Int) := by
  have := (Int.ofNat_tmod (1664525 * s + 1013904223) 4294967296).symm
  rw [show ((1664525 : Int) * (s : Int) + 1013904223) = ((1664525 * s + 1013904223 : Nat) : Int) by omega]
  exact this
theorem nx_int2 (s : Nat) : ((s : Int) * 1664525 + 1013904223).tmod 4294967296 = (nx s : Int) := by
  rw [show (s : Int) * 1664525 = 1664525 * (s : Int) from Int.mul_comm _ _]; exact nx_int s
theorem div_int (s : Nat) : ((s : Int)).tdiv 256 = ((s / 256 : Nat) : Int) := (Int.ofNat_tdiv s 256).symm
end We
