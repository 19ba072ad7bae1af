/-
  Contracts: the cuts of a system, in the program and in its model. Conditions: the lists read as lists of whole numbers.
-/
import Derived.Test.YtaecdeickncpcaaLstW
namespace Syl
open Go Dec
theorem and_two (s j : Nat) : s &&& 2 ^ j = if s.testBit j then 2 ^ j else 0 := by
  apply Nat.eq_of_testBit_eq
  intro i
  rw [Nat.testBit_and, Nat.testBit_two_pow]
  by_cases h : j = i
  · subst h
    cases hs : s.testBit j <;> simp
  · cases hs : s.testBit j <;> simp [h]
theorem bit_part (s j : Nat) (hs : s < 9223372036854775808) (hj : j ≤ 62) : (bits .and .i64 (s : Int) ((2 ^ j : Nat) : Int) != 0) = partB s j := by
  have hp : 2 ^ j < 9223372036854775808 := Nat.lt_of_le_of_lt (Nat.pow_le_pow_right (n := 2) (by decide) hj) (by decide)
  rw [and_nat s _ hs hp, partB_nat s j hs, and_two, Nat.testBit_eq_decide_div_mod_eq]
  have h0 : 0 < 2 ^ j := Nat.two_pow_pos j
  generalize 2 ^ j = q at *
  by_cases h : s / q % 2 = 1
  · rw [decide_eq_true h, if_pos rfl]; simp; omega
  · rw [decide_eq_false h]; simp
def luB (is : Int → Bool) (k j : Nat) : Bool := is k && !(List.range j).any fun i => partB k i && is ((k : Int) - 2 ^ i)
theorem luB_succ (is : Int → Bool) (k j : Nat) : luB is k (j + 1) = (luB is k j && !(partB k j && is ((k : Int) - 2 ^ j))) := by
  unfold luB
  rw [List.range_succ, List.any_append]
  simp [Bool.and_assoc]
theorem luB_false {is : Int → Bool} {k j p : Nat} (h : luB is k j = false) (hj : j ≤ p) : leastAt p is k = false := by
  obtain ⟨d, rfl⟩ := Nat.le.dest hj
  clear hj
  induction d with
  | zero => exact h
  | succ d ih =>
    show luB is k (j + d + 1) = false
    rw [luB_succ]
    have : luB is k (j + d) = false := ih
    rw [this]; rfl
/-- without a set, a system does not work -/
def cutIs (zs : List Int) (whole : Int) (s : Int) : Bool := !worksB zs (whole - s)
def cutL (p : Int) (zs : List Int) : List Int := leastL p.toNat (cutIs zs (two p - 1)) (2 ^ p.toNat)
def cutA (p : Int) (zs : List Int) : List Int := if sysB p zs then cutL p zs else []
theorem cutA_len (p : Int) (zs : List Int) : (cutA p zs).length ≤ 1048576 := by
  unfold cutA
  cases h : sysB p zs with
  | false => simp
  | true =>
    have hp := sysB_parts h
    have := leastL_len p.toNat (cutIs zs (two p - 1)) (2 ^ p.toNat)
    have h2 : 2 ^ p.toNat ≤ 2 ^ 10 := Nat.pow_le_pow_right (by decide) (by omega)
    simp only [↓reduceIte]
    unfold cutL
    omega
/-- with all parts it works -/
theorem works_all {p : Int} {zs : List Int} (h : sysB p zs = true) : worksB zs (two p - 1) = true := by
  have hl := sysB_len h
  have hp := sysB_parts h
  have hb := okAt_bd (sysB_at h (i := 0) (by omega))
  have ht := two_bd p hp.1 hp.2
  have hx : hasB (two p - 1) (zs.getD 0 0) = true := by
    obtain ⟨z, hz⟩ := Int.eq_ofNat_of_zero_le (show 0 ≤ zs.getD 0 0 by omega)
    rw [hz] at hb ⊢
    have e1 : two p - 1 = ((2 ^ p.toNat - 1 : Nat) : Int) := by
      unfold two
      have := Nat.two_pow_pos p.toNat
      rw [Int.natCast_sub (by omega)]; simp
    have h2 : 2 ^ p.toNat ≤ 2 ^ 10 := Nat.pow_le_pow_right (by decide) (by omega)
    rw [e1, hasB_nat _ z (by omega) (by omega)]
    refine decide_eq_true ?_
    rw [Nat.and_comm, Nat.and_two_pow_sub_one_eq_mod]
    refine Nat.mod_eq_of_lt ?_
    have : (z : Int) < two p := hb.2
    unfold two at this
    have e2 : ((2 ^ p.toNat : Nat) : Int) = (2 : Int) ^ p.toNat := by simp
    omega
  have := worksB_take_yes (zs := zs) (s := two p - 1) (i := zs.length) (k := 0) (by omega) (by omega) hx
  rwa [List.take_length] at this
theorem leastL_one {p : Nat} {is : Int → Bool} (h : is 0 = false) : leastL p is 1 = [] := by
  rw [show (1 : Nat) = 0 + 1 from rfl, leastL_succ, leastAt_no h]; simp [leastL]
end Syl
namespace Go.Proofs.Ytaecdeickncpcaa
open Go.RowKit Dec Flt Syl Sep
end Go.Proofs.Ytaecdeickncpcaa
