/-
  Sets of parts as whole numbers, and which systems are valid: plain facts. No conditions beyond those stated.
-/
import Derived.Test.YtemdgfjcjjadnaaIntW
import Derived.Laws.Bits64
import Derived.Deep.SlicePairs
import Derived.Lib.SmallJoins
namespace Syl
open Go
def hasB (set z : Int) : Bool := bits .and .i64 set z == z
theorem bits_comm (k : IntKind) (x y : Int) : bits .and k x y = bits .and k y x := by
  unfold bits
  simp only [BitVec.and_comm]
theorem wrap_i64 (n : Int) (h1 : -9223372036854775808 ≤ n) (h2 : n ≤ 9223372036854775807) : IntKind.i64.wrap n = n := by
  simp [IntKind.wrap, IntKind.bits, IntKind.signed]; omega
theorem and_nat (a b : Nat) (ha : a < 9223372036854775808) (hb : b < 9223372036854775808) : bits .and .i64 (a : Int) (b : Int) = ((a &&& b : Nat) : Int) := by
  have hx : a &&& b < 2 ^ 63 := Nat.and_lt_two_pow _ (by omega)
  have h1 : (BitVec.ofInt 64 (a : Int)).toNat = a := by
    rw [BitVec.ofInt_natCast, BitVec.toNat_ofNat]; exact Nat.mod_eq_of_lt (by omega)
  have h2 : (BitVec.ofInt 64 (b : Int)).toNat = b := by
    rw [BitVec.ofInt_natCast, BitVec.toNat_ofNat]; exact Nat.mod_eq_of_lt (by omega)
  show IntKind.i64.wrap ((BitVec.ofInt 64 (a : Int) &&& BitVec.ofInt 64 (b : Int)).toNat : Int) = _
  rw [BitVec.toNat_and, h1, h2, wrap_i64 _ (by omega) (by omega)]
theorem hasB_nat (a b : Nat) (ha : a < 9223372036854775808) (hb : b < 9223372036854775808) : hasB a b = decide (a &&& b = b) := by
  unfold hasB
  rw [and_nat a b ha hb]
  by_cases h : a &&& b = b
  · rw [h]; simp
  · rw [decide_eq_false h]; simp; exact_mod_cast h
theorem hasB_le {a b : Int} (ha : 0 ≤ a) (ha' : a < 9223372036854775808) (hb : 0 ≤ b) (hb' : b < 9223372036854775808) (h : hasB a b = true) : b ≤ a := by
  obtain ⟨A, rfl⟩ := Int.eq_ofNat_of_zero_le ha
  obtain ⟨B, rfl⟩ := Int.eq_ofNat_of_zero_le hb
  rw [hasB_nat A B (by omega) (by omega)] at h
  have := of_decide_eq_true h
  have h2 : A &&& B ≤ A := Nat.and_le_left
  omega
/-- how many sets of so many parts there are -/
def two (p : Int) : Int := 2 ^ p.toNat
theorem two_cases (p : Int) (h1 : 1 ≤ p) (h2 : p ≤ 10) : p = 1 ∨ p = 2 ∨ p = 3 ∨ p = 4 ∨ p = 5 ∨ p = 6 ∨ p = 7 ∨ p = 8 ∨ p = 9 ∨ p = 10 := by omega
theorem two_bd (p : Int) (h1 : 1 ≤ p) (h2 : p ≤ 10) : 2 ≤ two p ∧ two p ≤ 1024 := by
  rcases two_cases p h1 h2 with rfl | rfl | rfl | rfl | rfl | rfl | rfl | rfl | rfl | rfl <;> decide
def partsB (p : Int) : Bool := decide (1 ≤ p ∧ p ≤ 10)
def setB (p s : Int) : Bool := decide (0 ≤ s ∧ s < two p)
def worksB (zs : List Int) (s : Int) : Bool := zs.any (hasB s)
/-- a path is as it must be behind those before it -/
def okAt (p : Int) (zs : List Int) (i : Nat) : Bool := decide (1 ≤ zs.getD i 0 ∧ zs.getD i 0 < two p) && (decide (i = 0 ∨ zs.getD (i - 1) 0 < zs.getD i 0) && !worksB (zs.take i) (zs.getD i 0))
def sysB (p : Int) (zs : List Int) : Bool := partsB p && (decide (1 ≤ zs.length ∧ zs.length ≤ 64) && (List.range zs.length).all (okAt p zs))
theorem sysB_parts {p : Int} {zs : List Int} (h : sysB p zs = true) : 1 ≤ p ∧ p ≤ 10 := by
  unfold sysB partsB at h
  simp only [Bool.and_eq_true, decide_eq_true_eq] at h
  exact h.1
theorem sysB_len {p : Int} {zs : List Int} (h : sysB p zs = true) : 1 ≤ zs.length ∧ zs.length ≤ 64 := by
  unfold sysB at h
  simp only [Bool.and_eq_true, decide_eq_true_eq] at h
  exact h.2.1
theorem sysB_at {p : Int} {zs : List Int} (h : sysB p zs = true) {i : Nat} (hi : i < zs.length) : okAt p zs i = true := by
  unfold sysB at h
  simp only [Bool.and_eq_true] at h
  exact List.all_eq_true.1 h.2.2 i (List.mem_range.2 hi)
theorem okAt_bd {p : Int} {zs : List Int} {i : Nat} (h : okAt p zs i = true) : 1 ≤ zs.getD i 0 ∧ zs.getD i 0 < two p := by
  unfold okAt at h
  simp only [Bool.and_eq_true, decide_eq_true_eq] at h
  exact h.1
/-- the list is such, as far as it was looked at -/
theorem sysB_mk {p : Int} {zs : List Int} (hp : partsB p = true) (hl : 1 ≤ zs.length ∧ zs.length ≤ 64) (h : ∀ i, i < zs.length → okAt p zs i = true) : sysB p zs = true := by
  unfold sysB
  rw [hp, decide_eq_true hl, List.all_eq_true.2 (fun i hi => h i (List.mem_range.1 hi))]; rfl
theorem sysB_no {p : Int} {zs : List Int} {i : Nat} (hi : i < zs.length) (h : okAt p zs i = false) : sysB p zs = false := by
  cases hs : sysB p zs with
  | false => rfl
  | true => rw [sysB_at hs hi] at h; cases h
theorem sysB_no_len {p : Int} {zs : List Int} (h : ¬ (1 ≤ zs.length ∧ zs.length ≤ 64)) : sysB p zs = false := by
  unfold sysB; rw [decide_eq_false h]; simp
theorem sysB_no_parts {p : Int} {zs : List Int} (h : partsB p = false) : sysB p zs = false := by
  unfold sysB; rw [h]; simp
theorem worksB_take {zs : List Int} {s : Int} {i : Nat} (h : worksB (zs.take i) s = false) : ∀ k, k < i → k < zs.length → hasB s (zs.getD k 0) = false := by
  intro k hk hkl
  cases hh : hasB s (zs.getD k 0) with
  | false => rfl
  | true =>
    exfalso
    have : worksB (zs.take i) s = true := by
      refine List.any_eq_true.2 ⟨zs.getD k 0, ?_, hh⟩
      rw [show zs.getD k 0 = zs[k] from by simp [List.getD, hkl]]
      exact List.mem_take_iff_getElem.2 ⟨k, by omega, by simp⟩
    rw [this] at h; cases h
theorem worksB_take_of {zs : List Int} {s : Int} {i : Nat} (hi : i ≤ zs.length) (h : ∀ k, k < i → hasB s (zs.getD k 0) = false) : worksB (zs.take i) s = false := by
  refine List.any_eq_false.2 fun z hz => ?_
  obtain ⟨k, hk, rfl⟩ := List.mem_take_iff_getElem.1 hz
  have hkl : k < zs.length := by omega
  have := h k (by omega)
  rw [show zs.getD k 0 = zs[k] from by simp [List.getD, hkl]] at this
  rw [this]; decide
theorem worksB_take_yes {zs : List Int} {s : Int} {i k : Nat} (hk : k < i) (hkl : k < zs.length) (h : hasB s (zs.getD k 0) = true) : worksB (zs.take i) s = true := by
  refine List.any_eq_true.2 ⟨zs.getD k 0, ?_, h⟩
  rw [show zs.getD k 0 = zs[k] from by simp [List.getD, hkl]]
  exact List.mem_take_iff_getElem.2 ⟨k, by omega, by simp⟩
end Syl
