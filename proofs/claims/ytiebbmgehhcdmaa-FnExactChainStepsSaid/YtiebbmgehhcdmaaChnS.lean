/-
  Whether chains are the same, and whether one is valid: contracts of both. Conditions: the lists read as lists of 32-bit numbers.
-/
import Derived.Test.YtiebbmgehhcdmaaChnW
import Derived.Test.YtiebbmgehhcdmaaCmW
import Derived.Deep.QuietTactic
import Derived.BigQuiet
import Derived.IntWalk
namespace Cha
open Go Flt Cm
def sameL (zs ys : List Nat) : Bool := decide (zs.length = ys.length) && (List.range zs.length).all fun k => sameB (zs.getD k 0) (ys.getD k 0)
theorem sameL_len {zs ys : List Nat} (h : zs.length ≠ ys.length) : sameL zs ys = false := by unfold sameL; rw [decide_eq_false h, Bool.false_and]
theorem sameL_no {zs ys : List Nat} {k : Nat} (hk : k < zs.length) (h : sameB (zs.getD k 0) (ys.getD k 0) = false) : sameL zs ys = false := by
  have : ((List.range zs.length).all fun k => sameB (zs.getD k 0) (ys.getD k 0)) = false := by
    rw [List.all_eq_false]
    exact ⟨k, List.mem_range.2 hk, by rw [h]; decide⟩
  unfold sameL; rw [this, Bool.and_false]
theorem sameL_yes {zs ys : List Nat} (hl : zs.length = ys.length) (h : ∀ k, k < zs.length → sameB (zs.getD k 0) (ys.getD k 0) = true) : sameL zs ys = true := by
  have : ((List.range zs.length).all fun k => sameB (zs.getD k 0) (ys.getD k 0)) = true := List.all_eq_true.2 fun k hk => h k (List.mem_range.1 hk)
  unfold sameL; rw [this, decide_eq_true hl]; rfl
/-- whether two chains are the same -/
def chEq (p : Int) (zs : List Nat) (q : Int) (ys : List Nat) : Bool := decide (p = q) && sameL zs ys
/-- whether a rate may stand at a place -/
def midB (p : Int) (k : Nat) : Bool := ((k : Int) % (p + 1) == 0)
def rateB (p : Int) (zs : List Nat) (k : Nat) : Bool := nng (zs.getD k 0) && !(midB p k && (FloatKind.f32.format.order (zs.getD k 0) 0 != some .eq))
/-- whether a chain is valid -/
def chB (p : Int) (zs : List Nat) : Bool := decide (1 ≤ p ∧ p ≤ 8) && (decide ((zs.length : Int) = p * p) && (List.range zs.length).all (rateB p zs))
theorem chB_p {p : Int} {zs : List Nat} (h : ¬ (1 ≤ p ∧ p ≤ 8)) : chB p zs = false := by unfold chB; rw [decide_eq_false h, Bool.false_and]
theorem chB_len {p : Int} {zs : List Nat} (h : (zs.length : Int) ≠ p * p) : chB p zs = false := by unfold chB; rw [decide_eq_false h, Bool.false_and, Bool.and_false]
theorem chB_no {p : Int} {zs : List Nat} {k : Nat} (hk : k < zs.length) (h : rateB p zs k = false) : chB p zs = false := by
  have : (List.range zs.length).all (rateB p zs) = false := by
    rw [List.all_eq_false]
    exact ⟨k, List.mem_range.2 hk, by rw [h]; decide⟩
  unfold chB; rw [this, Bool.and_false, Bool.and_false]
theorem chB_yes {p : Int} {zs : List Nat} (h1 : 1 ≤ p ∧ p ≤ 8) (h2 : (zs.length : Int) = p * p) (h : ∀ k, k < zs.length → rateB p zs k = true) : chB p zs = true := by
  have : (List.range zs.length).all (rateB p zs) = true := List.all_eq_true.2 fun k hk => h k (List.mem_range.1 hk)
  unfold chB; rw [this, decide_eq_true h1, decide_eq_true h2]; rfl
theorem sq_bd {p : Int} (h : 1 ≤ p ∧ p ≤ 8) : 1 ≤ p * p ∧ p * p ≤ 64 := by
  obtain ⟨h1, h2⟩ := h
  have : p = 1 ∨ p = 2 ∨ p = 3 ∨ p = 4 ∨ p = 5 ∨ p = 6 ∨ p = 7 ∨ p = 8 := by omega
  rcases this with rfl | rfl | rfl | rfl | rfl | rfl | rfl | rfl <;> decide
end Cha
namespace Go.Proofs.Ytiebbmgehhcdmaa
open Go.RowKit Dec Flt Syl Sep Cha Cm Liv
end Go.Proofs.Ytiebbmgehhcdmaa
