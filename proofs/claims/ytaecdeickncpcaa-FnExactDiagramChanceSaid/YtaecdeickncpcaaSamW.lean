/-
  Contracts: whether two lists of whole numbers, and two systems, are the same; whether a system works with a set. Conditions: the lists read as lists of whole numbers.
-/
import Derived.Test.YtaecdeickncpcaaSpcW
namespace Syl
open Go Dec
theorem list_ne {zs ys : List Int} {k : Nat} (h : zs.getD k 0 ≠ ys.getD k 0) : decide (zs = ys) = false := decide_eq_false (fun e => h (by rw [e]))
theorem list_eq {zs ys : List Int} {n : Nat} (h1 : zs.length = n) (h2 : ys.length = n) (h : ∀ k, k < n → zs.getD k 0 = ys.getD k 0) : decide (zs = ys) = true := by
  refine decide_eq_true (List.ext_getElem (h1.trans h2.symm) fun i hi hj => ?_)
  have := h i (by omega)
  rw [show zs.getD i 0 = zs[i] from by simp [List.getD, hi], show ys.getD i 0 = ys[i] from by simp [List.getD, hj]] at this
  exact this
theorem list_len {zs ys : List Int} (h : zs.length ≠ ys.length) : decide (zs = ys) = false := decide_eq_false (fun e => h (by rw [e]))
/-- whether two systems are the same -/
def sysEq (p : Int) (zs : List Int) (q : Int) (ys : List Int) : Bool := decide (p = q) && decide (zs = ys)
end Syl
namespace Go.Proofs.Ytaecdeickncpcaa
open Go.RowKit Dec Flt Syl Sep
end Go.Proofs.Ytaecdeickncpcaa
