/-
  Contracts: the system of cuts, in the program and in its model. Conditions: the lists read as lists of whole numbers.
-/
import Derived.Test.YtaecdeickncpcaaGivW
import Derived.Deep.RegionHeld3
namespace Syl
open Go Dec
def othP (p : Int) (zs : List Int) : Int := if sysB p zs then givP p (cutL p zs) else 0
def othZ (p : Int) (zs : List Int) : List Int := if sysB p zs then givZ p (cutL p zs) else []
def othB (p : Int) (zs : List Int) : Bool := sysB p zs && sysB p (cutL p zs)
theorem givZ_len (p : Int) (zs : List Int) : (givZ p zs).length ≤ 64 := by
  unfold givZ
  cases h : sysB p zs with
  | false => simp
  | true => have := sysB_len h; simp only [↓reduceIte]; omega
theorem othZ_len (p : Int) (zs : List Int) : (othZ p zs).length ≤ 1048576 := by
  unfold othZ
  cases h : sysB p zs with
  | false => simp
  | true => have := givZ_len p (cutL p zs); simp only [↓reduceIte]; omega
theorem Own_cap {w : World} {B : Nat} {a : Option Addr} {len : Nat} {e : TypeId} (h : Own w B a len e) : Own w B a len e := h
end Syl
namespace Go.Proofs.Ytaecdeickncpcaa
open Go.RowKit Dec Flt Syl Sep
end Go.Proofs.Ytaecdeickncpcaa
