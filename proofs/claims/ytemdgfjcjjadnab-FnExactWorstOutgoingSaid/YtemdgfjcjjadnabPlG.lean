/-
  Greatest common factors and lowest terms of whole numbers that fit, in both. Conditions: numbers are at most 9000000000000000000.
-/
import Derived.Test.YtemdgfjcjjadnabCmW
import Derived.Test.YtemdgfjcjjadnabIntW
import Derived.Test.YtemdgfjcjjadnabPlP
namespace Pl
open Go Flt
theorem tdiv_nat (a b : Nat) : ((a : Int).tdiv (b : Int)) = ((a / b : Nat) : Int) := (Int.ofNat_tdiv a b).symm
theorem tmod_nat (a b : Nat) : ((a : Int).tmod (b : Int)) = ((a % b : Nat) : Int) := (Int.ofNat_tmod a b).symm
end Pl
namespace Go.Proofs.Ytemdgfjcjjadnab
open Go.RowKit Flt Dec Cm Pl
end Go.Proofs.Ytemdgfjcjjadnab
