/-
  Lists of 32-bit numbers of an answer: the laws' marks in them, and their reading. No conditions beyond those stated.
-/
import Derived.Test.YtemdgfjcjjadnaaMarkW
import Derived.Test.YtemdgfjcjjadnaaSlW
import Derived.Laws.Cover2
namespace Dec
open Go
def mF (j : Nat) : Value := .float .f32 (Go.floatOfInt .f32 (1 + (j : Int)))
theorem mF_num (j : Nat) (h : j ≤ 1023) : Flt.nan .f32 (Go.floatOfInt .f32 (1 + (j : Int))) = false := by
  have := List.all_eq_true.1 (show ((List.range 1024).all fun j => !Flt.nan .f32 (Go.floatOfInt .f32 (1 + (j : Int)))) = true by kernel_rfl) j (List.mem_range.2 (by omega))
  simpa using this
end Dec
namespace Go.Proofs.Ytemdgfjcjjadnaa
open Go.RowKit Dec Flt
end Go.Proofs.Ytemdgfjcjjadnaa
