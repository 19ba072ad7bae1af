/-
  Contracts: how many sets have few bad parts, in the model; with which share a lot is accepted, in both; the laws' copy and comparison of plans. No conditions.
-/
import Derived.Test.YtemdgfjcjjadnabPlC
namespace Go.Proofs.Ytemdgfjcjjadnab
open Go.RowKit Flt Dec Cm Pl
theorem toPlan_any (s a : Int) (w : World) : Calls Try.prog 14 #[.agg #[.int .i64 s, .int .i64 a]] w fun e w' => e = .returned (.agg #[.int .i64 s, .int .i64 a]) ∧ Below w.heap.size w w' := by
  go_enter Try.func14, Try.ntmps14
  go_wp2
  refine bodyPost_ret (v := .agg #[.int .i64 s, .int .i64 a]) (by simp [results, Try.results14, go_sem]) rfl ⟨rfl, ?_⟩
  exact ((((Liv.Grn.refl _).alloc _).alloc _).alloc _).below
end Go.Proofs.Ytemdgfjcjjadnab
