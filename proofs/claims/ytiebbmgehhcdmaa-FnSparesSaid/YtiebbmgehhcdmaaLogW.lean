/-
  Contracts of the logarithm of a float64 in the program and in its model, at positive finite numbers, and of LogNumber and TenthsOf with the walks of their exact laws. Conditions: arguments are bits that fit their kind.
-/
import Derived.Test.YtiebbmgehhcdmaaRootW
import Derived.Test.YtiebbmgehhcdmaaLog
import Derived.Deep.LoopGhost
import Derived.IntWalk
namespace Go.Proofs.Ytiebbmgehhcdmaa
open Go.RowKit Flt

theorem isInf1_any (x : Nat) (hg : (FloatKind.f64.format.order x 9218868437227405311 == some .gt) = false) (w : World) :
    Calls Try.prog 84 #[.float .f64 x, .int .i64 1] w fun e w' => e = .returned (.bool false) ∧ w = w' := by
  go_enter Try.func84, Try.ntmps84
  go_wp2
  go_ret
  exact ⟨rfl, rfl⟩
theorem mInf_any (w : World) : Calls Try.prog 69 #[.int .i64 (-1)] w fun e w' => e = .returned (.float .f64 18442240474082181120) ∧ w = w' := by
  have h : ∀ w, (callFunc 79 #[.int .u64 18442240474082181120]).run Try.prog w = .ok (.value (.float .f64 18442240474082181120)) w := fun w => f64from 18442240474082181120 w
  go_enter Try.func69, Try.ntmps69
  go_wp2
  go_ret
  exact ⟨rfl, rfl⟩
end Go.Proofs.Ytiebbmgehhcdmaa
