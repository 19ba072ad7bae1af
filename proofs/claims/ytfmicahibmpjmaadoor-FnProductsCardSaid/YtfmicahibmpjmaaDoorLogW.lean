/-
  Contracts of the logarithm of a float64 in the program and in its model, at positive finite numbers, and of LogNumber and TenthsOf with the walks of their exact laws. Conditions: arguments are bits that fit their kind.
-/
import Derived.Test.YtfmicahibmpjmaaDoorRootW
import Derived.Test.YtfmicahibmpjmaaDoorLog
import Derived.Deep.LoopGhost
import Derived.IntWalk
namespace Go.Proofs.YtfmicahibmpjmaaDoor
open Go.RowKit Flt

theorem isInf1_any (x : Nat) (hg : (FloatKind.f64.format.order x 9218868437227405311 == some .gt) = false) (w : World) :
    Calls Tryd.prog 84 #[.float .f64 x, .int .i64 1] w fun e w' => e = .returned (.bool false) ∧ w = w' := by
  go_enter Tryd.func84, Tryd.ntmps84
  go_wp2
  go_ret
  exact ⟨rfl, rfl⟩
theorem mNaN_any (w : World) : Calls Tryd.prog 53 #[] w fun e w' => e = .returned (.float .f64 9221120237041090561) ∧ w = w' := by
  have h : ∀ w, (callFunc 75 #[.int .u64 9221120237041090561]).run Tryd.prog w = .ok (.value (.float .f64 9221120237041090561)) w := fun w => f64from 9221120237041090561 w
  go_enter Tryd.func53, Tryd.ntmps53
  go_wp2
  go_ret
  exact ⟨rfl, rfl⟩
end Go.Proofs.YtfmicahibmpjmaaDoor
