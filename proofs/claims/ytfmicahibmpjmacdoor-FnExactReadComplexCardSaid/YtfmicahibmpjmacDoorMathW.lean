/-
  Contracts of the functions of package math that are called (IsNaN, IsInf, Abs, Copysign), of isFinite64 and of the laws' sameFloat. Conditions: arguments are bits that fit their kind.
-/
import Derived.Test.YtfmicahibmpjmacDoorSameW
import Derived.Test.YtfmicahibmpjmacDoorFop
namespace Go.Proofs.YtfmicahibmpjmacDoor
open Go.RowKit Flt

theorem f32from (a : Nat) (w : World) : (callFunc 71 #[.int .u32 a]).run Tryd.prog w = .ok (.value (.float .f32 a)) w := by kernel_rfl
theorem l01From_any (n : Nat) (hn : n < 4294967296) (w : World) : Calls Tryd.prog 50 #[.int .i64 n] w fun e w' => e = .returned (.float .f32 n) ∧ w = w' := by
  have h := f32from n
  go_enter Tryd.func50, Tryd.ntmps50
  go_wp2
  go_ret
  exact ⟨rfl, rfl⟩
theorem narrowed (a : Nat) (h : nan .f32 a = true) (w : World) : (convert 57 46 (.float .f32 a)).run Tryd.prog w = .ok (.float .f64 (convNan .f64 a w)) w.drew :=
  run_conv_nan w 57 46 .f32 .f64 a (by rw [Tryd.underlying57]; rfl) Tryd.underlying46 (by decide) h
end Go.Proofs.YtfmicahibmpjmacDoor
