/-
  Contracts of the functions of package math that are called (IsNaN, IsInf, Abs, Copysign), of isFinite64 and of the laws' sameFloat. Conditions: arguments are bits that fit their kind.
-/
import Derived.Test.YtaecdeickncpcaaSameW
import Derived.Test.YtaecdeickncpcaaFop
namespace Go.Proofs.Ytaecdeickncpcaa
open Go.RowKit Flt

theorem narrowed (a : Nat) (h : nan .f32 a = true) (w : World) : (convert 51 57 (.float .f32 a)).run Try.prog w = .ok (.float .f64 (convNan .f64 a w)) w.drew :=
  run_conv_nan w 51 57 .f32 .f64 a (by rw [Try.underlying51]; rfl) Try.underlying57 (by decide) h
end Go.Proofs.Ytaecdeickncpcaa
