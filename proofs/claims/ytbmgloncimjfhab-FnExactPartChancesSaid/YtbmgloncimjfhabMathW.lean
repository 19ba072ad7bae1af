/-
  Contracts of the functions of package math that are called (IsNaN, IsInf, Abs, Copysign), of isFinite64 and of the laws' sameFloat. Conditions: arguments are bits that fit their kind.
-/
import Derived.Test.YtbmgloncimjfhabSameW
import Derived.Test.YtbmgloncimjfhabFop
namespace Go.Proofs.Ytbmgloncimjfhab
open Go.RowKit Flt

theorem narrowed (a : Nat) (h : nan .f32 a = true) (w : World) : (convert 27 34 (.float .f32 a)).run Try.prog w = .ok (.float .f64 (convNan .f64 a w)) w.drew :=
  run_conv_nan w 27 34 .f32 .f64 a (by rw [Try.underlying27]; rfl) Try.underlying34 (by decide) h
end Go.Proofs.Ytbmgloncimjfhab
