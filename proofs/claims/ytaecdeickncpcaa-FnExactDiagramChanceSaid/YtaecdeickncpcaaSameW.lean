/-
  Contracts of the small functions on float32 numbers that the exact laws of this seat call: sameness, bits, signs. Conditions: the arguments are bits that fit their kind.
-/
import Derived.Test.YtaecdeickncpcaaChecked
import Derived.Test.YtaecdeickncpcaaFlt
import Derived.WalkKit
import Derived.WalkLawsBesides
import Derived.Lib.Hide
import Derived.Below
import Derived.Outline
namespace Go.Proofs.Ytaecdeickncpcaa
open Go.RowKit Flt

theorem widen (a : Nat) (h : nan .f32 a = false) (w : World) : (convert 51 57 (.float .f32 a)).run Try.prog w = .ok (.float .f64 (W a)) w :=
  run_convert_float_float w 51 57 .f32 .f64 a (W a) (by rw [Try.underlying51]; rfl) Try.underlying57 (W_conv a h)

theorem lt32 {a : Nat} (h : (Lit.float .f32 a).wf = true) : a < 4294967296 := by simpa [Lit.wf] using h
theorem lt64 {a : Nat} (h : (Lit.float .f64 a).wf = true) : a < 18446744073709551616 := by simpa [Lit.wf] using h
end Go.Proofs.Ytaecdeickncpcaa
