/-
  Contracts of the small functions on float32 numbers that the exact laws of this seat call: sameness, bits, signs. Conditions: the arguments are bits that fit their kind.
-/
import Derived.Test.YtemdgfjcjjadnaaChecked
import Derived.Test.YtemdgfjcjjadnaaFlt
import Derived.WalkKit
import Derived.WalkLawsBesides
import Derived.Lib.Hide
import Derived.Below
import Derived.Outline
namespace Go.Proofs.Ytemdgfjcjjadnaa
open Go.RowKit Flt

theorem f64bits (a : Nat) (w : World) : (callFunc 73 #[.float .f64 a]).run Try.prog w = .ok (.value (.int .u64 a)) w := by kernel_rfl
theorem widen (a : Nat) (h : nan .f32 a = false) (w : World) : (convert 44 49 (.float .f32 a)).run Try.prog w = .ok (.float .f64 (W a)) w :=
  run_convert_float_float w 44 49 .f32 .f64 a (W a) (by rw [Try.underlying44]; rfl) Try.underlying49 (W_conv a h)

theorem lt32 {a : Nat} (h : (Lit.float .f32 a).wf = true) : a < 4294967296 := by simpa [Lit.wf] using h
theorem lt64 {a : Nat} (h : (Lit.float .f64 a).wf = true) : a < 18446744073709551616 := by simpa [Lit.wf] using h
end Go.Proofs.Ytemdgfjcjjadnaa
