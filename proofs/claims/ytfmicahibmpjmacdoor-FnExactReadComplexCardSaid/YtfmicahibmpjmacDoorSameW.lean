/-
  Contracts of the small functions on float32 numbers that the exact laws of this seat call: sameness, bits, signs. Conditions: the arguments are bits that fit their kind.
-/
import Derived.Test.YtfmicahibmpjmacDoorChecked
import Derived.Test.YtfmicahibmpjmacDoorFlt
import Derived.WalkKit
import Derived.WalkLawsBesides
import Derived.Lib.Hide
import Derived.Below
import Derived.Outline
namespace Go.Proofs.YtfmicahibmpjmacDoor
open Go.RowKit Flt

theorem f32bits (a : Nat) (w : World) : (callFunc 72 #[.float .f32 a]).run Tryd.prog w = .ok (.value (.int .u32 a)) w := by kernel_rfl
theorem widen (a : Nat) (h : nan .f32 a = false) (w : World) : (convert 57 46 (.float .f32 a)).run Tryd.prog w = .ok (.float .f64 (W a)) w :=
  run_convert_float_float w 57 46 .f32 .f64 a (W a) (by rw [Tryd.underlying57]; rfl) Tryd.underlying46 (W_conv a h)

theorem l01Bits_any (a : Nat) (w : World) (ha : a < 4294967296) :
    Calls Tryd.prog 51 #[.float .f32 a] w fun e w' => e = .returned (.int .i64 (bitsC a)) ∧ w = w' := by
  have h := order_self .f32 a
  cases hn : nan .f32 a
  · rw [hn] at h
    rw [bitsC_num hn]
    have hc := f32bits a
    clear hn
    go_enter Tryd.func51, Tryd.ntmps51
    go_wp2
    go_ret
    exact ⟨rfl, rfl⟩
  · rw [hn] at h
    rw [bitsC_nan hn]
    clear hn
    go_enter Tryd.func51, Tryd.ntmps51
    go_wp2
    go_ret
    exact ⟨rfl, rfl⟩

theorem lt32 {a : Nat} (h : (Lit.float .f32 a).wf = true) : a < 4294967296 := by simpa [Lit.wf] using h
theorem lt64 {a : Nat} (h : (Lit.float .f64 a).wf = true) : a < 18446744073709551616 := by simpa [Lit.wf] using h
end Go.Proofs.YtfmicahibmpjmacDoor
