/-
  Contracts of the small functions on float32 numbers that the exact laws of this seat call: sameness, bits, signs. Conditions: the arguments are bits that fit their kind.
-/
import Derived.Test.YtppkeabkjabhdabChecked
import Derived.Test.YtppkeabkjabhdabFlt
import Derived.WalkKit
import Derived.WalkLawsBesides
import Derived.Lib.Hide
import Derived.Below
import Derived.Outline
namespace Go.Proofs.Ytppkeabkjabhdab
open Go.RowKit Flt

theorem f32bits (a : Nat) (w : World) : (callFunc 85 #[.float .f32 a]).run Try.prog w = .ok (.value (.int .u32 a)) w := by kernel_rfl
theorem f64bits (a : Nat) (w : World) : (callFunc 88 #[.float .f64 a]).run Try.prog w = .ok (.value (.int .u64 a)) w := by kernel_rfl
theorem widen (a : Nat) (h : nan .f32 a = false) (w : World) : (convert 22 45 (.float .f32 a)).run Try.prog w = .ok (.float .f64 (W a)) w :=
  run_convert_float_float w 22 45 .f32 .f64 a (W a) (by rw [Try.underlying22]; rfl) Try.underlying45 (W_conv a h)

theorem l01Bits_any (a : Nat) (w : World) (ha : a < 4294967296) :
    Calls Try.prog 79 #[.float .f32 a] w fun e w' => e = .returned (.int .i64 (bitsC a)) ∧ w = w' := by
  have h := order_self .f32 a
  cases hn : nan .f32 a
  · rw [hn] at h
    rw [bitsC_num hn]
    have hc := f32bits a
    clear hn
    go_enter Try.func79, Try.ntmps79
    go_wp2
    go_ret
    exact ⟨rfl, rfl⟩
  · rw [hn] at h
    rw [bitsC_nan hn]
    clear hn
    go_enter Try.func79, Try.ntmps79
    go_wp2
    go_ret
    exact ⟨rfl, rfl⟩

theorem l01Same_any (a b : Nat) (w : World) (ha : a < 4294967296) (hb : b < 4294967296) :
    Calls Try.prog 71 #[.float .f32 a, .float .f32 b] w fun e w' => e = .returned (.bool (sameB a b)) ∧ w = w' := by
  go_enter Try.func71, Try.ntmps71
  go_wp2_with fail
  refine (l01Bits_any a _ ha).mono ?_
  rintro e w' ⟨rfl, rfl⟩
  go_wp2_with fail
  refine (l01Bits_any b _ hb).mono ?_
  rintro e w' ⟨rfl, rfl⟩
  go_wp2_with fail
  go_ret
  exact ⟨rfl, rfl⟩
theorem specSame_any (a b : Nat) (w : World) (ha : a < 4294967296) (hb : b < 4294967296) :
    Calls Try.prog 54 #[.float .f32 a, .float .f32 b] w fun e w' => e = .returned (.bool (sameB a b)) ∧ w = w' := by
  go_enter Try.func54, Try.ntmps54
  go_wp2_with fail
  refine (l01Same_any a b _ ha hb).mono ?_
  rintro e w' ⟨rfl, rfl⟩
  go_wp2_with fail
  go_ret
  exact ⟨rfl, rfl⟩
theorem lt32 {a : Nat} (h : (Lit.float .f32 a).wf = true) : a < 4294967296 := by simpa [Lit.wf] using h
theorem lt64 {a : Nat} (h : (Lit.float .f64 a).wf = true) : a < 18446744073709551616 := by simpa [Lit.wf] using h
end Go.Proofs.Ytppkeabkjabhdab
