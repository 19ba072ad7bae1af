/-
  Contracts of the small functions on float32 numbers that the exact laws of this seat call: sameness, bits, signs. Conditions: the arguments are bits that fit their kind.
-/
import Derived.Test.YtppkeabkjabhdaaChecked
import Derived.Test.YtppkeabkjabhdaaFlt
import Derived.WalkKit
import Derived.WalkLawsBesides
import Derived.Lib.Hide
import Derived.Below
import Derived.Outline
namespace Go.Proofs.Ytppkeabkjabhdaa
open Go.RowKit Flt

theorem f32bits (a : Nat) (w : World) : (callFunc 121 #[.float .f32 a]).run Try.prog w = .ok (.value (.int .u32 a)) w := by kernel_rfl
theorem f64bits (a : Nat) (w : World) : (callFunc 130 #[.float .f64 a]).run Try.prog w = .ok (.value (.int .u64 a)) w := by kernel_rfl
theorem widen (a : Nat) (h : nan .f32 a = false) (w : World) : (convert 31 36 (.float .f32 a)).run Try.prog w = .ok (.float .f64 (W a)) w :=
  run_convert_float_float w 31 36 .f32 .f64 a (W a) (by rw [Try.underlying31]; rfl) Try.underlying36 (W_conv a h)

theorem l01Bits_any (a : Nat) (w : World) (ha : a < 4294967296) :
    Calls Try.prog 104 #[.float .f32 a] w fun e w' => e = .returned (.int .i64 (bitsC a)) ∧ w = w' := by
  have h := order_self .f32 a
  cases hn : nan .f32 a
  · rw [hn] at h
    rw [bitsC_num hn]
    have hc := f32bits a
    clear hn
    go_enter Try.func104, Try.ntmps104
    go_wp2
    go_ret
    exact ⟨rfl, rfl⟩
  · rw [hn] at h
    rw [bitsC_nan hn]
    clear hn
    go_enter Try.func104, Try.ntmps104
    go_wp2
    go_ret
    exact ⟨rfl, rfl⟩

theorem l01Same_any (a b : Nat) (w : World) (ha : a < 4294967296) (hb : b < 4294967296) :
    Calls Try.prog 57 #[.float .f32 a, .float .f32 b] w fun e w' => e = .returned (.bool (sameB a b)) ∧ w = w' := by
  go_enter Try.func57, Try.ntmps57
  go_wp2_with fail
  refine (l01Bits_any a _ ha).mono ?_
  rintro e w' ⟨rfl, rfl⟩
  go_wp2_with fail
  refine (l01Bits_any b _ hb).mono ?_
  rintro e w' ⟨rfl, rfl⟩
  go_wp2_with fail
  go_ret
  exact ⟨rfl, rfl⟩
theorem sg_of (a : Nat) (ha : a < 4294967296) (hn : nan .f32 a = false) : decide (wrap64 ((W a : Nat) : Int) < 0) = sg a := by
  have h1 := W_sign a ha hn
  have h2 := W_lt a
  unfold sg wrap64
  rw [Bool.eq_iff_iff]
  simp
  omega

theorem hasSign_any (a : Nat) (w : World) (ha : a < 4294967296) (hn : nan .f32 a = false) :
    Calls Try.prog 105 #[.float .f32 a] w fun e w' => e = .returned (.bool (sg a)) ∧ w = w' := by
  have hs := Lib.hid (sg_of a ha hn)
  have hW := widen a hn
  have hc := f64bits (W a)
  clear hn
  go_enter Try.func105, Try.ntmps105
  go_wp2
  go_ret
  exact ⟨by rw [← hs.out]; first | rfl | simp, rfl⟩
theorem implSame_any (a b : Nat) (w : World) (ha : a < 4294967296) (hb : b < 4294967296) :
    Calls Try.prog 61 #[.float .f32 a, .float .f32 b] w fun e w' => e = .returned (.bool (sameB a b)) ∧ w = w' := by
  have oa := order_self .f32 a
  have ob := order_self .f32 b
  cases hna : nan .f32 a <;> cases hnb : nan .f32 b <;> rw [hna] at oa <;> rw [hnb] at ob
  · have oe := eqB .f32 a b hna hnb
    have hs := Lib.hid (same_xx ha hb hna hnb)
    by_cases hS : S .f32 a = S .f32 b
    · have HS := Lib.hid hS
      rw [decide_eq_true hS] at oe
      clear hS
      go_enter Try.func61, Try.ntmps61
      go_wp2_with fail
      refine (hasSign_any a _ ha hna).mono ?_
      rintro e w' ⟨rfl, rfl⟩
      go_wp2_with fail
      refine (hasSign_any b _ hb hnb).mono ?_
      rintro e w' ⟨rfl, rfl⟩
      go_wp2_with fail
      go_ret
      exact ⟨by rw [hs.out, decide_eq_true HS.out]; simp, rfl⟩
    · have HS := Lib.hid hS
      rw [decide_eq_false hS] at oe
      clear hS hna hnb
      go_enter Try.func61, Try.ntmps61
      go_wp2
      go_ret
      exact ⟨by rw [hs.out, decide_eq_false HS.out]; rfl, rfl⟩
  · have hs := Lib.hid (same_xn ha hna hnb)
    clear hna hnb
    go_enter Try.func61, Try.ntmps61
    go_wp2
    go_ret
    exact ⟨by rw [hs.out]; rfl, rfl⟩
  · have hs := Lib.hid (same_nx hb hna hnb)
    clear hna hnb
    go_enter Try.func61, Try.ntmps61
    go_wp2
    go_ret
    exact ⟨by rw [hs.out]; rfl, rfl⟩
  · have hs := Lib.hid (same_nn hna hnb)
    clear hna hnb
    go_enter Try.func61, Try.ntmps61
    go_wp2
    go_ret
    exact ⟨by rw [hs.out]; rfl, rfl⟩
theorem lt32 {a : Nat} (h : (Lit.float .f32 a).wf = true) : a < 4294967296 := by simpa [Lit.wf] using h
theorem lt64 {a : Nat} (h : (Lit.float .f64 a).wf = true) : a < 18446744073709551616 := by simpa [Lit.wf] using h
end Go.Proofs.Ytppkeabkjabhdaa
