/-
  Contracts of the functions of package math that are called (IsNaN, IsInf, Abs, Copysign), of isFinite64 and of the laws' sameFloat. Conditions: arguments are bits that fit their kind.
-/
import Derived.Test.YtemdgfjcjjadnaaSameW
import Derived.Test.YtemdgfjcjjadnaaFop
namespace Go.Proofs.Ytemdgfjcjjadnaa
open Go.RowKit Flt

theorem narrowed (a : Nat) (h : nan .f32 a = true) (w : World) : (convert 44 49 (.float .f32 a)).run Try.prog w = .ok (.float .f64 (convNan .f64 a w)) w.drew :=
  run_conv_nan w 44 49 .f32 .f64 a (by rw [Try.underlying44]; rfl) Try.underlying49 (by decide) h
theorem f64from (a : Nat) (w : World) : (callFunc 72 #[.int .u64 a]).run Try.prog w = .ok (.value (.float .f64 a)) w := by kernel_rfl
theorem isNaN_any (x : Nat) (w : World) : Calls Try.prog 69 #[.float .f64 x] w fun e w' => e = .returned (.bool (nan .f64 x)) ∧ w = w' := by
  have h := Lib.hid (order_self .f64 x)
  go_enter Try.func69, Try.ntmps69
  go_wp2
  go_ret
  exact ⟨by rw [← h.out]; rfl, rfl⟩
theorem abs_any (x : Nat) (hx : x < 18446744073709551616) (w : World) : Calls Try.prog 71 #[.float .f64 x] w fun e w' => e = .returned (.float .f64 (x % 9223372036854775808)) ∧ w = w' := by
  have h1 := f64bits x
  have h2 := abs_bits x hx
  have h3 : ∀ w, (callFunc 72 #[.int .u64 (bits .andNot .u64 (x : Int) 9223372036854775808)]).run Try.prog w = .ok (.value (.float .f64 (x % 9223372036854775808))) w := by rw [h2]; exact f64from _
  clear h2
  generalize hy : x % 9223372036854775808 = y at h3 ⊢
  clear hy hx
  go_enter Try.func71, Try.ntmps71
  go_wp2
  go_ret
  exact ⟨rfl, rfl⟩
def inf64 (x : Nat) : Bool := decide (x % 9223372036854775808 = 9218868437227405312)
theorem inf_of (x : Nat) : (FloatKind.f64.format.order (x % 9223372036854775808) 9218868437227405311 == some .gt) = inf64 x := by
  have hc : nan .f64 9218868437227405311 = false := by decide
  have hm : x % 9223372036854775808 < 9223372036854775808 := Nat.mod_lt _ (by decide)
  unfold inf64
  generalize x % 9223372036854775808 = y at *
  have hny := nan64 y (by omega)
  rw [if_pos hm] at hny
  cases hn : nan .f64 y
  · rw [hn] at hny
    have := of_decide_eq_false hny.symm
    rw [gtB .f64 y _ hn hc, S64 y (by omega), S64 _ (by decide), if_pos hm, if_pos (by decide)]
    congr 1
    apply propext
    omega
  · rw [hn] at hny
    have := of_decide_eq_true hny.symm
    rw [order_nan .f64 y _ (.inl hn), decide_eq_false (by omega)]; rfl
theorem isInf_any (x : Nat) (hx : x < 18446744073709551616) (w : World) : Calls Try.prog 70 #[.float .f64 x, .int .i64 0] w fun e w' => e = .returned (.bool (inf64 x)) ∧ w = w' := by
  have h := Lib.hid (inf_of x)
  go_enter Try.func70, Try.ntmps70
  go_wp2_with fail
  refine (abs_any x hx _).mono ?_
  rintro e w' ⟨rfl, rfl⟩
  generalize hy : x % 9223372036854775808 = y
  rw [hy] at h
  clear hy hx
  go_wp2_with fail
  go_ret
  exact ⟨by rw [← h.out]; rfl, rfl⟩
theorem isFinite64_any (x : Nat) (hx : x < 18446744073709551616) (w : World) : Calls Try.prog 68 #[.float .f64 x] w fun e w' => e = .returned (.bool (fin .f64 x)) ∧ w = w' := by
  have key : fin .f64 x = (!nan .f64 x && !inf64 x) := by
    have e1 : fin .f64 x = decide (x % 9223372036854775808 < 9218868437227405312) := rfl
    have e2 : nan .f64 x = decide (9218868437227405312 < x % 9223372036854775808) := rfl
    rw [e1, e2]; unfold inf64
    rw [Bool.eq_iff_iff]; simp; omega
  cases hn : nan .f64 x
  · have hk : Hid (fin .f64 x = !inf64 x) := by rw [key, hn]; rfl
    go_enter Try.func68, Try.ntmps68
    go_wp2_with fail
    refine (isNaN_any x _).mono ?_
    rintro e w' ⟨rfl, rfl⟩
    rw [hn]
    clear hn key
    go_wp2_with fail
    refine (isInf_any x hx _).mono ?_
    rintro e w' ⟨rfl, rfl⟩
    go_wp2_with fail
    go_ret
    exact ⟨by rw [hk.out]; rfl, rfl⟩
  · have hk : Hid (fin .f64 x = false) := by rw [key, hn]; rfl
    go_enter Try.func68, Try.ntmps68
    go_wp2_with fail
    refine (isNaN_any x _).mono ?_
    rintro e w' ⟨rfl, rfl⟩
    rw [hn]
    clear hn key
    go_wp2_with fail
    go_ret
    exact ⟨by rw [hk.out]; rfl, rfl⟩
theorem implIsFinite_any (a : Nat) (w : World) : Calls Try.prog 66 #[.float .f32 a] w fun e w' => e = .returned (.bool (fin .f32 a)) ∧ Drawn w w' := by
  cases hn : nan .f32 a
  · have hW := widen a hn
    have hf := Lib.hid (fin_W a hn)
    have hl := W_lt a
    clear hn
    go_enter Try.func66, Try.ntmps66
    go_wp2_with fail
    refine (isFinite64_any (W a) hl _).mono ?_
    rintro e w' ⟨rfl, rfl⟩
    go_wp2_with fail
    go_ret
    exact ⟨by rw [← hf.out]; rfl, Drawn.refl _⟩
  · have hW : ∀ w, (convert 44 49 (.float .f32 a)).run Try.prog w = .ok (.float .f64 (convNan .f64 a w)) w.drew :=
      fun w => run_conv_nan w 44 49 .f32 .f64 a (by rw [Try.underlying44]; rfl) Try.underlying49 (by decide) hn
    have hf := Lib.hid (nan_fin hn)
    have hl := convNan_lt .f64 a w
    have hk := Lib.hid (nan_fin (convNan_nan .f64 a w))
    clear hn
    go_enter Try.func66, Try.ntmps66
    go_wp2_with fail
    generalize convNan .f64 a w = y at *
    refine (isFinite64_any y hl _).mono ?_
    rintro e w' ⟨rfl, rfl⟩
    go_wp2_with fail
    go_ret
    exact ⟨by rw [hf.out, ← hk.out]; rfl, Drawn.one _⟩
theorem specFinite_any (a : Nat) (w : World) : Calls Try.prog 63 #[.float .f32 a] w fun e w' => e = .returned (.bool (fin .f32 a)) ∧ Drawn w w' := by
  have hs := sub_self .f32 a
  cases hf : fin .f32 a <;> rw [hf] at hs
  · have hr : ∀ w, (binOp .sub 44 (.float .f32 a) (.float .f32 a)).run Try.prog w = .ok (.float .f32 (drawNan .f32 a a w)) w.drew := fun w => run_arith_nan w .sub rfl 44 .f32 a a hs
    have hc : Hid ((FloatKind.f32.format.order (drawNan .f32 a a w) 0 == some .eq) = false) := by
      show _ = false
      rw [order_nan .f32 _ _ (.inl (drawNan_nan .f32 a a w))]; rfl
    clear hs hf
    go_enter Try.func63, Try.ntmps63
    go_wp2
    go_ret
    exact ⟨by rw [← hc.out]; rfl, Drawn.one _⟩
  · have hr : ∀ w, (binOp .sub 44 (.float .f32 a) (.float .f32 a)).run Try.prog w = .ok (.float .f32 0) w := fun w => run_float_arith w .sub 44 .f32 a a 0 hs
    have hc : Hid ((FloatKind.f32.format.order 0 0 == some .eq) = true) := by
      show _ = true
      decide
    clear hs hf
    go_enter Try.func63, Try.ntmps63
    go_wp2
    go_ret
    exact ⟨by rw [← hc.out]; rfl, Drawn.refl _⟩
end Go.Proofs.Ytemdgfjcjjadnaa
