/-
  The laws' comparison of two slices of float32 numbers. Conditions: both hold the same numbers.
-/
import Derived.Test.YtemdgfjcjjadnaaSlW
namespace Go.Proofs.Ytemdgfjcjjadnaa
open Go.RowKit Flt
/-- widened: the same number, or none -/
def Wide (z y : Nat) : Prop := y < 18446744073709551616 ∧ (if nan .f32 z then nan .f64 y = true else y = W z)
theorem wide_wid (z : Nat) (w : World) : Wide z (if nan .f32 z then convNan .f64 z w else W z) := by
  unfold Wide
  rcases Bool.eq_false_or_eq_true (nan .f32 z) with hn | hn
  · rw [if_pos hn, if_pos hn]; exact ⟨convNan_lt .f64 z w, convNan_nan .f64 z w⟩
  · rw [if_neg (by rw [hn]; decide), if_neg (by rw [hn]; decide)]; exact ⟨W_lt z, rfl⟩
theorem widen_run (z : Nat) (w : World) : (convert 44 49 (.float .f32 z)).run Try.prog w = .ok (.float .f64 (if nan .f32 z then convNan .f64 z w else W z)) (if nan .f32 z then w.drew else w) := by
  rcases Bool.eq_false_or_eq_true (nan .f32 z) with hn | hn
  · rw [if_pos hn, if_pos hn]; exact narrowed z hn w
  · rw [if_neg (by rw [hn]; decide), if_neg (by rw [hn]; decide)]; exact widen z hn w
theorem same_wide (z x y : Nat) (hx : Wide z x) (hy : Wide z y) (w : World) : Calls Try.prog 35 #[.float .f64 x, .float .f64 y] w fun e w' => e = .returned (.bool true) ∧ w = w' := by
  unfold Wide at hx hy
  rcases Bool.eq_false_or_eq_true (nan .f32 z) with hn | hn
  · rw [if_pos hn] at hx hy
    exact sameFloat_nan x y hx.2 hy.2 w
  · rw [if_neg (by rw [hn]; decide)] at hx hy
    obtain ⟨h1, rfl⟩ := hx
    obtain ⟨_, rfl⟩ := hy
    exact sameFloat_eq _ h1 (W_spec z hn).2.1 w

end Go.Proofs.Ytemdgfjcjjadnaa
