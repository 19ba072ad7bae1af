/-
  Contracts of square roots of float32 numbers in the program and in its model, and the walk of the exact law. Conditions: arguments are bits that fit their kind.
-/
import Derived.Test.YtemdgfjcjjadnaaFlushW
import Derived.Test.YtemdgfjcjjadnaaBnd
namespace Go.Proofs.Ytemdgfjcjjadnaa
open Go.RowKit Flt

/-- 'v' is what was told: this number, or none -/
def Is (o : Option Nat) (v : Nat) : Prop := match o with | some u => v = u ∧ nan .f32 v = false ∧ v < 4294967296 | none => nan .f32 v = true
theorem Is.two {o : Option Nat} {u v : Nat} (hu : Is o u) (hv : Is o v) : (u = v ∧ nan .f32 u = false) ∨ (nan .f32 u = true ∧ nan .f32 v = true) := by
  cases o with
  | none => exact .inr ⟨hu, hv⟩
  | some x => exact .inl ⟨hu.1.trans hv.1.symm, hu.2.1⟩

theorem narrow_some (x v : Nat) (h : floatToFloatBits .f64 x .f32 = some v) (w : World) : (convert 49 44 (.float .f64 x)).run Try.prog w = .ok (.float .f32 v) w :=
  run_convert_float_float w 49 44 .f64 .f32 x v (by rw [Try.underlying49]; rfl) Try.underlying44 h
theorem narrow_nan (x : Nat) (h : nan .f64 x = true) (w : World) : (convert 49 44 (.float .f64 x)).run Try.prog w = .ok (.float .f32 (convNan .f32 x w)) w.drew :=
  run_conv_nan w 49 44 .f64 .f32 x (by rw [Try.underlying49]; rfl) Try.underlying44 (by decide) h

def rootC (a : Nat) : Option Nat := if nan .f32 a then none else (Ieee.double.sqrt (W a)).bind fun r => floatToFloatBits .f64 r .f32

/-- what becomes of a root: none of a not-a-number; none of a number below zero; a number else -/
theorem root_cases (a : Nat) (ha : a < 4294967296) (hn : nan .f32 a = false) :
    (Ieee.double.sqrt (W a) = none ∧ rootC a = none) ∨ (∃ r v, Ieee.double.sqrt (W a) = some r ∧ floatToFloatBits .f64 r .f32 = some v ∧ rootC a = some v ∧ nan .f32 v = false ∧ v < 4294967296) := by
  have e : rootC a = (Ieee.double.sqrt (W a)).bind fun r => floatToFloatBits .f64 r .f32 := by unfold rootC; rw [hn]; rfl
  have hsg := W_sign a ha hn
  cases hf : fin .f32 a
  · -- an infinity
    have h1 : ¬ a % 2147483648 < 2139095040 := of_decide_eq_false hf
    have h2 := nan_le hn
    have h2' : a % 2147483648 ≤ 2139095040 := h2
    have hcases : a = 2139095040 ∨ a = 4286578688 := by omega
    rcases hcases with rfl | rfl
    · right
      refine ⟨9218868437227405312, 2139095040, by decide +kernel, by decide +kernel, ?_, by decide, by decide⟩
      decide +kernel
    · left
      exact ⟨by decide +kernel, by decide +kernel⟩
  · have hL := W_LeP hf
    by_cases hs : a < 2147483648
    · obtain ⟨r, h1, h2, h3⟩ := sqrt_le (A := 64) (hL) (by unfold Plus; omega) (by omega) (by omega) (by omega)
      obtain ⟨v, v1, v2, v3⟩ := narrow_ok h2 (by omega)
      exact .inr ⟨r, v, h1, v1, by rw [e, h1]; exact v1, v3, v2⟩
    · by_cases hz : a = 2147483648
      · subst hz
        right
        refine ⟨9223372036854775808, 2147483648, by decide +kernel, by decide +kernel, by decide +kernel, by decide, by decide⟩
      · left
        have hnone : Ieee.double.sqrt (W a) = none := by
          obtain ⟨m, q, a1, a2, a3⟩ := hL.read
          have hsw : Ieee.double.signWeight = 9223372036854775808 := by decide
          have hneg : (W a / Ieee.double.signWeight % 2 == 1) = true := by
            have := W_lt a
            rw [hsw]; simp; omega
          have hm : m ≠ 0 := by
            rintro rfl
            rw [Nat.zero_mul] at a2
            have hz2 : W a % Ieee.double.signWeight = 0 := units_inj (bin_pos _) (by rw [← a2, units_zero _ (bin_pos _)])
            have := (W_rel a a hn hn).2.2.2 hz2
            have h1 : a % 2147483648 = 0 := this
            omega
          unfold Ieee.Format.sqrt
          rw [a1, hneg]
          simp [Ieee.Datum.root, hm]
        exact ⟨hnone, by rw [e, hnone]; rfl⟩

theorem toInt64 (x : Nat) (n : Int) (h : floatToIntVal .f64 x .i64 = some n) (w : World) : (convert 49 2 (.float .f64 x)).run Try.prog w = .ok (.int .i64 n) w :=
  run_convert_float_int w 49 2 .f64 .i64 x n (by rw [Try.underlying49]; rfl) Try.underlying2 h

end Go.Proofs.Ytemdgfjcjjadnaa
