/-
  Quotients of whole numbers, one of at most the other, lie from 0 to 1: by reckoning. No conditions.
-/
import Derived.Test.YtemdgfjcjjadnabCaV
namespace Pl
open Go Flt F32 Cm We Ieee
def sha (n k : Nat) : Bool := match Go.floatBits .quo .f32 (Go.floatOfInt .f32 (k : Int)) (Go.floatOfInt .f32 (n : Int)) with | some q => decide (q ≤ 1065353216) && (k != 0 || q == 0) | none => false
def shaN (n : Nat) : Bool := (List.range (n + 1)).all (sha n)
theorem sha_0 : ((List.range 32).all fun j => shaN (0 + j + 1)) = true := by decide +kernel
theorem sha_1 : ((List.range 32).all fun j => shaN (32 + j + 1)) = true := by decide +kernel
theorem sha_2 : ((List.range 32).all fun j => shaN (64 + j + 1)) = true := by decide +kernel
theorem sha_3 : ((List.range 32).all fun j => shaN (96 + j + 1)) = true := by decide +kernel
theorem sha_4 : ((List.range 32).all fun j => shaN (128 + j + 1)) = true := by decide +kernel
theorem sha_5 : ((List.range 32).all fun j => shaN (160 + j + 1)) = true := by decide +kernel
theorem sha_6 : ((List.range 32).all fun j => shaN (192 + j + 1)) = true := by decide +kernel
theorem sha_7 : ((List.range 32).all fun j => shaN (224 + j + 1)) = true := by decide +kernel
theorem sha_all {n k : Nat} (h1 : 1 ≤ n) (h2 : n ≤ 256) (hk : k ≤ n) : sha n k = true := by
  have key : ∀ (b j : Nat), ((List.range 32).all fun j => shaN (b + j + 1)) = true → j < 32 → n = b + j + 1 → sha n k = true := by
    intro b j h hj e
    have h3 : shaN (b + j + 1) = true := List.all_eq_true.1 h j (List.mem_range.2 hj)
    rw [← e] at h3
    exact List.all_eq_true.1 h3 k (List.mem_range.2 (by omega))
  by_cases c0 : n ≤ 32
  · exact key 0 (n - 1) sha_0 (by omega) (by omega)
  by_cases c1 : n ≤ 64
  · exact key 32 (n - 33) sha_1 (by omega) (by omega)
  by_cases c2 : n ≤ 96
  · exact key 64 (n - 65) sha_2 (by omega) (by omega)
  by_cases c3 : n ≤ 128
  · exact key 96 (n - 97) sha_3 (by omega) (by omega)
  by_cases c4 : n ≤ 160
  · exact key 128 (n - 129) sha_4 (by omega) (by omega)
  by_cases c5 : n ≤ 192
  · exact key 160 (n - 161) sha_5 (by omega) (by omega)
  by_cases c6 : n ≤ 224
  · exact key 192 (n - 193) sha_6 (by omega) (by omega)
  · exact key 224 (n - 225) sha_7 (by omega) (by omega)
/-- what a share is -/
theorem share_ok {n k : Nat} (h1 : 1 ≤ n) (h2 : n ≤ 256) (hk : k ≤ n) : ∃ q, Go.floatBits .quo .f32 (Go.floatOfInt .f32 (k : Int)) (Go.floatOfInt .f32 (n : Int)) = some q ∧ q ≤ 1065353216 ∧ (k = 0 → q = 0) := by
  have h := sha_all h1 h2 hk
  unfold sha at h
  cases hq : Go.floatBits .quo .f32 (Go.floatOfInt .f32 (k : Int)) (Go.floatOfInt .f32 (n : Int)) with
  | none => rw [hq] at h; cases h
  | some q =>
    rw [hq] at h
    simp only [Bool.and_eq_true, decide_eq_true_eq, Bool.or_eq_true, bne_iff_ne, beq_iff_eq] at h
    exact ⟨q, rfl, h.1, fun e => by rcases h.2 with h3 | h3; exact absurd e h3; exact h3⟩
end Pl
