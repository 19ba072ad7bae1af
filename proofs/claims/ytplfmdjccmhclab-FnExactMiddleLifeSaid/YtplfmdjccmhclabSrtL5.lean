/-
  The library's stable sort of lives, as a whole. Conditions: the function that compares tells a strict weak order of the elements.
-/
import Derived.Test.YtplfmdjccmhclabSrtL4
namespace Stb
open Go.Sort
variable {α : Type} [Inhabited α] {lt : α → α → Bool}
/-- every block of 's' places from the place 'F' on is in order -/
def Blk (lt : α → α → Bool) (s n F : Nat) (e : Array α) : Prop := ∀ t, F ≤ t * s → SortedIn lt (t * s) (min (t * s + s) n) e
/-- the first 'q' blocks of 's' places are in order -/
def Don (lt : α → α → Bool) (s q : Nat) (e : Array α) : Prop := ∀ t, t < q → SortedIn lt (t * s) (t * s + s) e
theorem two_mul_s (q s : Nat) : 2 * q * s = q * (2 * s) ∧ (2 * q + 1) * s = q * (2 * s) + s := by
  have h1 : 2 * q * s = q * (2 * s) := by rw [Nat.mul_comm 2 q, Nat.mul_assoc]
  exact ⟨h1, by rw [Nat.add_mul, Nat.one_mul, h1]⟩
theorem blk_at {s n F q : Nat} {e : Array α} (h : Blk lt s n F e) (hF : F ≤ q * (2 * s)) : SortedIn lt (q * (2 * s)) (min (q * (2 * s) + s) n) e ∧ SortedIn lt (q * (2 * s) + s) (min (q * (2 * s) + 2 * s) n) e := by
  obtain ⟨h1, h2⟩ := two_mul_s q s
  have a1 := h (2 * q) (by omega)
  have a2 := h (2 * q + 1) (by omega)
  rw [h1] at a1
  rw [h2, show q * (2 * s) + s + s = q * (2 * s) + 2 * s by omega] at a2
  exact ⟨a1, a2⟩
theorem blk_next {s n F G a b : Nat} {e e' : Array α} (h : Blk lt s n F e) (hp : PermIn a b e e') (h1 : F ≤ G) (h2 : b ≤ G) : Blk lt s n G e' :=
  fun t ht => sorted_out (h t (by omega)) hp (.inr (by omega))
theorem don_next {s q : Nat} {e e' : Array α} (h : Don lt s q e) (hp : PermIn (q * s) (q * s + s) e e') (hs : SortedIn lt (q * s) (q * s + s) e') : Don lt s (q + 1) e' := by
  intro t ht
  by_cases c : t = q
  · subst c; exact hs
  · have h1 : t * s + s ≤ q * s := by
      have := Nat.mul_le_mul_right s (show t + 1 ≤ q by omega)
      rwa [Nat.add_mul, Nat.one_mul] at this
    exact sorted_out (h t (by omega)) hp (.inl h1)
theorem don_blk {s q n : Nat} {e : Array α} (h : Don lt s q e) (h1 : q * s ≤ n) (h2 : n < q * s + s) (hs : SortedIn lt (q * s) n e) : Blk lt s n 0 e := by
  intro t _
  rcases Nat.lt_trichotomy t q with c | c | c
  · have h3 : t * s + s ≤ q * s := by
      have := Nat.mul_le_mul_right s (show t + 1 ≤ q by omega)
      rwa [Nat.add_mul, Nat.one_mul] at this
    rw [Nat.min_eq_left (by omega)]
    exact h t c
  · subst c
    rw [Nat.min_eq_right (by omega)]; exact hs
  · have h3 : q * s + s ≤ t * s := by
      have := Nat.mul_le_mul_right s (show q + 1 ≤ t by omega)
      rwa [Nat.add_mul, Nat.one_mul] at this
    intro i j hi hij hj
    omega
theorem don_zero (s : Nat) (e : Array α) : Don lt s 0 e := fun t ht => by omega
theorem don_out {s q a b : Nat} {e e' : Array α} (h : Don lt s q e) (hp : PermIn a b e e') (hq : q * s ≤ a) : Don lt s q e' := by
  intro t ht
  have h3 : t * s + s ≤ q * s := by
    have := Nat.mul_le_mul_right s (show t + 1 ≤ q by omega)
    rwa [Nat.add_mul, Nat.one_mul] at this
  exact sorted_out (h t ht) hp (.inl (by omega))
end Stb
namespace Go.Proofs.Ytplfmdjccmhclab
open Go.RowKit Liv Flt Go.Sort Stb
end Go.Proofs.Ytplfmdjccmhclab
