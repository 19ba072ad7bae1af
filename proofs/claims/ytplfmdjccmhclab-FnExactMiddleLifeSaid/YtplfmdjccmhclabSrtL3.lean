/-
  The library's stable sort of lives: the merge in place, where one side has one element. Conditions: the function that compares tells a strict weak order of the elements.
-/
import Derived.Test.YtplfmdjccmhclabSrtL2
namespace Liv
open Go Go.Sort Stb
variable {α : Type} [Inhabited α] {lt : α → α → Bool}
theorem up_left (hS : SWO lt) {a b h : Nat} {d : Array α} {x : α} (hs : SortedIn lt a b d) (hb : h < b) (hl : lt d[h]! x = true) : ∀ t, a ≤ t → t < h + 1 → lt d[t]! x = true := by
  intro t ha ht
  cases hc : lt d[t]! x
  · have := hS.ntrans _ _ _ (sorted_le hS hs ha (show t ≤ h by omega) hb) hc
    rw [hl] at this; cases this
  · rfl
theorem down_left (hS : SWO lt) {a b h : Nat} {d : Array α} {x : α} (hs : SortedIn lt a b d) (ha : a ≤ h) (hl : lt d[h]! x = false) : ∀ t, h ≤ t → t < b → lt d[t]! x = false :=
  fun _ ht hb => hS.ntrans _ _ _ (sorted_le hS hs ha ht hb) hl
theorem up_right (hS : SWO lt) {a b h : Nat} {d : Array α} {x : α} (hs : SortedIn lt a b d) (hb : h < b) (hl : lt x d[h]! = false) : ∀ t, a ≤ t → t < h + 1 → lt x d[t]! = false :=
  fun t ha ht => hS.ntrans _ _ _ hl (sorted_le hS hs ha (show t ≤ h by omega) hb)
theorem down_right (hS : SWO lt) {a b h : Nat} {d : Array α} {x : α} (hs : SortedIn lt a b d) (ha : a ≤ h) (hl : lt x d[h]! = true) : ∀ t, h ≤ t → t < b → lt x d[t]! = true := by
  intro t ht hb
  cases hc : lt x d[t]!
  · have := hS.ntrans _ _ _ hc (sorted_le hS hs ha ht hb)
    rw [hl] at this; cases this
  · rfl
/-- the first element moved 'k' places to the right -/
def Shr (a k : Nat) (d e : Array α) : Prop := (∀ t, a ≤ t → t < k → e[t]! = d[t + 1]!) ∧ e[k]! = d[a]! ∧ ∀ t, t < a ∨ k < t → e[t]! = d[t]!
theorem shr_zero (a : Nat) (d : Array α) : Shr a a d d := ⟨fun t h1 h2 => by omega, rfl, fun _ _ => rfl⟩
theorem shr_step {a k : Nat} {d e : Array α} (h : Shr a k d e) (hk : a ≤ k) (hs : k + 1 < e.size) : Shr a (k + 1) d (Go.Sort.swp e k (k + 1)) := by
  obtain ⟨h1, h2, h3⟩ := h
  refine ⟨fun t ha hb => ?_, ?_, fun t ht => ?_⟩
  · rw [swp_at e (by omega) hs, if_neg (by omega)]
    by_cases c : t = k
    · subst c; rw [if_pos rfl, h3 _ (by omega)]
    · rw [if_neg c]; exact h1 t ha (by omega)
  · rw [swp_at e (by omega) hs, if_pos rfl, h2]
  · rw [swp_at e (by omega) hs, if_neg (by omega), if_neg (by omega)]
    exact h3 t (by omega)
/-- the last element moved to the left, down to the place 'k' -/
def Shl (m k : Nat) (d e : Array α) : Prop := (∀ t, k < t → t ≤ m → e[t]! = d[t - 1]!) ∧ e[k]! = d[m]! ∧ ∀ t, t < k ∨ m < t → e[t]! = d[t]!
theorem shl_zero (m : Nat) (d : Array α) : Shl m m d d := ⟨fun t h1 h2 => by omega, rfl, fun _ _ => rfl⟩
theorem shl_step {m k : Nat} {d e : Array α} (h : Shl m (k + 1) d e) (hk : k + 1 ≤ m) (hs : k + 1 < e.size) : Shl m k d (Go.Sort.swp e (k + 1) k) := by
  obtain ⟨h1, h2, h3⟩ := h
  refine ⟨fun t ha hb => ?_, ?_, fun t ht => ?_⟩
  · rw [swp_at e hs (by omega), if_neg (by omega)]
    by_cases c : t = k + 1
    · subst c; rw [if_pos rfl, h3 _ (by omega), Nat.add_sub_cancel]
    · rw [if_neg c]; exact h1 t (by omega) hb
  · rw [swp_at e hs (by omega), if_pos rfl, h2]
  · rw [swp_at e hs (by omega), if_neg (by omega), if_neg (by omega)]
    exact h3 t (by omega)
end Liv
namespace Go.Proofs.Ytplfmdjccmhclab
open Go.RowKit Liv Flt Go.Sort Stb
end Go.Proofs.Ytplfmdjccmhclab
