/-
  A block that is filled from its head, value by value. No conditions.
-/
import Derived.Test.YtemdgfjcjjadnaaChecked
import Derived.WalkKit
import Derived.Below
import Derived.Laws.NewBlocks
import Derived.Laws.Rows
import Derived.Laws.MakeOwn
namespace Flt
open Go
/-- the first 'k' of 'vs', then 'd' up to 'n' -/
def fillC (vs : List Value) (d : Value) (k n : Nat) : Array Value := (vs.take k ++ List.replicate (n - k) d).toArray
theorem fillC_get {vs : List Value} {d : Value} {k n j : Nat} (hn : vs.length = n) (hk : k ≤ n) (hj : j < n) : (fillC vs d k n)[j]? = some (if j < k then vs.getD j d else d) := by
  unfold fillC
  rw [List.getElem?_toArray]
  by_cases h : j < k
  · rw [List.getElem?_append_left (by simp; omega), List.getElem?_take_of_lt h, if_pos h]
    have : j < vs.length := by omega
    simp [List.getD, this]
  · rw [List.getElem?_append_right (by simp; omega), if_neg h]
    rw [List.getElem?_replicate, if_pos (by simp; omega)]
theorem fillC_set {vs : List Value} {d : Value} {k n : Nat} (hn : vs.length = n) (hk : k < n) : (fillC vs d k n).setIfInBounds k (vs.getD k d) = fillC vs d (k + 1) n := by
  have hs : ∀ k, k ≤ n → (fillC vs d k n).size = n := fun k hk => by simp [fillC]; omega
  refine Array.ext_getElem? fun j => ?_
  by_cases hj : j < n
  · rw [fillC_get hn (by omega) hj, Array.getElem?_setIfInBounds]
    by_cases hjk : k = j
    · subst hjk
      rw [if_pos rfl, if_pos (by rw [hs k (by omega)]; exact hj), if_pos (by omega)]
    · rw [if_neg hjk, fillC_get hn (by omega) hj]
      by_cases hl : j < k
      · rw [if_pos hl, if_pos (by omega)]
      · rw [if_neg hl, if_neg (by omega)]
  · have h1 : ((fillC vs d k n).setIfInBounds k (vs.getD k d)).size ≤ j := by rw [Array.size_setIfInBounds, hs k (by omega)]; omega
    have h2 : (fillC vs d (k + 1) n).size ≤ j := by rw [hs (k + 1) (by omega)]; omega
    rw [Array.getElem?_eq_none h1, Array.getElem?_eq_none h2]
theorem fillC_made (vs : List Value) (d : Value) (n : Nat) (h1 : d.cells = #[d]) : madeCells d.cells (n * 1) = fillC vs d 0 n := by
  unfold madeCells fillC
  apply Array.ext_getElem?
  intro j
  by_cases hj : j < n
  · simp [h1, hj, Nat.mod_one]
  · simp [hj]
theorem fillC_all {vs : List Value} {d : Value} {n j : Nat} {v : Value} (hn : vs.length = n) (hj : vs[j]? = some v) : (fillC vs d n n)[j]? = some v := by
  have hlt : j < vs.length := (List.getElem?_eq_some_iff.1 hj).1
  rw [fillC_get hn (Nat.le_refl _) (by omega), if_pos (by omega)]
  simp [List.getD, hj]
/-- a block that holds 'k' of them -/
def Filled (w : World) (g : Nat) (t : TypeId) (vs : List Value) (d : Value) (k n : Nat) : Prop := w.heap[g]? = some (.cells (fillC vs d k n) t (0, 0))
theorem Filled.lt {w : World} {g : Nat} {t : TypeId} {vs : List Value} {d : Value} {k n : Nat} (h : Filled w g t vs d k n) : g < w.heap.size := by
  refine Nat.lt_of_not_le fun hle => ?_
  unfold Filled at h
  rw [Array.getElem?_eq_none hle] at h; cases h
theorem Filled.keep {w w' : World} {g : Nat} {t : TypeId} {vs : List Value} {d : Value} {k n : Nat} (h : Filled w g t vs d k n) (hb : Go.RowKit.Below w.heap.size w w') : Filled w' g t vs d k n := by
  unfold Filled
  rw [hb.block g h.lt]; exact h
theorem Filled.cell {w : World} {g : Nat} {t : TypeId} {vs : List Value} {d : Value} {k n j : Nat} (h : Filled w g t vs d k n) (hn : vs.length = n) (hk : k ≤ n) (hj : j < n) : w.cell? ⟨g, j, none⟩ = some (if j < k then vs.getD j d else d) := by
  unfold Filled at h
  unfold World.cell?
  simp only [h]
  exact fillC_get hn hk hj
theorem Filled.frozen {w : World} {g : Nat} {t : TypeId} {vs : List Value} {d : Value} {k n : Nat} (h : Filled w g t vs d k n) (j : Nat) : w.frozen? ⟨g, j, none⟩ = false := by
  unfold Filled at h
  unfold World.frozen?
  simp [h]
theorem Filled.set {w : World} {g : Nat} {t : TypeId} {vs : List Value} {d : Value} {k n : Nat} (h : Filled w g t vs d k n) (hn : vs.length = n) (hk : k < n) : Filled (w.setCell ⟨g, k, none⟩ (vs.getD k d)) g t vs d (k + 1) n := by
  unfold Filled at h ⊢
  rw [heap_setCell_same w g k _ t _ h, fillC_set hn hk]
theorem Filled.made (w : World) (t : TypeId) (vs : List Value) (d : Value) (n : Nat) : Filled (w.alloc (.cells (fillC vs d 0 n) t)) w.heap.size t vs d 0 n := by
  show (w.heap.push _)[w.heap.size]? = _
  simp
end Flt
