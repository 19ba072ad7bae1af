/-
  Lists of an answer: the laws' marks in them, and their reading. No conditions beyond those stated.
-/
import Derived.Test.YtemdgfjcjjadnabIntW
import Derived.Laws.AppendOwn
namespace Dec
open Go
/-- a block of the call's own with room for so many -/
def Slots (w : World) (g n : Nat) (e : TypeId) : Prop := ∃ cur, w.heap[g]? = some (.cells cur e (0, 0)) ∧ n ≤ cur.size
theorem Slots.lt {w : World} {g n : Nat} {e : TypeId} (h : Slots w g n e) : g < w.heap.size := by
  obtain ⟨cur, h, _⟩ := h
  refine Nat.lt_of_not_le fun hle => ?_
  rw [Array.getElem?_eq_none hle] at h; cases h
theorem Slots.keep {w w' : World} {g n : Nat} {e : TypeId} (h : Slots w g n e) (hb : Go.RowKit.Below w.heap.size w w') : Slots w' g n e := by
  have := h.lt
  obtain ⟨cur, h, h2⟩ := h
  exact ⟨cur, by rw [hb.block g this]; exact h, h2⟩
theorem Slots.cell {w : World} {g n j : Nat} {e : TypeId} (h : Slots w g n e) (hj : j < n) : ∃ u, w.cell? ⟨g, j, none⟩ = some u := by
  obtain ⟨cur, h, h2⟩ := h
  refine ⟨cur[j]'(by omega), ?_⟩
  unfold World.cell?
  simp only [h]
  simp [Array.getElem?_eq_getElem (show j < cur.size by omega)]
theorem Slots.frozen {w : World} {g n : Nat} {e : TypeId} (h : Slots w g n e) (j : Nat) : w.frozen? ⟨g, j, none⟩ = false := by
  obtain ⟨cur, h, _⟩ := h
  unfold World.frozen?
  simp [h]
theorem Slots.set {w : World} {g n : Nat} {e : TypeId} (h : Slots w g n e) (j : Nat) (v : Value) : Slots (w.setCell ⟨g, j, none⟩ v) g n e := by
  obtain ⟨cur, h, h2⟩ := h
  exact ⟨_, heap_setCell_same w g j _ e v h, by rw [Array.size_setIfInBounds]; exact h2⟩
theorem Slots.of_filled {w : World} {g n : Nat} {e : TypeId} {vs : List Value} {d : Value} {k : Nat} (h : Flt.Filled w g e vs d k n) (hn : vs.length = n) (hk : k ≤ n) : Slots w g n e := ⟨_, h, by simp [Flt.fillC]; omega⟩
/-- a list that is the call's own -/
def Own (w : World) (B : Nat) (a : Option Addr) (len : Nat) (e : TypeId) : Prop := len = 0 ∨ ∃ g, a = some ⟨g, 0, none⟩ ∧ B ≤ g ∧ Slots w g len e
theorem Own.keep {w w' : World} {B : Nat} {a : Option Addr} {len : Nat} {e : TypeId} (h : Own w B a len e) (hb : Go.RowKit.Below w.heap.size w w') : Own w' B a len e := by
  rcases h with h | ⟨g, h1, h2, h3⟩
  · exact .inl h
  · exact .inr ⟨g, h1, h2, h3.keep hb⟩
/-- the marks are laid -/
def Marked (m : Nat → Value) (w : World) (a : Option Addr) (k : Nat) : Prop := ∀ j, j < k → ∃ g, a = some ⟨g, 0, none⟩ ∧ g < w.heap.size ∧ w.cell? ⟨g, j, none⟩ = some (m j)
def mI (j : Nat) : Value := .int .i64 (1 + j)
theorem Marked.keep {m : Nat → Value} {w w' : World} {a : Option Addr} {k : Nat} (h : Marked m w a k) (hb : Go.RowKit.Below w.heap.size w w') : Marked m w' a k := by
  intro j hj
  obtain ⟨g, h1, h2, h3⟩ := h j hj
  exact ⟨g, h1, Nat.lt_of_lt_of_le h2 hb.size, by rw [World.cell?_of_block (w := w) (hb.block g h2)]; exact h3⟩
theorem Marked.set {m : Nat → Value} {w : World} {g n k : Nat} {e : TypeId} (hs : Slots w g n e) (hk : k < n) (h : Marked m w (some ⟨g, 0, none⟩) k) : Marked m (w.setCell ⟨g, k, none⟩ (m k)) (some ⟨g, 0, none⟩) (k + 1) := by
  intro j hj
  refine ⟨g, rfl, (hs.set k _).lt, ?_⟩
  by_cases hjk : j = k
  · subst hjk
    obtain ⟨u, hu⟩ := hs.cell hk
    exact World.cell?_setCell_same _ _ _ hu
  · obtain ⟨g', e1, _, h3⟩ := h j (by omega)
    cases e1
    rw [World.cell?_setCell_other _ _ _ _ (by intro e; apply hjk; injection e with _ e2 _; exact e2.symm)]
    exact h3
end Dec
namespace Go.Proofs.Ytemdgfjcjjadnab
open Go.RowKit Dec Flt
end Go.Proofs.Ytemdgfjcjjadnab
