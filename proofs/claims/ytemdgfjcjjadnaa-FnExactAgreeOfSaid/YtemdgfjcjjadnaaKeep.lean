/-
  What a change of one block leaves as it was; rows of 32-bit numbers there. No conditions beyond those stated.
-/
import Derived.Test.YtemdgfjcjjadnaaMarkW
import Derived.Test.YtemdgfjcjjadnaaSlW
namespace Liv
open Go Flt Dec
/-- nothing is turned but the block 'g' -/
def Only (g : Nat) (w w' : World) : Prop := Go.RowKit.Below g w w' ∧ ∀ k, k ≠ g → w'.heap[k]? = w.heap[k]?
theorem Only.refl (g : Nat) (w : World) : Only g w w := ⟨Go.RowKit.Below.refl g w, fun _ _ => rfl⟩
theorem Only.setCell {g : Nat} {w w' : World} (h : Only g w w') (j : Nat) (v : Value) : Only g w (w'.setCell ⟨g, j, none⟩ v) := by
  refine ⟨h.1.setCell (Nat.le_refl _) v, fun k hk => ?_⟩
  rw [← h.2 k hk]
  exact Go.RowKit.Below.heap_setCell w' { block := g, off := j, spot := none } v k hk
theorem Only.size {g : Nat} {w w' : World} (h : Only g w w') : w.heap.size ≤ w'.heap.size := h.1.size
theorem Only.cell {g : Nat} {w w' : World} (h : Only g w w') {k j : Nat} (hk : k ≠ g) : w'.cell? ⟨k, j, none⟩ = w.cell? ⟨k, j, none⟩ := World.cell?_of_block (w := w) (h.2 k hk)
theorem _root_.Flt.FRow.keep {w w' : World} {a : Option Addr} {len : Nat} {zs : List Nat} (h : FRow w a len zs) (hb : Go.RowKit.Below w.heap.size w w') : FRow w' a len zs := by
  obtain ⟨h1, h2, h3, h4⟩ := h
  refine ⟨h1, h2, h3, fun i hi => ?_⟩
  obtain ⟨b, off, e1, hlt, hc⟩ := h4 i hi
  exact ⟨b, off, e1, Nat.lt_of_lt_of_le hlt hb.size, by rw [World.cell?_of_block (w := w) (hb.block b hlt)]; exact hc⟩
theorem _root_.Flt.FRow.only {g B : Nat} {w w' : World} {a : Option Addr} {len : Nat} {zs : List Nat} {e : TypeId} (h : FRow w a len zs) (hw : Own w B a len e) (ho : Only g w w') (hg : g < B) : FRow w' a len zs := by
  obtain ⟨h1, h2, h3, h4⟩ := h
  refine ⟨h1, h2, h3, fun i hi => ?_⟩
  obtain ⟨b, off, e1, hlt, hc⟩ := h4 i hi
  rcases hw with h0 | ⟨k, e2, hk, _⟩
  · omega
  · rw [e2] at e1
    cases e1
    exact ⟨b, 0, e2, Nat.lt_of_lt_of_le hlt ho.size, by rw [ho.cell (by omega)]; exact hc⟩
theorem _root_.Dec.Own.only {g B : Nat} {w w' : World} {a : Option Addr} {len : Nat} {e : TypeId} (h : Own w B a len e) (ho : Only g w w') (hg : g < B) : Own w' B a len e := by
  rcases h with h | ⟨k, h1, h2, cur, h3, h4⟩
  · exact .inl h
  · exact .inr ⟨k, h1, h2, cur, by rw [ho.2 k (by omega)]; exact h3, h4⟩
end Liv
