/-
  Worlds that lie some draws and some new blocks ahead. No conditions.
-/
import Derived.Test.YtemdgfjcjjadnabChecked
import Derived.Below
import Derived.Shelf.SlSortCmp.QuietGrown
namespace Liv
open Go Go.Sort Go.RowKit
def Grn (w w' : World) : Prop := ∃ (q : Nat) (os : Array Obj), w' = grow (w.drewN q) os
theorem Grn.refl (w : World) : Grn w w := ⟨0, #[], by rw [grow_empty]; rfl⟩
theorem Grn.alloc {w w' : World} (h : Grn w w') (o : Obj) : Grn w (w'.alloc o) := by
  obtain ⟨q, os, rfl⟩ := h
  exact ⟨q, os ++ #[o], by rw [alloc_eq_grow, grow_grow]⟩
theorem Grn.drewN {w w' : World} (h : Grn w w') (n : Nat) : Grn w (w'.drewN n) := by
  obtain ⟨q, os, rfl⟩ := h
  exact ⟨q + n, os, by show grow ((w.drewN q).drewN n) os = _; rw [World.drewN_drewN]⟩
theorem Grn.drew {w w' : World} (h : Grn w w') : Grn w w'.drew := h.drewN 1
theorem Grn.trans {a b c : World} (h : Grn a b) (g : Grn b c) : Grn a c := by
  obtain ⟨q, os, rfl⟩ := h
  obtain ⟨p, oz, rfl⟩ := g
  exact ⟨q + p, os ++ oz, by rw [← grow_grow]; show grow (grow ((a.drewN q).drewN p) os) oz = _; rw [World.drewN_drewN]⟩
theorem Grn.below {w w' : World} (h : Grn w w') : Below w.heap.size w w' := by
  obtain ⟨q, os, rfl⟩ := h
  have h1 : RowKit.Below w.heap.size w (w.drewN q) := ⟨rfl, rfl, rfl, Nat.le_refl _, fun _ _ => rfl⟩
  refine ⟨h1.os, h1.tape, h1.output, ?_, fun k hk => ?_⟩
  · rw [size_grow]; exact Nat.le_trans h1.size (Nat.le_add_right _ _)
  · rw [heap_grow_old _ _ (show k < (w.drewN q).heap.size from hk)]; exact h1.block k hk
end Liv
