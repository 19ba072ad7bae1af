/-
  The library's stable sort of lives: what each of its functions does to a block of the call's own. Conditions: the function that compares tells a strict weak order of the elements.
-/
import Derived.Test.YtplfmdjccmhclabLok
import Derived.Test.YtplfmdjccmhclabSym
import Derived.Shelf.RegionOpenPlain
import Derived.Laws.IdiomCopy
namespace Liv
open Go Go.Sort
/-- a block of the call's own that holds these lives, from its head on -/
def ARow (e : TypeId) (w : World) (g : Nat) (d : Array (Nat × Bool)) : Prop := LSlots w g d.size e ∧ ∀ i, i < d.size → w.cell? ⟨g, i * 2, none⟩ = some (.float .f32 d[i]!.1) ∧ w.cell? ⟨g, i * 2 + 1, none⟩ = some (.bool d[i]!.2)
theorem ARow.keep {e : TypeId} {w w' : World} {g : Nat} {d : Array (Nat × Bool)} (h : ARow e w g d) (hb : Go.RowKit.Below w.heap.size w w') : ARow e w' g d := by
  refine ⟨h.1.keep hb, fun i hi => ?_⟩
  obtain ⟨a1, a2⟩ := h.2 i hi
  exact ⟨by rw [World.cell?_of_block (w := w) (hb.block g h.1.lt)]; exact a1, by rw [World.cell?_of_block (w := w) (hb.block g h.1.lt)]; exact a2⟩
def put2 (w : World) (g i : Nat) (u v : Value) : World := (w.setCell ⟨g, i * 2, none⟩ u).setCell ⟨g, i * 2 + 1, none⟩ v
theorem put2_slots {e : TypeId} {w : World} {g n i : Nat} {u v : Value} (h : LSlots w g n e) : LSlots (put2 w g i u v) g n e := (h.set _ _).set _ _
theorem put2_same {e : TypeId} {w : World} {g n i : Nat} {u v : Value} (h : LSlots w g n e) (hi : i < n) : (put2 w g i u v).cell? ⟨g, i * 2, none⟩ = some u ∧ (put2 w g i u v).cell? ⟨g, i * 2 + 1, none⟩ = some v := by
  obtain ⟨x, hx⟩ := h.cell (j := i * 2) (by omega)
  obtain ⟨y, hy⟩ := (h.set (i * 2) u).cell (j := i * 2 + 1) (by omega)
  refine ⟨?_, World.cell?_setCell_same _ _ _ hy⟩
  unfold put2
  rw [World.cell?_setCell_other _ _ _ _ (by intro e; injection e with _ e2 _; omega)]
  exact World.cell?_setCell_same _ _ _ hx
theorem put2_other {w : World} {g i j : Nat} {u v : Value} (hij : j ≠ i) : (put2 w g i u v).cell? ⟨g, j * 2, none⟩ = w.cell? ⟨g, j * 2, none⟩ ∧ (put2 w g i u v).cell? ⟨g, j * 2 + 1, none⟩ = w.cell? ⟨g, j * 2 + 1, none⟩ := by
  unfold put2
  constructor
  · rw [World.cell?_setCell_other _ _ _ _ (by intro e; injection e with _ e2 _; omega), World.cell?_setCell_other _ _ _ _ (by intro e; injection e with _ e2 _; omega)]
  · rw [World.cell?_setCell_other _ _ _ _ (by intro e; injection e with _ e2 _; omega), World.cell?_setCell_other _ _ _ _ (by intro e; injection e with _ e2 _; omega)]
/-- the world behind an exchange -/
def swW (w : World) (g i j : Nat) (x y : Nat × Bool) : World := put2 (put2 w g i (.float .f32 y.1) (.bool y.2)) g j (.float .f32 x.1) (.bool x.2)
theorem ARow.swp {e : TypeId} {w : World} {g : Nat} {d : Array (Nat × Bool)} (h : ARow e w g d) {i j : Nat} (hi : i < d.size) (hj : j < d.size) : ARow e (swW w g i j d[i]! d[j]!) g (Go.Sort.swp d i j) := by
  obtain ⟨h1, h2⟩ := h
  have hs : (Go.Sort.swp d i j).size = d.size := size_swp d i j
  have s1 := put2_slots (i := i) (u := .float .f32 d[j]!.1) (v := .bool d[j]!.2) h1
  refine ⟨by rw [hs]; exact put2_slots s1, fun t ht => ?_⟩
  rw [hs] at ht
  rw [Stb.swp_at d hi hj]
  by_cases c1 : t = j
  · subst c1
    rw [if_pos rfl]
    exact put2_same s1 ht
  · rw [if_neg c1]
    unfold swW
    rw [(put2_other c1).1, (put2_other c1).2]
    by_cases c2 : t = i
    · subst c2
      rw [if_pos rfl]
      exact put2_same h1 ht
    · rw [if_neg c2, (put2_other c2).1, (put2_other c2).2]
      exact h2 t ht
/-- what an exchange reads and writes -/
theorem ARow.way {e : TypeId} {w : World} {g : Nat} {d : Array (Nat × Bool)} (h : ARow e w g d) {i j : Nat} (hi : i < d.size) (hj : j < d.size) (x y : Nat × Bool) (hx : d[i]! = x) (hy : d[j]! = y) :
    (w.cell? ⟨g, i * 2, none⟩ = some (.float .f32 x.1) ∧ w.cell? ⟨g, i * 2 + 1, none⟩ = some (.bool x.2) ∧ w.cell? ⟨g, j * 2, none⟩ = some (.float .f32 y.1) ∧ w.cell? ⟨g, j * 2 + 1, none⟩ = some (.bool y.2)) ∧
    (w.frozen? ⟨g, i * 2, none⟩ = false ∧ w.frozen? ⟨g, i * 2 + 1, none⟩ = false ∧ w.frozen? ⟨g, j * 2, none⟩ = false ∧ w.frozen? ⟨g, j * 2 + 1, none⟩ = false) := by
  subst hx
  subst hy
  obtain ⟨h1, h2⟩ := h
  exact ⟨⟨(h2 i hi).1, (h2 i hi).2, (h2 j hj).1, (h2 j hj).2⟩, h1.frozen _, h1.frozen _, h1.frozen _, h1.frozen _⟩
theorem ne_way {i j : Nat} (h : i ≠ j) : j * 2 ≠ i * 2 ∧ j * 2 ≠ i * 2 + 1 ∧ j * 2 + 1 ≠ i * 2 ∧ j * 2 + 1 ≠ i * 2 + 1 ∧ i * 2 ≠ j * 2 ∧ i * 2 ≠ j * 2 + 1 ∧ i * 2 + 1 ≠ j * 2 ∧ i * 2 + 1 ≠ j * 2 + 1 := by omega
theorem put2_below {w : World} {g i B : Nat} {u v : Value} (hB : B ≤ g) : Go.RowKit.Below B w (put2 w g i u v) := ((Go.RowKit.Below.refl B w).setCell hB _).setCell hB _
theorem swW_below {w : World} {g i j B : Nat} {x y : Nat × Bool} (hB : B ≤ g) : Go.RowKit.Below B w (swW w g i j x y) := (put2_below hB).trans (put2_below hB)
end Liv
namespace Go.Proofs.Ytplfmdjccmhclab
open Go.RowKit Liv Flt Go.Sort Stb
end Go.Proofs.Ytplfmdjccmhclab
