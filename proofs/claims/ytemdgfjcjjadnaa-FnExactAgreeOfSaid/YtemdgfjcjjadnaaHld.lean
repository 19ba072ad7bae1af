/-
  Whole numbers, and 32-bit numbers, that a block of the call's own holds. No conditions beyond those stated.
-/
import Derived.Test.YtemdgfjcjjadnaaMkF
namespace Hld
open Go Flt Dec
def FHd (e : TypeId) (w : World) (g n : Nat) (zs : List Nat) : Prop := Slots w g n e ∧ zs.length = n ∧ ∀ j, j < n → w.cell? ⟨g, j, none⟩ = some (.float .f32 (zs.getD j 0))
theorem FHd.keep {e : TypeId} {w w' : World} {g n : Nat} {zs : List Nat} (h : FHd e w g n zs) (hb : Go.RowKit.Below w.heap.size w w') : FHd e w' g n zs :=
  ⟨h.1.keep hb, h.2.1, fun j hj => by rw [World.cell?_of_block (w := w) (hb.block g h.1.lt)]; exact h.2.2 j hj⟩
theorem FHd.set {e : TypeId} {w : World} {g n : Nat} {zs : List Nat} (h : FHd e w g n zs) {k : Nat} (hk : k < n) (v : Nat) : FHd e (w.setCell ⟨g, k, none⟩ (.float .f32 v)) g n (zs.set k v) := by
  refine ⟨h.1.set k _, by rw [List.length_set]; exact h.2.1, fun j hj => ?_⟩
  have hl : j < zs.length := by rw [h.2.1]; exact hj
  by_cases e : j = k
  · subst e
    obtain ⟨u, hu⟩ := h.1.cell hk
    rw [World.cell?_setCell_same _ _ _ hu]
    simp [List.getD, hl]
  · rw [World.cell?_setCell_other _ _ _ _ (by intro e; injection e with _ e2 _; omega), h.2.2 j hj]
    simp [List.getD, show ¬ k = j by omega]
theorem FHd.row {e : TypeId} {w : World} {g n : Nat} {zs : List Nat} (h : FHd e w g n zs) (hm : n ≤ 1048576) (hz : ∀ z ∈ zs, z < 4294967296) : FRow w (some ⟨g, 0, none⟩) n zs :=
  ⟨h.2.1, by unfold maxLen; omega, hz, fun i hi => ⟨g, 0, rfl, h.1.lt, by rw [Nat.zero_add]; exact h.2.2 i hi⟩⟩
theorem FHd.other {e : TypeId} {w : World} {g n : Nat} {zs : List Nat} (h : FHd e w g n zs) {b : Nat} (j : Nat) (v : Value) (hb : b ≠ g) : FHd e (w.setCell ⟨b, j, none⟩ v) g n zs := by
  obtain ⟨⟨cur, h1, h2⟩, h3, h4⟩ := h
  refine ⟨⟨cur, by rw [heap_setCell_other w ⟨b, j, none⟩ g v (fun e => hb e.symm)]; exact h1, h2⟩, h3, fun i hi => ?_⟩
  rw [World.cell?_setCell_other _ _ _ _ (by intro e; injection e with e2 _; exact hb e2)]
  exact h4 i hi
def IHd (e : TypeId) (w : World) (g n : Nat) (zs : List Int) : Prop := Slots w g n e ∧ zs.length = n ∧ ∀ j, j < n → w.cell? ⟨g, j, none⟩ = some (.int .i64 (zs.getD j 0))
theorem IHd.keep {e : TypeId} {w w' : World} {g n : Nat} {zs : List Int} (h : IHd e w g n zs) (hb : Go.RowKit.Below w.heap.size w w') : IHd e w' g n zs :=
  ⟨h.1.keep hb, h.2.1, fun j hj => by rw [World.cell?_of_block (w := w) (hb.block g h.1.lt)]; exact h.2.2 j hj⟩
theorem IHd.set {e : TypeId} {w : World} {g n : Nat} {zs : List Int} (h : IHd e w g n zs) {k : Nat} (hk : k < n) (v : Int) : IHd e (w.setCell ⟨g, k, none⟩ (.int .i64 v)) g n (zs.set k v) := by
  refine ⟨h.1.set k _, by rw [List.length_set]; exact h.2.1, fun j hj => ?_⟩
  have hl : j < zs.length := by rw [h.2.1]; exact hj
  by_cases e : j = k
  · subst e
    obtain ⟨u, hu⟩ := h.1.cell hk
    rw [World.cell?_setCell_same _ _ _ hu]
    simp [List.getD, hl]
  · rw [World.cell?_setCell_other _ _ _ _ (by intro e; injection e with _ e2 _; omega), h.2.2 j hj]
    simp [List.getD, show ¬ k = j by omega]
theorem IHd.row {e : TypeId} {w : World} {g n : Nat} {zs : List Int} (h : IHd e w g n zs) (hm : n ≤ 1048576) (hz : ∀ z ∈ zs, -9223372036854775808 ≤ z ∧ z ≤ 9223372036854775807) : IRow w (some ⟨g, 0, none⟩) n zs :=
  ⟨h.2.1, by unfold maxLen; omega, hz, fun i hi => ⟨g, 0, rfl, h.1.lt, by rw [Nat.zero_add]; exact h.2.2 i hi⟩⟩
theorem IHd.other {e : TypeId} {w : World} {g n : Nat} {zs : List Int} (h : IHd e w g n zs) {b : Nat} (j : Nat) (v : Value) (hb : b ≠ g) : IHd e (w.setCell ⟨b, j, none⟩ v) g n zs := by
  obtain ⟨⟨cur, h1, h2⟩, h3, h4⟩ := h
  refine ⟨⟨cur, by rw [heap_setCell_other w ⟨b, j, none⟩ g v (fun e => hb e.symm)]; exact h1, h2⟩, h3, fun i hi => ?_⟩
  rw [World.cell?_setCell_other _ _ _ _ (by intro e; injection e with e2 _; exact hb e2)]
  exact h4 i hi
theorem made_cell (z : Value) (hz : z.cells = #[z]) (n j : Nat) (hj : j < n) : (madeCells z.cells (n * 1))[j]? = some z := by
  unfold madeCells
  rw [hz]
  simp [hj, Nat.mod_one]
/-- what 'make' lays -/
theorem FHd.made (w : World) (e : TypeId) (n : Nat) : FHd e (w.alloc (.cells (madeCells (Value.float .f32 0).cells (n * 1)) e)) w.heap.size n (List.replicate n 0) := by
  refine ⟨⟨_, heap_alloc_new _ _, by simp [madeCells]⟩, by simp, fun j hj => ?_⟩
  have h := made_cell (Value.float .f32 0) rfl n j hj
  unfold World.cell?
  simp only [heap_alloc_new]
  rw [h]
  simp [List.getD, hj]
theorem IHd.made (w : World) (e : TypeId) (n : Nat) : IHd e (w.alloc (.cells (madeCells (Value.int .i64 0).cells (n * 1)) e)) w.heap.size n (List.replicate n 0) := by
  refine ⟨⟨_, heap_alloc_new _ _, by simp [madeCells]⟩, by simp, fun j hj => ?_⟩
  have h := made_cell (Value.int .i64 0) rfl n j hj
  unfold World.cell?
  simp only [heap_alloc_new]
  rw [h]
  simp [List.getD, hj]
end Hld
