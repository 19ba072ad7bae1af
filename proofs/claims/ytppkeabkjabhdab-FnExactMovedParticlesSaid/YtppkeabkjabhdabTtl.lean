/-
  When a line is at a limit, in both. Conditions: numbers are words of 32 bits.
-/
import Derived.Test.YtppkeabkjabhdabWeP
import Derived.Test.YtppkeabkjabhdabGrn
namespace We
open Go Flt Dec F32 Cm
theorem cell_three (w : World) (t : TypeId) (x y z : Value) : ∀ j u, [x, y, z][j]? = some u → (w.alloc (.cells #[x, y, z] t)).cell? ⟨w.heap.size, j, none⟩ = some u := by
  intro j u hj
  match j, hj with
  | 0, hj => simp at hj; subst hj; rw [World.cell?_alloc_mark]; rfl
  | 1, hj => simp at hj; subst hj; rw [World.cell?_alloc_mark]; rfl
  | 2, hj => simp at hj; subst hj; rw [World.cell?_alloc_mark]; rfl
  | j + 3, hj => simp at hj
theorem row_three (w : World) (t : TypeId) {x y z : Nat} (hx : x < 4294967296) (hy : y < 4294967296) (hz : z < 4294967296) : FRow (w.alloc (.cells #[.float .f32 x, .float .f32 y, .float .f32 z] t)) (some ⟨w.heap.size, 0, none⟩) 3 [x, y, z] := by
  refine ⟨rfl, by unfold maxLen; omega, by intro v hv; simp at hv; rcases hv with rfl | rfl | rfl <;> assumption, fun j hj => ⟨w.heap.size, 0, rfl, by simp, ?_⟩⟩
  rw [Nat.zero_add]
  refine cell_three w t _ _ _ j _ ?_
  match j, hj with
  | 0, _ => rfl
  | 1, _ => rfl
  | 2, _ => rfl
theorem row_two (w : World) (t : TypeId) {x y : Nat} (hx : x < 4294967296) (hy : y < 4294967296) : FRow (w.alloc (.cells #[.float .f32 x, .float .f32 y] t)) (some ⟨w.heap.size, 0, none⟩) 2 [x, y] := by
  refine ⟨rfl, by unfold maxLen; omega, by intro v hv; simp at hv; rcases hv with rfl | rfl <;> assumption, fun j hj => ⟨w.heap.size, 0, rfl, by simp, ?_⟩⟩
  rw [Nat.zero_add]
  match j, hj with
  | 0, _ => rw [World.cell?_alloc_mark]; rfl
  | 1, _ => rw [World.cell?_alloc_mark]; rfl
theorem all_three (p : Nat → Bool) (x y z : Nat) : [x, y, z].all p = (p x && (p y && p z)) := by simp
theorem all_two (p : Nat → Bool) (x y : Nat) : [x, y].all p = (p x && p y) := by simp
theorem tt0_fin {b s l : Nat} (h : fin .f32 b = true) (h2 : fin .f32 s = true) (h3 : fin .f32 l = true) : tt0 b s l = !(FloatKind.f32.format.order s 0 == some .eq) := by unfold tt0; rw [h, h2, h3]; rfl
theorem tt0_b {b s l : Nat} (h : (fin .f32 b && (fin .f32 s && fin .f32 l)) = false) : tt0 b s l = false := by
  unfold tt0
  cases h1 : fin .f32 b <;> cases h2 : fin .f32 s <;> cases h3 : fin .f32 l <;> simp_all
end We
namespace Go.Proofs.Ytppkeabkjabhdab
open Go.RowKit Flt Dec Cm We
end Go.Proofs.Ytppkeabkjabhdab
