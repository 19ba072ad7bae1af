/-
  What is known within a region that makes a block for one number, as well as draws. No conditions beyond those stated.
-/
import Derived.Test.YtiebbmgehhcdmaaCrP
import Derived.Test.YtiebbmgehhcdmaaRgt
namespace F32
open Go Flt
/-- nothing but draws so far, or draws and a block that holds what was told -/
def allC (W0 : World) (T : TypeId) (o : Option Nat) (b : Bool) (W : World) : Prop :=
  match b with
  | false => Drawn W0 W
  | true => ∃ x, Is o x ∧ x < 4294967296 ∧ Drawn (W0.alloc (.cells #[.float .f32 x] T)) W
theorem allC_trans {W0 W W' : World} {T : TypeId} {o : Option Nat} {b : Bool} (h : allC W0 T o b W) (d : Drawn W W') : allC W0 T o b W' := by
  cases b with
  | false => exact Drawn.trans h d
  | true => obtain ⟨x, h1, h2, h3⟩ := h; exact ⟨x, h1, h2, h3.trans d⟩
theorem allC_cell {W0 W : World} {T : TypeId} {o : Option Nat} {b : Bool} (h : allC W0 T o b W) {p : Addr} (hp : p.block < W0.heap.size) : W.cell? p = W0.cell? p := by
  cases b with
  | false => exact Drawn.cell h p
  | true =>
    obtain ⟨x, _, _, h3⟩ := h
    rw [h3.cell]
    exact (((Go.RowKit.Below.refl _ W0).alloc (Nat.le_refl _) _).cell hp)
theorem allC_below {W0 W : World} {T : TypeId} {o : Option Nat} {b : Bool} (h : allC W0 T o b W) : Go.RowKit.Below W0.heap.size W0 W := by
  cases b with
  | false => exact Drawn.below h _
  | true =>
    obtain ⟨x, _, _, h3⟩ := h
    exact ((Go.RowKit.Below.refl _ W0).alloc (Nat.le_refl _) _).trans (h3.below _)
theorem allC_made {W0 W : World} {T : TypeId} {o : Option Nat} {y : Nat} (h : allC W0 T o false W) (h1 : Is o y) (h2 : y < 4294967296) : allC W0 T o true (W.alloc (.cells #[.float .f32 y] T)) := by
  obtain ⟨n, rfl⟩ := (show Drawn W0 W from h)
  exact ⟨y, h1, h2, n, rfl⟩
theorem allC_size {W0 W : World} {T : TypeId} {o : Option Nat} (h : allC W0 T o false W) : W.heap.size = W0.heap.size := by
  obtain ⟨n, rfl⟩ := (show Drawn W0 W from h)
  rfl
end F32
