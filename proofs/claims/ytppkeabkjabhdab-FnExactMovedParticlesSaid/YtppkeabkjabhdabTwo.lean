/-
  What is known within a region of which one operation is a call that turns a block, and another makes a block for one number. Conditions beyond those stated: these are its operations 8 and 11, and 9, 10, 11 wait for the one ahead.
-/
import Derived.Test.YtppkeabkjabhdabSdW
import Derived.Test.YtppkeabkjabhdabRg2
namespace We
open Go Flt Dec F32 Cm Liv
theorem only_size {g : Nat} {w w' : World} (o : Only g w w') (hg : g < w.heap.size) : w'.heap.size = w.heap.size := by
  refine Nat.le_antisymm (Nat.le_of_not_lt fun hlt => ?_) o.size
  have h := o.2 w.heap.size (by omega)
  rw [Array.getElem?_eq_none (Nat.le_refl _), Array.getElem?_eq_getElem hlt] at h
  cases h
/-- behind the call, and nothing else -/
def calC (wr : World) (g : Nat) (cs : List Value) (U : TypeId) (W : World) : Prop := Blk.Blk W g cs U ∧ Only g wr W
theorem calC_drawn {wr W W' : World} {g : Nat} {cs : List Value} {U : TypeId} (h : calC wr g cs U W) (d : Drawn W W') : calC wr g cs U W' := ⟨blk_drawn h.1 d, only_drawn h.2 d⟩
def twoB (wr : World) (g : Nat) (cs : List Value) (U T : TypeId) (o : Option Nat) (b c : Bool) (W : World) : Prop :=
  match b, c with
  | false, _ => Drawn wr W
  | true, false => calC wr g cs U W
  | true, true => ∃ W1 x, calC wr g cs U W1 ∧ Is o x ∧ x < 4294967296 ∧ Drawn (W1.alloc (.cells #[.float .f32 x] T)) W
def twoC (wr : World) (g : Nat) (cs : List Value) (U T : TypeId) (o : Option Nat) (L : Nat → Bool) (W : World) : Prop :=
  ((L 9 = true → L 8 = true) ∧ (L 10 = true → L 9 = true) ∧ (L 11 = true → L 10 = true)) ∧ twoB wr g cs U T o (L 8) (L 11) W
section
variable {wr W W' : World} {g : Nat} {cs : List Value} {U T : TypeId} {o : Option Nat} {L : Nat → Bool}
theorem twoB_drawn {b c : Bool} (h : twoB wr g cs U T o b c W) (d : Drawn W W') : twoB wr g cs U T o b c W' := by
  cases b with
  | false => exact Drawn.trans h d
  | true =>
    cases c with
    | false => exact calC_drawn h d
    | true => obtain ⟨W1, x, h1, h2, h3, h4⟩ := h; exact ⟨W1, x, h1, h2, h3, h4.trans d⟩
theorem twoC_none (d : Drawn wr W) : twoC wr g cs U T o (fun _ => false) W := ⟨⟨fun h => (Bool.noConfusion h), fun h => (Bool.noConfusion h), fun h => (Bool.noConfusion h)⟩, d⟩
theorem mark_ne {i j : Nat} (h : j ≠ i) : markN L i j = L j := if_neg h
theorem mark_eq (i : Nat) : markN L i i = true := if_pos rfl
theorem mark_up {i j : Nat} (h : L j = true) : markN L i j = true := by unfold markN; split <;> first | rfl | exact h
theorem chain_up {i a b : Nat} (h : L a = true → L b = true) (hi : i = a → L b = true) : markN L i a = true → markN L i b = true := by
  intro hm
  by_cases e : a = i
  · exact mark_up (hi e.symm)
  · rw [mark_ne e] at hm; exact mark_up (h hm)
theorem twoC_keep (h : twoC wr g cs U T o L W) (d : Drawn W W') (i : Nat) (h8 : i ≠ 8) (h11 : i ≠ 11) (h9 : i = 9 → L 8 = true) (h10 : i = 10 → L 9 = true) : twoC wr g cs U T o (markN L i) W' := by
  obtain ⟨⟨c1, c2, c3⟩, h⟩ := h
  refine ⟨⟨chain_up c1 h9, chain_up c2 h10, chain_up c3 fun e => absurd e h11⟩, ?_⟩
  rw [mark_ne (Ne.symm h8), mark_ne (Ne.symm h11)]
  exact twoB_drawn h d
theorem twoC_pre (h : twoC wr g cs U T o L W) (h8 : L 8 = false) : Drawn wr W := by
  have := h.2
  rw [h8] at this
  exact this
theorem twoC_call (h : twoC wr g cs U T o L W) (h8 : L 8 = false) (hn : calC wr g cs U W') : twoC wr g cs U T o (markN L 8) W' := by
  obtain ⟨⟨c1, c2, c3⟩, _⟩ := h
  have h11 : L 11 = false := by
    cases e : L 11 with
    | false => rfl
    | true => rw [c1 (c2 (c3 e))] at h8; cases h8
  refine ⟨⟨fun _ => mark_eq 8, chain_up c2 fun e => absurd e (by decide), chain_up c3 fun e => absurd e (by decide)⟩, ?_⟩
  rw [mark_eq, mark_ne (show 11 ≠ 8 by decide), h11]
  exact hn
theorem twoC_ahead (h : twoC wr g cs U T o L W) (h11 : L 11 = false) (h10 : L 10 = true) : calC wr g cs U W := by
  obtain ⟨⟨c1, c2, c3⟩, h⟩ := h
  rw [c1 (c2 h10), h11] at h
  exact h
theorem twoC_made {y : Nat} (h : twoC wr g cs U T o L W) (h11 : L 11 = false) (h10 : L 10 = true) (hy : Is o y) (hl : y < 4294967296) : twoC wr g cs U T o (markN L 11) (W.alloc (.cells #[.float .f32 y] T)) := by
  have hs := twoC_ahead h h11 h10
  obtain ⟨⟨c1, c2, c3⟩, _⟩ := h
  refine ⟨⟨chain_up c1 fun e => absurd e (by decide), chain_up c2 fun e => absurd e (by decide), chain_up c3 fun _ => h10⟩, ?_⟩
  rw [mark_eq, mark_ne (show 8 ≠ 11 by decide), c1 (c2 h10)]
  exact ⟨W, y, hs, hy, hl, Drawn.refl _⟩
theorem twoC_cell (h : twoC wr g cs U T o L W) {k j : Nat} (hk : k ≠ g) (hl : k < wr.heap.size) : W.cell? ⟨k, j, none⟩ = wr.cell? ⟨k, j, none⟩ := by
  have h := h.2
  revert h
  cases L 8 with
  | false => intro h; exact Drawn.cell h _
  | true =>
    cases L 11 with
    | false => intro h; exact h.2.cell hk
    | true =>
      rintro ⟨W1, x, h1, _, _, d⟩
      rw [d.cell, ((Go.RowKit.Below.refl W1.heap.size W1).alloc (Nat.le_refl _) _).cell (show k < W1.heap.size from Nat.lt_of_lt_of_le hl h1.2.size)]
      exact h1.2.cell hk
theorem twoC_end (h : twoC wr g cs U T o (fun j => decide (j < 12)) W) : ∃ W1 x, calC wr g cs U W1 ∧ Is o x ∧ x < 4294967296 ∧ Drawn (W1.alloc (.cells #[.float .f32 x] T)) W := h.2
end
end We
