/-
  How likely so many machines are down: contracts of both. Conditions: numbers are words of 32 bits.
-/
import Derived.Test.YtemdgfjcjjadnabCrP
import Derived.Test.YtemdgfjcjjadnabFinW
import Derived.Test.YtemdgfjcjjadnabHld
namespace Flt.Cr
open Go Flt F32 Dec
theorem owned_drawn {w w' : World} {B : Nat} {e : TypeId} {v : Value} {n : Nat} {xs : List Value} (h : w.ownsRow B e 1 v n xs) (d : Drawn w w') : w'.ownsRow B e 1 v n xs := by obtain ⟨n, rfl⟩ := d; exact h
theorem fhd_drawn {w w' : World} {e : TypeId} {g n : Nat} {zs : List Nat} (h : Hld.FHd e w g n zs) (d : Drawn w w') : Hld.FHd e w' g n zs := by obtain ⟨n, rfl⟩ := d; exact h
theorem set_made0 (w : World) (e : TypeId) (cs : Array Value) (v : Value) : (w.alloc (.cells cs e)).setCell ⟨w.heap.size, 0, none⟩ v = w.alloc (.cells (cs.setIfInBounds 0 v) e) := by simp [go_sem]
theorem snoc_last (zs : List Nat) (z : Nat) {n : Nat} (h : zs.length = n) : (zs ++ [z]).getD n 0 = z := by subst h; simp [List.getD]
theorem snoc_old (zs : List Nat) (z : Nat) {j : Nat} (h : j < zs.length) : (zs ++ [z]).getD j 0 = zs.getD j 0 := by simp [List.getD, List.getElem?_append_left h]
theorem lt_mem {zs : List Nat} {n : Nat} (hl : zs.length = n) (h : ∀ j, j < n → zs.getD j 0 < 4294967296) : ∀ z ∈ zs, z < 4294967296 := by
  intro z hz
  obtain ⟨j, hj, rfl⟩ := List.mem_iff_getElem.1 hz
  have := h j (by omega)
  rw [show zs.getD j 0 = zs[j] from by simp [List.getD, hj]] at this
  exact this
theorem cr0_m {m c : Int} {f p : Nat} (h : ¬ (1 ≤ m ∧ m ≤ 16)) : cr0 m c f p = false := by unfold cr0; rw [decide_eq_false h, Bool.false_and]
theorem cr0_c {m c : Int} {f p : Nat} (h : ¬ (1 ≤ c ∧ c ≤ m)) : cr0 m c f p = false := by unfold cr0; rw [decide_eq_false h, Bool.false_and, Bool.and_false]
theorem cr0_f {m c : Int} {f p : Nat} (h : Cm.nng f = false) : cr0 m c f p = false := by unfold cr0; rw [h]; simp
theorem cr0_p {m c : Int} {f p : Nat} (h : Cm.pos p = false) : cr0 m c f p = false := by unfold cr0; rw [h]; simp
theorem cr0_yes {m c : Int} {f p : Nat} (h1 : 1 ≤ m ∧ m ≤ 16) (h2 : 1 ≤ c ∧ c ≤ m) (h3 : Cm.nng f = true) (h4 : Cm.pos p = true) : cr0 m c f p = true := by unfold cr0; rw [decide_eq_true h1, decide_eq_true h2, h3, h4]; rfl
end Flt.Cr
namespace Go.Proofs.Ytemdgfjcjjadnab
open Go.RowKit Flt Dec Cm Liv Cr Hld
end Go.Proofs.Ytemdgfjcjjadnab
