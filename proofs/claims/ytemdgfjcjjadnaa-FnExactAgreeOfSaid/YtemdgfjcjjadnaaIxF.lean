/-
  The library's search in a list of 32-bit numbers, for a test that is handed on and only draws; whether all are finite, whether one is below 0. Conditions: numbers are words of 32 bits.
-/
import Derived.Test.YtemdgfjcjjadnaaKeep
import Derived.Test.YtemdgfjcjjadnaaFOwnW
import Derived.Test.YtemdgfjcjjadnaaCmW
import Derived.Test.YtemdgfjcjjadnaaF32
namespace We
open Go Flt F32 Cm
theorem frow_drawn {w w' : World} {a : Option Addr} {len : Nat} {zs : List Nat} (h : FRow w a len zs) (d : Drawn w w') : FRow w' a len zs := h.keep (d.below _)
/-- where the first one is -/
def At (p : Nat → Bool) (zs : List Nat) (i : Int) : Prop := (i = -1 ∧ zs.any p = false) ∨ (∃ k : Nat, k < zs.length ∧ i = k ∧ p (zs.getD k 0) = true ∧ (∀ j, j < k → p (zs.getD j 0) = false) ∧ zs.any p = true)
theorem At.any {p : Nat → Bool} {zs : List Nat} {i : Int} (h : At p zs i) : decide (0 ≤ i) = zs.any p := by
  rcases h with ⟨rfl, h⟩ | ⟨k, _, rfl, _, _, h⟩
  · rw [h]; rfl
  · rw [h]; exact decide_eq_true (by omega)
theorem at_none {p : Nat → Bool} {zs : List Nat} (h : ∀ j, j < zs.length → p (zs.getD j 0) = false) : At p zs (-1) := by
  refine .inl ⟨rfl, List.any_eq_false.2 fun z hz => ?_⟩
  obtain ⟨j, hj, rfl⟩ := List.mem_iff_getElem.1 hz
  have := h j hj
  rw [show zs.getD j 0 = zs[j] from by simp [List.getD, hj]] at this
  rw [this]; decide
theorem at_some {p : Nat → Bool} {zs : List Nat} {k : Nat} (hk : k < zs.length) (hp : p (zs.getD k 0) = true) (h : ∀ j, j < k → p (zs.getD j 0) = false) : At p zs (k : Int) := by
  refine .inr ⟨k, hk, rfl, hp, h, List.any_eq_true.2 ⟨zs.getD k 0, ?_, hp⟩⟩
  rw [show zs.getD k 0 = zs[k] from by simp [List.getD, hk]]
  exact List.getElem_mem hk
theorem any_not (p : Nat → Bool) (zs : List Nat) : (!zs.any fun z => !p z) = zs.all p := by
  rw [Bool.eq_iff_iff]; simp
theorem lt_at {w : World} {a : Option Addr} {len : Nat} {zs : List Nat} (h : FRow w a len zs) {k : Nat} (hk : k < len) : zs.getD k 0 < 4294967296 := by
  have hl : k < zs.length := by rw [h.1]; exact hk
  refine h.2.2.1 _ ?_
  rw [show zs.getD k 0 = zs[k] from by simp [List.getD, hl]]
  exact List.getElem_mem hl
theorem all_get {p : Nat → Bool} {zs : List Nat} (h : zs.all p = true) {k : Nat} (hk : k < zs.length) : p (zs.getD k 0) = true := by
  refine List.all_eq_true.1 h _ ?_
  rw [show zs.getD k 0 = zs[k] from by simp [List.getD, hk]]
  exact List.getElem_mem hk
theorem fin_isN {z : Nat} (h : fin .f32 z = true) (hz : z < 4294967296) : Is (some z) z := ⟨rfl, fin_num h, hz⟩
end We
namespace Go.Proofs.Ytemdgfjcjjadnaa
open Go.RowKit Liv Flt Dec Cm We
end Go.Proofs.Ytemdgfjcjjadnaa
