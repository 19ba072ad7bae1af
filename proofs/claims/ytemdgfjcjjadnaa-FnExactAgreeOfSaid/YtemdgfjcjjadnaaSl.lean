/-
  Slices of float32 numbers that come in: their numbers, cell by cell; sums with not-a-numbers. No conditions beyond those stated.
-/
import Derived.Test.YtemdgfjcjjadnaaChecked
import Derived.Test.YtemdgfjcjjadnaaFop
import Derived.Deep.Slices
import Derived.WalkKit
import Derived.ProofKit
namespace Flt
open Go Go.ChangeShapes Go.WideShapes
/-- a slice of float32 numbers that came in, or was made: its numbers, cell by cell -/
def FRow (w : World) (a : Option Addr) (len : Nat) (zs : List Nat) : Prop :=
  zs.length = len ∧ len ≤ maxLen ∧ (∀ z ∈ zs, z < 4294967296) ∧ ∀ i, i < len → ∃ b off, a = some ⟨b, off, none⟩ ∧ b < w.heap.size ∧ w.cell? ⟨b, off + i, none⟩ = some (.float .f32 (zs.getD i 0))

variable {H : Type} {enc : TypeId × Value → H} {P : Program} {w : World} {base : Nat} {spare : Nat → Bool} {held : Bool}
theorem opened_floats {t e : TypeId} {a : Option Addr} {len cap : Nat} {d : DataW H} {ps : List MemPlace} (ht : P.underlying t = some (.slice e)) (he : P.underlying e = some (.float .f32)) (hc : P.cellsOf e = 1)
    (h : DataW.Trod enc P w base spare held t (.slice a len cap) d ps) (_lt : ∀ x ∈ ps, x.block < w.heap.size) : ∃ zs, FRow w a len zs := by
  obtain ⟨fuel, hf⟩ := h
  rcases Go.Deep.open_slice1 ht hc hf with ⟨hcs, _⟩ | ⟨a', len', cap', m, n, V, D, Pl, hcs, hb, hl, hm, hmm, hx, hel⟩
  · simp [Value.cells] at hcs
    obtain ⟨rfl, rfl, rfl⟩ := hcs
    exact ⟨[], rfl, Nat.zero_le _, by simp, fun i hi => absurd hi (Nat.not_lt_zero _)⟩
  · simp [Value.cells] at hcs
    obtain ⟨rfl, rfl, rfl⟩ := hcs
    have hlm : len ≤ m := by rw [hmm]; split <;> omega
    have each : ∀ i, i < len → ∃ z, V i = .float .f32 z ∧ z < 4294967296 := by
      intro i hi
      obtain ⟨h1, h2⟩ := hel i (by omega)
      cases n with
      | zero => simp [DataW.trod] at h2
      | succ n =>
        simp only [DataW.trod, he] at h2
        cases hv : V i <;> rw [hv] at h2 <;> simp at h2
        rename_i k z
        obtain ⟨⟨rfl, hw⟩, _⟩ := h2
        exact ⟨z, rfl, by simpa [Lit.wf] using hw⟩
    let bit : Value → Nat := fun v => match v with | .float _ b => b | _ => 0
    have hget : ∀ i, i < len → ((List.range len).map fun i => bit (V i)).getD i 0 = bit (V i) := by
      intro i hi
      simp [List.getD, hi]
    refine ⟨(List.range len).map fun i => bit (V i), by simp, by omega, ?_, ?_⟩
    · intro z hz
      obtain ⟨i, hi, rfl⟩ := List.mem_map.1 hz
      obtain ⟨z, hz1, hz2⟩ := each i (List.mem_range.1 hi)
      show bit (V i) < _
      rw [hz1]; exact hz2
    · intro i hi
      obtain ⟨h1, _⟩ := hel i (by omega)
      obtain ⟨z, hz1, hz2⟩ := each i hi
      obtain ⟨b, off, spot⟩ := a'
      have hspot : spot = none := by
        have := World.cell?_spot (hel 0 (by omega)).1
        simpa [Addr.add] using this
      subst hspot
      have hadd : (⟨b, off, none⟩ : Addr).add i = ⟨b, off + i, none⟩ := by unfold Addr.add; split <;> simp_all
      rw [hadd, hz1] at h1
      refine ⟨b, off, rfl, ?_, ?_⟩
      · refine Nat.lt_of_not_le fun hle => ?_
        simp [World.cell?, Array.getElem?_eq_none hle] at h1
      · rw [h1, hget i hi, hz1]
end Flt
