/-
  Bytes that come in, and the laws' choice by a byte. No conditions beyond those stated.
-/
import Derived.Test.YtiebbmgehhcdmaaChecked
import Derived.Deep.Slices
import Derived.WalkKit
import Derived.Lib.Hide
import Derived.IntWalk
import Derived.ProofKit
import Derived.Below
namespace Flt
open Go Go.ChangeShapes Go.WideShapes
/-- bytes that came in -/
def BRow (w : World) (a : Option Addr) (len : Nat) (zs : List Nat) : Prop :=
  zs.length = len ∧ len ≤ maxLen ∧ (∀ z ∈ zs, z < 256) ∧ ∀ i, i < len → ∃ b off, a = some ⟨b, off, none⟩ ∧ b < w.heap.size ∧ w.cell? ⟨b, off + i, none⟩ = some (.int .u8 (zs.getD i 0 : Nat))
variable {H : Type} {enc : TypeId × Value → H} {P : Program} {w : World} {base : Nat} {spare : Nat → Bool} {held : Bool}
theorem opened_ints {t e : TypeId} {a : Option Addr} {len cap : Nat} {d : DataW H} {ps : List MemPlace} (ht : P.underlying t = some (.slice e)) (he : P.underlying e = some (.int .u8)) (hc : P.cellsOf e = 1)
    (h : DataW.Trod enc P w base spare held t (.slice a len cap) d ps) (_lt : ∀ x ∈ ps, x.block < w.heap.size) : ∃ zs, BRow w a len zs := by
  obtain ⟨fuel, hf⟩ := h
  rcases Go.Deep.open_slice1 ht hc hf with ⟨hcs, _⟩ | ⟨a', len', cap', m, n, V, D, Pl, hcs, hb, hl, hm, hmm, hx, hel⟩
  · simp [Value.cells] at hcs
    obtain ⟨rfl, rfl, rfl⟩ := hcs
    exact ⟨[], rfl, Nat.zero_le _, by simp, fun i hi => absurd hi (Nat.not_lt_zero _)⟩
  · simp [Value.cells] at hcs
    obtain ⟨rfl, rfl, rfl⟩ := hcs
    have hlm : len ≤ m := by rw [hmm]; split <;> omega
    have each : ∀ i, i < len → ∃ z : Nat, V i = .int .u8 (z : Int) ∧ z < 256 := by
      intro i hi
      obtain ⟨h1, h2⟩ := hel i (by omega)
      cases n with
      | zero => simp [DataW.trod] at h2
      | succ n =>
        obtain ⟨z, hc2, _, hr⟩ := DataW.trod_int he h2
        have hv : V i = .int .u8 z := by simpa using hc2
        have e1 : IntKind.u8.min = 0 := rfl
        have e2 : IntKind.u8.max = 255 := rfl
        simp [Lit.wf] at hr
        exact ⟨z.toNat, by rw [hv]; congr 1; omega, by omega⟩
    let num : Value → Nat := fun v => match v with | .int _ b => b.toNat | _ => 0
    have hget : ∀ i, i < len → ((List.range len).map fun i => num (V i)).getD i 0 = num (V i) := by
      intro i hi
      simp [List.getD, hi]
    refine ⟨(List.range len).map fun i => num (V i), by simp, by omega, ?_, ?_⟩
    · intro z hz
      obtain ⟨i, hi, rfl⟩ := List.mem_map.1 hz
      obtain ⟨z, hz1, hz2⟩ := each i (List.mem_range.1 hi)
      show num (V i) < 256
      rw [hz1]
      show (z : Int).toNat < 256
      omega
    · intro i hi
      obtain ⟨h1, _⟩ := hel i (by omega)
      obtain ⟨z, hz1, hz2⟩ := each i hi
      obtain ⟨b, off, spot⟩ := a'
      have hspot : spot = none := by
        have := World.cell?_spot (hel 0 (by omega)).1
        simpa [Addr.add] using this
      subst hspot
      have hadd : (⟨b, off, none⟩ : Addr).add i = ⟨b, off + i, none⟩ := by unfold Addr.add; split <;> simp_all
      rw [hadd, hz1] at h1
      refine ⟨b, off, rfl, ?_, ?_⟩
      · refine Nat.lt_of_not_le fun hle => ?_
        simp [World.cell?, Array.getElem?_eq_none hle] at h1
      · rw [h1, hget i hi, hz1]
        show some (Value.int IntKind.u8 (z : Int)) = some (.int .u8 (((z : Int).toNat : Nat) : Int))
        congr 2
theorem BRow.keep {w w' : World} {a : Option Addr} {len : Nat} {zs : List Nat} (h : BRow w a len zs) (hb : Go.RowKit.Below w.heap.size w w') : BRow w' a len zs := by
  obtain ⟨h1, h2, h3, h4⟩ := h
  refine ⟨h1, h2, h3, fun i hi => ?_⟩
  obtain ⟨b, off, e, hlt, hc⟩ := h4 i hi
  exact ⟨b, off, e, Nat.lt_of_lt_of_le hlt hb.size, by rw [World.cell?_of_block (w := w) (hb.block b hlt)]; exact hc⟩
theorem BRow.bd {w : World} {a : Option Addr} {len k : Nat} {zs : List Nat} (h : BRow w a len zs) (hk : k < len) : zs.getD k 0 < 256 := h.2.2.1 _ (by
  have hkz : k < zs.length := by rw [h.1]; exact hk
  rw [show zs.getD k 0 = zs[k] from by simp [List.getD, hkz]]
  exact List.getElem_mem hkz)
end Flt
namespace Go.Proofs.Ytiebbmgehhcdmaa
open Go.RowKit Flt
end Go.Proofs.Ytiebbmgehhcdmaa
