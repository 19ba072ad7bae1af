/-
  Slices of int64 numbers that come in: their numbers, cell by cell; the laws' copy and comparison of them. No conditions beyond those stated.
-/
import Derived.Test.YtemdgfjcjjadnabChecked
import Derived.Test.YtemdgfjcjjadnabFillW
import Derived.Deep.Slices
import Derived.Deep.LoopGhost
import Derived.Lib.Hide
import Derived.IntWalk
import Derived.BigQuiet
import Derived.WalkSmall
import Derived.ProofKit
namespace Dec
open Go Go.ChangeShapes Go.WideShapes
def IRow (w : World) (a : Option Addr) (len : Nat) (zs : List Int) : Prop :=
  zs.length = len ∧ len ≤ maxLen ∧ (∀ z ∈ zs, -9223372036854775808 ≤ z ∧ z ≤ 9223372036854775807) ∧ ∀ i, i < len → ∃ b off, a = some ⟨b, off, none⟩ ∧ b < w.heap.size ∧ w.cell? ⟨b, off + i, none⟩ = some (.int .i64 (zs.getD i 0))

variable {H : Type} {enc : TypeId × Value → H} {P : Program} {w : World} {base : Nat} {spare : Nat → Bool} {held : Bool}
theorem opened_ints {t e : TypeId} {a : Option Addr} {len cap : Nat} {d : DataW H} {ps : List MemPlace} (ht : P.underlying t = some (.slice e)) (he : P.underlying e = some (.int .i64)) (hc : P.cellsOf e = 1)
    (h : DataW.Trod enc P w base spare held t (.slice a len cap) d ps) (_lt : ∀ x ∈ ps, x.block < w.heap.size) : ∃ zs, IRow w a len zs := by
  have e1 : IntKind.i64.min = -9223372036854775808 := rfl
  have e2 : IntKind.i64.max = 9223372036854775807 := rfl
  obtain ⟨fuel, hf⟩ := h
  rcases Go.Deep.open_slice1 ht hc hf with ⟨hcs, _⟩ | ⟨a', len', cap', m, n, V, D, Pl, hcs, hb, hl, hm, hmm, hx, hel⟩
  · simp [Value.cells] at hcs
    obtain ⟨rfl, rfl, rfl⟩ := hcs
    exact ⟨[], rfl, Nat.zero_le _, by simp, fun i hi => absurd hi (Nat.not_lt_zero _)⟩
  · simp [Value.cells] at hcs
    obtain ⟨rfl, rfl, rfl⟩ := hcs
    have hlm : len ≤ m := by rw [hmm]; split <;> omega
    have each : ∀ i, i < len → ∃ z, V i = .int .i64 z ∧ -9223372036854775808 ≤ z ∧ z ≤ 9223372036854775807 := by
      intro i hi
      obtain ⟨h1, h2⟩ := hel i (by omega)
      cases n with
      | zero => simp [DataW.trod] at h2
      | succ n =>
        obtain ⟨z, hc2, _, hr⟩ := DataW.trod_int he h2
        have : V i = .int .i64 z := by simpa using hc2
        refine ⟨z, this, ?_⟩
        simp [Lit.wf] at hr
        omega
    let num : Value → Int := fun v => match v with | .int _ b => b | _ => 0
    have hget : ∀ i, i < len → ((List.range len).map fun i => num (V i)).getD i 0 = num (V i) := by
      intro i hi
      simp [List.getD, hi]
    refine ⟨(List.range len).map fun i => num (V i), by simp, by omega, ?_, ?_⟩
    · intro z hz
      obtain ⟨i, hi, rfl⟩ := List.mem_map.1 hz
      obtain ⟨z, hz1, hz2⟩ := each i (List.mem_range.1 hi)
      show -9223372036854775808 ≤ num (V i) ∧ num (V i) ≤ 9223372036854775807
      rw [hz1]; exact hz2
    · intro i hi
      obtain ⟨h1, _⟩ := hel i (by omega)
      obtain ⟨z, hz1, hz2⟩ := each i hi
      obtain ⟨b, off, spot⟩ := a'
      have hspot : spot = none := by
        have := World.cell?_spot (hel 0 (by omega)).1
        simpa [Addr.add] using this
      subst hspot
      have hadd : (⟨b, off, none⟩ : Addr).add i = ⟨b, off + i, none⟩ := by unfold Addr.add; split <;> simp_all
      rw [hadd, hz1] at h1
      refine ⟨b, off, rfl, ?_, ?_⟩
      · refine Nat.lt_of_not_le fun hle => ?_
        simp [World.cell?, Array.getElem?_eq_none hle] at h1
      · rw [h1, hget i hi, hz1]
theorem IRow.keep {w w' : World} {a : Option Addr} {len : Nat} {zs : List Int} (h : IRow w a len zs) (hb : Go.RowKit.Below w.heap.size w w') : IRow w' a len zs := by
  obtain ⟨h1, h2, h3, h4⟩ := h
  refine ⟨h1, h2, h3, fun i hi => ?_⟩
  obtain ⟨b, off, e, hlt, hc⟩ := h4 i hi
  exact ⟨b, off, e, Nat.lt_of_lt_of_le hlt hb.size, by rw [World.cell?_of_block (w := w) (hb.block b hlt)]; exact hc⟩
theorem IRow.bd {w : World} {a : Option Addr} {len k : Nat} {zs : List Int} (h : IRow w a len zs) (hk : k < len) : -9223372036854775808 ≤ zs.getD k 0 ∧ zs.getD k 0 ≤ 9223372036854775807 := h.2.2.1 _ (by
  have hkz : k < zs.length := by rw [h.1]; exact hk
  rw [show zs.getD k 0 = zs[k] from by simp [List.getD, hkz]]
  exact List.getElem_mem hkz)
def iv (zs : List Int) : List Value := zs.map (Value.int .i64)
theorem iv_get (zs : List Int) (k : Nat) (h : k < zs.length) (d : Value) : (iv zs).getD k d = .int .i64 (zs.getD k 0) := by simp [iv, List.getD, h]
theorem iv_len (zs : List Int) : (iv zs).length = zs.length := by simp [iv]
/-- a block that holds numbers -/
abbrev IMade (t : TypeId) (w : World) (g n : Nat) (zs : List Int) : Prop := Flt.Filled w g t (iv zs) (.int .i64 0) n n
theorem imade_row {t : TypeId} {w : World} {g n : Nat} {zs : List Int} (h : IMade t w g n zs) (hl : zs.length = n) (hm : n ≤ 1048576) (hz : ∀ z ∈ zs, -9223372036854775808 ≤ z ∧ z ≤ 9223372036854775807) : IRow w (some ⟨g, 0, none⟩) n zs := by
  refine ⟨hl, by unfold maxLen; omega, hz, fun i hi => ⟨g, 0, rfl, h.lt, ?_⟩⟩
  have := Flt.Filled.cell h (by rw [iv_len]; exact hl) (Nat.le_refl n) hi
  rw [if_pos hi, iv_get zs i (by omega)] at this
  rw [Nat.zero_add]; exact this
end Dec
namespace Go.Proofs.Ytemdgfjcjjadnab
open Go.RowKit Dec Flt
end Go.Proofs.Ytemdgfjcjjadnab
