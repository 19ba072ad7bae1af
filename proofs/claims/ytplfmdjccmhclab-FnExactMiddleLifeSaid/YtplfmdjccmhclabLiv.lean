/-
  Slices of lives (a 32-bit number and a truth value: two cells): what they hold, cell by cell; blocks of the call's own that hold some. No conditions beyond those stated.
-/
import Derived.Test.YtplfmdjccmhclabChecked
import Derived.Deep.SlicePairs
import Derived.Deep.Slices
import Derived.WalkKit
import Derived.Below
import Derived.ProofKit
import Derived.Laws.NewBlocks
import Derived.Laws.Rows
import Derived.Laws.MakeOwn
import Derived.Laws.Cells
import Derived.Lib.Hide
namespace Liv
open Go Go.ChangeShapes Go.WideShapes
def tm (zs : List (Nat × Bool)) (i : Nat) : Nat := (zs.getD i (0, false)).1
def fl (zs : List (Nat × Bool)) (i : Nat) : Bool := (zs.getD i (0, false)).2
/-- a slice of lives that came in, or was made -/
def LRow (w : World) (a : Option Addr) (len : Nat) (zs : List (Nat × Bool)) : Prop :=
  zs.length = len ∧ len ≤ maxLen ∧ (∀ z ∈ zs, z.1 < 4294967296) ∧ ∀ i, i < len → ∃ b off, a = some ⟨b, off, none⟩ ∧ b < w.heap.size ∧ w.cell? ⟨b, off + i * 2, none⟩ = some (.float .f32 (tm zs i)) ∧ w.cell? ⟨b, off + i * 2 + 1, none⟩ = some (.bool (fl zs i))
theorem LRow.keep {w w' : World} {a : Option Addr} {len : Nat} {zs : List (Nat × Bool)} (h : LRow w a len zs) (hb : Go.RowKit.Below w.heap.size w w') : LRow w' a len zs := by
  obtain ⟨h1, h2, h3, h4⟩ := h
  refine ⟨h1, h2, h3, fun i hi => ?_⟩
  obtain ⟨b, off, e, hlt, hc, hd⟩ := h4 i hi
  exact ⟨b, off, e, Nat.lt_of_lt_of_le hlt hb.size, by rw [World.cell?_of_block (w := w) (hb.block b hlt)]; exact hc, by rw [World.cell?_of_block (w := w) (hb.block b hlt)]; exact hd⟩
theorem LRow.bd {w : World} {a : Option Addr} {len k : Nat} {zs : List (Nat × Bool)} (h : LRow w a len zs) (hk : k < len) : tm zs k < 4294967296 := h.2.2.1 (zs.getD k (0, false)) (by
  have hkz : k < zs.length := by rw [h.1]; exact hk
  rw [show zs.getD k (0, false) = zs[k] from by simp [List.getD, hkz]]
  exact List.getElem_mem hkz)
theorem lrow_nil (w : World) (a : Option Addr) : LRow w a 0 [] := ⟨rfl, Nat.zero_le _, by simp, fun i hi => absurd hi (Nat.not_lt_zero _)⟩
/-- the two cells, as they are loaded together -/
theorem load2 {P : Program} {w : World} {b o : Nat} {u v : Value} (h1 : w.cell? ⟨b, o, none⟩ = some u) (h2 : w.cell? ⟨b, o + 1, none⟩ = some v) :
    Sem.run P (loadCellsFrom ⟨b, o, none⟩ 0 2 #[]) w = .ok #[u, v] w := by
  have := run_loadCells_list (P := P) (w := w) ⟨b, o, none⟩ [u, v] (by
    intro j x hj
    match j, hj with
    | 0, hj => simp at hj; subst hj; simpa [Addr.add] using h1
    | 1, hj => simp at hj; subst hj; simpa [Addr.add] using h2)
  simpa [loadCells] using this
variable {H : Type} {enc : TypeId × Value → H} {P : Program} {w : World} {base : Nat} {spare : Nat → Bool} {held : Bool}
theorem trod_f32 {t : TypeId} {fuel : Nat} {v : Value} {x : DataW H × List MemPlace} (ht : P.underlying t = some (.float .f32)) (h : DataW.trod enc P w base spare held fuel t [v] = some x) : ∃ z, v = .float .f32 z ∧ z < 4294967296 ∧ x = (.lit (.float .f32 z), []) := by
  cases fuel with
  | zero => simp [DataW.trod] at h
  | succ n =>
    simp only [DataW.trod, ht] at h
    cases hv : v <;> rw [hv] at h <;> simp at h
    rename_i k z
    obtain ⟨⟨rfl, hw⟩, h3⟩ := h
    exact ⟨z, rfl, by simpa [Lit.wf] using hw, h3.symm⟩
theorem opened_lives {t e : TypeId} {f0 f1 : Field} {a : Option Addr} {len cap : Nat} {d : DataW H} {ps : List MemPlace} (ht : P.underlying t = some (.slice e)) (he : P.underlying e = some (.struct #[f0, f1]))
    (ce : P.cellsOf e = 2) (o0 : f0.offset = 0) (o1 : f1.offset = 1) (c0 : P.cellsOf f0.type = 1) (c1 : P.cellsOf f1.type = 1) (u0 : P.underlying f0.type = some (.float .f32)) (u1 : P.underlying f1.type = some .bool)
    (h : DataW.Trod enc P w base spare held t (.slice a len cap) d ps) : ∃ zs, LRow w a len zs := by
  obtain ⟨fuel, hf⟩ := h
  rcases Go.Deep.open_slice_pairs ht he ce o0 o1 c0 c1 hf with ⟨hcs, _⟩ | ⟨a', len', cap', m, n, V0, V1, D0, D1, P0, P1, hcs, hb, hl, hm, hmm, hx, hel⟩
  · simp [Value.cells] at hcs
    obtain ⟨rfl, rfl, rfl⟩ := hcs
    exact ⟨[], lrow_nil w none⟩
  · simp [Value.cells] at hcs
    obtain ⟨rfl, rfl, rfl⟩ := hcs
    have hlm : len ≤ m := by rw [hmm]; split <;> omega
    have each : ∀ i, i < len → (∃ z, V0 i = .float .f32 z ∧ z < 4294967296) ∧ ∃ b, V1 i = .bool b := by
      intro i hi
      obtain ⟨_, _, h3, h4⟩ := hel i (by omega)
      obtain ⟨z, hz, hz2, _⟩ := trod_f32 u0 h3
      obtain ⟨b, hb, _⟩ := DataW.trod_bool u1 h4
      exact ⟨⟨z, hz, hz2⟩, b, by simpa using hb⟩
    let num : Value → Nat := fun v => match v with | .float _ b => b | _ => 0
    let tru : Value → Bool := fun v => match v with | .bool b => b | _ => false
    have hget : ∀ i, i < len → ((List.range len).map fun i => (num (V0 i), tru (V1 i))).getD i (0, false) = (num (V0 i), tru (V1 i)) := by
      intro i hi
      simp [List.getD, hi]
    refine ⟨(List.range len).map fun i => (num (V0 i), tru (V1 i)), by simp, by omega, ?_, ?_⟩
    · intro z hz
      obtain ⟨i, hi, rfl⟩ := List.mem_map.1 hz
      obtain ⟨⟨z, hz1, hz2⟩, _⟩ := each i (List.mem_range.1 hi)
      show num (V0 i) < _
      rw [hz1]; exact hz2
    · intro i hi
      obtain ⟨h1, h2, _, _⟩ := hel i (by omega)
      obtain ⟨⟨z, hz1, hz2⟩, y, hy⟩ := each i hi
      obtain ⟨b, off, spot⟩ := a'
      have hspot : spot = none := by
        have := World.cell?_spot (hel 0 (by omega)).1
        simpa [Addr.add] using this
      subst hspot
      have hadd : ∀ i, (⟨b, off, none⟩ : Addr).add i = ⟨b, off + i, none⟩ := by intro i; unfold Addr.add; split <;> simp_all
      rw [hadd, hz1] at h1
      rw [hadd, hy, ← Nat.add_assoc] at h2
      refine ⟨b, off, rfl, ?_, ?_, ?_⟩
      · refine Nat.lt_of_not_le fun hle => ?_
        simp [World.cell?, Array.getElem?_eq_none hle] at h1
      · unfold tm; rw [h1, hget i hi, hz1]
      · unfold fl; rw [h2, hget i hi, hy]
/-- a block of the call's own with room for so many -/
def LSlots (w : World) (g n : Nat) (e : TypeId) : Prop := ∃ cur, w.heap[g]? = some (.cells cur e (0, 0)) ∧ n * 2 ≤ cur.size
theorem LSlots.lt {w : World} {g n : Nat} {e : TypeId} (h : LSlots w g n e) : g < w.heap.size := by
  obtain ⟨cur, h, _⟩ := h
  refine Nat.lt_of_not_le fun hle => ?_
  rw [Array.getElem?_eq_none hle] at h; cases h
theorem LSlots.keep {w w' : World} {g n : Nat} {e : TypeId} (h : LSlots w g n e) (hb : Go.RowKit.Below w.heap.size w w') : LSlots w' g n e := by
  have := h.lt
  obtain ⟨cur, h, h2⟩ := h
  exact ⟨cur, by rw [hb.block g this]; exact h, h2⟩
theorem LSlots.cell {w : World} {g n j : Nat} {e : TypeId} (h : LSlots w g n e) (hj : j < n * 2) : ∃ u, w.cell? ⟨g, j, none⟩ = some u := by
  obtain ⟨cur, h, h2⟩ := h
  refine ⟨cur[j]'(by omega), ?_⟩
  unfold World.cell?
  simp only [h]
  simp [Array.getElem?_eq_getElem (show j < cur.size by omega)]
theorem LSlots.frozen {w : World} {g n : Nat} {e : TypeId} (h : LSlots w g n e) (j : Nat) : w.frozen? ⟨g, j, none⟩ = false := by
  obtain ⟨cur, h, _⟩ := h
  unfold World.frozen?
  simp [h]
theorem LSlots.set {w : World} {g n : Nat} {e : TypeId} (h : LSlots w g n e) (j : Nat) (v : Value) : LSlots (w.setCell ⟨g, j, none⟩ v) g n e := by
  obtain ⟨cur, h, h2⟩ := h
  exact ⟨_, heap_setCell_same w g j _ e v h, by rw [Array.size_setIfInBounds]; exact h2⟩
/-- the first 'k' lives are laid -/
def LHas (w : World) (g k : Nat) (zs : List (Nat × Bool)) : Prop := ∀ j, j < k → w.cell? ⟨g, j * 2, none⟩ = some (.float .f32 (tm zs j)) ∧ w.cell? ⟨g, j * 2 + 1, none⟩ = some (.bool (fl zs j))
theorem LHas.keep {w w' : World} {g k : Nat} {zs : List (Nat × Bool)} (h : LHas w g k zs) (hg : g < w.heap.size) (hb : Go.RowKit.Below w.heap.size w w') : LHas w' g k zs := by
  intro j hj
  obtain ⟨a1, a2⟩ := h j hj
  exact ⟨by rw [World.cell?_of_block (w := w) (hb.block g hg)]; exact a1, by rw [World.cell?_of_block (w := w) (hb.block g hg)]; exact a2⟩
theorem LHas.set {w : World} {g n k : Nat} {e : TypeId} {zs : List (Nat × Bool)} (hs : LSlots w g n e) (hk : k < n) (h : LHas w g k zs) {t : Nat} {f : Bool} (ht : t = tm zs k) (hf : f = fl zs k) :
    LHas ((w.setCell ⟨g, k * 2, none⟩ (.float .f32 t)).setCell ⟨g, k * 2 + 1, none⟩ (.bool f)) g (k + 1) zs := by
  subst ht; subst hf
  obtain ⟨u, hu⟩ := hs.cell (j := k * 2) (by omega)
  obtain ⟨v, hv⟩ := (hs.set (k * 2) (.float .f32 (tm zs k))).cell (j := k * 2 + 1) (by omega)
  intro j hj
  by_cases hjk : j = k
  · subst hjk
    refine ⟨?_, World.cell?_setCell_same _ _ _ hv⟩
    rw [World.cell?_setCell_other _ _ _ _ (by intro e; injection e with _ e2 _; omega)]
    exact World.cell?_setCell_same _ _ _ hu
  · obtain ⟨a1, a2⟩ := h j (by omega)
    constructor
    · rw [World.cell?_setCell_other _ _ _ _ (by intro e; injection e with _ e2 _; omega), World.cell?_setCell_other _ _ _ _ (by intro e; injection e with _ e2 _; omega)]
      exact a1
    · rw [World.cell?_setCell_other _ _ _ _ (by intro e; injection e with _ e2 _; omega), World.cell?_setCell_other _ _ _ _ (by intro e; injection e with _ e2 _; omega)]
      exact a2
/-- a whole block of lives, made by the call -/
def LMade (e : TypeId) (w : World) (g n : Nat) (zs : List (Nat × Bool)) : Prop := LSlots w g n e ∧ LHas w g n zs
theorem LMade.keep {w w' : World} {g n : Nat} {e : TypeId} {zs : List (Nat × Bool)} (h : LMade e w g n zs) (hb : Go.RowKit.Below w.heap.size w w') : LMade e w' g n zs := ⟨h.1.keep hb, h.2.keep h.1.lt hb⟩
theorem LMade.row {w : World} {g n : Nat} {e : TypeId} {zs : List (Nat × Bool)} (h : LMade e w g n zs) (hl : zs.length = n) (hm : n ≤ maxLen) (hz : ∀ z ∈ zs, z.1 < 4294967296) : LRow w (some ⟨g, 0, none⟩) n zs :=
  ⟨hl, hm, hz, fun i hi => ⟨g, 0, rfl, h.1.lt, by rw [Nat.zero_add]; exact (h.2 i hi).1, by rw [Nat.zero_add]; exact (h.2 i hi).2⟩⟩
theorem LSlots.made (w : World) (e : TypeId) (cs : Array Value) (n : Nat) (hn : n * 2 ≤ cs.size) : LSlots (w.alloc (.cells cs e)) w.heap.size n e := ⟨cs, by show (w.heap.push _)[w.heap.size]? = _; simp, hn⟩
end Liv
