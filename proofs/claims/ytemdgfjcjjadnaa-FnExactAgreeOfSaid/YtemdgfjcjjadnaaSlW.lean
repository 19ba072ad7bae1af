/-
  Contracts of the laws' copies of slices of float32 numbers. Conditions: at most 1048576 numbers.
-/
import Derived.Test.YtemdgfjcjjadnaaFlushW
import Derived.Test.YtemdgfjcjjadnaaSl
import Derived.Test.YtemdgfjcjjadnaaRgn
import Derived.Deep.LoopGhost
import Derived.IntWalk
import Derived.Laws.NewBlocks
import Derived.Laws.MakeOwn
namespace Go.Proofs.Ytemdgfjcjjadnaa
open Go.RowKit Flt

@[go_sem] theorem run_store_float {P : Program} {w : World} {a : Addr} {m : Mode} (k : FloatKind) (b : Nat) : (store a (.float k b) m).run P w = stored P w a (.float k b) m := run_store P w a _ m rfl

def cpy (zs : List Nat) (k n : Nat) : Array Value := ((zs.take k).map (Value.float .f32) ++ List.replicate (n - k) (Value.float .f32 0)).toArray
theorem cpy_size {zs : List Nat} {k n : Nat} (hn : zs.length = n) (hk : k ≤ n) : (cpy zs k n).size = n := by
  unfold cpy; simp; omega
theorem cpy_get {zs : List Nat} {k n j : Nat} (hn : zs.length = n) (hk : k ≤ n) (hj : j < n) : (cpy zs k n)[j]? = some (.float .f32 (if j < k then zs.getD j 0 else 0)) := by
  unfold cpy
  simp only [List.getElem?_toArray]
  by_cases h : j < k
  · rw [List.getElem?_append_left (by simp; omega), if_pos h]
    have : j < zs.length := by omega
    simp [h, this]
  · rw [List.getElem?_append_right (by simp; omega), if_neg h]
    have h1 : (List.map (Value.float .f32) (zs.take k)).length = k := by simp; omega
    rw [h1, List.getElem?_replicate, if_pos (by omega)]
theorem cpy_set {zs : List Nat} {k n : Nat} (hn : zs.length = n) (hk : k < n) : (cpy zs k n).setIfInBounds k (.float .f32 (zs.getD k 0)) = cpy zs (k + 1) n := by
  apply Array.ext_getElem?
  intro j
  by_cases hj : j < n
  · rw [Array.getElem?_setIfInBounds, cpy_get hn (by omega) hj]
    by_cases hjk : k = j
    · subst hjk
      rw [if_pos rfl, if_pos (by rw [cpy_size hn (by omega)]; exact hj), cpy_get hn (by omega) hj, if_pos (by omega)]
    · rw [if_neg hjk, cpy_get hn (by omega) hj]
      by_cases h : j < k
      · rw [if_pos h, if_pos (by omega)]
      · rw [if_neg h, if_neg (by omega)]
  · rw [Array.getElem?_eq_none (by rw [Array.size_setIfInBounds, cpy_size hn (by omega)]; omega), Array.getElem?_eq_none (by rw [cpy_size hn (by omega)]; omega)]
theorem cpy_made (zs : List Nat) (n : Nat) : madeCells (Value.float .f32 0).cells (n * 1) = cpy zs 0 n := by
  unfold madeCells cpy
  apply Array.ext_getElem?
  intro j
  by_cases hj : j < n
  · simp [Value.cells, hj, Nat.mod_one]
  · simp [hj]
/-- a copy that was made: a whole block -/
def Made (w : World) (g n : Nat) (zs : List Nat) : Prop := w.heap[g]? = some (.cells (cpy zs n n) 44 (0, 0)) ∧ zs.length = n

theorem made_row {w : World} {g n : Nat} {zs : List Nat} (h : Made w g n zs) (hm : n ≤ 1048576) (hz : ∀ z ∈ zs, z < 4294967296) : FRow w (some ⟨g, 0, none⟩) n zs := by
  obtain ⟨h1, h2⟩ := h
  refine ⟨h2, by unfold maxLen; omega, hz, fun i hi => ⟨g, 0, rfl, ?_, ?_⟩⟩
  · refine Nat.lt_of_not_le fun hle => ?_
    rw [Array.getElem?_eq_none hle] at h1; cases h1
  · rw [Nat.zero_add, cell_of_row w g i _ _ _ h1, cpy_get h2 (Nat.le_refl _) hi, if_pos hi]
theorem frow_below {w w' : World} {a : Option Addr} {len : Nat} {zs : List Nat} {B : Nat} (h : FRow w a len zs) (hb : Below B w w') (hB : ∀ b off, a = some ⟨b, off, none⟩ → b < B) : FRow w' a len zs := by
  obtain ⟨h1, h2, h3, h4⟩ := h
  refine ⟨h1, h2, h3, fun i hi => ?_⟩
  obtain ⟨b, off, e, hlt, hc⟩ := h4 i hi
  exact ⟨b, off, e, Nat.lt_of_lt_of_le hlt hb.size, by rw [hb.cell (hB b off e)]; exact hc⟩
theorem frow_in {w : World} {a : Option Addr} {len : Nat} {zs : List Nat} (h : FRow w a len zs) (hl : 0 < len) : ∀ b off, a = some ⟨b, off, none⟩ → b < w.heap.size := by
  intro b off e
  obtain ⟨b', off', e', hlt, _⟩ := h.2.2.2 0 hl
  rw [e] at e'
  cases e'
  exact hlt

theorem Made.below {w w' : World} {g n : Nat} {zs : List Nat} (h : Made w g n zs) (hb : Below w.heap.size w w') : Made w' g n zs := by
  obtain ⟨h1, h2⟩ := h
  have hlt : g < w.heap.size := by
    refine Nat.lt_of_not_le fun hle => ?_
    rw [Array.getElem?_eq_none hle] at h1; cases h1
  exact ⟨by rw [hb.block g hlt]; exact h1, h2⟩
theorem frow_keep {w w' : World} {a : Option Addr} {len : Nat} {zs : List Nat} (h : FRow w a len zs) (hb : Below w.heap.size w w') : FRow w' a len zs := by
  by_cases hl : 0 < len
  · exact frow_below h hb (frow_in h hl)
  · obtain ⟨h1, h2, h3, _⟩ := h
    exact ⟨h1, h2, h3, fun i hi => absurd hi (by omega)⟩
end Go.Proofs.Ytemdgfjcjjadnaa
