/-
  Rows of 32-bit numbers that the call owns. No conditions beyond those stated.
-/
import Derived.Test.YtemdgfjcjjadnaaSlW
import Derived.Test.YtemdgfjcjjadnaaFillW
import Derived.Laws.AppendOwn
namespace Dec
open Go Flt
def fv (zs : List Nat) : List Value := zs.map (Value.float .f32)
theorem frow_nil (w : World) (a : Option Addr) : FRow w a 0 [] := ⟨rfl, Nat.zero_le _, by simp, fun i hi => absurd hi (Nat.not_lt_zero _)⟩
theorem frow_of_owned {w : World} {B t : Nat} {v : Value} {Z : List Nat} (h : w.ownsRow B t 1 v Z.length (fv Z)) (hn : Z.length ≤ 1048576) (hz : ∀ z ∈ Z, z < 4294967296) : ∃ a c, v = .slice a Z.length c ∧ FRow w a Z.length Z := by
  obtain ⟨h1, ⟨rfl, h2⟩ | ⟨g, cap, cur, rfl, hg, hc, hcap, _, hcs, hcur⟩⟩ := h
  · have hZ : Z = [] := List.eq_nil_of_length_eq_zero h2
    subst hZ
    exact ⟨none, 0, rfl, frow_nil w none⟩
  · have hlt : g < w.heap.size := by
      refine Nat.lt_of_not_le fun hle => ?_
      rw [Array.getElem?_eq_none hle] at hc; cases hc
    refine ⟨some ⟨g, 0, none⟩, cap, rfl, rfl, by unfold maxLen; omega, hz, fun j hj => ⟨g, 0, rfl, hlt, ?_⟩⟩
    have hu : (cur.toList.take (Z.length * 1))[j]? = some (.float .f32 (Z.getD j 0)) := by
      rw [hcur]; simp [fv, List.getElem?_eq_getElem hj, List.getD]
    rw [List.getElem?_take_of_lt (by omega)] at hu
    unfold World.cell?
    simp only [hc]
    simpa using hu
theorem fv_get (zs : List Nat) (k : Nat) (h : k < zs.length) (d : Value) : (fv zs).getD k d = .float .f32 (zs.getD k 0) := by simp [fv, List.getD, h]
theorem fmade_row {t : TypeId} {w : World} {g n : Nat} {zs : List Nat} (h : Flt.Filled w g t (fv zs) (.float .f32 0) n n) (hl : zs.length = n) (hm : n ≤ 1048576) (hz : ∀ z ∈ zs, z < 4294967296) : FRow w (some ⟨g, 0, none⟩) n zs := by
  refine ⟨hl, by unfold maxLen; omega, hz, fun i hi => ⟨g, 0, rfl, h.lt, ?_⟩⟩
  have := Flt.Filled.cell h (by simp [fv]; exact hl) (Nat.le_refl n) hi
  rw [if_pos hi, fv_get zs i (by omega)] at this
  rw [Nat.zero_add]; exact this
end Dec
