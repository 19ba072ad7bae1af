/-
  Lists of whole numbers that a call has made of its own: how they read, and that they may be marked. No conditions.
-/
import Derived.Test.YtemdgfjcjjadnaaIntW
import Derived.Test.YtemdgfjcjjadnaaMarkW
import Derived.Test.YtemdgfjcjjadnaaCmW
import Derived.Laws.AppendOwn
import Derived.Deep.LoopGhost
namespace Iow
open Go Dec Flt
theorem ownsRow_keep {w w' : World} {B : Nat} {e : TypeId} {sz n : Nat} {v : Value} {xs : List Value} (h : w.ownsRow B e sz v n xs) (hb : Go.RowKit.Below w.heap.size w w') : w'.ownsRow B e sz v n xs := by
  obtain ⟨h1, h2⟩ := h
  refine ⟨h1, ?_⟩
  rcases h2 with h2 | ⟨g, cap, cur, hv, hg, hh, r⟩
  · exact .inl h2
  · have hlt : g < w.heap.size := by
      refine Nat.lt_of_not_le fun hle => ?_
      rw [Array.getElem?_eq_none hle] at hh; cases hh
    exact .inr ⟨g, cap, cur, hv, hg, by rw [hb.block g hlt]; exact hh, r⟩
theorem iv_snoc (l : List Int) (t : Int) : iv (l ++ [t]) = iv l ++ [.int .i64 t] := by simp [iv]
theorem irow_of_owned {w : World} {B t : Nat} {v : Value} {Z : List Int} (h : w.ownsRow B t 1 v Z.length (iv Z)) (hn : Z.length ≤ 1048576) (hz : ∀ z ∈ Z, -9223372036854775808 ≤ z ∧ z ≤ 9223372036854775807) :
    ∃ a c, v = .slice a Z.length c ∧ IRow w a Z.length Z ∧ Own w B a Z.length t ∧ Z.length ≤ c := by
  obtain ⟨h1, ⟨rfl, h2⟩ | ⟨g, cap, cur, rfl, hg, hc, hcap, _, hcs, hcur⟩⟩ := h
  · have hZ : Z = [] := List.eq_nil_of_length_eq_zero h2
    subst hZ
    exact ⟨none, 0, rfl, ⟨rfl, Nat.zero_le _, by simp, fun i hi => absurd hi (Nat.not_lt_zero _)⟩, .inl rfl, Nat.le_refl _⟩
  · have hlt : g < w.heap.size := by
      refine Nat.lt_of_not_le fun hle => ?_
      rw [Array.getElem?_eq_none hle] at hc; cases hc
    refine ⟨some ⟨g, 0, none⟩, cap, rfl, ⟨rfl, by unfold maxLen; omega, hz, fun j hj => ⟨g, 0, rfl, hlt, ?_⟩⟩, .inr ⟨g, rfl, hg, cur, hc, by omega⟩, hcap⟩
    have hu : (cur.toList.take (Z.length * 1))[j]? = some (.int .i64 (Z.getD j 0)) := by
      rw [hcur]; simp [iv, List.getElem?_eq_getElem hj, List.getD]
    rw [List.getElem?_take_of_lt (by omega)] at hu
    unfold World.cell?
    simp only [hc]
    simpa using hu
theorem irow_nil (w : World) (a : Option Addr) : IRow w a 0 [] := ⟨rfl, Nat.zero_le _, by simp, fun i hi => absurd hi (Nat.not_lt_zero _)⟩
theorem iv_at (zs : List Int) (k : Nat) (d : Value) (h : k < zs.length) : (iv zs).getD k d = .int .i64 (zs.getD k 0) := iv_get zs k h d
/-- a whole block of numbers that the call made -/
theorem made_own {t : TypeId} {w : World} {g n B : Nat} {zs : List Int} (h : IMade t w g n zs) (hl : zs.length = n) (hB : B ≤ g) : Own w B (some ⟨g, 0, none⟩) n t :=
  .inr ⟨g, rfl, hB, Slots.of_filled h (by rw [iv_len]; exact hl) (Nat.le_refl _)⟩
end Iow
