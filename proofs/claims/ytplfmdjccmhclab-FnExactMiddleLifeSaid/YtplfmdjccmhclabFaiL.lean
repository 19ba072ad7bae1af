/-
  The times of failures as the two answer, and their exact law. No conditions beyond the statement's own.
-/
import Derived.Test.YtplfmdjccmhclabTimP
import Derived.Test.YtplfmdjccmhclabMkL
import Derived.Test.YtplfmdjccmhclabEqW
import Derived.Test.YtplfmdjccmhclabMarkFW
namespace Liv
open Go Flt Dec
/-- what both answer -/
def aT (zs : List (Nat × Bool)) : List Nat := if livB zs then tS zs else []
theorem aT_len (zs : List (Nat × Bool)) : (aT zs).length ≤ 48 := by
  unfold aT
  cases h : livB zs with
  | true => have h1 := (liv_len h).2; have h2 := tS_len zs; simp only [↓reduceIte]; omega
  | false => simp
theorem _root_.Flt.FRow.keep {w w' : World} {a : Option Addr} {len : Nat} {zs : List Nat} (h : FRow w a len zs) (hb : Go.RowKit.Below w.heap.size w w') : FRow w' a len zs := by
  obtain ⟨h1, h2, h3, h4⟩ := h
  refine ⟨h1, h2, h3, fun i hi => ?_⟩
  obtain ⟨b, off, e1, hlt, hc⟩ := h4 i hi
  exact ⟨b, off, e1, Nat.lt_of_lt_of_le hlt hb.size, by rw [World.cell?_of_block (w := w) (hb.block b hlt)]; exact hc⟩
theorem _root_.Flt.FRow.only {g B : Nat} {w w' : World} {a : Option Addr} {len : Nat} {zs : List Nat} {e : TypeId} (h : FRow w a len zs) (hw : Own w B a len e) (ho : Only g w w') (hg : g < B) : FRow w' a len zs := by
  obtain ⟨h1, h2, h3, h4⟩ := h
  refine ⟨h1, h2, h3, fun i hi => ?_⟩
  obtain ⟨b, off, e1, hlt, hc⟩ := h4 i hi
  rcases hw with h0 | ⟨k, e2, hk, _⟩
  · omega
  · rw [e2] at e1
    cases e1
    exact ⟨b, 0, e2, Nat.lt_of_lt_of_le hlt ho.size, by rw [ho.cell (by omega)]; exact hc⟩
theorem _root_.Dec.Own.only {g B : Nat} {w w' : World} {a : Option Addr} {len : Nat} {e : TypeId} (h : Own w B a len e) (ho : Only g w w') (hg : g < B) : Own w' B a len e := by
  rcases h with h | ⟨k, h1, h2, cur, h3, h4⟩
  · exact .inl h
  · exact .inr ⟨k, h1, h2, cur, by rw [ho.2 k (by omega)]; exact h3, h4⟩
end Liv
namespace Go.Proofs.Ytplfmdjccmhclab
open Go.RowKit Liv Flt Go.Sort Stb Dec
theorem lim3 {len : Nat} (h : ¬ ((1048576 : Int) < (len : Int))) : len ≤ 1048576 := by omega
end Go.Proofs.Ytplfmdjccmhclab
