/-
  Contracts of the laws' copy, comparison and marks of systems, and how a system that came in lies. Conditions: at most 1048576 paths.
-/
import Derived.Test.YtemdgfjcjjadnaaSysP
import Derived.Test.YtemdgfjcjjadnaaMarkW
import Derived.Test.YtemdgfjcjjadnaaBlk
namespace Syl
open Go Go.ChangeShapes Go.WideShapes Go.Deep Dec
theorem _root_.Flt.Filled.other {w : World} {g : Nat} {t : TypeId} {vs : List Value} {d : Value} {k n : Nat} (h : Flt.Filled w g t vs d k n) {b : Nat} (j : Nat) (v : Value) (hk : g ≠ b) : Flt.Filled (w.setCell ⟨b, j, none⟩ v) g t vs d k n := by
  unfold Flt.Filled at h ⊢
  rw [heap_setCell_other w ⟨b, j, none⟩ g v hk]; exact h
/-- a variable that holds a system -/
abbrev SVar (T : TypeId) (w : World) (g : Nat) (p : Int) (a : Option Addr) (len cap : Nat) : Prop := Blk.Blk w g [.int .i64 p, .slice a len cap] T
variable {H : Type} {enc : TypeId × Value → H} {P : Program} {w : World} {base : Nat} {spare : Nat → Bool} {held : Bool}
theorem open_ints1 {t e : TypeId} {n : Nat} {v : Value} {y : DataW H × List MemPlace} (ht : P.underlying t = some (.slice e)) (he : P.underlying e = some (.int .i64)) (hc : P.cellsOf e = 1)
    (h : DataW.trod enc P w base spare held n t [v] = some y) : ∃ a len cap zs, v = .slice a len cap ∧ IRow w a len zs := by
  rcases Go.Deep.open_slice1 ht hc h with ⟨hcs, _⟩ | ⟨a', len', cap', m, n', V, D, Pl, hcs, hb, hl, hm, hmm, hx, hel⟩
  · simp at hcs
    subst hcs
    exact ⟨none, 0, 0, [], rfl, rfl, Nat.zero_le _, by simp, fun i hi => absurd hi (Nat.not_lt_zero _)⟩
  · simp at hcs
    subst hcs
    obtain ⟨d, ps⟩ := y
    have hT : DataW.Trod enc P w base spare held t (.slice (some a') len' cap') d ps := ⟨n, by simpa [Value.cells] using h⟩
    obtain ⟨zs, hz⟩ := opened_ints ht he hc hT (by
      intro x hx
      exact DataW.trod_lt n _ _ _ h x hx)
    exact ⟨some a', len', cap', zs, rfl, hz⟩
theorem open_system {r : Reach} {b0 : Nat} {t s e : TypeId} {f0 f1 : Field} {v : Value} {d : DataW H} {p : List MemPlace} (hs : P.underlying t = some (.struct #[f0, f1])) (hone : oneCellFields P #[f0, f1] = true) (hC : P.cellsOf t = 2)
    (u0 : P.underlying f0.type = some (.int .i64)) (h1 : f1.type = s) (us : P.underlying s = some (.slice e)) (ue : P.underlying e = some (.int .i64)) (hc : P.cellsOf e = 1) (hv : Value.okWide P w r b0 t v) (h : DataW.Trod enc P w base spare held t v d p) :
    ∃ (x : Int) (_ : (Lit.int .i64 x).wf = true) (a : Option Addr) (len cap : Nat) (zs : List Int), v = .agg #[.int .i64 x, .slice a len cap] ∧ IRow w a len zs := by
  obtain ⟨v0, v1, y0, y1, n, rfl, rfl, rfl, h0, h1'⟩ := Go.Joins.open_agg2 hs hone hC hv h
  obtain ⟨x, hx, rfl, wx⟩ := DataW.trod_int u0 h0
  rw [h1] at h1'
  obtain ⟨a, len, cap, zs, rfl, hr⟩ := open_ints1 us ue hc h1'
  obtain rfl : v0 = .int .i64 x := by simpa using hx
  exact ⟨x, wx, a, len, cap, zs, rfl, hr⟩
end Syl
namespace Go.Proofs.Ytemdgfjcjjadnaa
open Go.RowKit Dec Flt Syl
end Go.Proofs.Ytemdgfjcjjadnaa
