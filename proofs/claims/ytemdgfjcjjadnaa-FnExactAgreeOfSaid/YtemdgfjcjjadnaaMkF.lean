/-
  Lists of 32-bit numbers that lie beside others: the laws' marks in them, and their reading. No conditions beyond those stated.
-/
import Derived.Test.YtemdgfjcjjadnaaSep
import Derived.Test.YtemdgfjcjjadnaaEqfW
import Derived.Test.YtemdgfjcjjadnaaMarkFW
namespace Sep
open Go Dec Flt
theorem _root_.Flt.FRow.sep {lo hi : Nat} {w w' : World} {a : Option Addr} {len : Nat} {zs : List Nat} (h : FRow w a len zs) (s : Sep lo hi w w') (ha : len = 0 ∨ ∀ b off, a = some ⟨b, off, none⟩ → b < lo ∨ hi ≤ b) : FRow w' a len zs := by
  obtain ⟨h1, h2, h3, h4⟩ := h
  refine ⟨h1, h2, h3, fun i hi => ?_⟩
  obtain ⟨b, off, e, hlt, hc⟩ := h4 i hi
  rcases ha with h0 | ha
  · omega
  · exact ⟨b, off, e, Nat.lt_of_lt_of_le hlt s.size, by rw [s.cell hlt (ha b off e)]; exact hc⟩
theorem _root_.Flt.FRow.lt {w : World} {a : Option Addr} {len : Nat} {zs : List Nat} (h : FRow w a len zs) : len = 0 ∨ ∀ b off, a = some ⟨b, off, none⟩ → b < w.heap.size := by
  rcases Nat.eq_zero_or_pos len with h0 | h0
  · exact .inl h0
  · obtain ⟨b, off, e, hlt, _⟩ := h.2.2.2 0 h0
    refine .inr fun b' off' e' => ?_
    rw [e] at e'; cases e'; exact hlt
theorem _root_.Flt.FRow.sepL {lo hi : Nat} {w w' : World} {a : Option Addr} {len : Nat} {zs : List Nat} (h : FRow w a len zs) (s : Sep lo hi w w') (ha : len = 0 ∨ ∀ b off, a = some ⟨b, off, none⟩ → b < lo) : FRow w' a len zs := h.sep s (ha.imp id fun h b off e => .inl (h b off e))
theorem _root_.Flt.FRow.sepG {lo hi : Nat} {w w' : World} {a : Option Addr} {len : Nat} {zs : List Nat} (h : FRow w a len zs) (s : Sep lo hi w w') (ha : len = 0 ∨ ∀ b off, a = some ⟨b, off, none⟩ → hi ≤ b) : FRow w' a len zs := h.sep s (ha.imp id fun h b off e => .inr (h b off e))
/-- marks from 'm' on, as numbers -/
def fM (m : Int) (j : Nat) : Value := .float .f32 (Go.floatOfInt .f32 (m + (j : Int)))
end Sep
namespace Go.Proofs.Ytemdgfjcjjadnaa
open Go.RowKit Dec Flt Syl Sep
theorem made_mid {w : World} {g n lo : Nat} {zs : List Nat} (h : Made w g n zs) (hl : lo ≤ g) : Mid w lo w.heap.size (some ⟨g, 0, none⟩) n 44 := by
  obtain ⟨h1, h2⟩ := h
  have hs : Slots w g n 44 := ⟨_, h1, by rw [cpy_size h2 (Nat.le_refl _)]; exact Nat.le_refl _⟩
  exact .inr ⟨g, rfl, hl, hs.lt, hs⟩
end Go.Proofs.Ytemdgfjcjjadnaa
