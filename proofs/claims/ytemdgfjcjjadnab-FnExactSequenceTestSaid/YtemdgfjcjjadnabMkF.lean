/-
  Lists of 32-bit numbers that lie beside others: the laws' marks in them, and their reading. No conditions beyond those stated.
-/
import Derived.Test.YtemdgfjcjjadnabSep
import Derived.Test.YtemdgfjcjjadnabEqfW
import Derived.Test.YtemdgfjcjjadnabMarkFW
namespace Sep
open Go Dec Flt
theorem _root_.Flt.FRow.sep {lo hi : Nat} {w w' : World} {a : Option Addr} {len : Nat} {zs : List Nat} (h : FRow w a len zs) (s : Sep lo hi w w') (ha : len = 0 ∨ ∀ b off, a = some ⟨b, off, none⟩ → b < lo ∨ hi ≤ b) : FRow w' a len zs := by
  obtain ⟨h1, h2, h3, h4⟩ := h
  refine ⟨h1, h2, h3, fun i hi => ?_⟩
  obtain ⟨b, off, e, hlt, hc⟩ := h4 i hi
  rcases ha with h0 | ha
  · omega
  · exact ⟨b, off, e, Nat.lt_of_lt_of_le hlt s.size, by rw [s.cell hlt (ha b off e)]; exact hc⟩
theorem _root_.Flt.FRow.lt {w : World} {a : Option Addr} {len : Nat} {zs : List Nat} (h : FRow w a len zs) : len = 0 ∨ ∀ b off, a = some ⟨b, off, none⟩ → b < w.heap.size := by
  rcases Nat.eq_zero_or_pos len with h0 | h0
  · exact .inl h0
  · obtain ⟨b, off, e, hlt, _⟩ := h.2.2.2 0 h0
    refine .inr fun b' off' e' => ?_
    rw [e] at e'; cases e'; exact hlt
theorem _root_.Flt.FRow.sepL {lo hi : Nat} {w w' : World} {a : Option Addr} {len : Nat} {zs : List Nat} (h : FRow w a len zs) (s : Sep lo hi w w') (ha : len = 0 ∨ ∀ b off, a = some ⟨b, off, none⟩ → b < lo) : FRow w' a len zs := h.sep s (ha.imp id fun h b off e => .inl (h b off e))
theorem _root_.Flt.FRow.sepG {lo hi : Nat} {w w' : World} {a : Option Addr} {len : Nat} {zs : List Nat} (h : FRow w a len zs) (s : Sep lo hi w w') (ha : len = 0 ∨ ∀ b off, a = some ⟨b, off, none⟩ → hi ≤ b) : FRow w' a len zs := h.sep s (ha.imp id fun h b off e => .inr (h b off e))
/-- marks from 'm' on, as numbers -/
def fM (m : Int) (j : Nat) : Value := .float .f32 (Go.floatOfInt .f32 (m + (j : Int)))
end Sep
namespace Go.Proofs.Ytemdgfjcjjadnab
open Go.RowKit Dec Flt Syl Sep
theorem made_mid {w : World} {g n lo : Nat} {zs : List Nat} (h : Made w g n zs) (hl : lo ≤ g) : Mid w lo w.heap.size (some ⟨g, 0, none⟩) n 24 := by
  obtain ⟨h1, h2⟩ := h
  have hs : Slots w g n 24 := ⟨_, h1, by rw [cpy_size h2 (Nat.le_refl _)]; exact Nat.le_refl _⟩
  exact .inr ⟨g, rfl, hl, hs.lt, hs⟩
set_option maxHeartbeats 800000 in
theorem mkFl_any (lo hi : Nat) (m : Int) (a : Option Addr) (len cap : Nat) (w : World) (h : Mid w lo hi a len 24) (hn : len ≤ 1048576) (hm : 1 ≤ m ∧ m ≤ 1099511627776) :
    Calls Try.prog 22 #[.slice a len cap, .int .i64 m] w fun e w' => e = .returned (.int .i64 (m + len)) ∧ Marked (fM m) w' a len ∧ Sep lo hi w w' := by
  have H := Lib.hid h
  clear h
  go_enter Try.func22, Try.ntmps22
  go_wp2_with fail
  go_loopg [1, 5] len (fun n m' i wr => ∃ k : Nat, m' = .int .i64 (m + k) ∧ i = .int .i64 k ∧ Hid (k + n = len) ∧ k ≤ len ∧ Hid (Mid wr lo hi a len 24) ∧ Hid (Marked (fM m) wr a k) ∧ Hid (Sep lo hi w wr))
  case atStart => exact ⟨0, by go_num, rfl, by show _ = _; omega, Nat.zero_le _, H.out, fun j hj => absurd hj (Nat.not_lt_zero _), Sep.refl _ _ _⟩
  case round =>
    obtain ⟨k, rfl, rfl, hk, hkl, hO, hM, hd⟩ := hrel
    by_cases hlt : k < len
    · obtain h0 | ⟨g, rfl, hg, hg2, hS⟩ := hO.out
      · omega
      obtain ⟨u, hu⟩ := hS.cell hlt
      have hfr := hS.frozen k
      have HJ : Hid (k + 1 + (gk - 1) = len) := by have := hk.out; show _ = _; omega
      have HG : Hid (gk - 1 < gk) := by have := hk.out; show _ < _; omega
      have HO2 : Hid (Mid (wr.setCell ⟨g, k, none⟩ (.float .f32 (Go.floatOfInt .f32 (m + (k : Int))))) lo hi (some ⟨g, 0, none⟩) len 24) := .inr ⟨g, rfl, hg, hg2, hS.set k _⟩
      have HM2 := Lib.hid (Marked.set hS hlt hM.out)
      have HB2 : Hid (Sep lo hi w (wr.setCell ⟨g, k, none⟩ (.float .f32 (Go.floatOfInt .f32 (m + (k : Int)))))) := Lib.hid (hd.out.setCell hg hg2 _ _)
      clear hO hM hd hS
      go_wp2_with fail
      go_roundg (gk - 1)
      case measure => exact HG.out
      case rel => exact ⟨k + 1, by go_num, by go_num, HJ, by omega, HO2.out, HM2.out, HB2.out⟩
    · obtain rfl : k = len := by have := hk.out; omega
      clear hO hlt
      go_wp2_with fail
      go_ret
      exact ⟨rfl, hM.out, hd.out⟩
theorem hdFl_any (m : Int) (a : Option Addr) (len cap : Nat) (w : World) (h : Marked (fM m) w a len) (hn : len ≤ 1023) (hm : m = 1) :
    Calls Try.prog 23 #[.slice a len cap, .int .i64 1] w fun e w' => e = .returned (.int .i64 (1 + len)) ∧ Below w.heap.size w w' := by
  subst hm
  exact heldF32_any a len cap w h hn
end Go.Proofs.Ytemdgfjcjjadnab
