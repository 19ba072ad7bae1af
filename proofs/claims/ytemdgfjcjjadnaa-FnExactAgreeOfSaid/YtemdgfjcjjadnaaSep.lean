/-
  What is turned lies between two numbers of blocks; the laws' marks in lists of whole numbers that lie there. No conditions beyond those stated.
-/
import Derived.Test.YtemdgfjcjjadnaaSysW
namespace Sep
open Go Dec
/-- nothing is turned but blocks from 'lo' on and below 'hi', and new ones -/
def Sep (lo hi : Nat) (w w' : World) : Prop := (w'.os = w.os ∧ w'.tape = w.tape ∧ w'.output = w.output ∧ w.heap.size ≤ w'.heap.size) ∧ ∀ k, k < w.heap.size → (k < lo ∨ hi ≤ k) → w'.heap[k]? = w.heap[k]?
theorem Sep.refl (lo hi : Nat) (w : World) : Sep lo hi w w := ⟨⟨rfl, rfl, rfl, Nat.le_refl _⟩, fun _ _ _ => rfl⟩
theorem Sep.size {lo hi : Nat} {w w' : World} (h : Sep lo hi w w') : w.heap.size ≤ w'.heap.size := h.1.2.2.2
theorem Sep.trans {lo hi : Nat} {a b c : World} (h : Sep lo hi a b) (k : Sep lo hi b c) : Sep lo hi a c :=
  ⟨⟨k.1.1.trans h.1.1, k.1.2.1.trans h.1.2.1, k.1.2.2.1.trans h.1.2.2.1, Nat.le_trans h.size k.size⟩, fun i h1 h2 => (k.2 i (Nat.lt_of_lt_of_le h1 h.size) h2).trans (h.2 i h1 h2)⟩
theorem Sep.of_below {lo hi : Nat} {w w' : World} (h : Go.RowKit.Below w.heap.size w w') : Sep lo hi w w' := ⟨⟨h.os, h.tape, h.output, h.size⟩, fun k h1 _ => h.block k h1⟩
theorem Sep.below {lo hi B : Nat} {w w' : World} (h : Sep lo hi w w') (h1 : B ≤ lo) (h2 : B ≤ w.heap.size) : Go.RowKit.Below B w w' :=
  ⟨h.1.1, h.1.2.1, h.1.2.2.1, h.size, fun k hk => h.2 k (Nat.lt_of_lt_of_le hk h2) (.inl (Nat.lt_of_lt_of_le hk h1))⟩
theorem Sep.setCell {lo hi g : Nat} {a w : World} (h : Sep lo hi a w) (h1 : lo ≤ g) (h2 : g < hi) (j : Nat) (v : Value) : Sep lo hi a (w.setCell ⟨g, j, none⟩ v) := by
  refine ⟨⟨h.1.1, h.1.2.1, h.1.2.2.1, by rw [World.size_setCell]; exact h.size⟩, fun k h3 h4 => ?_⟩
  rw [← h.2 k h3 h4]
  exact Go.RowKit.Below.heap_setCell w ⟨g, j, none⟩ v k (by show k ≠ g; omega)
theorem Sep.block {lo hi k : Nat} {w w' : World} (h : Sep lo hi w w') (hk : k < w.heap.size) (hs : k < lo ∨ hi ≤ k) : w'.heap[k]? = w.heap[k]? := h.2 k hk hs
theorem Sep.cell {lo hi k j : Nat} {w w' : World} (h : Sep lo hi w w') (hk : k < w.heap.size) (hs : k < lo ∨ hi ≤ k) : w'.cell? ⟨k, j, none⟩ = w.cell? ⟨k, j, none⟩ := World.cell?_of_block (w := w) (h.block hk hs)
theorem _root_.Blk.Blk.sep {lo hi : Nat} {w w' : World} {g : Nat} {cs : List Value} {t : TypeId} (h : Blk.Blk w g cs t) (s : Sep lo hi w w') (hs : g < lo ∨ hi ≤ g) : Blk.Blk w' g cs t := by
  unfold Blk.Blk; rw [s.block h.lt hs]; exact h
theorem _root_.Dec.IRow.sep {lo hi : Nat} {w w' : World} {a : Option Addr} {len : Nat} {zs : List Int} (h : IRow w a len zs) (s : Sep lo hi w w') (ha : len = 0 ∨ ∀ b off, a = some ⟨b, off, none⟩ → b < lo ∨ hi ≤ b) : IRow w' a len zs := by
  obtain ⟨h1, h2, h3, h4⟩ := h
  refine ⟨h1, h2, h3, fun i hi => ?_⟩
  obtain ⟨b, off, e, hlt, hc⟩ := h4 i hi
  rcases ha with h0 | ha
  · omega
  · exact ⟨b, off, e, Nat.lt_of_lt_of_le hlt s.size, by rw [s.cell hlt (ha b off e)]; exact hc⟩
/-- a list below 'B' -/
theorem _root_.Dec.IRow.under {B : Nat} {w w' : World} {a : Option Addr} {len : Nat} {zs : List Int} (h : IRow w a len zs) (hb : Go.RowKit.Below B w w') (ha : len = 0 ∨ ∀ b off, a = some ⟨b, off, none⟩ → b < B) : IRow w' a len zs := by
  obtain ⟨h1, h2, h3, h4⟩ := h
  refine ⟨h1, h2, h3, fun i hi => ?_⟩
  obtain ⟨b, off, e, hlt, hc⟩ := h4 i hi
  rcases ha with h0 | ha
  · omega
  · exact ⟨b, off, e, Nat.lt_of_lt_of_le hlt hb.size, by rw [hb.cell (ha b off e)]; exact hc⟩
theorem _root_.Dec.IRow.lt {w : World} {a : Option Addr} {len : Nat} {zs : List Int} (h : IRow w a len zs) : len = 0 ∨ ∀ b off, a = some ⟨b, off, none⟩ → b < w.heap.size := by
  rcases Nat.eq_zero_or_pos len with h0 | h0
  · exact .inl h0
  · obtain ⟨b, off, e, hlt, _⟩ := h.2.2.2 0 h0
    refine .inr fun b' off' e' => ?_
    rw [e] at e'; cases e'; exact hlt
theorem _root_.Dec.Own.above {w : World} {B : Nat} {a : Option Addr} {len : Nat} {e : TypeId} (h : Own w B a len e) : len = 0 ∨ ∀ b off, a = some ⟨b, off, none⟩ → B ≤ b := by
  rcases h with h | ⟨g, h1, h2, h3⟩
  · exact .inl h
  · refine .inr fun b off e' => ?_
    rw [h1] at e'; cases e'; exact h2
theorem _root_.Dec.Own.sep {lo hi : Nat} {w w' : World} {B : Nat} {a : Option Addr} {len : Nat} {e : TypeId} (h : Own w B a len e) (s : Sep lo hi w w') (hB : hi ≤ B) : Own w' B a len e := by
  rcases h with h | ⟨g, h1, h2, h3⟩
  · exact .inl h
  · have hlt := h3.lt
    obtain ⟨cur, h3, h4⟩ := h3
    exact .inr ⟨g, h1, h2, cur, by rw [s.block hlt (.inr (Nat.le_trans hB h2))]; exact h3, h4⟩
theorem _root_.Dec.Own.mono {w : World} {B B' : Nat} {a : Option Addr} {len : Nat} {e : TypeId} (h : Own w B a len e) (hB : B' ≤ B) : Own w B' a len e := by
  rcases h with h | ⟨g, h1, h2, h3⟩
  · exact .inl h
  · exact .inr ⟨g, h1, Nat.le_trans hB h2, h3⟩
/-- marks from 'm' on -/
def Mk (m : Int) (w : World) (a : Option Addr) (k : Nat) : Prop := ∀ j, j < k → ∃ g, a = some ⟨g, 0, none⟩ ∧ g < w.heap.size ∧ w.cell? ⟨g, j, none⟩ = some (.int .i64 (m + j))
theorem Mk.keep {m : Int} {w w' : World} {a : Option Addr} {k : Nat} (h : Mk m w a k) (hb : Go.RowKit.Below w.heap.size w w') : Mk m w' a k := by
  intro j hj
  obtain ⟨g, h1, h2, h3⟩ := h j hj
  exact ⟨g, h1, Nat.lt_of_lt_of_le h2 hb.size, by rw [World.cell?_of_block (w := w) (hb.block g h2)]; exact h3⟩
theorem Mk.set {m : Int} {w : World} {g n k : Nat} {e : TypeId} (hs : Slots w g n e) (hk : k < n) (h : Mk m w (some ⟨g, 0, none⟩) k) : Mk m (w.setCell ⟨g, k, none⟩ (.int .i64 (m + k))) (some ⟨g, 0, none⟩) (k + 1) := by
  intro j hj
  refine ⟨g, rfl, (hs.set k _).lt, ?_⟩
  by_cases hjk : j = k
  · subst hjk
    obtain ⟨u, hu⟩ := hs.cell hk
    exact World.cell?_setCell_same _ _ _ hu
  · obtain ⟨g', e1, _, h3⟩ := h j (by omega)
    cases e1
    rw [World.cell?_setCell_other _ _ _ _ (by intro e; apply hjk; injection e with _ e2 _; exact e2.symm)]
    exact h3
theorem _root_.Dec.IRow.sepL {lo hi : Nat} {w w' : World} {a : Option Addr} {len : Nat} {zs : List Int} (h : IRow w a len zs) (s : Sep lo hi w w') (ha : len = 0 ∨ ∀ b off, a = some ⟨b, off, none⟩ → b < lo) : IRow w' a len zs := h.sep s (ha.imp id fun h b off e => .inl (h b off e))
theorem _root_.Dec.IRow.sepG {lo hi : Nat} {w w' : World} {a : Option Addr} {len : Nat} {zs : List Int} (h : IRow w a len zs) (s : Sep lo hi w w') (ha : len = 0 ∨ ∀ b off, a = some ⟨b, off, none⟩ → hi ≤ b) : IRow w' a len zs := h.sep s (ha.imp id fun h b off e => .inr (h b off e))
/-- a list that lies between -/
def Mid (w : World) (lo hi : Nat) (a : Option Addr) (len : Nat) (e : TypeId) : Prop := len = 0 ∨ ∃ g, a = some ⟨g, 0, none⟩ ∧ lo ≤ g ∧ g < hi ∧ Slots w g len e
theorem Mid.keep {w w' : World} {lo hi : Nat} {a : Option Addr} {len : Nat} {e : TypeId} (h : Mid w lo hi a len e) (hb : Go.RowKit.Below w.heap.size w w') : Mid w' lo hi a len e := by
  rcases h with h | ⟨g, h1, h2, h3, h4⟩
  · exact .inl h
  · exact .inr ⟨g, h1, h2, h3, h4.keep hb⟩
theorem Mid.ge {w : World} {lo hi m : Nat} {a : Option Addr} {len : Nat} {e : TypeId} (h : Mid w lo hi a len e) (hm : m ≤ lo) : len = 0 ∨ ∀ b off, a = some ⟨b, off, none⟩ → m ≤ b := by
  rcases h with h | ⟨g, h1, h2, h3, h4⟩
  · exact .inl h
  · refine .inr fun b off e' => ?_
    rw [h1] at e'; cases e'; exact Nat.le_trans hm h2
theorem Mid.of_own {w : World} {B : Nat} {a : Option Addr} {len : Nat} {e : TypeId} (h : Own w B a len e) : Mid w B w.heap.size a len e := by
  rcases h with h | ⟨g, h1, h2, h3⟩
  · exact .inl h
  · exact .inr ⟨g, h1, h2, h3.lt, h3⟩
theorem Mid.sep {lo hi l h : Nat} {w w' : World} {a : Option Addr} {len : Nat} {e : TypeId} (hm : Mid w l h a len e) (s : Sep lo hi w w') (hs : h ≤ lo ∨ hi ≤ l) : Mid w' l h a len e := by
  rcases hm with hm | ⟨g, h1, h2, h3, cur, h4, h5⟩
  · exact .inl hm
  · have hlt : g < w.heap.size := Slots.lt ⟨cur, h4, h5⟩
    exact .inr ⟨g, h1, h2, h3, cur, by rw [s.block hlt (by omega)]; exact h4, h5⟩
end Sep
namespace Go.Proofs.Ytemdgfjcjjadnaa
open Go.RowKit Dec Flt Syl Sep
set_option maxHeartbeats 800000 in
theorem mkI64_any (lo hi : Nat) (m : Int) (a : Option Addr) (len cap : Nat) (w : World) (h : Mid w lo hi a len 2) (hn : len ≤ 1048576) (hm : 1 ≤ m ∧ m ≤ 1099511627776) :
    Calls Try.prog 23 #[.slice a len cap, .int .i64 m] w fun e w' => e = .returned (.int .i64 (m + len)) ∧ Mk m w' a len ∧ Sep lo hi w w' := by
  have H := Lib.hid h
  clear h
  go_enter Try.func23, Try.ntmps23
  go_wp2_with fail
  go_loopg [1, 5] len (fun n m' i wr => ∃ k : Nat, m' = .int .i64 (m + k) ∧ i = .int .i64 k ∧ Hid (k + n = len) ∧ k ≤ len ∧ Hid (Mid wr lo hi a len 2) ∧ Hid (Mk m wr a k) ∧ Hid (Sep lo hi w wr))
  case atStart => exact ⟨0, by go_num, rfl, by show _ = _; omega, Nat.zero_le _, H.out, fun j hj => absurd hj (Nat.not_lt_zero _), Sep.refl _ _ _⟩
  case round =>
    obtain ⟨k, rfl, rfl, hk, hkl, hO, hM, hd⟩ := hrel
    by_cases hlt : k < len
    · obtain h0 | ⟨g, rfl, hg, hg2, hS⟩ := hO.out
      · omega
      obtain ⟨u, hu⟩ := hS.cell hlt
      have hfr := hS.frozen k
      have HJ : Hid (k + 1 + (gk - 1) = len) := by have := hk.out; show _ = _; omega
      have HG : Hid (gk - 1 < gk) := by have := hk.out; show _ < _; omega
      have HO2 : Hid (Mid (wr.setCell ⟨g, k, none⟩ (.int .i64 (m + k))) lo hi (some ⟨g, 0, none⟩) len 2) := .inr ⟨g, rfl, hg, hg2, hS.set k _⟩
      have HM2 := Lib.hid (Mk.set hS hlt hM.out)
      have HB2 : Hid (Sep lo hi w (wr.setCell ⟨g, k, none⟩ (.int .i64 (m + k)))) := Lib.hid (hd.out.setCell hg hg2 _ _)
      clear hO hM hd hS
      go_wp2_with fail
      go_roundg (gk - 1)
      case measure => exact HG.out
      case rel => exact ⟨k + 1, by go_num, by go_num, HJ, by omega, HO2.out, HM2.out, HB2.out⟩
    · obtain rfl : k = len := by have := hk.out; omega
      clear hO hlt
      go_wp2_with fail
      go_ret
      exact ⟨rfl, hM.out, hd.out⟩
set_option maxHeartbeats 800000 in
theorem hdI64_any (m : Int) (a : Option Addr) (len cap : Nat) (w : World) (h : Mk m w a len) (hn : len ≤ 1048576) (hm : 1 ≤ m ∧ m ≤ 1099511627776) :
    Calls Try.prog 24 #[.slice a len cap, .int .i64 m] w fun e w' => e = .returned (.int .i64 (m + len)) ∧ Below w.heap.size w w' := by
  have H := Lib.hid h
  clear h
  go_enter Try.func24, Try.ntmps24
  go_wp2_with fail
  go_loopg [1, 5] len (fun n m' i wr => ∃ k : Nat, m' = .int .i64 (m + k) ∧ i = .int .i64 k ∧ Hid (k + n = len) ∧ k ≤ len ∧ Hid (Below w.heap.size w wr))
  case atStart => exact ⟨0, by go_num, rfl, by show _ = _; omega, Nat.zero_le _, Below.refl _ _⟩
  case round =>
    obtain ⟨k, rfl, rfl, hk, hkl, hd⟩ := hrel
    by_cases hlt : k < len
    · obtain ⟨g, rfl, _, hc⟩ := (H.out.keep hd.out) k hlt
      have HJ : Hid (k + 1 + (gk - 1) = len) := by have := hk.out; show _ = _; omega
      have HG : Hid (gk - 1 < gk) := by have := hk.out; show _ < _; omega
      go_wp2_with fail
      go_roundg (gk - 1)
      case measure => exact HG.out
      case rel => exact ⟨k + 1, by go_num, by go_num, HJ, by omega, hd.out⟩
    · obtain rfl : k = len := by have := hk.out; omega
      clear hlt
      go_wp2_with fail
      go_ret
      exact ⟨rfl, hd.out⟩
end Go.Proofs.Ytemdgfjcjjadnaa
