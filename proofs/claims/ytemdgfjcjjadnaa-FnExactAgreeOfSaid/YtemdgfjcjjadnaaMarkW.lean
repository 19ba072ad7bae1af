/-
  Lists of an answer: the laws' marks in them, and their reading. No conditions beyond those stated.
-/
import Derived.Test.YtemdgfjcjjadnaaIntW
import Derived.Laws.AppendOwn
namespace Dec
open Go
/-- a block of the call's own with room for so many -/
def Slots (w : World) (g n : Nat) (e : TypeId) : Prop := ∃ cur, w.heap[g]? = some (.cells cur e (0, 0)) ∧ n ≤ cur.size
theorem Slots.lt {w : World} {g n : Nat} {e : TypeId} (h : Slots w g n e) : g < w.heap.size := by
  obtain ⟨cur, h, _⟩ := h
  refine Nat.lt_of_not_le fun hle => ?_
  rw [Array.getElem?_eq_none hle] at h; cases h
theorem Slots.keep {w w' : World} {g n : Nat} {e : TypeId} (h : Slots w g n e) (hb : Go.RowKit.Below w.heap.size w w') : Slots w' g n e := by
  have := h.lt
  obtain ⟨cur, h, h2⟩ := h
  exact ⟨cur, by rw [hb.block g this]; exact h, h2⟩
theorem Slots.cell {w : World} {g n j : Nat} {e : TypeId} (h : Slots w g n e) (hj : j < n) : ∃ u, w.cell? ⟨g, j, none⟩ = some u := by
  obtain ⟨cur, h, h2⟩ := h
  refine ⟨cur[j]'(by omega), ?_⟩
  unfold World.cell?
  simp only [h]
  simp [Array.getElem?_eq_getElem (show j < cur.size by omega)]
theorem Slots.frozen {w : World} {g n : Nat} {e : TypeId} (h : Slots w g n e) (j : Nat) : w.frozen? ⟨g, j, none⟩ = false := by
  obtain ⟨cur, h, _⟩ := h
  unfold World.frozen?
  simp [h]
theorem Slots.set {w : World} {g n : Nat} {e : TypeId} (h : Slots w g n e) (j : Nat) (v : Value) : Slots (w.setCell ⟨g, j, none⟩ v) g n e := by
  obtain ⟨cur, h, h2⟩ := h
  exact ⟨_, heap_setCell_same w g j _ e v h, by rw [Array.size_setIfInBounds]; exact h2⟩
theorem Slots.of_filled {w : World} {g n : Nat} {e : TypeId} {vs : List Value} {d : Value} {k : Nat} (h : Flt.Filled w g e vs d k n) (hn : vs.length = n) (hk : k ≤ n) : Slots w g n e := ⟨_, h, by simp [Flt.fillC]; omega⟩
/-- a list that is the call's own -/
def Own (w : World) (B : Nat) (a : Option Addr) (len : Nat) (e : TypeId) : Prop := len = 0 ∨ ∃ g, a = some ⟨g, 0, none⟩ ∧ B ≤ g ∧ Slots w g len e
theorem Own.keep {w w' : World} {B : Nat} {a : Option Addr} {len : Nat} {e : TypeId} (h : Own w B a len e) (hb : Go.RowKit.Below w.heap.size w w') : Own w' B a len e := by
  rcases h with h | ⟨g, h1, h2, h3⟩
  · exact .inl h
  · exact .inr ⟨g, h1, h2, h3.keep hb⟩
/-- the marks are laid -/
def Marked (m : Nat → Value) (w : World) (a : Option Addr) (k : Nat) : Prop := ∀ j, j < k → ∃ g, a = some ⟨g, 0, none⟩ ∧ g < w.heap.size ∧ w.cell? ⟨g, j, none⟩ = some (m j)
def mI (j : Nat) : Value := .int .i64 (1 + j)
theorem Marked.keep {m : Nat → Value} {w w' : World} {a : Option Addr} {k : Nat} (h : Marked m w a k) (hb : Go.RowKit.Below w.heap.size w w') : Marked m w' a k := by
  intro j hj
  obtain ⟨g, h1, h2, h3⟩ := h j hj
  exact ⟨g, h1, Nat.lt_of_lt_of_le h2 hb.size, by rw [World.cell?_of_block (w := w) (hb.block g h2)]; exact h3⟩
theorem Marked.set {m : Nat → Value} {w : World} {g n k : Nat} {e : TypeId} (hs : Slots w g n e) (hk : k < n) (h : Marked m w (some ⟨g, 0, none⟩) k) : Marked m (w.setCell ⟨g, k, none⟩ (m k)) (some ⟨g, 0, none⟩) (k + 1) := by
  intro j hj
  refine ⟨g, rfl, (hs.set k _).lt, ?_⟩
  by_cases hjk : j = k
  · subst hjk
    obtain ⟨u, hu⟩ := hs.cell hk
    exact World.cell?_setCell_same _ _ _ hu
  · obtain ⟨g', e1, _, h3⟩ := h j (by omega)
    cases e1
    rw [World.cell?_setCell_other _ _ _ _ (by intro e; apply hjk; injection e with _ e2 _; exact e2.symm)]
    exact h3
end Dec
namespace Go.Proofs.Ytemdgfjcjjadnaa
open Go.RowKit Dec Flt
set_option maxHeartbeats 800000 in
theorem markI64_any (B : Nat) (a : Option Addr) (len cap : Nat) (w : World) (h : Own w B a len 2) (hn : len ≤ 1048576) :
    Calls Try.prog 23 #[.slice a len cap, .int .i64 1] w fun e w' => e = .returned (.int .i64 (1 + len)) ∧ Marked mI w' a len ∧ Below B w w' := by
  have H := Lib.hid h
  clear h
  go_enter Try.func23, Try.ntmps23
  go_wp2_with fail
  go_loopg [1, 5] len (fun n m i wr => ∃ k : Nat, m = .int .i64 (1 + k) ∧ i = .int .i64 k ∧ Hid (k + n = len) ∧ k ≤ len ∧ Hid (Own wr B a len 2) ∧ Hid (Marked mI wr a k) ∧ Hid (Below B w wr))
  case atStart => exact ⟨0, rfl, rfl, by show _ = _; omega, Nat.zero_le _, H.out, fun j hj => absurd hj (Nat.not_lt_zero _), Below.refl _ _⟩
  case round =>
    obtain ⟨k, rfl, rfl, hk, hkl, hO, hM, hd⟩ := hrel
    by_cases hlt : k < len
    · obtain h0 | ⟨g, rfl, hg, hS⟩ := hO.out
      · omega
      obtain ⟨u, hu⟩ := hS.cell hlt
      have hfr := hS.frozen k
      have HJ : Hid (k + 1 + (gk - 1) = len) := by have := hk.out; show _ = _; omega
      have HG : Hid (gk - 1 < gk) := by have := hk.out; show _ < _; omega
      have HO2 : Hid (Own (wr.setCell ⟨g, k, none⟩ (.int .i64 (1 + k))) B (some ⟨g, 0, none⟩) len 2) := .inr ⟨g, rfl, hg, hS.set k _⟩
      have HM2 := Lib.hid (Marked.set hS hlt hM.out)
      have HB2 : Hid (Below B w (wr.setCell ⟨g, k, none⟩ (.int .i64 (1 + k)))) := Lib.hid (hd.out.setCell hg _)
      clear hO hM hd hS
      go_wp2_with fail
      go_roundg (gk - 1)
      case measure => exact HG.out
      case rel => exact ⟨k + 1, by go_num, by go_num, HJ, by omega, HO2.out, HM2.out, HB2.out⟩
    · obtain rfl : k = len := by have := hk.out; omega
      clear hO hlt
      go_wp2_with fail
      go_ret
      exact ⟨rfl, hM.out, hd.out⟩
set_option maxHeartbeats 800000 in
theorem heldI64_any (a : Option Addr) (len cap : Nat) (w : World) (h : Marked mI w a len) (hn : len ≤ 1048576) :
    Calls Try.prog 24 #[.slice a len cap, .int .i64 1] w fun e w' => e = .returned (.int .i64 (1 + len)) ∧ Below w.heap.size w w' := by
  have H := Lib.hid h
  clear h
  go_enter Try.func24, Try.ntmps24
  go_wp2_with fail
  go_loopg [1, 5] len (fun n m i wr => ∃ k : Nat, m = .int .i64 (1 + k) ∧ i = .int .i64 k ∧ Hid (k + n = len) ∧ k ≤ len ∧ Hid (Below w.heap.size w wr))
  case atStart => exact ⟨0, rfl, rfl, by show _ = _; omega, Nat.zero_le _, Below.refl _ _⟩
  case round =>
    obtain ⟨k, rfl, rfl, hk, hkl, hd⟩ := hrel
    by_cases hlt : k < len
    · obtain ⟨g, rfl, _, hc⟩ := (H.out.keep hd.out) k hlt
      unfold mI at hc
      have HJ : Hid (k + 1 + (gk - 1) = len) := by have := hk.out; show _ = _; omega
      have HG : Hid (gk - 1 < gk) := by have := hk.out; show _ < _; omega
      go_wp2_with fail
      go_roundg (gk - 1)
      case measure => exact HG.out
      case rel => exact ⟨k + 1, by go_num, by go_num, HJ, by omega, hd.out⟩
    · obtain rfl : k = len := by have := hk.out; omega
      clear hlt
      go_wp2_with fail
      go_ret
      exact ⟨rfl, hd.out⟩
end Go.Proofs.Ytemdgfjcjjadnaa
