/-
  The laws' marks in lists of lives, and their reading; what a change of one block leaves as it was. No conditions beyond those stated.
-/
import Derived.Test.YtplfmdjccmhclabLivW
namespace Liv
open Go Flt
/-- nothing is turned but the block 'g' -/
def Only (g : Nat) (w w' : World) : Prop := Go.RowKit.Below g w w' ∧ ∀ k, k ≠ g → w'.heap[k]? = w.heap[k]?
theorem Only.refl (g : Nat) (w : World) : Only g w w := ⟨Go.RowKit.Below.refl g w, fun _ _ => rfl⟩
theorem Only.setCell {g : Nat} {w w' : World} (h : Only g w w') (j : Nat) (v : Value) : Only g w (w'.setCell ⟨g, j, none⟩ v) := by
  refine ⟨h.1.setCell (Nat.le_refl _) v, fun k hk => ?_⟩
  rw [← h.2 k hk]
  exact Go.RowKit.Below.heap_setCell w' { block := g, off := j, spot := none } v k hk
theorem Only.size {g : Nat} {w w' : World} (h : Only g w w') : w.heap.size ≤ w'.heap.size := h.1.size
theorem Only.cell {g : Nat} {w w' : World} (h : Only g w w') {k j : Nat} (hk : k ≠ g) : w'.cell? ⟨k, j, none⟩ = w.cell? ⟨k, j, none⟩ := World.cell?_of_block (w := w) (h.2 k hk)
theorem LRow.only {g : Nat} {w w' : World} {a : Option Addr} {len : Nat} {zs : List (Nat × Bool)} (h : LRow w a len zs) (ho : Only g w w') (hne : ∀ b off, a = some ⟨b, off, none⟩ → b ≠ g) : LRow w' a len zs := by
  obtain ⟨h1, h2, h3, h4⟩ := h
  refine ⟨h1, h2, h3, fun i hi => ?_⟩
  obtain ⟨b, off, e, hlt, hc, hd⟩ := h4 i hi
  exact ⟨b, off, e, Nat.lt_of_lt_of_le hlt ho.size, by rw [ho.cell (hne b off e)]; exact hc, by rw [ho.cell (hne b off e)]; exact hd⟩
theorem LSlots.only {k : Nat} {w w' : World} {g n : Nat} {e : TypeId} (h : LSlots w g n e) (ho : Only k w w') (hne : g ≠ k) : LSlots w' g n e := by
  obtain ⟨cur, h, h2⟩ := h
  exact ⟨cur, by rw [ho.2 g hne]; exact h, h2⟩
/-- the laws' marks -/
def mT (j : Nat) : Nat := Go.floatOfInt .f32 (1 + 2 * (j : Int))
def mB (j : Nat) : Bool := (1 + 2 * (j : Int) + 1) % 3 == 0
theorem mT_num (j : Nat) (h : j ≤ 511) : nan .f32 (Go.floatOfInt .f32 (1 + 2 * (j : Int))) = false := by
  have := List.all_eq_true.1 (show ((List.range 512).all fun j => !nan .f32 (Go.floatOfInt .f32 (1 + 2 * (j : Int)))) = true by kernel_rfl) j (List.mem_range.2 (by omega))
  simpa using this
def LMarked (w : World) (a : Option Addr) (k : Nat) : Prop := ∀ j, j < k → ∃ g, a = some ⟨g, 0, none⟩ ∧ g < w.heap.size ∧ w.cell? ⟨g, j * 2, none⟩ = some (.float .f32 (Go.floatOfInt .f32 (1 + 2 * (j : Int)))) ∧ w.cell? ⟨g, j * 2 + 1, none⟩ = some (.bool ((1 + 2 * (j : Int) + 1) % 3 == 0))
theorem LMarked.keep {w w' : World} {a : Option Addr} {k : Nat} (h : LMarked w a k) (hb : Go.RowKit.Below w.heap.size w w') : LMarked w' a k := by
  intro j hj
  obtain ⟨g, h1, h2, h3, h4⟩ := h j hj
  exact ⟨g, h1, Nat.lt_of_lt_of_le h2 hb.size, by rw [World.cell?_of_block (w := w) (hb.block g h2)]; exact h3, by rw [World.cell?_of_block (w := w) (hb.block g h2)]; exact h4⟩
theorem LMarked.set {w : World} {g n k : Nat} {e : TypeId} (hs : LSlots w g n e) (hk : k < n) (h : LMarked w (some ⟨g, 0, none⟩) k) :
    LMarked ((w.setCell ⟨g, k * 2, none⟩ (.float .f32 (Go.floatOfInt .f32 (1 + 2 * (k : Int))))).setCell ⟨g, k * 2 + 1, none⟩ (.bool ((1 + 2 * (k : Int) + 1) % 3 == 0))) (some ⟨g, 0, none⟩) (k + 1) := by
  obtain ⟨u, hu⟩ := hs.cell (j := k * 2) (by omega)
  have s2 := hs.set (k * 2) (.float .f32 (Go.floatOfInt .f32 (1 + 2 * (k : Int))))
  obtain ⟨v, hv⟩ := s2.cell (j := k * 2 + 1) (by omega)
  intro j hj
  refine ⟨g, rfl, (s2.set _ _).lt, ?_⟩
  by_cases hjk : j = k
  · subst hjk
    refine ⟨?_, World.cell?_setCell_same _ _ _ hv⟩
    rw [World.cell?_setCell_other _ _ _ _ (by intro e; injection e with _ e2 _; omega)]
    exact World.cell?_setCell_same _ _ _ hu
  · obtain ⟨g', e1, _, a1, a2⟩ := h j (by omega)
    cases e1
    constructor
    · rw [World.cell?_setCell_other _ _ _ _ (by intro e; injection e with _ e2 _; omega), World.cell?_setCell_other _ _ _ _ (by intro e; injection e with _ e2 _; omega)]
      exact a1
    · rw [World.cell?_setCell_other _ _ _ _ (by intro e; injection e with _ e2 _; omega), World.cell?_setCell_other _ _ _ _ (by intro e; injection e with _ e2 _; omega)]
      exact a2
end Liv
namespace Go.Proofs.Ytplfmdjccmhclab
open Go.RowKit Liv Flt
set_option maxHeartbeats 1600000 in
theorem markO_any (g len cap : Nat) (w : World) (h : LSlots w g len 63) (hn : len ≤ 1048576) :
    Calls Try.prog 24 #[.slice (some ⟨g, 0, none⟩) len cap, .int .i64 1] w fun e w' => e = .returned (.int .i64 (1 + 2 * len)) ∧ LMarked w' (some ⟨g, 0, none⟩) len ∧ Only g w w' := by
  have H := Lib.hid h
  clear h
  go_enter Try.func24, Try.ntmps24
  go_wp2_with fail
  go_loopg [1, 5] len (fun n m i wr => ∃ k : Nat, m = .int .i64 (1 + 2 * k) ∧ i = .int .i64 k ∧ Hid (k + n = len) ∧ k ≤ len ∧ Hid (LSlots wr g len 63) ∧ Hid (LMarked wr (some ⟨g, 0, none⟩) k) ∧ Hid (Only g w wr))
  case atStart => exact ⟨0, rfl, rfl, by show _ = _; omega, Nat.zero_le _, H.out, fun j hj => absurd hj (Nat.not_lt_zero _), Only.refl _ _⟩
  case round =>
    obtain ⟨k, rfl, rfl, hk, hkl, hS, hM, hd⟩ := hrel
    by_cases hlt : k < len
    · have HN : Hid (k * 2 < len * 2 ∧ k * 2 + 1 < len * 2) := by show _ ∧ _; omega
      obtain ⟨u, hu⟩ := hS.out.cell (j := k * 2) HN.out.1
      have hfr := hS.out.frozen (k * 2)
      have s2 := hS.out.set (k * 2) (.float .f32 (Go.floatOfInt .f32 (1 + 2 * (k : Int))))
      obtain ⟨v, hv⟩ := s2.cell (j := k * 2 + 1) HN.out.2
      have hfr2 := s2.frozen (k * 2 + 1)
      have HJ : Hid (k + 1 + (gk - 1) = len) := by have := hk.out; show _ = _; omega
      have HG : Hid (gk - 1 < gk) := by have := hk.out; show _ < _; omega
      have HS3 := Lib.hid (s2.set (k * 2 + 1) (.bool ((1 + 2 * (k : Int) + 1) % 3 == 0)))
      have HM3 := Lib.hid (LMarked.set hS.out hlt hM.out)
      have HB3 := Lib.hid ((hd.out.setCell (k * 2) (.float .f32 (Go.floatOfInt .f32 (1 + 2 * (k : Int))))).setCell (k * 2 + 1) (.bool ((1 + 2 * (k : Int) + 1) % 3 == 0)))
      clear s2 hS hd hM
      go_wp2_with fail
      go_roundg (gk - 1)
      case measure => exact HG.out
      case rel => exact ⟨k + 1, by go_num, by go_num, HJ, by omega, HS3.out, HM3.out, HB3.out⟩
    · obtain rfl : k = len := by have := hk.out; omega
      clear hlt
      go_wp2_with fail
      go_ret
      exact ⟨by go_num, hM.out, hd.out⟩
theorem markO_nil (a : Option Addr) (cap : Nat) (w : World) :
    Calls Try.prog 24 #[.slice a 0 cap, .int .i64 1] w fun e w' => e = .returned (.int .i64 1) ∧ w = w' := by
  go_enter Try.func24, Try.ntmps24
  go_wp2_with fail
  go_loopg [1, 5] 0 (fun n m i wr => m = .int .i64 1 ∧ i = .int .i64 0 ∧ w = wr)
  case atStart => exact ⟨rfl, rfl, rfl⟩
  case round =>
    obtain ⟨rfl, rfl, rfl⟩ := hrel
    go_wp2_with fail
    go_ret
    exact ⟨rfl, rfl⟩
end Go.Proofs.Ytplfmdjccmhclab
