/-
  Contracts: a system is given only if it is valid; cuts, and the system of cuts, in the program and in its model. Conditions: the lists read as lists of whole numbers.
-/
import Derived.Test.YtaecdeickncpcaaCutsW
namespace Syl
open Go Dec
def givP (p : Int) (zs : List Int) : Int := if sysB p zs then p else 0
def givZ (p : Int) (zs : List Int) : List Int := if sysB p zs then zs else []
theorem irow_nil (w : World) (a : Option Addr) : IRow w a 0 [] := ⟨rfl, Nat.zero_le _, by simp, fun i hi => absurd hi (Nat.not_lt_zero _)⟩
theorem _root_.Dec.IRow.set {w : World} {a : Option Addr} {len : Nat} {zs : List Int} (h : IRow w a len zs) {g B : Nat} (j : Nat) (v : Value) (ha : len = 0 ∨ ∀ b off, a = some ⟨b, off, none⟩ → B ≤ b) (hg : g < B) : IRow (w.setCell ⟨g, j, none⟩ v) a len zs := by
  obtain ⟨h1, h2, h3, h4⟩ := h
  refine ⟨h1, h2, h3, fun i hi => ?_⟩
  obtain ⟨b, off, e, hlt, hc⟩ := h4 i hi
  rcases ha with h0 | ha
  · omega
  · have := ha b off e
    refine ⟨b, off, e, by rw [World.size_setCell]; exact hlt, ?_⟩
    rw [World.cell?_setCell_other _ _ _ _ (by intro e; injection e with e1 _ _; omega)]
    exact hc
theorem _root_.Dec.Own.set {w : World} {a : Option Addr} {len B : Nat} {e : TypeId} (h : Own w B a len e) {g : Nat} (j : Nat) (v : Value) (hg : g < B) : Own (w.setCell ⟨g, j, none⟩ v) B a len e := by
  rcases h with h | ⟨k, h1, h2, cur, h3, h4⟩
  · exact .inl h
  · exact .inr ⟨k, h1, h2, cur, by rw [heap_setCell_other w ⟨g, j, none⟩ k v (by show k ≠ g; omega)]; exact h3, h4⟩
/-- what is said of a system that is returned -/
def GivS (w : World) (B : Nat) (e64 : TypeId) (a : Option Addr) (zs : List Int) : Prop := IRow w a zs.length zs ∧ Own w B a zs.length e64
end Syl
namespace Go.Proofs.Ytaecdeickncpcaa
open Go.RowKit Dec Flt Syl Sep
set_option maxHeartbeats 1600000 in
theorem onlySys_any (p : Int) (a : Option Addr) (len cap : Nat) (zs : List Int) (w : World) (h : IRow w a len zs) (hcap : len ≤ cap) (B : Nat) (ho : Own w B a len 2) :
    Calls Try.prog 62 #[.agg #[.int .i64 p, .slice a len cap]] w fun e w' => (∃ a' c', e = .returned (.tuple #[.agg #[.int .i64 (givP p zs), .slice a' (givZ p zs).length c'], .bool (sysB p zs)]) ∧ IRow w' a' (givZ p zs).length (givZ p zs) ∧ Own w' B a' (givZ p zs).length 2) ∧ Below w.heap.size w w' := by
  have H := Lib.hid h
  have HO := Lib.hid ho
  have HL := Lib.hid h.1
  clear h ho
  go_enter Try.func62, Try.ntmps62
  go_wp2_with fail
  obtain ⟨W0, hW0⟩ : ∃ W0, W0 = (w.alloc (.cells #[.int .i64 p, .slice a len cap] 26)).alloc (.cells #[.int .i64 0, .slice none 0 0] 26) := ⟨_, rfl⟩
  have B0 : Hid (Below w.heap.size w W0) := by rw [hW0]; exact ((Below.refl _ _).alloc (Nat.le_refl _) _).alloc (by simp) _
  have K0 : Hid (SVar 26 W0 w.heap.size p a len cap) := by rw [hW0]; exact (Blk.Blk.new _ _ _).alloc _
  have K1 : Hid (SVar 26 W0 (w.heap.size + 1) 0 none 0 0) := by
    rw [hW0]
    have := Blk.Blk.new (w.alloc (.cells #[.int .i64 p, .slice a len cap] 26)) #[.int .i64 0, .slice none 0 0] 26
    rw [World.size_alloc] at this
    exact this
  rw [← hW0]
  clear hW0
  refine (implVSys_any p a len cap zs _ (H.out.keep B0.out) hcap).mono ?_
  rintro e w1 ⟨rfl, b1⟩
  have B1 := Lib.hid (B0.out.trans (b1.mono B0.out.size))
  have K2 := K0.out.keep b1
  have K3 := K1.out.keep b1
  clear b1 K0 K1
  obtain ⟨⟨x0, x1⟩, _, _⟩ := K2.two
  obtain ⟨⟨y0, y1⟩, ⟨g0, g1⟩, _⟩ := K3.two
  cases hs : sysB p zs with
  | false =>
    have HP : Hid (givP p zs = 0 ∧ givZ p zs = [] ∧ sysB p zs = false) := by show _ ∧ _ ∧ _; unfold givP givZ; rw [hs]; exact ⟨rfl, rfl, rfl⟩
    have k4 := K3.set 0 (.int .i64 0)
    have k5 := k4.set 1 (.slice none 0 0)
    obtain ⟨⟨z0, z1⟩, _, _⟩ := k5.two
    have h4 := k4.frozen 1
    have h5 := k4.cell 1
    have HB := Lib.hid ((B1.out.setCell (p := ⟨w.heap.size + 1, 0, none⟩) (by simp) (.int .i64 0)).setCell (p := ⟨w.heap.size + 1, 1, none⟩) (by simp) (.slice none 0 0))
    clear k4 k5 K2 K3 hs
    go_wp2_with fail
    refine bodyPost_ret (v := .tuple #[.agg #[.int .i64 0, .slice none 0 0], .bool false]) (by simp [results, Try.results62, go_sem, z0, z1]) rfl ?_
    rw [HP.out.1, HP.out.2.1, HP.out.2.2]
    exact ⟨⟨none, 0, rfl, irow_nil _ _, .inl rfl⟩, HB.out⟩
  | true =>
    have HP : Hid (givP p zs = p ∧ givZ p zs = zs ∧ sysB p zs = true) := by show _ ∧ _ ∧ _; unfold givP givZ; rw [hs]; exact ⟨rfl, rfl, rfl⟩
    have k4 := K3.set 0 (.int .i64 p)
    have k5 := k4.set 1 (.slice a len cap)
    obtain ⟨⟨z0, z1⟩, _, _⟩ := k5.two
    have h4 := k4.frozen 1
    have h5 := k4.cell 1
    have HB := Lib.hid ((B1.out.setCell (p := ⟨w.heap.size + 1, 0, none⟩) (by simp) (.int .i64 p)).setCell (p := ⟨w.heap.size + 1, 1, none⟩) (by simp) (.slice a len cap))
    have hsub : ((w1.setCell ⟨w.heap.size + 1, 0, none⟩ (.int .i64 p)).setCell ⟨w.heap.size + 1, 1, none⟩ (.slice a len cap)).heap.size = w1.heap.size := by rw [World.size_setCell, World.size_setCell]
    have HR := Lib.hid (H.out.keep HB.out)
    have HO2 := Lib.hid (HO.out.keep HB.out)
    clear k4 k5 K2 K3 hs hsub
    go_wp2_with fail
    refine bodyPost_ret (v := .tuple #[.agg #[.int .i64 p, .slice a len cap], .bool true]) (by simp [results, Try.results62, go_sem, z0, z1]) rfl ?_
    rw [HP.out.1, HP.out.2.1, HP.out.2.2, HL.out]
    exact ⟨⟨a, cap, rfl, HR.out, HO2.out⟩, HB.out⟩
set_option maxHeartbeats 1600000 in
theorem give_any (p : Int) (a : Option Addr) (len cap : Nat) (zs : List Int) (w : World) (h : IRow w a len zs) (B : Nat) (ho : Own w B a len 2) :
    Calls Try.prog 60 #[.agg #[.int .i64 p, .slice a len cap]] w fun e w' => (∃ a' c', e = .returned (.tuple #[.agg #[.int .i64 (givP p zs), .slice a' (givZ p zs).length c'], .bool (sysB p zs)]) ∧ IRow w' a' (givZ p zs).length (givZ p zs) ∧ Own w' B a' (givZ p zs).length 2) ∧ Below w.heap.size w w' := by
  have H := Lib.hid h
  have HL := Lib.hid h.1
  have HO := Lib.hid ho
  clear h ho
  go_enter Try.func60, Try.ntmps60
  go_wp2_with fail
  obtain ⟨W0, hW0⟩ : ∃ W0, W0 = (w.alloc (.cells #[.int .i64 p, .slice a len cap] 26)).alloc (.cells #[.int .i64 0, .slice none 0 0] 26) := ⟨_, rfl⟩
  have B0 : Hid (Below w.heap.size w W0) := by rw [hW0]; exact ((Below.refl _ _).alloc (Nat.le_refl _) _).alloc (by simp) _
  have K0 : Hid (SVar 26 W0 w.heap.size p a len cap) := by rw [hW0]; exact (Blk.Blk.new _ _ _).alloc _
  have K1 : Hid (SVar 26 W0 (w.heap.size + 1) 0 none 0 0) := by
    rw [hW0]
    have := Blk.Blk.new (w.alloc (.cells #[.int .i64 p, .slice a len cap] 26)) #[.int .i64 0, .slice none 0 0] 26
    rw [World.size_alloc] at this
    exact this
  rw [← hW0]
  clear hW0
  refine (specIs_any _ p a len cap zs _ K0.out (H.out.keep B0.out)).mono ?_
  rintro e w1 ⟨rfl, d1⟩
  have b1 : Below W0.heap.size W0 w1 := d1.below _
  have B1 := Lib.hid (B0.out.trans (b1.mono B0.out.size))
  have K2 := K0.out.keep b1
  have K3 := K1.out.keep b1
  clear b1 d1 K0 K1
  obtain ⟨⟨x0, x1⟩, _, _⟩ := K2.two
  obtain ⟨⟨y0, y1⟩, ⟨g0, g1⟩, _⟩ := K3.two
  cases hs : sysB p zs with
  | false =>
    have HP : Hid (givP p zs = 0 ∧ givZ p zs = [] ∧ sysB p zs = false) := by show _ ∧ _ ∧ _; unfold givP givZ; rw [hs]; exact ⟨rfl, rfl, rfl⟩
    have k4 := K3.set 0 (.int .i64 0)
    have k5 := k4.set 1 (.slice none 0 0)
    obtain ⟨⟨z0, z1⟩, _, _⟩ := k5.two
    have h4 := k4.frozen 1
    have h5 := k4.cell 1
    have HB := Lib.hid ((B1.out.setCell (p := ⟨w.heap.size + 1, 0, none⟩) (by simp) (.int .i64 0)).setCell (p := ⟨w.heap.size + 1, 1, none⟩) (by simp) (.slice none 0 0))
    clear k4 k5 K2 K3 hs
    go_wp2_with fail
    refine bodyPost_ret (v := .tuple #[.agg #[.int .i64 0, .slice none 0 0], .bool false]) (by simp [results, Try.results60, go_sem, z0, z1]) rfl ?_
    rw [HP.out.1, HP.out.2.1, HP.out.2.2]
    exact ⟨⟨none, 0, rfl, irow_nil _ _, .inl rfl⟩, HB.out⟩
  | true =>
    have HP : Hid (givP p zs = p ∧ givZ p zs = zs ∧ sysB p zs = true) := by show _ ∧ _ ∧ _; unfold givP givZ; rw [hs]; exact ⟨rfl, rfl, rfl⟩
    have k4 := K3.set 0 (.int .i64 p)
    have k5 := k4.set 1 (.slice a len cap)
    obtain ⟨⟨z0, z1⟩, _, _⟩ := k5.two
    have h4 := k4.frozen 1
    have h5 := k4.cell 1
    have HB := Lib.hid ((B1.out.setCell (p := ⟨w.heap.size + 1, 0, none⟩) (by simp) (.int .i64 p)).setCell (p := ⟨w.heap.size + 1, 1, none⟩) (by simp) (.slice a len cap))
    have HR := Lib.hid (H.out.keep HB.out)
    have HO2 := Lib.hid (HO.out.keep HB.out)
    clear k4 k5 K2 K3 hs
    go_wp2_with fail
    refine bodyPost_ret (v := .tuple #[.agg #[.int .i64 p, .slice a len cap], .bool true]) (by simp [results, Try.results60, go_sem, z0, z1]) rfl ?_
    rw [HP.out.1, HP.out.2.1, HP.out.2.2, HL.out]
    exact ⟨⟨a, cap, rfl, HR.out, HO2.out⟩, HB.out⟩
end Go.Proofs.Ytaecdeickncpcaa
