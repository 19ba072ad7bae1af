/-
  Contracts: a system is given only if it is valid; cuts, and the system of cuts, in the program and in its model. Conditions: the lists read as lists of whole numbers.
-/
import Derived.Test.YtbmgloncimjfhabCutsW
namespace Syl
open Go Dec
def givP (p : Int) (zs : List Int) : Int := if sysB p zs then p else 0
def givZ (p : Int) (zs : List Int) : List Int := if sysB p zs then zs else []
theorem irow_nil (w : World) (a : Option Addr) : IRow w a 0 [] := ⟨rfl, Nat.zero_le _, by simp, fun i hi => absurd hi (Nat.not_lt_zero _)⟩
theorem _root_.Dec.IRow.set {w : World} {a : Option Addr} {len : Nat} {zs : List Int} (h : IRow w a len zs) {g B : Nat} (j : Nat) (v : Value) (ha : len = 0 ∨ ∀ b off, a = some ⟨b, off, none⟩ → B ≤ b) (hg : g < B) : IRow (w.setCell ⟨g, j, none⟩ v) a len zs := by
  obtain ⟨h1, h2, h3, h4⟩ := h
  refine ⟨h1, h2, h3, fun i hi => ?_⟩
  obtain ⟨b, off, e, hlt, hc⟩ := h4 i hi
  rcases ha with h0 | ha
  · omega
  · have := ha b off e
    refine ⟨b, off, e, by rw [World.size_setCell]; exact hlt, ?_⟩
    rw [World.cell?_setCell_other _ _ _ _ (by intro e; injection e with e1 _ _; omega)]
    exact hc
theorem _root_.Dec.Own.set {w : World} {a : Option Addr} {len B : Nat} {e : TypeId} (h : Own w B a len e) {g : Nat} (j : Nat) (v : Value) (hg : g < B) : Own (w.setCell ⟨g, j, none⟩ v) B a len e := by
  rcases h with h | ⟨k, h1, h2, cur, h3, h4⟩
  · exact .inl h
  · exact .inr ⟨k, h1, h2, cur, by rw [heap_setCell_other w ⟨g, j, none⟩ k v (by show k ≠ g; omega)]; exact h3, h4⟩
/-- what is said of a system that is returned -/
def GivS (w : World) (B : Nat) (e64 : TypeId) (a : Option Addr) (zs : List Int) : Prop := IRow w a zs.length zs ∧ Own w B a zs.length e64
end Syl
namespace Go.Proofs.Ytbmgloncimjfhab
open Go.RowKit Dec Flt Syl Sep
set_option maxHeartbeats 1600000 in
theorem onlySys_any (p : Int) (a : Option Addr) (len cap : Nat) (zs : List Int) (w : World) (h : IRow w a len zs) (hcap : len ≤ cap) (B : Nat) (ho : Own w B a len 2) :
    Calls Try.prog 108 #[.agg #[.int .i64 p, .slice a len cap]] w fun e w' => (∃ a' c', e = .returned (.tuple #[.agg #[.int .i64 (givP p zs), .slice a' (givZ p zs).length c'], .bool (sysB p zs)]) ∧ IRow w' a' (givZ p zs).length (givZ p zs) ∧ Own w' B a' (givZ p zs).length 2) ∧ Below w.heap.size w w' := by
  have H := Lib.hid h
  have HO := Lib.hid ho
  have HL := Lib.hid h.1
  clear h ho
  go_enter Try.func108, Try.ntmps108
  go_wp2_with fail
  obtain ⟨W0, hW0⟩ : ∃ W0, W0 = (w.alloc (.cells #[.int .i64 p, .slice a len cap] 30)).alloc (.cells #[.int .i64 0, .slice none 0 0] 30) := ⟨_, rfl⟩
  have B0 : Hid (Below w.heap.size w W0) := by rw [hW0]; exact ((Below.refl _ _).alloc (Nat.le_refl _) _).alloc (by simp) _
  have K0 : Hid (SVar 30 W0 w.heap.size p a len cap) := by rw [hW0]; exact (Blk.Blk.new _ _ _).alloc _
  have K1 : Hid (SVar 30 W0 (w.heap.size + 1) 0 none 0 0) := by
    rw [hW0]
    have := Blk.Blk.new (w.alloc (.cells #[.int .i64 p, .slice a len cap] 30)) #[.int .i64 0, .slice none 0 0] 30
    rw [World.size_alloc] at this
    exact this
  rw [← hW0]
  clear hW0
  refine (implVSys_any p a len cap zs _ (H.out.keep B0.out) hcap).mono ?_
  rintro e w1 ⟨rfl, b1⟩
  have B1 := Lib.hid (B0.out.trans (b1.mono B0.out.size))
  have K2 := K0.out.keep b1
  have K3 := K1.out.keep b1
  clear b1 K0 K1
  obtain ⟨⟨x0, x1⟩, _, _⟩ := K2.two
  obtain ⟨⟨y0, y1⟩, ⟨g0, g1⟩, _⟩ := K3.two
  cases hs : sysB p zs with
  | false =>
    have HP : Hid (givP p zs = 0 ∧ givZ p zs = [] ∧ sysB p zs = false) := by show _ ∧ _ ∧ _; unfold givP givZ; rw [hs]; exact ⟨rfl, rfl, rfl⟩
    have k4 := K3.set 0 (.int .i64 0)
    have k5 := k4.set 1 (.slice none 0 0)
    obtain ⟨⟨z0, z1⟩, _, _⟩ := k5.two
    have h4 := k4.frozen 1
    have h5 := k4.cell 1
    have HB := Lib.hid ((B1.out.setCell (p := ⟨w.heap.size + 1, 0, none⟩) (by simp) (.int .i64 0)).setCell (p := ⟨w.heap.size + 1, 1, none⟩) (by simp) (.slice none 0 0))
    clear k4 k5 K2 K3 hs
    go_wp2_with fail
    refine bodyPost_ret (v := .tuple #[.agg #[.int .i64 0, .slice none 0 0], .bool false]) (by simp [results, Try.results108, go_sem, z0, z1]) rfl ?_
    rw [HP.out.1, HP.out.2.1, HP.out.2.2]
    exact ⟨⟨none, 0, rfl, irow_nil _ _, .inl rfl⟩, HB.out⟩
  | true =>
    have HP : Hid (givP p zs = p ∧ givZ p zs = zs ∧ sysB p zs = true) := by show _ ∧ _ ∧ _; unfold givP givZ; rw [hs]; exact ⟨rfl, rfl, rfl⟩
    have k4 := K3.set 0 (.int .i64 p)
    have k5 := k4.set 1 (.slice a len cap)
    obtain ⟨⟨z0, z1⟩, _, _⟩ := k5.two
    have h4 := k4.frozen 1
    have h5 := k4.cell 1
    have HB := Lib.hid ((B1.out.setCell (p := ⟨w.heap.size + 1, 0, none⟩) (by simp) (.int .i64 p)).setCell (p := ⟨w.heap.size + 1, 1, none⟩) (by simp) (.slice a len cap))
    have hsub : ((w1.setCell ⟨w.heap.size + 1, 0, none⟩ (.int .i64 p)).setCell ⟨w.heap.size + 1, 1, none⟩ (.slice a len cap)).heap.size = w1.heap.size := by rw [World.size_setCell, World.size_setCell]
    have HR := Lib.hid (H.out.keep HB.out)
    have HO2 := Lib.hid (HO.out.keep HB.out)
    clear k4 k5 K2 K3 hs hsub
    go_wp2_with fail
    refine bodyPost_ret (v := .tuple #[.agg #[.int .i64 p, .slice a len cap], .bool true]) (by simp [results, Try.results108, go_sem, z0, z1]) rfl ?_
    rw [HP.out.1, HP.out.2.1, HP.out.2.2, HL.out]
    exact ⟨⟨a, cap, rfl, HR.out, HO2.out⟩, HB.out⟩
set_option maxHeartbeats 1600000 in
theorem give_any (p : Int) (a : Option Addr) (len cap : Nat) (zs : List Int) (w : World) (h : IRow w a len zs) (B : Nat) (ho : Own w B a len 2) :
    Calls Try.prog 105 #[.agg #[.int .i64 p, .slice a len cap]] w fun e w' => (∃ a' c', e = .returned (.tuple #[.agg #[.int .i64 (givP p zs), .slice a' (givZ p zs).length c'], .bool (sysB p zs)]) ∧ IRow w' a' (givZ p zs).length (givZ p zs) ∧ Own w' B a' (givZ p zs).length 2) ∧ Below w.heap.size w w' := by
  have H := Lib.hid h
  have HL := Lib.hid h.1
  have HO := Lib.hid ho
  clear h ho
  go_enter Try.func105, Try.ntmps105
  go_wp2_with fail
  obtain ⟨W0, hW0⟩ : ∃ W0, W0 = (w.alloc (.cells #[.int .i64 p, .slice a len cap] 30)).alloc (.cells #[.int .i64 0, .slice none 0 0] 30) := ⟨_, rfl⟩
  have B0 : Hid (Below w.heap.size w W0) := by rw [hW0]; exact ((Below.refl _ _).alloc (Nat.le_refl _) _).alloc (by simp) _
  have K0 : Hid (SVar 30 W0 w.heap.size p a len cap) := by rw [hW0]; exact (Blk.Blk.new _ _ _).alloc _
  have K1 : Hid (SVar 30 W0 (w.heap.size + 1) 0 none 0 0) := by
    rw [hW0]
    have := Blk.Blk.new (w.alloc (.cells #[.int .i64 p, .slice a len cap] 30)) #[.int .i64 0, .slice none 0 0] 30
    rw [World.size_alloc] at this
    exact this
  rw [← hW0]
  clear hW0
  refine (specIs_any _ p a len cap zs _ K0.out (H.out.keep B0.out)).mono ?_
  rintro e w1 ⟨rfl, d1⟩
  have b1 : Below W0.heap.size W0 w1 := d1.below _
  have B1 := Lib.hid (B0.out.trans (b1.mono B0.out.size))
  have K2 := K0.out.keep b1
  have K3 := K1.out.keep b1
  clear b1 d1 K0 K1
  obtain ⟨⟨x0, x1⟩, _, _⟩ := K2.two
  obtain ⟨⟨y0, y1⟩, ⟨g0, g1⟩, _⟩ := K3.two
  cases hs : sysB p zs with
  | false =>
    have HP : Hid (givP p zs = 0 ∧ givZ p zs = [] ∧ sysB p zs = false) := by show _ ∧ _ ∧ _; unfold givP givZ; rw [hs]; exact ⟨rfl, rfl, rfl⟩
    have k4 := K3.set 0 (.int .i64 0)
    have k5 := k4.set 1 (.slice none 0 0)
    obtain ⟨⟨z0, z1⟩, _, _⟩ := k5.two
    have h4 := k4.frozen 1
    have h5 := k4.cell 1
    have HB := Lib.hid ((B1.out.setCell (p := ⟨w.heap.size + 1, 0, none⟩) (by simp) (.int .i64 0)).setCell (p := ⟨w.heap.size + 1, 1, none⟩) (by simp) (.slice none 0 0))
    clear k4 k5 K2 K3 hs
    go_wp2_with fail
    refine bodyPost_ret (v := .tuple #[.agg #[.int .i64 0, .slice none 0 0], .bool false]) (by simp [results, Try.results105, go_sem, z0, z1]) rfl ?_
    rw [HP.out.1, HP.out.2.1, HP.out.2.2]
    exact ⟨⟨none, 0, rfl, irow_nil _ _, .inl rfl⟩, HB.out⟩
  | true =>
    have HP : Hid (givP p zs = p ∧ givZ p zs = zs ∧ sysB p zs = true) := by show _ ∧ _ ∧ _; unfold givP givZ; rw [hs]; exact ⟨rfl, rfl, rfl⟩
    have k4 := K3.set 0 (.int .i64 p)
    have k5 := k4.set 1 (.slice a len cap)
    obtain ⟨⟨z0, z1⟩, _, _⟩ := k5.two
    have h4 := k4.frozen 1
    have h5 := k4.cell 1
    have HB := Lib.hid ((B1.out.setCell (p := ⟨w.heap.size + 1, 0, none⟩) (by simp) (.int .i64 p)).setCell (p := ⟨w.heap.size + 1, 1, none⟩) (by simp) (.slice a len cap))
    have HR := Lib.hid (H.out.keep HB.out)
    have HO2 := Lib.hid (HO.out.keep HB.out)
    clear k4 k5 K2 K3 hs
    go_wp2_with fail
    refine bodyPost_ret (v := .tuple #[.agg #[.int .i64 p, .slice a len cap], .bool true]) (by simp [results, Try.results105, go_sem, z0, z1]) rfl ?_
    rw [HP.out.1, HP.out.2.1, HP.out.2.2, HL.out]
    exact ⟨⟨a, cap, rfl, HR.out, HO2.out⟩, HB.out⟩
theorem cutsOf1_any (t whole : Int) (g1 g2 : Nat) (p : Int) (a : Option Addr) (len cap : Nat) (zs : List Int) (w : World) (hv : SVar 30 w g2 p a len cap) (h : IRow w a len zs) (hw : w.cell? ⟨g1, 0, none⟩ = some (.int .i64 whole)) (h1 : 0 ≤ t) (h2 : t ≤ 1024) (h3 : 0 ≤ whole) (h4 : whole ≤ 1024) :
    Calls Try.prog 123 #[.int .i64 t, .pointer (some ⟨g1, 0, none⟩), .pointer (some ⟨g2, 0, none⟩)] w fun e w' => e = .returned (.bool (cutIs zs whole t)) ∧ Below w.heap.size w w' := by
  have H := Lib.hid h
  obtain ⟨⟨v0, v1⟩, _, _⟩ := hv.two
  clear h hv
  go_enter Try.func123, Try.ntmps123
  go_wp2_with fail
  refine (hasOne_any (whole - t) a len cap zs _ H.out).mono ?_
  rintro e w1 ⟨rfl, b1⟩
  have B1 := Lib.hid b1
  clear b1
  go_wp2_with fail
  go_ret
  exact ⟨rfl, B1.out⟩
set_option maxHeartbeats 1600000 in
theorem iCutsOfC_any (p : Int) (a : Option Addr) (len cap : Nat) (zs : List Int) (w : World) (h : IRow w a len zs) (hcap : len ≤ cap) :
    Calls Try.prog 61 #[.agg #[.int .i64 p, .slice a len cap]] w fun e w' => (∃ a' c', e = .returned (.tuple #[.slice a' (cutA p zs).length c', .bool (sysB p zs)]) ∧ IRow w' a' (cutA p zs).length (cutA p zs) ∧ Own w' w.heap.size a' (cutA p zs).length 2 ∧ (cutA p zs).length ≤ c') ∧ Below w.heap.size w w' := by
  have H := Lib.hid h
  clear h
  go_enter Try.func61, Try.ntmps61
  go_wp2_with fail
  have b0 : Below w.heap.size w (w.alloc (.cells #[.int .i64 p, .slice a len cap] 30)) := (Below.refl _ _).alloc (Nat.le_refl _) _
  have k0 : SVar 30 (w.alloc (.cells #[.int .i64 p, .slice a len cap] 30)) w.heap.size p a len cap := Blk.Blk.new _ _ _
  refine (implVSys_any p a len cap zs _ (H.out.keep b0) hcap).mono ?_
  rintro e w1 ⟨rfl, b1⟩
  have B1 := Lib.hid (b0.trans (b1.mono b0.size))
  have K1 := Lib.hid (k0.keep b1)
  clear b0 b1 k0
  cases hs : sysB p zs with
  | false =>
    have HP : Hid (cutA p zs = [] ∧ sysB p zs = false) := by show _ ∧ _; unfold cutA; rw [hs]; exact ⟨rfl, rfl⟩
    clear hs
    go_wp2_with fail
    go_ret2
    rw [HP.out.1, HP.out.2]
    exact ⟨⟨_, _, rfl, irow_nil _ _, .inl rfl, Nat.zero_le _⟩, B1.out⟩
  | true =>
    have HP : Hid (cutA p zs = cutL p zs ∧ sysB p zs = true) := by show _ ∧ _; unfold cutA; rw [hs]; exact ⟨rfl, rfl⟩
    have hp := sysB_parts hs
    have ht := two_bd p hp.1 hp.2
    obtain ⟨pn, rfl⟩ : ∃ pn : Nat, p = pn := ⟨p.toNat, by omega⟩
    have hpow : (2 : Int) ^ pn = two (pn : Int) := by unfold two; rw [Int.toNat_natCast]
    have hw1 : IntKind.i64.wrap (1 * 2 ^ pn) = two (pn : Int) := by rw [Int.one_mul, hpow]; exact wrap_i64 _ (by omega) (by omega)
    have hw2 : IntKind.i64.wrap (2 ^ pn) = two (pn : Int) := by rw [hpow]; exact wrap_i64 _ (by omega) (by omega)
    have HL : Hid (leastL pn (cutIs zs (two (pn : Int) - 1)) (2 ^ pn) = cutL (pn : Int) zs) := by show _ = _; unfold cutL; rw [Int.toNat_natCast]
    obtain ⟨⟨x0, x1⟩, _, _⟩ := K1.out.two
    clear hs hpow
    go_wp2_with fail
    have b2 : Below w1.heap.size w1 (w1.alloc (.cells #[.int .i64 (two (pn : Int) - 1)] 2)) := (Below.refl _ _).alloc (Nat.le_refl _) _
    have k2 := Blk.Blk.new w1 #[.int .i64 (two (pn : Int) - 1)] 2
    have B2 := Lib.hid (B1.out.trans (b2.mono B1.out.size))
    have K2 := Lib.hid (K1.out.keep b2)
    refine (leastSets_any pn (cutIs zs (two (pn : Int) - 1)) 123 #[.pointer (some ⟨w1.heap.size, 0, none⟩), .pointer (some ⟨w.heap.size, 0, none⟩)] (by intro args w; kernel_rfl) _ (by omega) (by omega) (fun W t h1 h2 hb => cutsOf1_any t _ _ _ (pn : Int) a len cap zs W (K2.out.keep hb) ((H.out.keep B2.out).keep hb) ?_ h1 (by omega) (by omega) (by omega))).mono ?_
    · exact (k2.keep hb).cell 0
    rw [HL.out]
    rintro e w3 ⟨⟨a3, c3, rfl, hr, ho, hc⟩, b3⟩
    have HR : Hid (_ ∧ _ ∧ _) := ⟨hr, ho.mono (B' := w.heap.size) B2.out.size, hc⟩
    have B3 := Lib.hid (B2.out.trans (b3.mono B2.out.size))
    clear hr ho hc b3 k2 b2 x0 x1
    go_wp2_with fail
    go_ret2
    rw [HP.out.1, HP.out.2]
    exact ⟨⟨_, _, rfl, HR.out.1, HR.out.2.1, HR.out.2.2⟩, B3.out⟩
theorem iCutsOf_any (p : Int) (a : Option Addr) (len cap : Nat) (zs : List Int) (w : World) (h : IRow w a len zs) (hcap : len ≤ cap) :
    Calls Try.prog 61 #[.agg #[.int .i64 p, .slice a len cap]] w fun e w' => (∃ a' c', e = .returned (.tuple #[.slice a' (cutA p zs).length c', .bool (sysB p zs)]) ∧ IRow w' a' (cutA p zs).length (cutA p zs) ∧ Own w' w.heap.size a' (cutA p zs).length 2) ∧ Below w.heap.size w w' :=
  (iCutsOfC_any p a len cap zs w h hcap).mono fun _ _ ⟨⟨a, c, h1, h2, h3, _⟩, h5⟩ => ⟨⟨a, c, h1, h2, h3⟩, h5⟩
end Go.Proofs.Ytbmgloncimjfhab
