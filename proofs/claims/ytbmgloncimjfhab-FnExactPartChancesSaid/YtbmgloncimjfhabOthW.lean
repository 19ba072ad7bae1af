/-
  Contracts: the system of cuts, in the program and in its model. Conditions: the lists read as lists of whole numbers.
-/
import Derived.Test.YtbmgloncimjfhabGivW
import Derived.Deep.RegionHeld3
namespace Syl
open Go Dec
def othP (p : Int) (zs : List Int) : Int := if sysB p zs then givP p (cutL p zs) else 0
def othZ (p : Int) (zs : List Int) : List Int := if sysB p zs then givZ p (cutL p zs) else []
def othB (p : Int) (zs : List Int) : Bool := sysB p zs && sysB p (cutL p zs)
theorem givZ_len (p : Int) (zs : List Int) : (givZ p zs).length ≤ 64 := by
  unfold givZ
  cases h : sysB p zs with
  | false => simp
  | true => have := sysB_len h; simp only [↓reduceIte]; omega
theorem othZ_len (p : Int) (zs : List Int) : (othZ p zs).length ≤ 1048576 := by
  unfold othZ
  cases h : sysB p zs with
  | false => simp
  | true => have := givZ_len p (cutL p zs); simp only [↓reduceIte]; omega
theorem Own_cap {w : World} {B : Nat} {a : Option Addr} {len : Nat} {e : TypeId} (h : Own w B a len e) : Own w B a len e := h
end Syl
namespace Go.Proofs.Ytbmgloncimjfhab
open Go.RowKit Dec Flt Syl Sep
set_option maxRecDepth 20000 in
set_option maxHeartbeats 1600000 in
theorem sOtherSystem_any (p : Int) (a : Option Addr) (len cap : Nat) (zs : List Int) (w : World) (h : IRow w a len zs) :
    Calls Try.prog 68 #[.agg #[.int .i64 p, .slice a len cap]] w fun e w' => (∃ a' c', e = .returned (.tuple #[.agg #[.int .i64 (othP p zs), .slice a' (othZ p zs).length c'], .bool (othB p zs)]) ∧ IRow w' a' (othZ p zs).length (othZ p zs)) ∧ Below w.heap.size w w' := by
  have H := Lib.hid h
  clear h
  go_enter Try.func68, Try.ntmps68
  go_wp2_with fail
  obtain ⟨W0, hW0⟩ : ∃ W0, W0 = (w.alloc (.cells #[.int .i64 p, .slice a len cap] 30)).alloc (.cells #[.int .i64 0, .slice none 0 0] 30) := ⟨_, rfl⟩
  have B0 : Hid (Below w.heap.size w W0) := by rw [hW0]; exact ((Below.refl _ _).alloc (Nat.le_refl _) _).alloc (by simp) _
  have K0 : Hid (SVar 30 W0 w.heap.size p a len cap) := by rw [hW0]; exact (Blk.Blk.new _ _ _).alloc _
  have K1 : Hid (SVar 30 W0 (w.heap.size + 1) 0 none 0 0) := by
    rw [hW0]
    have := Blk.Blk.new (w.alloc (.cells #[.int .i64 p, .slice a len cap] 30)) #[.int .i64 0, .slice none 0 0] 30
    rw [World.size_alloc] at this
    exact this
  rw [← hW0]
  clear hW0
  refine (specIs_any _ p a len cap zs _ K0.out (H.out.keep B0.out)).mono ?_
  rintro e w1 ⟨rfl, d1⟩
  have b1 : Below W0.heap.size W0 w1 := d1.below _
  have B1 := Lib.hid (B0.out.trans (b1.mono B0.out.size))
  have K2 := Lib.hid (K0.out.keep b1)
  have K3 := Lib.hid (K1.out.keep b1)
  clear b1 d1 K0 K1
  cases hs : sysB p zs with
  | false =>
    have HP : Hid (othP p zs = 0 ∧ othZ p zs = [] ∧ othB p zs = false) := by show _ ∧ _ ∧ _; unfold othP othZ othB; rw [hs]; exact ⟨rfl, rfl, rfl⟩
    obtain ⟨⟨y0, y1⟩, ⟨g0, g1⟩, _⟩ := K3.out.two
    have k4 := K3.out.set 0 (.int .i64 0)
    have k5 := k4.set 1 (.slice none 0 0)
    obtain ⟨⟨z0, z1⟩, _, _⟩ := k5.two
    have h4 := k4.frozen 1
    have h5 := k4.cell 1
    have HB := Lib.hid ((B1.out.setCell (p := ⟨w.heap.size + 1, 0, none⟩) (by simp) (.int .i64 0)).setCell (p := ⟨w.heap.size + 1, 1, none⟩) (by simp) (.slice none 0 0))
    clear k4 k5 hs
    go_wp2_with fail
    refine bodyPost_ret (v := .tuple #[.agg #[.int .i64 0, .slice none 0 0], .bool false]) (by simp [results, Try.results68, go_sem, z0, z1]) rfl ?_
    rw [HP.out.1, HP.out.2.1, HP.out.2.2]
    exact ⟨⟨none, 0, rfl, irow_nil _ _⟩, HB.out⟩
  | true =>
    have HP : Hid (othP p zs = givP p (cutL p zs) ∧ othZ p zs = givZ p (cutL p zs) ∧ othB p zs = sysB p (cutL p zs)) := by show _ ∧ _ ∧ _; unfold othP othZ othB; rw [hs]; exact ⟨rfl, rfl, by simp⟩
    have HS := Lib.hid hs
    clear hs
    go_wp2_with fail
    have K2d : Hid (SVar 30 w1.drew w.heap.size p a len cap) := K2.out
    have K3d : Hid (SVar 30 w1.drew (w.heap.size + 1) 0 none 0 0) := K3.out
    have B1d : Hid (Below w.heap.size w w1.drew) := B1.out.drew
    have Hd : Hid (IRow w1.drew a len zs) := H.out.keep B1d.out
    have S1 := Lib.hid K2d.out.two
    have T1 := Lib.hid K3d.out.two
    clear K2 K3 B1
    go_region_held3 (fun W => W.cell? ⟨w.heap.size, 0, none⟩ = some (.int .i64 p))
      (first | exact S1.out.1.1 | exact S2.out.1.1 | exact S3.out.1.1 | exact S4.out)
      (first | (go_at_call 75; refine (specCuts_any _ p a len cap zs _ K2d.out Hd.out HS.out).mono ?_; rintro e w2 ⟨⟨a2, c2, rfl, hr2, ho2⟩, b2⟩; have R2 := Lib.hid hr2; have O2 := Lib.hid ho2; have K22 := Lib.hid (K2d.out.keep b2); have K32 := Lib.hid (K3d.out.keep b2); have S2 := Lib.hid K22.out.two; have B2 := Lib.hid (B1d.out.trans (b2.mono B1d.out.size)); clear hr2 ho2 b2) | (go_at_call 105; refine (give_any p _ _ _ (cutL p zs) _ R2.out _ O2.out).mono ?_; rintro e w3 ⟨⟨a3, c3, rfl, hr3, ho3⟩, b3⟩; have R3 := Lib.hid hr3; have K23 := Lib.hid (K22.out.keep b3); have K33 := K32.out.keep b3; have S3 := Lib.hid K23.out.two; have B3 := Lib.hid (B2.out.trans (b3.mono B2.out.size)); obtain ⟨⟨y0, y1⟩, ⟨g0, g1⟩, _⟩ := K33.two; have k4 := K33.set 0 (.int .i64 (givP p (cutL p zs))); have k5 := k4.set 1 (.slice a3 (givZ p (cutL p zs)).length c3); obtain ⟨⟨z0, z1⟩, _, _⟩ := k5.two; have h4 := k4.frozen 1; have h5 := k4.cell 1; have S4 := Lib.hid ((((K23.out.other (k := w.heap.size + 1) 0 (.int .i64 (givP p (cutL p zs))) (by omega)).other (k := w.heap.size + 1) 1 (.slice a3 (givZ p (cutL p zs)).length c3) (by omega)).two).1.1); have HB := Lib.hid ((B3.out.setCell (p := ⟨w.heap.size + 1, 0, none⟩) (by simp) (.int .i64 (givP p (cutL p zs)))).setCell (p := ⟨w.heap.size + 1, 1, none⟩) (by simp) (.slice a3 (givZ p (cutL p zs)).length c3)); have HR := Lib.hid ((R3.out.set (g := w.heap.size + 1) 0 (.int .i64 (givP p (cutL p zs))) ho3.above T1.out.2.2).set (g := w.heap.size + 1) 1 (.slice a3 (givZ p (cutL p zs)).length c3) ho3.above T1.out.2.2); clear hr3 ho3 b3 k4 k5 K33))
    go_wp2_with fail
    refine bodyPost_ret (v := .tuple #[.agg #[.int .i64 (givP p (cutL p zs)), .slice a3 (givZ p (cutL p zs)).length c3], .bool (sysB p (cutL p zs))]) (by simp [results, Try.results68, go_sem, z0, z1]) rfl ?_
    rw [HP.out.1, HP.out.2.1, HP.out.2.2]
    exact ⟨⟨a3, c3, rfl, HR.out⟩, HB.out⟩
set_option maxRecDepth 20000 in
set_option maxHeartbeats 1600000 in
theorem iOtherSystem_any (p : Int) (a : Option Addr) (len cap : Nat) (zs : List Int) (w : World) (h : IRow w a len zs) (hcap : len ≤ cap) :
    Calls Try.prog 67 #[.agg #[.int .i64 p, .slice a len cap]] w fun e w' => (∃ a' c', e = .returned (.tuple #[.agg #[.int .i64 (othP p zs), .slice a' (othZ p zs).length c'], .bool (othB p zs)]) ∧ IRow w' a' (othZ p zs).length (othZ p zs) ∧ Own w' w.heap.size a' (othZ p zs).length 2) ∧ Below w.heap.size w w' := by
  have H := Lib.hid h
  clear h
  go_enter Try.func67, Try.ntmps67
  go_wp2_with fail
  obtain ⟨W0, hW0⟩ : ∃ W0, W0 = (w.alloc (.cells #[.int .i64 p, .slice a len cap] 30)).alloc (.cells #[.int .i64 0, .slice none 0 0] 30) := ⟨_, rfl⟩
  have B0 : Hid (Below w.heap.size w W0) := by rw [hW0]; exact ((Below.refl _ _).alloc (Nat.le_refl _) _).alloc (by simp) _
  have K0 : Hid (SVar 30 W0 w.heap.size p a len cap) := by rw [hW0]; exact (Blk.Blk.new _ _ _).alloc _
  have K1 : Hid (SVar 30 W0 (w.heap.size + 1) 0 none 0 0) := by
    rw [hW0]
    have := Blk.Blk.new (w.alloc (.cells #[.int .i64 p, .slice a len cap] 30)) #[.int .i64 0, .slice none 0 0] 30
    rw [World.size_alloc] at this
    exact this
  rw [← hW0]
  clear hW0
  refine (iCutsOfC_any p a len cap zs _ (H.out.keep B0.out) hcap).mono ?_
  rintro e w1 ⟨⟨a1, c1, rfl, hr1, ho1, hc1⟩, b1⟩
  have B1 := Lib.hid (B0.out.trans (b1.mono B0.out.size))
  have K2 := Lib.hid (K0.out.keep b1)
  have K3 := Lib.hid (K1.out.keep b1)
  have HLT : Hid (w.heap.size + 1 < W0.heap.size) := K1.out.lt
  have R1 := Lib.hid hr1
  have O1 := Lib.hid ho1
  have C1 := Lib.hid hc1
  clear hc1 b1 K0 K1 hr1 ho1
  obtain ⟨⟨x0, x1⟩, _, _⟩ := K2.out.two
  cases hs : sysB p zs with
  | false =>
    have HP : Hid (othP p zs = 0 ∧ othZ p zs = [] ∧ othB p zs = false) := by show _ ∧ _ ∧ _; unfold othP othZ othB; rw [hs]; exact ⟨rfl, rfl, rfl⟩
    obtain ⟨⟨y0, y1⟩, ⟨g0, g1⟩, _⟩ := K3.out.two
    have k4 := K3.out.set 0 (.int .i64 0)
    have k5 := k4.set 1 (.slice none 0 0)
    obtain ⟨⟨z0, z1⟩, _, _⟩ := k5.two
    have h4 := k4.frozen 1
    have h5 := k4.cell 1
    have HB := Lib.hid ((B1.out.setCell (p := ⟨w.heap.size + 1, 0, none⟩) (by simp) (.int .i64 0)).setCell (p := ⟨w.heap.size + 1, 1, none⟩) (by simp) (.slice none 0 0))
    clear k4 k5 hs
    go_wp2_with fail
    refine bodyPost_ret (v := .tuple #[.agg #[.int .i64 0, .slice none 0 0], .bool false]) (by simp [results, Try.results67, go_sem, z0, z1]) rfl ?_
    rw [HP.out.1, HP.out.2.1, HP.out.2.2]
    exact ⟨⟨none, 0, rfl, irow_nil _ _, .inl rfl⟩, HB.out⟩
  | true =>
    have HP : Hid (othP p zs = givP p (cutL p zs) ∧ othZ p zs = givZ p (cutL p zs) ∧ othB p zs = sysB p (cutL p zs)) := by show _ ∧ _ ∧ _; unfold othP othZ othB; rw [hs]; exact ⟨rfl, rfl, by simp⟩
    have HC : Hid (cutA p zs = cutL p zs) := by show _ = _; unfold cutA; rw [hs]; rfl
    rw [HC.out] at R1 O1 C1 ⊢
    clear hs
    go_wp2_with fail
    refine (onlySys_any p a1 _ c1 (cutL p zs) _ R1.out C1.out _ O1.out).mono ?_
    rintro e w3 ⟨⟨a3, c3, rfl, hr3, ho3⟩, b3⟩
    have B3 := Lib.hid (B1.out.trans (b3.mono B1.out.size))
    have K33 := K3.out.keep b3
    obtain ⟨⟨y0, y1⟩, ⟨g0, g1⟩, _⟩ := K33.two
    have k4 := K33.set 0 (.int .i64 (givP p (cutL p zs)))
    have k5 := k4.set 1 (.slice a3 (givZ p (cutL p zs)).length c3)
    obtain ⟨⟨z0, z1⟩, _, _⟩ := k5.two
    have h4 := k4.frozen 1
    have h5 := k4.cell 1
    have HB := Lib.hid ((B3.out.setCell (p := ⟨w.heap.size + 1, 0, none⟩) (by simp) (.int .i64 (givP p (cutL p zs)))).setCell (p := ⟨w.heap.size + 1, 1, none⟩) (by simp) (.slice a3 (givZ p (cutL p zs)).length c3))
    have HR := Lib.hid ((hr3.set (g := w.heap.size + 1) 0 (.int .i64 (givP p (cutL p zs))) ho3.above HLT.out).set (g := w.heap.size + 1) 1 (.slice a3 (givZ p (cutL p zs)).length c3) ho3.above HLT.out)
    have HO := Lib.hid (((ho3.set (g := w.heap.size + 1) 0 (.int .i64 (givP p (cutL p zs))) HLT.out).set (g := w.heap.size + 1) 1 (.slice a3 (givZ p (cutL p zs)).length c3) HLT.out).mono (B' := w.heap.size) B0.out.size)
    clear hr3 ho3 b3 k4 k5 K33 x0 x1
    go_wp2_with fail
    refine bodyPost_ret (v := .tuple #[.agg #[.int .i64 (givP p (cutL p zs)), .slice a3 (givZ p (cutL p zs)).length c3], .bool (sysB p (cutL p zs))]) (by simp [results, Try.results67, go_sem, z0, z1]) rfl ?_
    rw [HP.out.1, HP.out.2.1, HP.out.2.2]
    exact ⟨⟨a3, c3, rfl, HR.out, HO.out⟩, HB.out⟩
end Go.Proofs.Ytbmgloncimjfhab
