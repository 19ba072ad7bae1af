/-
  The moments of a test of lives, and survivors at them: contracts of the program's parts. Conditions: all of them are lives.
-/
import Derived.Test.YtplfmdjccmhclabMom
import Derived.Test.YtplfmdjccmhclabFaiL
namespace Liv
open Go Flt Dec
/-- how many of them -/
def fN (zs : List (Nat × Bool)) (t : Nat) : Nat := Go.floatOfInt .f32 (zs.countP (fellP t))
def rN (zs : List (Nat × Bool)) (t : Nat) : Nat := Go.floatOfInt .f32 (zs.countP (riskP t))
/-- the first 'k' moments are laid -/
def MHas (w : World) (g k : Nat) (zs : List (Nat × Bool)) (ts : List Nat) : Prop := ∀ j, j < k → w.cell? ⟨g, j * 3, none⟩ = some (.float .f32 (ts.getD j 0)) ∧ w.cell? ⟨g, j * 3 + 1, none⟩ = some (.float .f32 (fN zs (ts.getD j 0))) ∧ w.cell? ⟨g, j * 3 + 2, none⟩ = some (.float .f32 (rN zs (ts.getD j 0)))
theorem MHas.keep {w w' : World} {g k : Nat} {zs : List (Nat × Bool)} {ts : List Nat} (h : MHas w g k zs ts) (hg : g < w.heap.size) (hb : Go.RowKit.Below w.heap.size w w') : MHas w' g k zs ts := by
  intro j hj
  obtain ⟨a1, a2, a3⟩ := h j hj
  exact ⟨by rw [World.cell?_of_block (w := w) (hb.block g hg)]; exact a1, by rw [World.cell?_of_block (w := w) (hb.block g hg)]; exact a2, by rw [World.cell?_of_block (w := w) (hb.block g hg)]; exact a3⟩
theorem MHas.set {w : World} {g n k : Nat} {e : TypeId} {zs : List (Nat × Bool)} {ts : List Nat} (hs : Slots w g (n * 3) e) (hk : k < n) (h : MHas w g k zs ts) {t : Nat} (ht : t = ts.getD k 0) :
    MHas (((w.setCell ⟨g, k * 3, none⟩ (.float .f32 t)).setCell ⟨g, k * 3 + 1, none⟩ (.float .f32 (fN zs t))).setCell ⟨g, k * 3 + 2, none⟩ (.float .f32 (rN zs t))) g (k + 1) zs ts := by
  subst ht
  obtain ⟨u, hu⟩ := hs.cell (j := k * 3) (by omega)
  obtain ⟨v, hv⟩ := (hs.set (k * 3) (.float .f32 (ts.getD k 0))).cell (j := k * 3 + 1) (by omega)
  obtain ⟨x, hx⟩ := ((hs.set (k * 3) (.float .f32 (ts.getD k 0))).set (k * 3 + 1) (.float .f32 (fN zs (ts.getD k 0)))).cell (j := k * 3 + 2) (by omega)
  intro j hj
  by_cases hjk : j = k
  · subst hjk
    refine ⟨?_, ?_, World.cell?_setCell_same _ _ _ hx⟩
    · rw [World.cell?_setCell_other _ _ _ _ (by intro e; injection e with _ e2 _; omega), World.cell?_setCell_other _ _ _ _ (by intro e; injection e with _ e2 _; omega)]
      exact World.cell?_setCell_same _ _ _ hu
    · rw [World.cell?_setCell_other _ _ _ _ (by intro e; injection e with _ e2 _; omega)]
      exact World.cell?_setCell_same _ _ _ hv
  · obtain ⟨a1, a2, a3⟩ := h j (by omega)
    refine ⟨?_, ?_, ?_⟩
    · rw [World.cell?_setCell_other _ _ _ _ (by intro e; injection e with _ e2 _; omega), World.cell?_setCell_other _ _ _ _ (by intro e; injection e with _ e2 _; omega), World.cell?_setCell_other _ _ _ _ (by intro e; injection e with _ e2 _; omega)]; exact a1
    · rw [World.cell?_setCell_other _ _ _ _ (by intro e; injection e with _ e2 _; omega), World.cell?_setCell_other _ _ _ _ (by intro e; injection e with _ e2 _; omega), World.cell?_setCell_other _ _ _ _ (by intro e; injection e with _ e2 _; omega)]; exact a2
    · rw [World.cell?_setCell_other _ _ _ _ (by intro e; injection e with _ e2 _; omega), World.cell?_setCell_other _ _ _ _ (by intro e; injection e with _ e2 _; omega), World.cell?_setCell_other _ _ _ _ (by intro e; injection e with _ e2 _; omega)]; exact a3
theorem Slots.made (w : World) (e : TypeId) (cs : Array Value) (n : Nat) (hn : n ≤ cs.size) : Slots (w.alloc (.cells cs e)) w.heap.size n e := ⟨cs, by show (w.heap.push _)[w.heap.size]? = _; simp, hn⟩
end Liv
namespace Go.Proofs.Ytplfmdjccmhclab
open Go.RowKit Liv Flt Dec
set_option maxHeartbeats 4000000 in
theorem momentsOf_any (a : Option Addr) (len cap : Nat) (zs : List (Nat × Bool)) (w : World) (h : LRow w a len zs) (hL : livB zs = true) :
    Calls Try.prog 58 #[.slice a len cap] w fun e w' => (∃ g n, e = .returned (.slice (some ⟨g, 0, none⟩) n n) ∧ n = (tS zs).length ∧ g < w'.heap.size ∧ MHas w' g n zs (tS zs)) ∧ Below w.heap.size w w' := by
  have H := Lib.hid h
  have hl := liv_len hL
  rw [h.1] at hl
  have hts := tS_len zs
  rw [h.1] at hts
  have H0 : Hid (len ≤ 1048576) := by show _ ≤ _; omega
  obtain ⟨ts, ht⟩ : ∃ ts, tS zs = ts := ⟨_, rfl⟩
  obtain ⟨n, hn⟩ : ∃ n, ts.length = n := ⟨_, rfl⟩
  rw [ht, hn] at hts
  have hn48 : n ≤ 48 := by omega
  have HT := Lib.hid ht
  have HN := Lib.hid hn
  have hmk : ∀ w, (Instr.makeSlice 66 (.int .i64 (n : Int)) (.int .i64 (n : Int))).run Try.prog w = .ok (.slice (some ⟨w.heap.size, 0, none⟩) n n) (w.alloc (.cells (madeCells (Value.agg #[.float .f32 0, .float .f32 0, .float .f32 0]).cells (n * 3)) 70)) := by
    intro w
    obtain ⟨i, hi, hz0, hz1, hz2⟩ := info_parts (show (Try.prog.info? 70).map (fun i => (i.zero, i.size, i.bytes)) = some (some (.agg #[.float .f32 0, .float .f32 0, .float .f32 0]), 3, 12) by kernel_rfl)
    have := run_make (P := Try.prog) w 66 70 i (.agg #[.float .f32 0, .float .f32 0, .float .f32 0]) Try.underlying66 hi hz0 .i64 .i64 n n (by omega) (Int.le_refl _) (by rw [hz2]; omega) (by omega)
    rw [this, hz1, Int.toNat_natCast]
  have HMD : Hid (∀ w : World, Slots (w.alloc (.cells (madeCells (Value.agg #[.float .f32 0, .float .f32 0, .float .f32 0]).cells (n * 3)) 70)) w.heap.size (n * 3) 70) := Lib.hid fun w => Slots.made w 70 _ (n * 3) (by simp [madeCells])
  generalize madeCells (Value.agg #[.float .f32 0, .float .f32 0, .float .f32 0]).cells (n * 3) = C at *
  have HLV := Lib.hid hL
  clear h hl hts ht hn hL
  go_enter Try.func58, Try.ntmps58
  go_wp2_with fail
  refine (timesOf_any a len cap zs _ H.out HLV.out).mono ?_
  rintro e w1 ⟨⟨a1, c1, rfl, hr, _⟩, b1⟩
  rw [HT.out, HN.out] at hr
  rw [HT.out, HN.out]
  have R1 := Lib.hid hr
  have B1 := Lib.hid b1
  have HS1 := Lib.hid (HMD.out w1)
  clear hr b1
  go_wp2_with fail
  go_loopg [14] n (fun q i wr => ∃ k : Nat, i = .int .i64 k ∧ Hid (k + q = n) ∧ k ≤ n ∧ Hid (Slots wr w1.heap.size (n * 3) 70) ∧ Hid (MHas wr w1.heap.size k zs ts) ∧ Hid (Below w1.heap.size w1 wr))
  case atStart => exact ⟨0, rfl, by show _ = _; omega, Nat.zero_le _, HS1.out, fun j hj => absurd hj (Nat.not_lt_zero _), (Below.refl _ _).alloc (Nat.le_refl _) _⟩
  case round =>
    obtain ⟨k, rfl, hk, hkl, hS, hM, hB⟩ := hrel
    by_cases hlt : k < n
    · obtain ⟨b, off, rfl, hbl, hc⟩ := (R1.out.keep hB.out).2.2.2 k hlt
      have HJ : Hid (k + 1 + (gk - 1) = n) := by have := hk.out; show _ = _; omega
      have HG : Hid (gk - 1 < gk) := by have := hk.out; show _ < _; omega
      obtain ⟨t, ht⟩ : ∃ t, t = ts.getD k 0 := ⟨_, rfl⟩
      rw [← ht] at hc
      have HTk := Lib.hid ht
      clear ht
      go_wp2_with fail
      refine (momentAt_any a len cap t zs _ (H.out.keep (B1.out.trans (hB.out.mono B1.out.size))) H0.out).mono ?_
      rintro e w2 ⟨rfl, b2⟩
      have S2 := Lib.hid (hS.out.keep b2)
      have M2 := Lib.hid (hM.out.keep hS.out.lt b2)
      have B2 := Lib.hid (hB.out.trans (b2.mono hB.out.size))
      rw [show Go.floatOfInt .f32 (zs.countP (fellP t)) = fN zs t from rfl, show Go.floatOfInt .f32 (zs.countP (riskP t)) = rN zs t from rfl]
      obtain ⟨F, hF⟩ : ∃ F, F = fN zs t := ⟨_, rfl⟩
      obtain ⟨R, hR⟩ : ∃ R, R = rN zs t := ⟨_, rfl⟩
      have HX : Hid (fN zs t = F ∧ rN zs t = R) := ⟨hF.symm, hR.symm⟩
      rw [← hF, ← hR]
      clear hF hR b2
      have HK3 : Hid (k * 3 < n * 3 ∧ k * 3 + 1 < n * 3 ∧ k * 3 + 2 < n * 3) := by show _ ∧ _; omega
      obtain ⟨u0, q0⟩ := S2.out.cell (j := k * 3) HK3.out.1
      obtain ⟨u1, q1⟩ := S2.out.cell (j := k * 3 + 1) HK3.out.2.1
      obtain ⟨u2, q2⟩ := S2.out.cell (j := k * 3 + 2) HK3.out.2.2
      have f0 := S2.out.frozen (k * 3)
      have f1 := S2.out.frozen (k * 3 + 1)
      have f2 := S2.out.frozen (k * 3 + 2)
      have HS3 := Lib.hid (((S2.out.set (k * 3) (.float .f32 t)).set (k * 3 + 1) (.float .f32 F)).set (k * 3 + 2) (.float .f32 R))
      have HM3 : Hid (MHas (((w2.setCell ⟨w1.heap.size, k * 3, none⟩ (.float .f32 t)).setCell ⟨w1.heap.size, k * 3 + 1, none⟩ (.float .f32 F)).setCell ⟨w1.heap.size, k * 3 + 2, none⟩ (.float .f32 R)) w1.heap.size (k + 1) zs ts) := by
        have := MHas.set S2.out hlt M2.out HTk.out
        rw [HX.out.1, HX.out.2] at this
        exact this
      have HB3 := Lib.hid (((B2.out.setCell (p := ⟨w1.heap.size, k * 3, none⟩) (Nat.le_refl _) (.float .f32 t)).setCell (p := ⟨w1.heap.size, k * 3 + 1, none⟩) (Nat.le_refl _) (.float .f32 F)).setCell (p := ⟨w1.heap.size, k * 3 + 2, none⟩) (Nat.le_refl _) (.float .f32 R))
      clear hS hM hB
      go_wp2_with fail
      go_roundg (gk - 1)
      case measure => exact HG.out
      case rel => exact ⟨k + 1, by go_num, HJ, by omega, HS3.out, HM3.out, HB3.out⟩
    · obtain rfl : k = n := by have := hk.out; omega
      have B2 := Lib.hid (B1.out.trans (hB.out.mono B1.out.size))
      clear hlt
      go_wp2_with fail
      go_ret
      rw [HT.out]
      exact ⟨⟨_, _, rfl, HN.out.symm, hS.out.lt, hM.out⟩, B2.out⟩
end Go.Proofs.Ytplfmdjccmhclab
