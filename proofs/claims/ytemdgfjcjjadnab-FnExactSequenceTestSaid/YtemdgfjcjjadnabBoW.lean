/-
  Slices of true and false that come in, cell by cell; the laws' copy and comparison of them. No conditions beyond those stated.
-/
import Derived.Test.YtemdgfjcjjadnabChecked
import Derived.Test.YtemdgfjcjjadnabIntW
import Derived.Deep.Slices
import Derived.Deep.LoopGhost
import Derived.Lib.Hide
import Derived.IntWalk
import Derived.BigQuiet
import Derived.WalkSmall
import Derived.ProofKit
namespace Dec
open Go Go.ChangeShapes Go.WideShapes
def BRow (w : World) (a : Option Addr) (len : Nat) (zs : List Bool) : Prop :=
  zs.length = len ∧ len ≤ maxLen ∧ (∀ z ∈ zs, z = true ∨ z = false) ∧ ∀ i, i < len → ∃ b off, a = some ⟨b, off, none⟩ ∧ b < w.heap.size ∧ w.cell? ⟨b, off + i, none⟩ = some (.bool (zs.getD i false))

variable {H : Type} {enc : TypeId × Value → H} {P : Program} {w : World} {base : Nat} {spare : Nat → Bool} {held : Bool}
theorem opened_bools {t e : TypeId} {a : Option Addr} {len cap : Nat} {d : DataW H} {ps : List MemPlace} (ht : P.underlying t = some (.slice e)) (he : P.underlying e = some .bool) (hc : P.cellsOf e = 1)
    (h : DataW.Trod enc P w base spare held t (.slice a len cap) d ps) (_lt : ∀ x ∈ ps, x.block < w.heap.size) : ∃ zs, BRow w a len zs := by
  obtain ⟨fuel, hf⟩ := h
  rcases Go.Deep.open_slice1 ht hc hf with ⟨hcs, _⟩ | ⟨a', len', cap', m, n, V, D, Pl, hcs, hb, hl, hm, hmm, hx, hel⟩
  · simp [Value.cells] at hcs
    obtain ⟨rfl, rfl, rfl⟩ := hcs
    exact ⟨[], rfl, Nat.zero_le _, by simp, fun i hi => absurd hi (Nat.not_lt_zero _)⟩
  · simp [Value.cells] at hcs
    obtain ⟨rfl, rfl, rfl⟩ := hcs
    have hlm : len ≤ m := by rw [hmm]; split <;> omega
    have each : ∀ i, i < len → ∃ z, V i = .bool z := by
      intro i hi
      obtain ⟨h1, h2⟩ := hel i (by omega)
      cases n with
      | zero => simp [DataW.trod] at h2
      | succ n =>
        obtain ⟨z, hc2, _⟩ := DataW.trod_bool he h2
        exact ⟨z, by simpa using hc2⟩
    let num : Value → Bool := fun v => match v with | .bool b => b | _ => false
    have hget : ∀ i, i < len → ((List.range len).map fun i => num (V i)).getD i false = num (V i) := by
      intro i hi
      simp [List.getD, hi]
    refine ⟨(List.range len).map fun i => num (V i), by simp, by omega, ?_, ?_⟩
    · intro z hz
      cases z
      · exact .inr rfl
      · exact .inl rfl
    · intro i hi
      obtain ⟨h1, _⟩ := hel i (by omega)
      obtain ⟨z, hz1⟩ := each i hi
      obtain ⟨b, off, spot⟩ := a'
      have hspot : spot = none := by
        have := World.cell?_spot (hel 0 (by omega)).1
        simpa [Addr.add] using this
      subst hspot
      have hadd : (⟨b, off, none⟩ : Addr).add i = ⟨b, off + i, none⟩ := by unfold Addr.add; split <;> simp_all
      rw [hadd, hz1] at h1
      refine ⟨b, off, rfl, ?_, ?_⟩
      · refine Nat.lt_of_not_le fun hle => ?_
        simp [World.cell?, Array.getElem?_eq_none hle] at h1
      · rw [h1, hget i hi, hz1]
theorem BRow.keep {w w' : World} {a : Option Addr} {len : Nat} {zs : List Bool} (h : BRow w a len zs) (hb : Go.RowKit.Below w.heap.size w w') : BRow w' a len zs := by
  obtain ⟨h1, h2, h3, h4⟩ := h
  refine ⟨h1, h2, h3, fun i hi => ?_⟩
  obtain ⟨b, off, e, hlt, hc⟩ := h4 i hi
  exact ⟨b, off, e, Nat.lt_of_lt_of_le hlt hb.size, by rw [World.cell?_of_block (w := w) (hb.block b hlt)]; exact hc⟩
def bv (zs : List Bool) : List Value := zs.map Value.bool
theorem bv_get (zs : List Bool) (k : Nat) (h : k < zs.length) (d : Value) : (bv zs).getD k d = .bool (zs.getD k false) := by simp [bv, List.getD, h]
theorem bv_len (zs : List Bool) : (bv zs).length = zs.length := by simp [bv]
/-- a block that holds numbers -/
abbrev BMade (t : TypeId) (w : World) (g n : Nat) (zs : List Bool) : Prop := Flt.Filled w g t (bv zs) (.bool false) n n
theorem bmade_row {t : TypeId} {w : World} {g n : Nat} {zs : List Bool} (h : BMade t w g n zs) (hl : zs.length = n) (hm : n ≤ 1048576) (hz : ∀ z ∈ zs, z = true ∨ z = false) : BRow w (some ⟨g, 0, none⟩) n zs := by
  refine ⟨hl, by unfold maxLen; omega, hz, fun i hi => ⟨g, 0, rfl, h.lt, ?_⟩⟩
  have := Flt.Filled.cell h (by rw [bv_len]; exact hl) (Nat.le_refl n) hi
  rw [if_pos hi, bv_get zs i (by omega)] at this
  rw [Nat.zero_add]; exact this
end Dec
namespace Go.Proofs.Ytemdgfjcjjadnab
open Go.RowKit Dec Flt
set_option maxHeartbeats 800000 in
theorem toBo_made (a : Option Addr) (len cap : Nat) (zs : List Bool) (w : World) (h : BRow w a len zs) (hn : len ≤ 1048576) :
    Calls Try.prog 27 #[.slice a len cap] w fun e w' => e = .returned (.slice (some ⟨w.heap.size, 0, none⟩) len len) ∧ BMade 4 w' w.heap.size len zs ∧ Below w.heap.size w w' ∧ w.heap.size < w'.heap.size := by
  have H := Lib.hid h
  have hvl := Lib.hid (show (bv zs).length = len by rw [bv_len]; exact h.1)
  have hmk : ∀ w, (Instr.makeSlice 43 (.int .i64 (len : Int)) (.int .i64 (len : Int))).run Try.prog w = .ok (.slice (some ⟨w.heap.size, 0, none⟩) len len) (w.alloc (.cells (fillC (bv zs) (.bool false) 0 len) 4)) := by
    intro w
    obtain ⟨i, hi, hz0, hz1, hz2⟩ := info_parts (show (Try.prog.info? 4).map (fun i => (i.zero, i.size, i.bytes)) = some (some (.bool false), 1, 1) by kernel_rfl)
    have := run_make (P := Try.prog) w 43 4 i (.bool false) Try.underlying43 hi hz0 .i64 .i64 len len (by omega) (Int.le_refl _) (by rw [hz2]; omega) (by omega)
    rw [this, hz1, Int.toNat_natCast, fillC_made _ _ _ rfl]
  have hMade := Lib.hid (Filled.made w 4 (bv zs) (.bool false) len)
  clear h
  go_enter Try.func27, Try.ntmps27
  generalize hvs : bv zs = vs at *
  have HV := Lib.hid hvs
  clear hvs
  go_wp2_with fail
  go_loopg [4] len (fun n i wr => ∃ k : Nat, i = .int .i64 k ∧ Hid (k + n = len) ∧ k ≤ len ∧ Hid (Filled wr w.heap.size 4 vs (.bool false) k len) ∧ Hid (Below w.heap.size w wr) ∧ Hid (w.heap.size < wr.heap.size))
  case atStart => exact ⟨0, rfl, by show _ = _; omega, Nat.zero_le _, hMade.out, (Below.refl _ _).alloc (Nat.le_refl _) _, by show _ < _; simp⟩
  case round =>
    obtain ⟨k, rfl, hk, hkl, hF, hB, hS⟩ := hrel
    by_cases hlt : k < len
    · obtain ⟨b, off, rfl, _, hc⟩ := (H.out.keep hB.out).2.2.2 k hlt
      have hcell := Filled.cell hF.out hvl.out (by omega) hlt
      rw [if_neg (Nat.lt_irrefl k)] at hcell
      have hfr := Filled.frozen hF.out k
      have hset := Lib.hid (Filled.set hF.out hvl.out hlt)
      have hv : vs.getD k (.bool false) = .bool (zs.getD k false) := by rw [← HV.out]; exact bv_get zs k (by have := H.out.1; omega) _
      rw [hv] at hset
      clear hv
      have HJ : Hid (k + 1 + (gk - 1) = len) := by have := hk.out; show _ = _; omega
      have HG : Hid (gk - 1 < gk) := by have := hk.out; show _ < _; omega
      generalize zs.getD k false = z at *
      go_wp2_with fail
      go_roundg (gk - 1)
      case measure => exact HG.out
      case rel => exact ⟨k + 1, by go_num, HJ, by omega, hset.out, hB.out.setCell (Nat.le_refl _) _, by show _ < _; rw [World.size_setCell]; exact hS.out⟩
    · obtain rfl : k = len := by have := hk.out; omega
      clear hlt
      go_wp2_with fail
      go_ret
      exact ⟨rfl, by have := hF.out; rw [← HV.out] at this; exact this, hB.out, hS.out⟩
set_option maxHeartbeats 800000 in
theorem eqBo_any (a b : Option Addr) (len c1 c2 : Nat) (zs : List Bool) (w : World) (h1 : BRow w a len zs) (h2 : BRow w b len zs) (hn : len ≤ 1048576) :
    Calls Try.prog 29 #[.slice a len c1, .slice b len c2] w fun e w' => e = .returned (.bool true) ∧ Below w.heap.size w w' := by
  have r1 := Lib.hid h1
  have r2 := Lib.hid h2
  clear h1 h2
  go_enter Try.func29, Try.ntmps29
  go_wp2_with fail
  go_loopg [5] len (fun n i wr => ∃ k : Nat, i = .int .i64 k ∧ Hid (k + n = len) ∧ k ≤ len ∧ Hid (Below w.heap.size w wr))
  case atStart => exact ⟨0, rfl, by show _ = _; omega, Nat.zero_le _, Below.refl _ _⟩
  case round =>
    obtain ⟨k, rfl, hk, hkl, hd⟩ := hrel
    by_cases hlt : k < len
    · obtain ⟨g1, o1, rfl, _, e1⟩ := (r1.out.keep hd.out).2.2.2 k hlt
      obtain ⟨g2, o2, rfl, _, e2⟩ := (r2.out.keep hd.out).2.2.2 k hlt
      have HJ : Hid (k + 1 + (gk - 1) = len) := by have := hk.out; show _ = _; omega
      have HG : Hid (gk - 1 < gk) := by have := hk.out; show _ < _; omega
      generalize zs.getD k false = z at *
      have HB : Hid (∀ n, Below w.heap.size w (wr.drewN n)) := fun n => below_drewN hd.out n
      clear hd
      go_wp2_with fail
      go_quiet (fail)
      go_wp2_with fail
      go_roundg (gk - 1)
      case measure => exact HG.out
      case rel => exact ⟨k + 1, by go_num, HJ, by omega, HB.out _⟩
    · go_wp2_with fail
      go_ret
      exact ⟨rfl, hd.out⟩
end Go.Proofs.Ytemdgfjcjjadnab
