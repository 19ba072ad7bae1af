/-
  Slices of int64 numbers that come in: their numbers, cell by cell; the laws' copy and comparison of them. No conditions beyond those stated.
-/
import Derived.Test.YtemdgfjcjjadnaaChecked
import Derived.Test.YtemdgfjcjjadnaaFillW
import Derived.Deep.Slices
import Derived.Deep.LoopGhost
import Derived.Lib.Hide
import Derived.IntWalk
import Derived.BigQuiet
import Derived.WalkSmall
import Derived.ProofKit
namespace Dec
open Go Go.ChangeShapes Go.WideShapes
def IRow (w : World) (a : Option Addr) (len : Nat) (zs : List Int) : Prop :=
  zs.length = len ∧ len ≤ maxLen ∧ (∀ z ∈ zs, -9223372036854775808 ≤ z ∧ z ≤ 9223372036854775807) ∧ ∀ i, i < len → ∃ b off, a = some ⟨b, off, none⟩ ∧ b < w.heap.size ∧ w.cell? ⟨b, off + i, none⟩ = some (.int .i64 (zs.getD i 0))

variable {H : Type} {enc : TypeId × Value → H} {P : Program} {w : World} {base : Nat} {spare : Nat → Bool} {held : Bool}
theorem opened_ints {t e : TypeId} {a : Option Addr} {len cap : Nat} {d : DataW H} {ps : List MemPlace} (ht : P.underlying t = some (.slice e)) (he : P.underlying e = some (.int .i64)) (hc : P.cellsOf e = 1)
    (h : DataW.Trod enc P w base spare held t (.slice a len cap) d ps) (_lt : ∀ x ∈ ps, x.block < w.heap.size) : ∃ zs, IRow w a len zs := by
  have e1 : IntKind.i64.min = -9223372036854775808 := rfl
  have e2 : IntKind.i64.max = 9223372036854775807 := rfl
  obtain ⟨fuel, hf⟩ := h
  rcases Go.Deep.open_slice1 ht hc hf with ⟨hcs, _⟩ | ⟨a', len', cap', m, n, V, D, Pl, hcs, hb, hl, hm, hmm, hx, hel⟩
  · simp [Value.cells] at hcs
    obtain ⟨rfl, rfl, rfl⟩ := hcs
    exact ⟨[], rfl, Nat.zero_le _, by simp, fun i hi => absurd hi (Nat.not_lt_zero _)⟩
  · simp [Value.cells] at hcs
    obtain ⟨rfl, rfl, rfl⟩ := hcs
    have hlm : len ≤ m := by rw [hmm]; split <;> omega
    have each : ∀ i, i < len → ∃ z, V i = .int .i64 z ∧ -9223372036854775808 ≤ z ∧ z ≤ 9223372036854775807 := by
      intro i hi
      obtain ⟨h1, h2⟩ := hel i (by omega)
      cases n with
      | zero => simp [DataW.trod] at h2
      | succ n =>
        obtain ⟨z, hc2, _, hr⟩ := DataW.trod_int he h2
        have : V i = .int .i64 z := by simpa using hc2
        refine ⟨z, this, ?_⟩
        simp [Lit.wf] at hr
        omega
    let num : Value → Int := fun v => match v with | .int _ b => b | _ => 0
    have hget : ∀ i, i < len → ((List.range len).map fun i => num (V i)).getD i 0 = num (V i) := by
      intro i hi
      simp [List.getD, hi]
    refine ⟨(List.range len).map fun i => num (V i), by simp, by omega, ?_, ?_⟩
    · intro z hz
      obtain ⟨i, hi, rfl⟩ := List.mem_map.1 hz
      obtain ⟨z, hz1, hz2⟩ := each i (List.mem_range.1 hi)
      show -9223372036854775808 ≤ num (V i) ∧ num (V i) ≤ 9223372036854775807
      rw [hz1]; exact hz2
    · intro i hi
      obtain ⟨h1, _⟩ := hel i (by omega)
      obtain ⟨z, hz1, hz2⟩ := each i hi
      obtain ⟨b, off, spot⟩ := a'
      have hspot : spot = none := by
        have := World.cell?_spot (hel 0 (by omega)).1
        simpa [Addr.add] using this
      subst hspot
      have hadd : (⟨b, off, none⟩ : Addr).add i = ⟨b, off + i, none⟩ := by unfold Addr.add; split <;> simp_all
      rw [hadd, hz1] at h1
      refine ⟨b, off, rfl, ?_, ?_⟩
      · refine Nat.lt_of_not_le fun hle => ?_
        simp [World.cell?, Array.getElem?_eq_none hle] at h1
      · rw [h1, hget i hi, hz1]
theorem IRow.keep {w w' : World} {a : Option Addr} {len : Nat} {zs : List Int} (h : IRow w a len zs) (hb : Go.RowKit.Below w.heap.size w w') : IRow w' a len zs := by
  obtain ⟨h1, h2, h3, h4⟩ := h
  refine ⟨h1, h2, h3, fun i hi => ?_⟩
  obtain ⟨b, off, e, hlt, hc⟩ := h4 i hi
  exact ⟨b, off, e, Nat.lt_of_lt_of_le hlt hb.size, by rw [World.cell?_of_block (w := w) (hb.block b hlt)]; exact hc⟩
theorem IRow.bd {w : World} {a : Option Addr} {len k : Nat} {zs : List Int} (h : IRow w a len zs) (hk : k < len) : -9223372036854775808 ≤ zs.getD k 0 ∧ zs.getD k 0 ≤ 9223372036854775807 := h.2.2.1 _ (by
  have hkz : k < zs.length := by rw [h.1]; exact hk
  rw [show zs.getD k 0 = zs[k] from by simp [List.getD, hkz]]
  exact List.getElem_mem hkz)
def iv (zs : List Int) : List Value := zs.map (Value.int .i64)
theorem iv_get (zs : List Int) (k : Nat) (h : k < zs.length) (d : Value) : (iv zs).getD k d = .int .i64 (zs.getD k 0) := by simp [iv, List.getD, h]
theorem iv_len (zs : List Int) : (iv zs).length = zs.length := by simp [iv]
/-- a block that holds numbers -/
abbrev IMade (t : TypeId) (w : World) (g n : Nat) (zs : List Int) : Prop := Flt.Filled w g t (iv zs) (.int .i64 0) n n
theorem imade_row {t : TypeId} {w : World} {g n : Nat} {zs : List Int} (h : IMade t w g n zs) (hl : zs.length = n) (hm : n ≤ 1048576) (hz : ∀ z ∈ zs, -9223372036854775808 ≤ z ∧ z ≤ 9223372036854775807) : IRow w (some ⟨g, 0, none⟩) n zs := by
  refine ⟨hl, by unfold maxLen; omega, hz, fun i hi => ⟨g, 0, rfl, h.lt, ?_⟩⟩
  have := Flt.Filled.cell h (by rw [iv_len]; exact hl) (Nat.le_refl n) hi
  rw [if_pos hi, iv_get zs i (by omega)] at this
  rw [Nat.zero_add]; exact this
end Dec
namespace Go.Proofs.Ytemdgfjcjjadnaa
open Go.RowKit Dec Flt
set_option maxHeartbeats 800000 in
theorem toI64_made (a : Option Addr) (len cap : Nat) (zs : List Int) (w : World) (h : IRow w a len zs) (hn : len ≤ 1048576) :
    Calls Try.prog 33 #[.slice a len cap] w fun e w' => e = .returned (.slice (some ⟨w.heap.size, 0, none⟩) len len) ∧ IMade 2 w' w.heap.size len zs ∧ Below w.heap.size w w' ∧ w.heap.size < w'.heap.size := by
  have H := Lib.hid h
  have hvl := Lib.hid (show (iv zs).length = len by rw [iv_len]; exact h.1)
  have hmk : ∀ w, (Instr.makeSlice 33 (.int .i64 (len : Int)) (.int .i64 (len : Int))).run Try.prog w = .ok (.slice (some ⟨w.heap.size, 0, none⟩) len len) (w.alloc (.cells (fillC (iv zs) (.int .i64 0) 0 len) 2)) := by
    intro w
    obtain ⟨i, hi, hz0, hz1, hz2⟩ := info_parts (show (Try.prog.info? 2).map (fun i => (i.zero, i.size, i.bytes)) = some (some (.int .i64 0), 1, 8) by kernel_rfl)
    have := run_make (P := Try.prog) w 33 2 i (.int .i64 0) Try.underlying33 hi hz0 .i64 .i64 len len (by omega) (Int.le_refl _) (by rw [hz2]; omega) (by omega)
    rw [this, hz1, Int.toNat_natCast, fillC_made _ _ _ rfl]
  have hMade := Lib.hid (Filled.made w 2 (iv zs) (.int .i64 0) len)
  clear h
  go_enter Try.func33, Try.ntmps33
  generalize hvs : iv zs = vs at *
  have HV := Lib.hid hvs
  clear hvs
  go_wp2_with fail
  go_loopg [4] len (fun n i wr => ∃ k : Nat, i = .int .i64 k ∧ Hid (k + n = len) ∧ k ≤ len ∧ Hid (Filled wr w.heap.size 2 vs (.int .i64 0) k len) ∧ Hid (Below w.heap.size w wr) ∧ Hid (w.heap.size < wr.heap.size))
  case atStart => exact ⟨0, rfl, by show _ = _; omega, Nat.zero_le _, hMade.out, (Below.refl _ _).alloc (Nat.le_refl _) _, by show _ < _; simp⟩
  case round =>
    obtain ⟨k, rfl, hk, hkl, hF, hB, hS⟩ := hrel
    by_cases hlt : k < len
    · obtain ⟨b, off, rfl, _, hc⟩ := (H.out.keep hB.out).2.2.2 k hlt
      have hcell := Filled.cell hF.out hvl.out (by omega) hlt
      rw [if_neg (Nat.lt_irrefl k)] at hcell
      have hfr := Filled.frozen hF.out k
      have hset := Lib.hid (Filled.set hF.out hvl.out hlt)
      have hv : vs.getD k (.int .i64 0) = .int .i64 (zs.getD k 0) := by rw [← HV.out]; exact iv_get zs k (by have := H.out.1; omega) _
      rw [hv] at hset
      clear hv
      have HJ : Hid (k + 1 + (gk - 1) = len) := by have := hk.out; show _ = _; omega
      have HG : Hid (gk - 1 < gk) := by have := hk.out; show _ < _; omega
      generalize zs.getD k 0 = z at *
      go_wp2_with fail
      go_roundg (gk - 1)
      case measure => exact HG.out
      case rel => exact ⟨k + 1, by go_num, HJ, by omega, hset.out, hB.out.setCell (Nat.le_refl _) _, by show _ < _; rw [World.size_setCell]; exact hS.out⟩
    · obtain rfl : k = len := by have := hk.out; omega
      clear hlt
      go_wp2_with fail
      go_ret
      exact ⟨rfl, by have := hF.out; rw [← HV.out] at this; exact this, hB.out, hS.out⟩
set_option maxHeartbeats 800000 in
theorem eqI64_any (a b : Option Addr) (len c1 c2 : Nat) (zs : List Int) (w : World) (h1 : IRow w a len zs) (h2 : IRow w b len zs) (hn : len ≤ 1048576) :
    Calls Try.prog 22 #[.slice a len c1, .slice b len c2] w fun e w' => e = .returned (.bool true) ∧ Below w.heap.size w w' := by
  have r1 := Lib.hid h1
  have r2 := Lib.hid h2
  clear h1 h2
  go_enter Try.func22, Try.ntmps22
  go_wp2_with fail
  go_loopg [5] len (fun n i wr => ∃ k : Nat, i = .int .i64 k ∧ Hid (k + n = len) ∧ k ≤ len ∧ Hid (Below w.heap.size w wr))
  case atStart => exact ⟨0, rfl, by show _ = _; omega, Nat.zero_le _, Below.refl _ _⟩
  case round =>
    obtain ⟨k, rfl, hk, hkl, hd⟩ := hrel
    by_cases hlt : k < len
    · obtain ⟨g1, o1, rfl, _, e1⟩ := (r1.out.keep hd.out).2.2.2 k hlt
      obtain ⟨g2, o2, rfl, _, e2⟩ := (r2.out.keep hd.out).2.2.2 k hlt
      have HJ : Hid (k + 1 + (gk - 1) = len) := by have := hk.out; show _ = _; omega
      have HG : Hid (gk - 1 < gk) := by have := hk.out; show _ < _; omega
      generalize zs.getD k 0 = z at *
      have HB : Hid (∀ n, Below w.heap.size w (wr.drewN n)) := fun n => below_drewN hd.out n
      clear hd
      go_wp2_with fail
      go_quiet (fail)
      go_wp2_with fail
      go_roundg (gk - 1)
      case measure => exact HG.out
      case rel => exact ⟨k + 1, by go_num, HJ, by omega, HB.out _⟩
    · go_wp2_with fail
      go_ret
      exact ⟨rfl, hd.out⟩
end Go.Proofs.Ytemdgfjcjjadnaa
