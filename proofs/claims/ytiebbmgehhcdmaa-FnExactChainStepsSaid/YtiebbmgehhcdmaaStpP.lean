/-
  What becomes of shares by steps, told so; whether shares are shares. Conditions: those stated.
-/
import Derived.Test.YtiebbmgehhcdmaaOutS
import Derived.Test.YtiebbmgehhcdmaaCrW
import Derived.Test.YtiebbmgehhcdmaaAlC
import Derived.Test.YtiebbmgehhcdmaaTfW
namespace Flt.Stp
open Go Flt F32 Cha Cm
/-- what comes to a state from the first states -/
def smO (p : Nat) (zs : List Nat) (N : Nat → Option Nat) (k : Nat) : Nat → Option Nat
  | 0 => some 0
  | i + 1 => F32.opO .add (smO p zs N k i) (F32.opO .mul (N i) (some (zs.getD (i * p + k) 0)))
def nxO (p : Nat) (zs : List Nat) (h : Nat) (N : Nat → Option Nat) (k : Nat) : Option Nat :=
  F32.opO .add (N k) (F32.opO .mul (some h) (F32.opO .sub (smO p zs N k p) (F32.opO .mul (N k) (outS p zs k p))))
def nwO (p : Nat) (zs : List Nat) (h : Nat) (ys : List Nat) : Nat → Nat → Option Nat
  | 0 => fun k => some (ys.getD k 0)
  | t + 1 => nxO p zs h (nwO p zs h ys t)
def shsB (p : Int) (ys : List Nat) : Bool := ys.all nng && decide ((ys.length : Int) = p)
def st0 (p : Int) (zs ys : List Nat) (h : Nat) (n : Int) : Bool := chB p zs && (shsB p ys && (pos h && decide (1 ≤ n ∧ n ≤ 256)))
def stpB (p : Int) (zs ys : List Nat) (h : Nat) (n : Int) : Bool := st0 p zs ys h n && oks (nwO p.toNat zs h ys n.toNat) p.toNat
def stpA (p : Int) (zs ys : List Nat) (h : Nat) (n : Int) : List Nat := if stpB p zs ys h n then outs (nwO p.toNat zs h ys n.toNat) p.toNat else []
theorem st0_parts {p : Int} {zs ys : List Nat} {h : Nat} {n : Int} (g : st0 p zs ys h n = true) : chB p zs = true ∧ shsB p ys = true ∧ pos h = true ∧ (1 ≤ n ∧ n ≤ 256) := by
  unfold st0 at g
  simp only [Bool.and_eq_true, decide_eq_true_eq] at g
  exact g
theorem chB_parts {p : Int} {zs : List Nat} (h : chB p zs = true) : (1 ≤ p ∧ p ≤ 8) ∧ (zs.length : Int) = p * p ∧ ∀ j, j < zs.length → nng (zs.getD j 0) = true := by
  unfold chB at h
  simp only [Bool.and_eq_true, decide_eq_true_eq] at h
  refine ⟨h.1, h.2.1, fun j hj => ?_⟩
  have := List.all_eq_true.1 h.2.2 j (List.mem_range.2 hj)
  unfold rateB at this
  rw [Bool.and_eq_true] at this
  exact this.1
theorem nng_num {z : Nat} (h : nng z = true) : nan .f32 z = false := by unfold nng at h; rw [Bool.and_eq_true] at h; exact fin_num h.1
theorem stpB_no {p : Int} {zs ys : List Nat} {h : Nat} {n : Int} (g : st0 p zs ys h n = false) : stpB p zs ys h n = false ∧ stpA p zs ys h n = [] := by
  have : stpB p zs ys h n = false := by unfold stpB; rw [g]; rfl
  exact ⟨this, by unfold stpA; rw [this]; rfl⟩
theorem stpB_at {p n : Nat} {zs ys : List Nat} {h : Nat} (g : st0 p zs ys h n = true) : stpB p zs ys h n = oks (nwO p zs h ys n) p := by unfold stpB; rw [g, Int.toNat_natCast, Int.toNat_natCast]; rfl
theorem stpA_at {p n : Nat} {zs ys : List Nat} {h : Nat} (g : stpB p zs ys h n = true) : stpA p zs ys h n = outs (nwO p zs h ys n) p := by unfold stpA; rw [g, Int.toNat_natCast, Int.toNat_natCast]; rfl
theorem stpA_len (p : Int) (zs ys : List Nat) (h : Nat) (n : Int) : (stpA p zs ys h n).length ≤ 1023 := by
  unfold stpA
  cases g : stpB p zs ys h n with
  | false => simp
  | true =>
    have h0 : st0 p zs ys h n = true := by unfold stpB at g; rw [Bool.and_eq_true] at g; exact g.1
    have := (chB_parts (st0_parts h0).1).1
    rw [if_pos rfl, outs_len]
    omega
theorem shs_no {p : Int} {ys : List Nat} {k : Nat} (hk : k < ys.length) (h : nng (ys.getD k 0) = false) : shsB p ys = false := by
  have : ys.all nng = false := by
    rw [List.all_eq_false]
    exact ⟨ys.getD k 0, by simp [List.getD, hk], by rw [h]; decide⟩
  unfold shsB; rw [this, Bool.false_and]
theorem shs_all {ys : List Nat} (h : ∀ k, k < ys.length → nng (ys.getD k 0) = true) : ys.all nng = true := by
  rw [List.all_eq_true]
  intro z hz
  obtain ⟨j, hj, rfl⟩ := List.mem_iff_getElem.1 hz
  have := h j hj
  rw [show ys.getD j 0 = ys[j] from by simp [List.getD, hj]] at this
  exact this
theorem shs_at {p : Int} {ys : List Nat} (h : ys.all nng = true) : shsB p ys = decide ((ys.length : Int) = p) := by unfold shsB; rw [h, Bool.true_and]
theorem shs_parts {p : Int} {ys : List Nat} (h : shsB p ys = true) : (∀ j, j < ys.length → nng (ys.getD j 0) = true) ∧ (ys.length : Int) = p := by
  unfold shsB at h
  rw [Bool.and_eq_true, decide_eq_true_eq] at h
  exact ⟨fun j hj => List.all_eq_true.1 h.1 _ (by simp [List.getD, hj]), h.2⟩
end Flt.Stp
namespace Go.Proofs.Ytiebbmgehhcdmaa
open Go.RowKit Dec Flt Syl Sep Cha Cm Liv Stp
set_option maxHeartbeats 1600000 in
theorem l04Shares_any (g : Nat) (p : Int) (a : Option Addr) (len cap : Nat) (b : Option Addr) (lb cb : Nat) (ys : List Nat) (w : World) (hv : CVar 44 w g p a len cap) (h : FRow w b lb ys) :
    Calls Try.prog 56 #[.pointer (some ⟨g, 0, none⟩), .slice b lb cb] w fun e w' => e = .returned (.bool (shsB p ys)) ∧ Drawn w w' := by
  have H := Lib.hid h
  have V := Lib.hid hv
  have hm : lb ≤ 9223372036854775807 := by have := h.2.1; unfold maxLen at this; exact this
  clear h hv
  go_enter Try.func56, Try.ntmps56
  go_wp2_with fail
  go_loopg [5] lb (fun q i wr => ∃ k : Nat, i = .int .i64 k ∧ Hid (k + q = lb) ∧ k ≤ lb ∧ Hid (Drawn w wr) ∧ Hid (∀ j, j < k → nng (ys.getD j 0) = true))
  case atStart => exact ⟨0, rfl, by show _ = _; omega, Nat.zero_le _, Drawn.refl _, fun j hj => absurd hj (Nat.not_lt_zero _)⟩
  case round =>
    obtain ⟨k, rfl, hk, hkl, hD, hN⟩ := hrel
    by_cases hlt : k < lb
    · obtain ⟨b', off, rfl, hbl, hc⟩ := (H.out.keep (hD.out.below _)).2.2.2 k hlt
      have HJ : Hid (k + 1 + (gk - 1) = lb) := by have := hk.out; show _ = _; omega
      have HG : Hid (gk - 1 < gk) := by have := hk.out; show _ < _; omega
      obtain ⟨z, hz⟩ : ∃ z, ys.getD k 0 = z := ⟨_, rfl⟩
      rw [hz] at hc
      have HE := Lib.hid hz
      clear hz
      cases hq : nng z with
      | false =>
        have HQ := Lib.hid hq
        have HS := Lib.hid (shs_no (p := p) (k := k) (by rw [H.out.1]; exact hlt) (by rw [HE.out]; exact hq))
        clear hq
        go_wp2_with fail
        refine (c_specLeast z _).mono ?_
        rintro e w1 ⟨rfl, d1⟩
        rw [HQ.out]
        have D1 := Lib.hid (hD.out.trans d1)
        clear d1
        go_wp2_with fail
        go_ret
        exact ⟨congrArg (fun b => Ending.returned (.bool b)) HS.out.symm, D1.out⟩
      | true =>
        have HQ := Lib.hid hq
        clear hq
        go_wp2_with fail
        refine (c_specLeast z _).mono ?_
        rintro e w1 ⟨rfl, d1⟩
        rw [HQ.out]
        have D1 := Lib.hid (hD.out.trans d1)
        clear d1
        go_wp2_with fail
        go_roundg (gk - 1)
        case measure => exact HG.out
        case rel =>
          refine ⟨k + 1, by go_num, HJ, by omega, D1.out, (show Hid _ from fun j hj => ?_)⟩
          by_cases e : j = k
          · subst e; rw [HE.out]; exact HQ.out
          · exact hN.out j (by omega)
    · obtain rfl : k = lb := by omega
      have HS : Hid (shsB p ys = decide ((k : Int) = p)) := by show _ = _; rw [shs_at (shs_all (by rw [H.out.1]; exact hN.out)), H.out.1]
      obtain ⟨c0, c1⟩ := ((V.out.keep (hD.out.below _)).two).1
      by_cases hp : (k : Int) = p
      · have hpe : ((k : Int) == p) = true := by simpa using hp
        have HT : Hid (shsB p ys = true) := by show _ = _; rw [HS.out, decide_eq_true hp]
        clear hlt hp
        go_wp2_with fail
        go_ret
        exact ⟨congrArg (fun b => Ending.returned (.bool b)) HT.out.symm, hD.out⟩
      · have hpe : ((k : Int) == p) = false := by simpa using hp
        have HT : Hid (shsB p ys = false) := by show _ = _; rw [HS.out, decide_eq_false hp]
        clear hlt hp
        go_wp2_with fail
        go_ret
        exact ⟨congrArg (fun b => Ending.returned (.bool b)) HT.out.symm, hD.out⟩
end Go.Proofs.Ytiebbmgehhcdmaa
