/-
  Spares that are split: contracts of both. Conditions: the list reads as a list of 32-bit numbers.
-/
import Derived.Test.YtiebbmgehhcdmaaSplP
import Derived.Test.YtiebbmgehhcdmaaHld
import Derived.Test.YtiebbmgehhcdmaaTfW
import Derived.Deep.RegionHeld3
namespace Go.Proofs.Ytiebbmgehhcdmaa
open Go.RowKit Flt Dec Cm Nd Liv Spl Hld
theorem run_max_float (ats : Array TypeId) (t : TypeId) (x y : Nat) (w : World) (hx : nan .f32 x = false) (hy : nan .f32 y = false) :
    (Builtin.max_ ats t #[.float .f32 x, .float .f32 y]).run Try.prog w = .ok (.float .f32 (maxF x y)) w := by
  have ho := order_eq .f32 x y hx hy
  unfold maxF
  simp only [Builtin.max_, List.foldlM, Builtin.max2]
  rw [ho]
  rcases Int.lt_trichotomy (S .f32 x) (S .f32 y) with h | h | h
  · rw [Int.compare_eq_lt.2 h]; rfl
  · rw [h, show compare (S .f32 y) (S .f32 y) = .eq from by simp]; rfl
  · rw [Int.compare_eq_gt.2 h]; rfl
set_option maxHeartbeats 1600000 in
theorem maxL_any (a : Option Addr) (len cap : Nat) (zs : List Nat) (w : World) (h : FRow w a len zs) (h0 : 0 < len) (hn : ∀ z ∈ zs, nan .f32 z = false) :
    Calls Try.prog 66 #[.slice a len cap] w fun e w' => e = .returned (.float .f32 (mxK zs (len - 1))) ∧ w = w' := by
  have H := Lib.hid h
  have HN := Lib.hid hn
  have hm : len ≤ 9223372036854775807 := by have := h.2.1; unfold maxLen at this; exact this
  obtain ⟨b, off, rfl, hbl, hc⟩ := h.2.2.2 0 h0
  rw [Nat.add_zero] at hc
  have h1 : ¬ ((len : Int) < 1) := by omega
  have HX : Hid (mxK zs 0 = zs.getD 0 0) := rfl
  clear h hn
  generalize zs.getD 0 0 = x0 at *
  go_enter Try.func66, Try.ntmps66
  go_wp2_with fail
  clear h1 hc
  go_loopg [3, 4] (len - 1) (fun q m i wr => ∃ k : Nat, m = .float .f32 (mxK zs k) ∧ i = .int .i64 ((k : Int) + 1) ∧ Hid (k + q = len - 1) ∧ k < len ∧ w = wr)
  case atStart => exact ⟨0, by rw [HX.out], rfl, by show _ = _; omega, h0, rfl⟩
  case round =>
    obtain ⟨k, rfl, rfl, hk, hkl, rfl⟩ := hrel
    by_cases hlt : k + 1 < len
    · have hlz : (k : Int) + 1 < (len : Int) := by omega
      obtain ⟨_, _, e1, _, hc⟩ := H.out.2.2.2 (k + 1) hlt
      cases e1
      have HJ : Hid (k + 1 + (gk - 1) = len - 1) := by have := hk.out; show _ = _; omega
      have HG : Hid (gk - 1 < gk) := by have := hk.out; show _ < _; omega
      have hy : nan .f32 (zs.getD (k + 1) 0) = false := HN.out _ (by simp [List.getD, H.out.1, hlt])
      have hx := (mxK_ok HN.out k (by rw [H.out.1]; exact hkl)).1
      have hr := fun w => run_max_float #[22, 22] 22 _ _ w hx hy
      have HE : Hid (maxF (mxK zs k) (zs.getD (k + 1) 0) = mxK zs (k + 1)) := rfl
      generalize mxK zs k = u at *
      generalize zs.getD (k + 1) 0 = v at *
      rw [HE.out] at hr
      clear hx hy
      go_wp2_with fail
      go_roundg (gk - 1)
      case measure => exact HG.out
      case rel => exact ⟨k + 1, rfl, by go_num, HJ, by omega, rfl⟩
    · obtain rfl : k = len - 1 := by omega
      have hge : ¬ (((len - 1 : Nat) : Int) + 1 < (len : Int)) := by omega
      clear hlt
      go_wp2_with fail
      go_ret
      exact ⟨rfl, rfl⟩
set_option maxHeartbeats 1600000 in
theorem indexL_any (a : Option Addr) (len cap m i0 : Nat) (zs : List Nat) (w : World) (h : FRow w a len zs) (hm : nan .f32 m = false) (hn : ∀ z ∈ zs, nan .f32 z = false) (h0 : i0 < len) (h1 : S .f32 (zs.getD i0 0) = S .f32 m) (h2 : ∀ j, j < i0 → S .f32 (zs.getD j 0) ≠ S .f32 m) :
    Calls Try.prog 65 #[.slice a len cap, .float .f32 m] w fun e w' => e = .returned (.int .i64 i0) ∧ w = w' := by
  have H := Lib.hid h
  have HN := Lib.hid hn
  have HM := Lib.hid hm
  have H1 := Lib.hid h1
  have H2 := Lib.hid h2
  have hmx : len ≤ 9223372036854775807 := by have := h.2.1; unfold maxLen at this; exact this
  clear h hn hm h1 h2
  go_enter Try.func65, Try.ntmps65
  go_wp2_with fail
  go_loopg [8] (i0 + 1) (fun q i wr => ∃ k : Nat, i = .int .i64 k ∧ Hid (k + q = i0 + 1) ∧ k ≤ i0 ∧ w = wr)
  case atStart => exact ⟨0, rfl, by show _ = _; omega, Nat.zero_le _, rfl⟩
  case round =>
    obtain ⟨k, rfl, hk, hkl, rfl⟩ := hrel
    have hlt : k < len := by omega
    have hlz : (k : Int) < (len : Int) := by omega
    obtain ⟨b, off, rfl, hbl, hc⟩ := H.out.2.2.2 k hlt
    have hz : nan .f32 (zs.getD k 0) = false := HN.out _ (by simp [List.getD, H.out.1, hlt])
    have hq := eqB .f32 m (zs.getD k 0) HM.out hz
    have HJ : Hid (k + 1 + (gk - 1) = i0 + 1) := by have := hk.out; show _ = _; omega
    have HG : Hid (gk - 1 < gk) := by have := hk.out; show _ < _; omega
    by_cases he : k = i0
    · subst he
      rw [decide_eq_true H1.out.symm] at hq
      generalize zs.getD k 0 = v at *
      clear hz
      go_wp2_with fail
      go_ret
      exact ⟨rfl, rfl⟩
    · rw [decide_eq_false (fun e => H2.out k (by omega) e.symm)] at hq
      generalize zs.getD k 0 = v at *
      clear hz
      go_wp2_with fail
      go_roundg (gk - 1)
      case measure => exact HG.out
      case rel => exact ⟨k + 1, by go_num, HJ, by omega, rfl⟩
end Go.Proofs.Ytiebbmgehhcdmaa
