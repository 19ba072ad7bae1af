/-
  Contracts: whether a diagram's numbers stand where they may, and the chance at a number. Conditions: the lists read as lists of numbers.
-/
import Derived.Test.YtaecdeickncpcaaDgP
import Derived.Test.YtaecdeickncpcaaWrkW
namespace Flt.Dg
open Go Flt
def atV (M : List Nat) (v : Int) : Nat := if v = -1 then 0 else if v = -2 then 1065353216 else M.getD v.toNat 0
end Flt.Dg
namespace Go.Proofs.Ytaecdeickncpcaa
open Go.RowKit Dec Flt Syl Sep Chn Dg
theorem chanceAt_any (a : Option Addr) (len cap : Nat) (M : List Nat) (v : Int) (w : World) (h : FRow w a len M) (h1 : -2 ≤ v) (h2 : v < len) :
    Calls Try.prog 86 #[.slice a len cap, .int .i64 v] w fun e w' => e = .returned (.float .f32 (atV M v)) ∧ w = w' := by
  by_cases e1 : v = -1
  · subst e1
    go_enter Try.func86, Try.ntmps86
    go_wp2_with fail
    go_ret
    exact ⟨rfl, rfl⟩
  · by_cases e2 : v = -2
    · subst e2
      go_enter Try.func86, Try.ntmps86
      go_wp2_with fail
      go_ret
      exact ⟨rfl, rfl⟩
    · obtain ⟨n, rfl⟩ : ∃ n : Nat, v = n := ⟨v.toNat, by omega⟩
      have hn : n < len := by omega
      obtain ⟨b, off, rfl, _, hc⟩ := h.2.2.2 n hn
      have HE : Hid (atV M (n : Int) = M.getD n 0) := by show _ = _; unfold atV; rw [if_neg e1, if_neg e2, Int.toNat_natCast]
      have f1 : ((n : Int) == -1) = false := by simp
      have f2 : ((n : Int) == -2) = false := by simp
      rw [HE.out]
      generalize M.getD n 0 = x at *
      clear h e1 e2 h1 h2 HE
      go_enter Try.func86, Try.ntmps86
      go_wp2_with fail
      go_ret
      exact ⟨rfl, rfl⟩
set_option maxRecDepth 40000 in
set_option maxHeartbeats 1600000 in
theorem areNodes_any (a : Option Addr) (len cap : Nat) (d : List Int) (m : Nat) (w : World) (h : IRow w a len d) (_hm : m ≤ 1048576) :
    Calls Try.prog 85 #[.slice a len cap, .int .i64 (m : Int)] w fun e w' => e = .returned (.bool (nodB d (m : Int))) ∧ w = w' := by
  have H := Lib.hid h
  have HL := Lib.hid h.1
  have hlm : len ≤ 9223372036854775807 := by have := h.2.1; unfold maxLen at this; exact this
  have htm : (len : Int).tmod 3 = ((len % 3 : Nat) : Int) := (Int.ofNat_tmod len 3).symm
  clear h
  cases hb : lenB len with
  | false =>
    have HN : Hid (nodB d (m : Int) = false) := by show _ = _; unfold nodB; rw [HL.out, hb]; rfl
    rw [HN.out]
    unfold lenB at hb
    by_cases h1 : 3 ≤ len
    · by_cases h2 : len ≤ 3072
      · have h3 : ¬ (len % 3 = 0) := by intro h3; rw [decide_eq_true h1, decide_eq_true h2, decide_eq_true h3] at hb; cases hb
        have h3' : (((len % 3 : Nat) : Int) != 0) = true := by simp; omega
        have h1' : ¬ ((len : Int) < 3) := by omega
        have h2' : ¬ ((3072 : Int) < (len : Int)) := by omega
        generalize len % 3 = r at *
        clear hb
        go_enter Try.func85, Try.ntmps85
        go_wp2_with fail
        go_ret
        exact ⟨rfl, rfl⟩
      · have h1' : ¬ ((len : Int) < 3) := by omega
        have h2' : (3072 : Int) < (len : Int) := by omega
        clear hb
        go_enter Try.func85, Try.ntmps85
        go_wp2_with fail
        go_ret
        exact ⟨rfl, rfl⟩
    · have h1' : (len : Int) < 3 := by omega
      clear hb
      go_enter Try.func85, Try.ntmps85
      go_wp2_with fail
      go_ret
      exact ⟨rfl, rfl⟩
  | true =>
    have HB := Lib.hid hb
    unfold lenB at hb
    simp only [Bool.and_eq_true, decide_eq_true_eq] at hb
    obtain ⟨h1, h2, h3⟩ := hb
    have h1' : ¬ ((len : Int) < 3) := by omega
    have h2' : ¬ ((3072 : Int) < (len : Int)) := by omega
    rw [h3] at htm
    clear h3
    go_enter Try.func85, Try.ntmps85
    go_wp2_with fail
    clear htm
    go_loopg [5, 6, 23] len (fun q _ _ i wr => ∃ k : Nat, i = .int .i64 k ∧ Hid (k + q = len) ∧ k ≤ len ∧ w = wr ∧ Hid (∀ j, j < k → okP d (m : Int) j = true))
    case atStart => exact ⟨0, rfl, by show _ = _; omega, Nat.zero_le _, rfl, fun j hj => absurd hj (Nat.not_lt_zero _)⟩
    case round =>
      obtain ⟨k, rfl, hk, hkl, rfl, hN⟩ := hrel
      by_cases hlt : k < len
      · obtain ⟨b, off, rfl, _, hc⟩ := H.out.2.2.2 k hlt
        have HJ : Hid (k + 1 + (gk - 1) = len) := by have := hk.out; show _ = _; omega
        have HG : Hid (gk - 1 < gk) := by have := hk.out; show _ < _; omega
        have HKL : Hid (k < d.length) := by show _ < _; rw [HL.out]; exact hlt
        have hkm : (k : Int).tmod 3 = ((k % 3 : Nat) : Int) := (Int.ofNat_tmod k 3).symm
        have hkd : (k : Int).tdiv 3 = ((k / 3 : Nat) : Int) := (Int.ofNat_tdiv k 3).symm
        have HOK : Hid (okP d (m : Int) k = if k % 3 = 0 then decide (0 ≤ d.getD k 0 ∧ d.getD k 0 ≤ (m : Int) - 1) else decide (-2 ≤ d.getD k 0 ∧ d.getD k 0 ≤ ((k / 3 : Nat) : Int) - 1)) := rfl
        generalize d.getD k 0 = v at *
        by_cases hr : k % 3 = 0
        · rw [hr] at hkm
          by_cases hv : 0 ≤ v ∧ v ≤ (m : Int) - 1
          · have HY : Hid (okP d (m : Int) k = true) := by show _ = _; rw [HOK.out, if_pos hr]; exact decide_eq_true hv
            have v1 : ¬ (v < 0) := by omega
            have v2 : ¬ ((m : Int) ≤ v) := by omega
            clear hr hv hkd
            go_wp2_with fail
            go_roundg (gk - 1)
            case measure => exact HG.out
            case rel =>
              refine ⟨k + 1, by go_num, HJ, by omega, rfl, (show Hid _ from fun j hj => ?_)⟩
              by_cases e : j = k
              · subst e; exact HY.out
              · exact hN.out j (by omega)
          · have HY : Hid (nodB d (m : Int) = false) := nod_no HKL.out (by rw [HOK.out, if_pos hr]; exact decide_eq_false hv)
            by_cases v1 : v < 0
            · clear hr hv hkd
              go_wp2_with fail
              go_ret
              rw [HY.out]
              exact ⟨rfl, rfl⟩
            · have v2 : (m : Int) ≤ v := by omega
              clear hr hv hkd
              go_wp2_with fail
              go_ret
              rw [HY.out]
              exact ⟨rfl, rfl⟩
        · have hr2 : (((k % 3 : Nat) : Int) == 0) = false := by simp; omega
          by_cases hv : -2 ≤ v ∧ v ≤ ((k / 3 : Nat) : Int) - 1
          · have HY : Hid (okP d (m : Int) k = true) := by show _ = _; rw [HOK.out, if_neg hr]; exact decide_eq_true hv
            have v1 : ¬ (v < -2) := by omega
            have hkb : k / 3 ≤ 3072 := by omega
            generalize k / 3 = kd at *
            generalize k % 3 = km at *
            have v2 : ¬ ((kd : Int) ≤ v) := by omega
            clear hr hv
            go_wp2_with fail
            go_roundg (gk - 1)
            case measure => exact HG.out
            case rel =>
              refine ⟨k + 1, by go_num, HJ, by omega, rfl, (show Hid _ from fun j hj => ?_)⟩
              by_cases e : j = k
              · subst e; exact HY.out
              · exact hN.out j (by omega)
          · have HY : Hid (nodB d (m : Int) = false) := nod_no HKL.out (by rw [HOK.out, if_neg hr]; exact decide_eq_false hv)
            have hkb : k / 3 ≤ 3072 := by omega
            generalize k / 3 = kd at *
            generalize k % 3 = km at *
            by_cases v1 : v < -2
            · clear hr hv
              go_wp2_with fail
              go_ret
              rw [HY.out]
              exact ⟨rfl, rfl⟩
            · have v2 : (kd : Int) ≤ v := by omega
              clear hr hv
              go_wp2_with fail
              go_ret
              rw [HY.out]
              exact ⟨rfl, rfl⟩
      · obtain rfl : k = len := by have := hk.out; omega
        have HY : Hid (nodB d (m : Int) = true) := nod_yes (by rw [HL.out]; exact HB.out) (by rw [HL.out]; exact hN.out)
        clear hlt
        go_wp2_with fail
        go_ret
        rw [HY.out]
        exact ⟨rfl, rfl⟩
end Go.Proofs.Ytaecdeickncpcaa
