/-
  Faults that were not found, told by how often each was found, in both. Conditions: none beyond those stated.
-/
import Derived.Test.YtppkeabkjabhdabFau
import Derived.Test.YtppkeabkjabhdabSysW
import Derived.Test.YtppkeabkjabhdabSep
namespace We
open Go Flt Dec
theorem mul_less (a : Nat) : (a : Int) * ((a : Int) - 1) = ((a * (a - 1) : Nat) : Int) := by
  cases a with
  | zero => rfl
  | succ a => rw [Nat.add_sub_cancel, Int.natCast_mul]; congr 1; omega
end We
namespace Go.Proofs.Ytppkeabkjabhdab
open Go.RowKit Flt Dec Cm We
set_option maxHeartbeats 3200000 in
theorem iFaultsLeft_any (a : Option Addr) (len cap : Nat) (Z : List Int) (w : World) (h : IRow w a len Z) (_hc : len ≤ cap) :
    Calls Try.prog 24 #[.slice a len cap] w fun e w' => e = .returned (.tuple #[.int .i64 (flX Z), .int .i64 (flY Z), .bool (flB Z)]) ∧ Below w.heap.size w w' := by
  have H := Lib.hid h
  have HZL := Lib.hid h.1
  clear h
  by_cases hl : 2 ≤ len ∧ len ≤ 48
  · have hl1 : ¬ ((len : Int) < 2) := by omega
    have hl2 : ¬ ((len : Int) > 48) := by omega
    go_enter Try.func24, Try.ntmps24
    go_wp2_with fail
    go_loopg [5, 6, 21] len (fun n s t i wr => ∃ k p q : Nat, s = .int .i64 (p : Int) ∧ t = .int .i64 (q : Int) ∧ i = .int .i64 (k : Int) ∧ Hid (k + n = len) ∧ k ≤ len ∧ p ≤ k ∧ q ≤ k ∧ Hid (p = one_ 1 Z k ∧ q = one_ 2 Z k) ∧ Hid (∀ j, j < k → 1 ≤ Z.getD j 0 ∧ Z.getD j 0 ≤ 1000) ∧ Hid (w = wr))
    case atStart => exact ⟨0, 0, 0, rfl, rfl, rfl, by show _ = _; omega, Nat.zero_le _, Nat.zero_le _, Nat.zero_le _, ⟨rfl, rfl⟩, fun j hj => absurd hj (Nat.not_lt_zero _), rfl⟩
    case round =>
      obtain ⟨k, p, q, rfl, rfl, rfl, hk, hkl, hp, hq, hN, hA, hw⟩ := hrel
      by_cases hlt : k < len
      · have HJ : Hid (k + 1 + (gk - 1) = len) := by have := hk.out; show _ = _; omega
        have HG : Hid (gk - 1 < gk) := by have := hk.out; show _ < _; omega
        obtain ⟨b, off, rfl, hbl, hc⟩ := H.out.2.2.2 k hlt
        rw [hw.out] at hc
        have HKZ : Hid (k < Z.length) := by show _ < _; rw [HZL.out]; exact hlt
        have HS1 := Lib.hid (one_s 1 Z k HKZ.out)
        have HS2 := Lib.hid (one_s 2 Z k HKZ.out)
        obtain ⟨z, hz⟩ : ∃ z, Z.getD k 0 = z := ⟨_, rfl⟩
        rw [hz] at hc HS1 HS2
        have HZ := Lib.hid hz
        clear hz hbl
        by_cases hr : 1 ≤ z ∧ z ≤ 1000
        · have q1 : ¬ (z < 1) := by omega
          have q2 : ¬ (z > 1000) := by omega
          have HA : Hid (∀ j, j < k + 1 → 1 ≤ Z.getD j 0 ∧ Z.getD j 0 ≤ 1000) := Lib.hid fun j hj => by
            by_cases e : j = k
            · subst e; rw [HZ.out]; exact hr
            · exact hA.out j (by omega)
          by_cases e1 : z = 1
          · have HT : Hid (p + 1 = one_ 1 Z (k + 1) ∧ q = one_ 2 Z (k + 1)) := by
              have h1 := HS1.out; have h2 := HS2.out; have h3 := hN.out
              rw [if_pos e1] at h1
              rw [if_neg (by omega)] at h2
              show _ ∧ _; omega
            subst e1
            go_wp2_with fail
            go_roundg (gk - 1)
            case measure => exact HG.out
            case rel => exact ⟨k + 1, p + 1, q, by go_num, rfl, by go_num, HJ, by omega, by omega, by omega, HT.out, HA.out, hw.out⟩
          · by_cases e2 : z = 2
            · have HT : Hid (p = one_ 1 Z (k + 1) ∧ q + 1 = one_ 2 Z (k + 1)) := by
                have h1 := HS1.out; have h2 := HS2.out; have h3 := hN.out
                rw [if_neg e1] at h1
                rw [if_pos e2] at h2
                show _ ∧ _; omega
              subst e2
              go_wp2_with fail
              go_roundg (gk - 1)
              case measure => exact HG.out
              case rel => exact ⟨k + 1, p, q + 1, rfl, by go_num, by go_num, HJ, by omega, by omega, by omega, HT.out, HA.out, hw.out⟩
            · have HT : Hid (p = one_ 1 Z (k + 1) ∧ q = one_ 2 Z (k + 1)) := by
                have h1 := HS1.out; have h2 := HS2.out; have h3 := hN.out
                rw [if_neg e1] at h1
                rw [if_neg e2] at h2
                show _ ∧ _; omega
              have e3 : (z == 1) = false := by simpa using e1
              have e4 : (z == 2) = false := by simpa using e2
              go_wp2_with fail
              go_roundg (gk - 1)
              case measure => exact HG.out
              case rel => exact ⟨k + 1, p, q, rfl, rfl, by go_num, HJ, by omega, by omega, by omega, HT.out, HA.out, hw.out⟩
        · have HN := Lib.hid (fl_bad HKZ.out (by rw [HZ.out]; exact hr))
          have HM := Lib.hid (fl_no HN.out)
          by_cases q1 : z < 1
          · clear hr
            go_wp2_with fail
            go_ret3
            rw [HM.out.1, HM.out.2, HN.out]
            exact ⟨rfl, by rw [hw.out]; exact Below.refl _ _⟩
          · have q2 : z > 1000 := by omega
            clear hr
            go_wp2_with fail
            go_ret3
            rw [HM.out.1, HM.out.2, HN.out]
            exact ⟨rfl, by rw [hw.out]; exact Below.refl _ _⟩
      · obtain rfl : k = len := by omega
        have hy := fl_all (Z := Z) (by rw [HZL.out]; exact hl) (by rw [HZL.out]; exact hA.out)
        have hx := fl_yes hy
        have hA1 : flA Z = p * (p - 1) := by unfold flA; rw [HZL.out, ← hN.out.1]
        have hC1 : flC Z = 2 * (q + 1) := by unfold flC; rw [HZL.out, ← hN.out.2]
        have HY := Lib.hid hy
        rw [hA1, hC1] at hx
        have hm := mul_less p
        have hsm := sq_small (a := p) (by omega)
        have hm2 : (2 : Int) * ((q : Int) + 1) = ((2 * (q + 1) : Nat) : Int) := by omega
        have C := fun w => Lib.hid (c_lowest (p * (p - 1)) (2 * (q + 1)) (by omega) (by omega) (by omega) w)
        generalize p * (p - 1) = m at *
        generalize 2 * (q + 1) = y at *
        have HX := Lib.hid hx
        clear hx hy hA1 hC1 hlt
        go_wp2_with fail
        refine (C _).out.mono ?_
        rintro e w1 ⟨rfl, d1⟩
        have D := Lib.hid d1
        clear d1
        go_wp2_with fail
        go_ret3
        rw [HX.out.1, HX.out.2, HY.out]
        exact ⟨rfl, by rw [hw.out]; exact D.out.below _⟩
  · have HN := Lib.hid (fl_len (Z := Z) (by rw [HZL.out]; exact hl))
    have HM := Lib.hid (fl_no HN.out)
    by_cases q1 : (len : Int) < 2
    · clear hl
      go_enter Try.func24, Try.ntmps24
      go_wp2_with fail
      go_ret3
      rw [HM.out.1, HM.out.2, HN.out]
      exact ⟨rfl, Below.refl _ _⟩
    · have q2 : (len : Int) > 48 := by omega
      clear hl
      go_enter Try.func24, Try.ntmps24
      go_wp2_with fail
      go_ret3
      rw [HM.out.1, HM.out.2, HN.out]
      exact ⟨rfl, Below.refl _ _⟩
end Go.Proofs.Ytppkeabkjabhdab
