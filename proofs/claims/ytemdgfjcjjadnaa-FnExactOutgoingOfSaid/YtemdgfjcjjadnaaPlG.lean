/-
  Greatest common factors and lowest terms of whole numbers that fit, in both. Conditions: numbers are at most 9000000000000000000.
-/
import Derived.Test.YtemdgfjcjjadnaaCmW
import Derived.Test.YtemdgfjcjjadnaaIntW
import Derived.Test.YtemdgfjcjjadnaaPlP
namespace Pl
open Go Flt
theorem tdiv_nat (a b : Nat) : ((a : Int).tdiv (b : Int)) = ((a / b : Nat) : Int) := (Int.ofNat_tdiv a b).symm
theorem tmod_nat (a b : Nat) : ((a : Int).tmod (b : Int)) = ((a % b : Nat) : Int) := (Int.ofNat_tmod a b).symm
end Pl
namespace Go.Proofs.Ytemdgfjcjjadnaa
open Go.RowKit Flt Dec Cm Pl
set_option maxHeartbeats 1600000 in
theorem c_gcd6 (a b : Nat) (ha : a ≤ 9000000000000000000) (hb : b ≤ 9000000000000000000) (w : World) :
    Calls Try.prog 55 #[.int .i64 (a : Int), .int .i64 (b : Int)] w fun e w' => e = .returned (.int .i64 ((Nat.gcd a b : Nat) : Int)) ∧ w = w' := by
  go_enter Try.func55, Try.ntmps55
  go_wp2_with fail
  go_loopg [0, 1, 5] b (fun n x y r wr => ∃ p q : Nat, x = .int .i64 (p : Int) ∧ y = .int .i64 (q : Int) ∧ p ≤ 9000000000000000000 ∧ q ≤ 9000000000000000000 ∧ Hid (q ≤ n) ∧ Hid (Nat.gcd p q = Nat.gcd a b) ∧ Hid (w = wr))
  case atStart => exact ⟨a, b, rfl, rfl, ha, hb, Nat.le_refl _, rfl, rfl⟩
  case round =>
    obtain ⟨p, q, rfl, rfl, hp, hq, hn, hg, hw⟩ := hrel
    by_cases h0 : q = 0
    · subst h0
      have HE : Hid (p = Nat.gcd a b) := by show _ = _; rw [← hg.out]; exact (Nat.gcd_zero_right p).symm
      go_wp2_with fail
      go_ret
      exact ⟨by rw [← HE.out] <;> rfl, hw.out⟩
    · have hz : ((q : Int) != 0) = true := by simpa using h0
      have hz2 : ¬ ((q : Int) = 0) := by omega
      have hm := tmod_nat p q
      have HL : Hid (p % q < q) := Nat.mod_lt _ (by omega)
      have HG : Hid (gk - 1 < gk ∧ p % q ≤ gk - 1) := by have h1 := hn.out; have h2 := HL.out; show _ ∧ _; omega
      have HGC : Hid (Nat.gcd q (p % q) = Nat.gcd a b) := by show _ = _; rw [← hg.out, Nat.gcd_comm q, ← Nat.gcd_rec q p, Nat.gcd_comm]
      have hv : p % q ≤ 9000000000000000000 := by have := HL.out; omega
      clear HL hn hg
      generalize p % q = v at *
      go_wp2_with fail
      go_roundg (gk - 1)
      case measure => exact HG.out.1
      case rel => exact ⟨q, v, rfl, rfl, hq, hv, HG.out.2, HGC.out, hw.out⟩
set_option maxHeartbeats 1600000 in
theorem c_low6 (a b : Nat) (ha : a ≤ 9000000000000000000) (hb : b ≤ 9000000000000000000) (h1 : 1 ≤ b) (w : World) :
    Calls Try.prog 48 #[.int .i64 (a : Int), .int .i64 (b : Int)] w fun e w' => e = .returned (.tuple #[.int .i64 ((lo1 a b : Nat) : Int), .int .i64 ((lo2 a b : Nat) : Int)]) ∧ Drawn w w' := by
  have HP : 0 < Nat.gcd a b := Nat.gcd_pos_of_pos_right a h1
  unfold lo1 lo2
  obtain ⟨G, hG⟩ : ∃ G, Nat.gcd a b = G := ⟨_, rfl⟩
  rw [hG] at HP ⊢
  obtain ⟨X, hX⟩ : ∃ X, a / G = X := ⟨_, rfl⟩
  obtain ⟨Y, hY⟩ : ∃ Y, b / G = Y := ⟨_, rfl⟩
  have hv1 : X ≤ 9000000000000000000 := by have := Nat.div_le_self a G; omega
  have hv2 : Y ≤ 9000000000000000000 := by have := Nat.div_le_self b G; omega
  rw [hX, hY]
  have HQ1 : Hid ((a : Int).tdiv (G : Int) = (X : Int)) := by show _ = _; rw [tdiv_nat, hX]
  have HQ2 : Hid ((b : Int).tdiv (G : Int) = (Y : Int)) := by show _ = _; rw [tdiv_nat, hY]
  have HPP := Lib.hid HP
  have HGG := Lib.hid hG
  clear hG hX hY HP
  go_enter Try.func48, Try.ntmps48
  go_wp2_with fail
  go_loopg [6, 7] b (fun n x y wr => ∃ p q : Nat, x = .int .i64 (p : Int) ∧ y = .int .i64 (q : Int) ∧ p ≤ 9000000000000000000 ∧ q ≤ 9000000000000000000 ∧ Hid (q ≤ n) ∧ Hid (Nat.gcd p q = Nat.gcd a b) ∧ Hid (Drawn w wr))
  case atStart => exact ⟨a, b, rfl, rfl, ha, hb, Nat.le_refl _, rfl, Drawn.refl _⟩
  case round =>
    obtain ⟨p, q, rfl, rfl, hp, hq, hn, hg, hw⟩ := hrel
    by_cases h0 : q = 0
    · subst h0
      have hpg : p = G := by rw [← HGG.out, ← hg.out]; exact (Nat.gcd_zero_right p).symm
      subst hpg
      have hz2 : ¬ ((p : Int) = 0) := by have := HPP.out; omega
      have hq1 := HQ1.out
      have hq2 := HQ2.out
      clear hg
      go_wp2_with fail
      go_quiet (fail)
      go_wp2_with fail
      go_ret2
      exact ⟨rfl, hw.out.trans ⟨_, rfl⟩⟩
    · have hz : (q : Int) > 0 := by omega
      have hz2 : ¬ ((q : Int) = 0) := by omega
      have hm := tmod_nat p q
      have HL : Hid (p % q < q) := Nat.mod_lt _ (by omega)
      have HG : Hid (gk - 1 < gk ∧ p % q ≤ gk - 1) := by have h1 := hn.out; have h2 := HL.out; show _ ∧ _; omega
      have HGC : Hid (Nat.gcd q (p % q) = Nat.gcd a b) := by show _ = _; rw [← hg.out, Nat.gcd_comm q, ← Nat.gcd_rec q p, Nat.gcd_comm]
      have hv : p % q ≤ 9000000000000000000 := by have := HL.out; omega
      clear HL hn hg
      generalize p % q = v at *
      go_wp2_with fail
      go_quiet (fail)
      go_wp2_with fail
      go_roundg (gk - 1)
      case measure => exact HG.out.1
      case rel => exact ⟨q, v, rfl, rfl, hq, hv, HG.out.2, HGC.out, hw.out.trans ⟨_, rfl⟩⟩
end Go.Proofs.Ytemdgfjcjjadnaa
