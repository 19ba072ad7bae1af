/-
  Greatest common factors, lowest terms, and faults told by those that were found: contracts of both. Conditions: whole numbers lie where the walk says.
-/
import Derived.Test.YtppkeabkjabhdabCmW
import Derived.Test.YtppkeabkjabhdabIntW
namespace We
open Go Flt
theorem tdiv_nat (a b : Nat) : ((a : Int).tdiv (b : Int)) = ((a / b : Nat) : Int) := (Int.ofNat_tdiv a b).symm
theorem tmod_nat (a b : Nat) : ((a : Int).tmod (b : Int)) = ((a % b : Nat) : Int) := (Int.ofNat_tmod a b).symm
/-- how many other faults there are -/
def ffB (s f b : Int) : Bool := decide (1 ≤ s ∧ s ≤ 100000) && (decide (1 ≤ b ∧ b ≤ s) && decide (0 ≤ f ∧ f ≤ 100000))
def ffG (s f b : Int) : Nat := Nat.gcd (s.toNat * f.toNat) b.toNat
def ffX (s f b : Int) : Int := if ffB s f b then ((s.toNat * f.toNat / ffG s f b : Nat) : Int) else 0
def ffY (s f b : Int) : Int := if ffB s f b then ((b.toNat / ffG s f b : Nat) : Int) else 0
theorem ff_no {s f b : Int} (h : ffB s f b = false) : ffX s f b = 0 ∧ ffY s f b = 0 := by unfold ffX ffY; rw [h]; exact ⟨rfl, rfl⟩
theorem ff_yes {s f b : Nat} (h : ffB s f b = true) : ffX s f b = ((s * f / Nat.gcd (s * f) b : Nat) : Int) ∧ ffY s f b = ((b / Nat.gcd (s * f) b : Nat) : Int) := by
  unfold ffX ffY ffG; rw [h]; exact ⟨rfl, rfl⟩
/-- how many faults were not found -/
def one_ (v : Int) (Z : List Int) (k : Nat) : Nat := ((Z.take k).filter fun z => z == v).length
theorem one_0 (v : Int) (Z : List Int) : one_ v Z 0 = 0 := rfl
theorem one_s (v : Int) (Z : List Int) (k : Nat) (h : k < Z.length) : one_ v Z (k + 1) = one_ v Z k + if Z.getD k 0 = v then 1 else 0 := by
  unfold one_
  rw [List.take_succ_eq_append_getElem h, List.filter_append, List.length_append, show Z[k] = Z.getD k 0 from by simp [List.getD, h]]
  congr 1
  by_cases e : Z.getD k 0 = v
  · rw [if_pos e, List.filter_cons_of_pos (by rw [e]; exact beq_self_eq_true v)]; rfl
  · rw [if_neg e, List.filter_cons_of_neg (by simpa using e)]; rfl
theorem one_le (v : Int) (Z : List Int) (k : Nat) : one_ v Z k ≤ k := Nat.le_trans (List.length_filter_le _ _) (by rw [List.length_take]; exact Nat.min_le_left _ _)
def flB (Z : List Int) : Bool := decide (2 ≤ Z.length ∧ Z.length ≤ 48) && Z.all fun z => decide (1 ≤ z ∧ z ≤ 1000)
def flA (Z : List Int) : Nat := one_ 1 Z Z.length * (one_ 1 Z Z.length - 1)
def flC (Z : List Int) : Nat := 2 * (one_ 2 Z Z.length + 1)
def flX (Z : List Int) : Int := if flB Z then ((flA Z / Nat.gcd (flA Z) (flC Z) : Nat) : Int) else 0
def flY (Z : List Int) : Int := if flB Z then ((flC Z / Nat.gcd (flA Z) (flC Z) : Nat) : Int) else 0
theorem fl_no {Z : List Int} (h : flB Z = false) : flX Z = 0 ∧ flY Z = 0 := by unfold flX flY; rw [h]; exact ⟨rfl, rfl⟩
theorem fl_yes {Z : List Int} (h : flB Z = true) : flX Z = ((flA Z / Nat.gcd (flA Z) (flC Z) : Nat) : Int) ∧ flY Z = ((flC Z / Nat.gcd (flA Z) (flC Z) : Nat) : Int) := by unfold flX flY; rw [h]; exact ⟨rfl, rfl⟩
theorem fl_len {Z : List Int} (h : ¬ (2 ≤ Z.length ∧ Z.length ≤ 48)) : flB Z = false := by unfold flB; rw [decide_eq_false h]; rfl
theorem fl_bad {Z : List Int} {k : Nat} (hk : k < Z.length) (h : ¬ (1 ≤ Z.getD k 0 ∧ Z.getD k 0 ≤ 1000)) : flB Z = false := by
  unfold flB
  have : (Z.all fun z => decide (1 ≤ z ∧ z ≤ 1000)) = false := by
    rw [List.all_eq_false]
    exact ⟨Z.getD k 0, by simp [List.getD, hk], by simpa using h⟩
  rw [this, Bool.and_false]
theorem fl_all {Z : List Int} (h : 2 ≤ Z.length ∧ Z.length ≤ 48) (g : ∀ j, j < Z.length → 1 ≤ Z.getD j 0 ∧ Z.getD j 0 ≤ 1000) : flB Z = true := by
  unfold flB
  rw [decide_eq_true h, Bool.true_and, List.all_eq_true]
  intro z hz
  obtain ⟨j, hj, rfl⟩ := List.mem_iff_getElem.1 hz
  have := g j hj
  rw [show Z.getD j 0 = Z[j] from by simp [List.getD, hj]] at this
  exact decide_eq_true this
theorem sq_small {a : Nat} (h : a ≤ 48) : a * (a - 1) ≤ 2256 := by
  have h1 : a * (a - 1) ≤ 48 * 47 := Nat.mul_le_mul h (by omega)
  omega
end We
namespace Go.Proofs.Ytppkeabkjabhdab
open Go.RowKit Flt Dec Cm We
set_option maxHeartbeats 1600000 in
theorem c_lowest (a b : Nat) (ha : a ≤ 10000000000) (hb : b ≤ 10000000000) (h1 : 1 ≤ b) (w : World) :
    Calls Try.prog 53 #[.int .i64 (a : Int), .int .i64 (b : Int)] w fun e w' => e = .returned (.tuple #[.int .i64 ((a / Nat.gcd a b : Nat) : Int), .int .i64 ((b / Nat.gcd a b : Nat) : Int)]) ∧ Drawn w w' := by
  have HP : 0 < Nat.gcd a b := Nat.gcd_pos_of_pos_right a h1
  obtain ⟨G, hG⟩ : ∃ G, Nat.gcd a b = G := ⟨_, rfl⟩
  rw [hG] at HP ⊢
  obtain ⟨X, hX⟩ : ∃ X, a / G = X := ⟨_, rfl⟩
  obtain ⟨Y, hY⟩ : ∃ Y, b / G = Y := ⟨_, rfl⟩
  have hv1 : X ≤ 10000000000 := by have := Nat.div_le_self a G; omega
  have hv2 : Y ≤ 10000000000 := by have := Nat.div_le_self b G; omega
  rw [hX, hY]
  have HQ1 : Hid ((a : Int).tdiv (G : Int) = (X : Int)) := by show _ = _; rw [tdiv_nat, hX]
  have HQ2 : Hid ((b : Int).tdiv (G : Int) = (Y : Int)) := by show _ = _; rw [tdiv_nat, hY]
  have HPP := Lib.hid HP
  have HGG := Lib.hid hG
  clear hG hX hY HP
  go_enter Try.func53, Try.ntmps53
  go_wp2_with fail
  go_loopg [6, 7] b (fun n x y wr => ∃ p q : Nat, x = .int .i64 (p : Int) ∧ y = .int .i64 (q : Int) ∧ p ≤ 10000000000 ∧ q ≤ 10000000000 ∧ Hid (q ≤ n) ∧ Hid (Nat.gcd p q = Nat.gcd a b) ∧ Hid (Drawn w wr))
  case atStart => exact ⟨a, b, rfl, rfl, ha, hb, Nat.le_refl _, rfl, Drawn.refl _⟩
  case round =>
    obtain ⟨p, q, rfl, rfl, hp, hq, hn, hg, hw⟩ := hrel
    by_cases h0 : q = 0
    · subst h0
      have hpg : p = G := by rw [← HGG.out, ← hg.out]; exact (Nat.gcd_zero_right p).symm
      subst hpg
      have hz2 : ¬ ((p : Int) = 0) := by have := HPP.out; omega
      have hq1 := HQ1.out
      have hq2 := HQ2.out
      clear hg
      go_wp2_with fail
      go_quiet (fail)
      go_wp2_with fail
      go_ret2
      exact ⟨rfl, hw.out.trans ⟨_, rfl⟩⟩
    · have hz : (q : Int) > 0 := by omega
      have hz2 : ¬ ((q : Int) = 0) := by omega
      have hm := tmod_nat p q
      have HL : Hid (p % q < q) := Nat.mod_lt _ (by omega)
      have HG : Hid (gk - 1 < gk ∧ p % q ≤ gk - 1) := by have h1 := hn.out; have h2 := HL.out; show _ ∧ _; omega
      have HGC : Hid (Nat.gcd q (p % q) = Nat.gcd a b) := by show _ = _; rw [← hg.out, Nat.gcd_comm q, ← Nat.gcd_rec q p, Nat.gcd_comm]
      have hv : p % q ≤ 10000000000 := by have := HL.out; omega
      clear HL hn hg
      generalize p % q = v at *
      go_wp2_with fail
      go_quiet (fail)
      go_wp2_with fail
      go_roundg (gk - 1)
      case measure => exact HG.out.1
      case rel => exact ⟨q, v, rfl, rfl, hq, hv, HG.out.2, HGC.out, hw.out.trans ⟨_, rfl⟩⟩
end Go.Proofs.Ytppkeabkjabhdab
