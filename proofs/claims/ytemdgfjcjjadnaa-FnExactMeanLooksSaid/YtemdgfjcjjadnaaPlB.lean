/-
  Contracts: the least plan with small risks, in both. No conditions.
-/
import Derived.Test.YtemdgfjcjjadnaaPlA
namespace Pl
open Go Flt
/-- whether the plan with a number (size less 1, times 64, plus accept) has small risks -/
def okC (l g b r c n : Nat) : Bool := decide (n % 64 ≤ n / 64 + 1) && (decide ((1000 - r) * cho l (n / 64 + 1) ≤ ac l g ((n / 64 + 1 : Nat) : Int) (n % 64 + 1) * 1000) && decide (ac l b ((n / 64 + 1 : Nat) : Int) (n % 64 + 1) * 1000 ≤ c * cho l (n / 64 + 1)))
def bpP (l g b r c : Int) : Prop := 1 ≤ l ∧ l ≤ 40 ∧ 0 ≤ g ∧ g ≤ l ∧ 0 ≤ b ∧ b ≤ l ∧ g < b ∧ 0 ≤ r ∧ r ≤ 1000 ∧ 0 ≤ c ∧ c ≤ 1000
instance (l g b r c : Int) : Decidable (bpP l g b r c) := by unfold bpP; infer_instance
def bpO (l g b r c : Int) : Option Nat := if bpP l g b r c then (List.range (l.toNat * 64)).find? (okC l.toNat g.toNat b.toNat r.toNat c.toNat) else none
def bpS (l g b r c : Int) : Int := match bpO l g b r c with | some n => ((n / 64 + 1 : Nat) : Int) | none => 0
def bpA (l g b r c : Int) : Int := match bpO l g b r c with | some n => ((n % 64 : Nat) : Int) | none => 0
def bpB (l g b r c : Int) : Bool := (bpO l g b r c).isSome
theorem bp_none {l g b r c : Int} (h : bpO l g b r c = none) : bpS l g b r c = 0 ∧ bpA l g b r c = 0 ∧ bpB l g b r c = false := by unfold bpS bpA bpB; rw [h]; exact ⟨rfl, rfl, rfl⟩
theorem bp_some {l g b r c : Int} {n : Nat} (h : bpO l g b r c = some n) : bpS l g b r c = ((n / 64 + 1 : Nat) : Int) ∧ bpA l g b r c = ((n % 64 : Nat) : Int) ∧ bpB l g b r c = true := by unfold bpS bpA bpB; rw [h]; exact ⟨rfl, rfl, rfl⟩
theorem bp_bad {l g b r c : Int} (h : ¬ bpP l g b r c) : bpS l g b r c = 0 ∧ bpA l g b r c = 0 ∧ bpB l g b r c = false := bp_none (by unfold bpO; rw [if_neg h])
theorem bp_found {l g b r c n : Nat} (h : bpP l g b r c) (hn : n < l * 64) (hy : okC l g b r c n = true) (hf : ∀ j, j < n → okC l g b r c j = false) : bpS l g b r c = ((n / 64 + 1 : Nat) : Int) ∧ bpA l g b r c = ((n % 64 : Nat) : Int) ∧ bpB l g b r c = true := by
  refine bp_some ?_
  unfold bpO
  rw [if_pos h]
  show (List.range (l * 64)).find? (okC l g b r c) = some n
  rw [List.find?_range_eq_some]
  exact ⟨hy, List.mem_range.2 hn, fun j hj => by rw [hf j hj]; rfl⟩
theorem bp_all {l g b r c : Nat} (hf : ∀ j, j < l * 64 → okC l g b r c j = false) : bpS l g b r c = 0 ∧ bpA l g b r c = 0 ∧ bpB l g b r c = false := by
  refine bp_none ?_
  unfold bpO
  split
  · show (List.range (l * 64)).find? (okC l g b r c) = none
    rw [List.find?_range_eq_none]
    intro j hj
    rw [hf j hj]; rfl
  · rfl
theorem ok_at {l g b r c i a : Nat} (ha : a ≤ i + 1) (hi : i ≤ 40) : okC l g b r c (i * 64 + a) = (decide ((1000 - r) * cho l (i + 1) ≤ ac l g ((i : Int) + 1) (a + 1) * 1000) && decide (ac l b ((i : Int) + 1) (a + 1) * 1000 ≤ c * cho l (i + 1))) := by
  have h0 := hi
  have h1 : (i * 64 + a) / 64 = i := by omega
  have h2 : (i * 64 + a) % 64 = a := by omega
  unfold okC
  rw [h1, h2, decide_eq_true ha, Bool.true_and, show ((i + 1 : Nat) : Int) = (i : Int) + 1 from by omega]
theorem ok_end {l g b r c i n : Nat} (h : i * 64 + (i + 2) ≤ n) (hn : n < (i + 1) * 64) : okC l g b r c n = false := by
  unfold okC
  rw [decide_eq_false (by omega)]; rfl
/-- the fraction's sign, without common factors or with them -/
theorem lo_ge {X Y p : Nat} (hY : 0 < Y) : p * lo2 X Y ≤ lo1 X Y * 1000 ↔ p * Y ≤ X * 1000 := by
  have hg : 0 < Nat.gcd X Y := Nat.gcd_pos_of_pos_right _ hY
  have e1 : lo1 X Y * Nat.gcd X Y = X := Nat.div_mul_cancel (Nat.gcd_dvd_left X Y)
  have e2 : lo2 X Y * Nat.gcd X Y = Y := Nat.div_mul_cancel (Nat.gcd_dvd_right X Y)
  have f1 : p * lo2 X Y * Nat.gcd X Y = p * Y := by rw [Nat.mul_assoc, e2]
  have f2 : lo1 X Y * 1000 * Nat.gcd X Y = X * 1000 := by rw [Nat.mul_right_comm, e1]
  constructor
  · intro h; have := Nat.mul_le_mul_right (Nat.gcd X Y) h; rwa [f1, f2] at this
  · intro h; rw [← f1, ← f2] at h; exact Nat.le_of_mul_le_mul_right h hg
theorem lo_le' {X Y p : Nat} (hY : 0 < Y) : lo1 X Y * 1000 ≤ p * lo2 X Y ↔ X * 1000 ≤ p * Y := by
  have hg : 0 < Nat.gcd X Y := Nat.gcd_pos_of_pos_right _ hY
  have e1 : lo1 X Y * Nat.gcd X Y = X := Nat.div_mul_cancel (Nat.gcd_dvd_left X Y)
  have e2 : lo2 X Y * Nat.gcd X Y = Y := Nat.div_mul_cancel (Nat.gcd_dvd_right X Y)
  have f1 : p * lo2 X Y * Nat.gcd X Y = p * Y := by rw [Nat.mul_assoc, e2]
  have f2 : lo1 X Y * 1000 * Nat.gcd X Y = X * 1000 := by rw [Nat.mul_right_comm, e1]
  constructor
  · intro h; have := Nat.mul_le_mul_right (Nat.gcd X Y) h; rwa [f1, f2] at this
  · intro h; rw [← f1, ← f2] at h; exact Nat.le_of_mul_le_mul_right h hg
theorem lw_of {l b : Int} (h : 1 ≤ l ∧ l ≤ 40 ∧ 0 ≤ b ∧ b ≤ l) : lwB l b = true := by
  unfold lwB
  rw [decide_eq_true ⟨h.1, h.2.1⟩, decide_eq_true h.2.2]; rfl
theorem lw_in {l b : Int} (h : lwB l b = true) : 1 ≤ l ∧ l ≤ 40 ∧ 0 ≤ b ∧ b ≤ l := by
  unfold lwB at h
  simp only [Bool.and_eq_true, decide_eq_true_eq] at h
  exact ⟨h.1.1, h.1.2, h.2⟩
theorem as_all {l b s a : Nat} (h1 : 1 ≤ l) (h2 : l ≤ 40) (h3 : b ≤ l) (h4 : 1 ≤ s) (h5 : s ≤ l) (h6 : a ≤ s) : asB l b s a = true := by
  unfold asB lwB pfB plB
  simp only [Bool.and_eq_true, decide_eq_true_eq]
  omega
end Pl
namespace Go.Proofs.Ytemdgfjcjjadnaa
open Go.RowKit Flt Dec Cm Pl
theorem c_isRisk (n : Int) (w : World) : Calls Try.prog 52 #[.int .i64 n] w fun e w' => e = .returned (.bool (decide (0 ≤ n ∧ n ≤ 1000))) ∧ w = w' := by
  by_cases h1 : 0 ≤ n
  · have h2 : decide (0 ≤ n ∧ n ≤ 1000) = decide (n ≤ 1000) := by
      by_cases c : n ≤ 1000
      · rw [decide_eq_true c, decide_eq_true ⟨h1, c⟩]
      · rw [decide_eq_false c, decide_eq_false (by omega)]
    rw [h2]
    clear h2
    go_enter Try.func52, Try.ntmps52
    go_wp2_with fail
    all_goals first | (exfalso; omega) | skip
    go_ret
    exact ⟨rfl, rfl⟩
  · rw [decide_eq_false (show ¬ (0 ≤ n ∧ n ≤ 1000) by omega)]
    go_enter Try.func52, Try.ntmps52
    go_wp2_with fail
    all_goals first | (exfalso; omega) | skip
    go_ret
    exact ⟨rfl, rfl⟩
set_option maxHeartbeats 1600000 in
theorem c_share (l b s a p : Nat) (h1 : 1 ≤ l) (h2 : l ≤ 40) (h3 : b ≤ l) (h4 : 1 ≤ s) (h5 : s ≤ l) (h6 : a ≤ s) (hp : p ≤ 1000) (w : World) :
    Calls Try.prog 53 #[.int .i64 (l : Int), .int .i64 (b : Int), .agg #[.int .i64 (s : Int), .int .i64 (a : Int)], .int .i64 (p : Int)] w fun e w' => (∃ v : Int, e = .returned (.int .i64 v) ∧ (0 ≤ v ↔ p * cho l s ≤ ac l b s (a + 1) * 1000) ∧ (v ≤ 0 ↔ ac l b s (a + 1) * 1000 ≤ p * cho l s)) ∧ Below w.heap.size w w' := by
  have hA := as_all h1 h2 h3 h4 h5 h6
  have hx := as_yes hA
  have hl : (l : Int) ≤ 40 := by omega
  rw [show ((a : Int) + 1).toNat = a + 1 from by omega, chI_nat] at hx
  have q1 : ac l b s (a + 1) ≤ 1099511627776 := ac_40 hl _ _ _
  have q2 : cho l s ≤ 1099511627776 := cho_40 h2 s
  have q3 : 0 < cho l s := cho_pos h5
  have g1 := lo_ge (X := ac l b s (a + 1)) (p := p) q3
  have g2 := lo_le' (X := ac l b s (a + 1)) (p := p) q3
  have y1 := lo1_le (ac l b s (a + 1)) (cho l s)
  have y2 := lo2_le (ac l b s (a + 1)) (cho l s)
  have HX := Lib.hid hx
  have HA := Lib.hid hA
  clear hA hx
  have HG : Hid (∀ u v q : Nat, lo1 (ac l b s (a + 1)) (cho l s) = u → lo2 (ac l b s (a + 1)) (cho l s) = v → p * v = q → ((0 ≤ (u : Int) * 1000 - (q : Int) ↔ p * cho l s ≤ ac l b s (a + 1) * 1000) ∧ ((u : Int) * 1000 - (q : Int) ≤ 0 ↔ ac l b s (a + 1) * 1000 ≤ p * cho l s))) := Lib.hid fun u v q e1 e2 e3 => by
    rw [← g1, ← g2, e1, e2, e3]
    exact ⟨by omega, by omega⟩
  obtain ⟨u, hu⟩ : ∃ u, lo1 (ac l b s (a + 1)) (cho l s) = u := ⟨_, rfl⟩
  obtain ⟨v, hv⟩ : ∃ v, lo2 (ac l b s (a + 1)) (cho l s) = v := ⟨_, rfl⟩
  obtain ⟨q, hq⟩ : ∃ q, p * v = q := ⟨_, rfl⟩
  have HZ := Lib.hid (HG.out u v q hu hv hq)
  rw [hu, hv] at HX
  rw [hu] at y1
  rw [hv] at y2
  have hm : (p : Int) * (v : Int) = (q : Int) := by rw [← hq]; exact (Int.natCast_mul p v).symm
  have hqb : q ≤ 1099511627776000 := by
    rw [← hq]
    have := Nat.mul_le_mul hp (show v ≤ 1099511627776 by omega)
    omega
  clear HG hu hv hq g1 g2
  have hb : Below w.heap.size w (w.alloc (.cells #[.int .i64 (s : Int), .int .i64 (a : Int)] 25)) := (Below.refl _ _).alloc (Nat.le_refl _) _
  go_enter Try.func53, Try.ntmps53
  go_wp2_with fail
  refine (iAcceptShare_any (l : Int) (b : Int) (s : Int) (a : Int) _).mono ?_
  rintro e w1 ⟨rfl, b1⟩
  rw [HX.out.1, HX.out.2]
  have B1 := Lib.hid (hb.trans (b1.mono hb.size))
  clear hb b1
  go_wp2_with fail
  go_ret
  exact ⟨⟨_, rfl, HZ.out⟩, B1.out⟩

set_option maxRecDepth 40000 in
set_option maxHeartbeats 8000000 in
theorem sBestPlan_any (l g b r c : Int) (w : World) :
    Calls Try.prog 25 #[.int .i64 l, .int .i64 g, .int .i64 b, .int .i64 r, .int .i64 c] w fun e w' => e = .returned (.tuple #[.agg #[.int .i64 (bpS l g b r c), .int .i64 (bpA l g b r c)], .bool (bpB l g b r c)]) ∧ Below w.heap.size w w' := by
  by_cases t0 : 1 ≤ l ∧ l ≤ 40
  rotate_left
  · have HR := Lib.hid (bp_bad (l := l) (g := g) (b := b) (r := r) (c := c) (fun h => by unfold bpP at h; omega))
    have H0 : Hid (decide (1 ≤ l ∧ l ≤ 40) = false) := decide_eq_false t0
    clear t0
    go_enter Try.func25, Try.ntmps25
    go_wp2_with fail
    refine (c_In l 1 40 _).mono ?_
    rintro e w1 ⟨rfl, rfl⟩
    rw [H0.out]
    go_wp2_with fail
    rw [HR.out.1, HR.out.2.1, HR.out.2.2]
    refine bodyPost_ret (v := .tuple #[.agg #[.int .i64 0, .int .i64 0], .bool false]) (by simp [results, Try.results25, go_sem]) rfl ⟨rfl, ?_⟩
    exact (Below.refl _ _).alloc (Nat.le_refl _) _
  by_cases t1 : 0 ≤ b ∧ b ≤ l
  rotate_left
  · have HR := Lib.hid (bp_bad (l := l) (g := g) (b := b) (r := r) (c := c) (fun h => by unfold bpP at h; omega))
    have H0 : Hid (decide (1 ≤ l ∧ l ≤ 40) = true) := decide_eq_true t0
    have H1 : Hid (decide (0 ≤ b ∧ b ≤ l) = false) := decide_eq_false t1
    clear t0 t1
    go_enter Try.func25, Try.ntmps25
    go_wp2_with fail
    refine (c_In l 1 40 _).mono ?_
    rintro e w1 ⟨rfl, rfl⟩
    rw [H0.out]
    go_wp2_with fail
    refine (c_In b 0 l _).mono ?_
    rintro e w1 ⟨rfl, rfl⟩
    rw [H1.out]
    go_wp2_with fail
    rw [HR.out.1, HR.out.2.1, HR.out.2.2]
    refine bodyPost_ret (v := .tuple #[.agg #[.int .i64 0, .int .i64 0], .bool false]) (by simp [results, Try.results25, go_sem]) rfl ⟨rfl, ?_⟩
    exact (Below.refl _ _).alloc (Nat.le_refl _) _
  by_cases t2 : 0 ≤ g ∧ g ≤ b - 1
  rotate_left
  · have HR := Lib.hid (bp_bad (l := l) (g := g) (b := b) (r := r) (c := c) (fun h => by unfold bpP at h; omega))
    have H0 : Hid (decide (1 ≤ l ∧ l ≤ 40) = true) := decide_eq_true t0
    have H1 : Hid (decide (0 ≤ b ∧ b ≤ l) = true) := decide_eq_true t1
    have H2 : Hid (decide (0 ≤ g ∧ g ≤ b - 1) = false) := decide_eq_false t2
    have hb0 : 0 ≤ b := by omega
    have hb1 : b ≤ 40 := by omega
    clear t0 t1 t2
    go_enter Try.func25, Try.ntmps25
    go_wp2_with fail
    refine (c_In l 1 40 _).mono ?_
    rintro e w1 ⟨rfl, rfl⟩
    rw [H0.out]
    go_wp2_with fail
    refine (c_In b 0 l _).mono ?_
    rintro e w1 ⟨rfl, rfl⟩
    rw [H1.out]
    go_wp2_with fail
    refine (c_In g 0 (b - 1) _).mono ?_
    rintro e w1 ⟨rfl, rfl⟩
    rw [H2.out]
    go_wp2_with fail
    rw [HR.out.1, HR.out.2.1, HR.out.2.2]
    refine bodyPost_ret (v := .tuple #[.agg #[.int .i64 0, .int .i64 0], .bool false]) (by simp [results, Try.results25, go_sem]) rfl ⟨rfl, ?_⟩
    exact (Below.refl _ _).alloc (Nat.le_refl _) _
  by_cases t3 : 0 ≤ r ∧ r ≤ 1000
  rotate_left
  · have HR := Lib.hid (bp_bad (l := l) (g := g) (b := b) (r := r) (c := c) (fun h => by unfold bpP at h; omega))
    have H0 : Hid (decide (1 ≤ l ∧ l ≤ 40) = true) := decide_eq_true t0
    have H1 : Hid (decide (0 ≤ b ∧ b ≤ l) = true) := decide_eq_true t1
    have H2 : Hid (decide (0 ≤ g ∧ g ≤ b - 1) = true) := decide_eq_true t2
    have H3 : Hid (decide (0 ≤ r ∧ r ≤ 1000) = false) := decide_eq_false t3
    have hb0 : 0 ≤ b := by omega
    have hb1 : b ≤ 40 := by omega
    clear t0 t1 t2 t3
    go_enter Try.func25, Try.ntmps25
    go_wp2_with fail
    refine (c_In l 1 40 _).mono ?_
    rintro e w1 ⟨rfl, rfl⟩
    rw [H0.out]
    go_wp2_with fail
    refine (c_In b 0 l _).mono ?_
    rintro e w1 ⟨rfl, rfl⟩
    rw [H1.out]
    go_wp2_with fail
    refine (c_In g 0 (b - 1) _).mono ?_
    rintro e w1 ⟨rfl, rfl⟩
    rw [H2.out]
    go_wp2_with fail
    refine (c_In r 0 1000 _).mono ?_
    rintro e w1 ⟨rfl, rfl⟩
    rw [H3.out]
    go_wp2_with fail
    rw [HR.out.1, HR.out.2.1, HR.out.2.2]
    refine bodyPost_ret (v := .tuple #[.agg #[.int .i64 0, .int .i64 0], .bool false]) (by simp [results, Try.results25, go_sem]) rfl ⟨rfl, ?_⟩
    exact (Below.refl _ _).alloc (Nat.le_refl _) _
  by_cases t4 : 0 ≤ c ∧ c ≤ 1000
  rotate_left
  · have HR := Lib.hid (bp_bad (l := l) (g := g) (b := b) (r := r) (c := c) (fun h => by unfold bpP at h; omega))
    have H0 : Hid (decide (1 ≤ l ∧ l ≤ 40) = true) := decide_eq_true t0
    have H1 : Hid (decide (0 ≤ b ∧ b ≤ l) = true) := decide_eq_true t1
    have H2 : Hid (decide (0 ≤ g ∧ g ≤ b - 1) = true) := decide_eq_true t2
    have H3 : Hid (decide (0 ≤ r ∧ r ≤ 1000) = true) := decide_eq_true t3
    have H4 : Hid (decide (0 ≤ c ∧ c ≤ 1000) = false) := decide_eq_false t4
    have hb0 : 0 ≤ b := by omega
    have hb1 : b ≤ 40 := by omega
    clear t0 t1 t2 t3 t4
    go_enter Try.func25, Try.ntmps25
    go_wp2_with fail
    refine (c_In l 1 40 _).mono ?_
    rintro e w1 ⟨rfl, rfl⟩
    rw [H0.out]
    go_wp2_with fail
    refine (c_In b 0 l _).mono ?_
    rintro e w1 ⟨rfl, rfl⟩
    rw [H1.out]
    go_wp2_with fail
    refine (c_In g 0 (b - 1) _).mono ?_
    rintro e w1 ⟨rfl, rfl⟩
    rw [H2.out]
    go_wp2_with fail
    refine (c_In r 0 1000 _).mono ?_
    rintro e w1 ⟨rfl, rfl⟩
    rw [H3.out]
    go_wp2_with fail
    refine (c_In c 0 1000 _).mono ?_
    rintro e w1 ⟨rfl, rfl⟩
    rw [H4.out]
    go_wp2_with fail
    rw [HR.out.1, HR.out.2.1, HR.out.2.2]
    refine bodyPost_ret (v := .tuple #[.agg #[.int .i64 0, .int .i64 0], .bool false]) (by simp [results, Try.results25, go_sem]) rfl ⟨rfl, ?_⟩
    exact (Below.refl _ _).alloc (Nat.le_refl _) _
  have HPP : Hid (bpP l g b r c) := by show bpP l g b r c; unfold bpP; omega
  obtain ⟨l, rfl⟩ : ∃ m : Nat, l = m := ⟨l.toNat, by omega⟩
  obtain ⟨g, rfl⟩ : ∃ m : Nat, g = m := ⟨g.toNat, by omega⟩
  obtain ⟨b, rfl⟩ : ∃ m : Nat, b = m := ⟨b.toNat, by omega⟩
  obtain ⟨r, rfl⟩ : ∃ m : Nat, r = m := ⟨r.toNat, by omega⟩
  obtain ⟨c, rfl⟩ : ∃ m : Nat, c = m := ⟨c.toNat, by omega⟩
  have H0 : Hid (decide (1 ≤ (l : Int) ∧ (l : Int) ≤ 40) = true) := decide_eq_true t0
  have H1 : Hid (decide (0 ≤ (b : Int) ∧ (b : Int) ≤ (l : Int)) = true) := decide_eq_true t1
  have H2 : Hid (decide (0 ≤ (g : Int) ∧ (g : Int) ≤ (b : Int) - 1) = true) := decide_eq_true t2
  have H3 : Hid (decide (0 ≤ (r : Int) ∧ (r : Int) ≤ 1000) = true) := decide_eq_true t3
  have H4 : Hid (decide (0 ≤ (c : Int) ∧ (c : Int) ≤ 1000) = true) := decide_eq_true t4
  have hl0 : 1 ≤ l := by omega
  have hl1 : l ≤ 40 := by omega
  have hli : (l : Int) ≤ 40 := by omega
  have hbl : b ≤ l := by omega
  have hgb : g < b := by omega
  have hr1 : r ≤ 1000 := by omega
  have hc1 : c ≤ 1000 := by omega
  have CG := fun (i a : Nat) (hi : i < l) (ha : a ≤ i + 1) w => Lib.hid (c_Sets l g ((i : Int) + 1) a hli (by omega) (by omega) (by omega) (by omega) (by omega) w)
  have CB := fun (i a : Nat) (hi : i < l) (ha : a ≤ i + 1) w => Lib.hid (c_Sets l b ((i : Int) + 1) a hli (by omega) (by omega) (by omega) (by omega) (by omega) w)
  have CA := fun (i : Nat) (hi : i < l) w => Lib.hid (c_Choose l ((i : Int) + 1) hli w)
  clear t0 t1 t2 t3 t4
  go_enter Try.func25, Try.ntmps25
  go_wp2_with fail
  refine (c_In (l : Int) 1 40 _).mono ?_
  rintro e w1 ⟨rfl, rfl⟩
  rw [H0.out]
  go_wp2_with fail
  refine (c_In (b : Int) 0 l _).mono ?_
  rintro e w1 ⟨rfl, rfl⟩
  rw [H1.out]
  go_wp2_with fail
  refine (c_In (g : Int) 0 ((b : Int) - 1) _).mono ?_
  rintro e w1 ⟨rfl, rfl⟩
  rw [H2.out]
  go_wp2_with fail
  refine (c_In (r : Int) 0 1000 _).mono ?_
  rintro e w1 ⟨rfl, rfl⟩
  rw [H3.out]
  go_wp2_with fail
  refine (c_In (c : Int) 0 1000 _).mono ?_
  rintro e w1 ⟨rfl, rfl⟩
  rw [H4.out]
  go_wp2_with fail
  have HB0 := Lib.hid (Blk.Blk.new w #[.int .i64 0, .int .i64 0] 25)
  have BB0 : Hid (Below w.heap.size w (w.alloc (.cells #[.int .i64 0, .int .i64 0] 25))) := (Below.refl _ _).alloc (Nat.le_refl _) _
  clear H0 H1 H2 H3 H4
  go_loopg [12, 13, 14] l (fun n v12 v13 v14 wr => ∃ i : Nat, v12 = .int .i64 ((i : Int) + 1) ∧ Hid (i + n = l) ∧ i ≤ l ∧ Hid (∀ j, j < i * 64 → okC l g b r c j = false) ∧ Hid (Below w.heap.size w wr) ∧ Hid (Blk.Blk wr w.heap.size [.int .i64 0, .int .i64 0] 25))
  case atStart => exact ⟨0, by go_num, by show _ = _; omega, Nat.zero_le _, (show Hid _ from fun j hj => by omega), BB0.out, HB0.out⟩
  case round =>
    clear BB0 HB0
    obtain ⟨i, rfl, hk, hi, hN, hB, hR⟩ := hrel
    by_cases hlt : i < l
    · have HJ : Hid (i + 1 + (gk - 1) = l ∧ gk - 1 < gk) := by have := hk.out; show _ ∧ _; omega
      have hltI : (i : Int) + 1 ≤ (l : Int) := by omega
      have hCA := CA i hlt
      rw [show (i : Int) + 1 = ((i + 1 : Nat) : Int) from by omega, chI_nat] at hCA
      rw [show ((i + 1 : Nat) : Int) = (i : Int) + 1 from by omega] at hCA
      have CG' := fun (a : Nat) (ha : a ≤ i + 1) => CG i a hlt ha
      have CB' := fun (a : Nat) (ha : a ≤ i + 1) => CB i a hlt ha
      have HOK := Lib.hid (fun (a : Nat) (ha : a ≤ i + 1) => ok_at (l := l) (g := g) (b := b) (r := r) (c := c) ha (show i ≤ 40 by omega))
      have hAb : cho l (i + 1) ≤ 1099511627776 := cho_40 hl1 _
      obtain ⟨A, hA⟩ : ∃ A, cho l (i + 1) = A := ⟨_, rfl⟩
      rw [hA] at hCA HOK hAb
      obtain ⟨R, hRm⟩ : ∃ R, (1000 - r) * A = R := ⟨_, rfl⟩
      obtain ⟨Q, hQm⟩ : ∃ Q, c * A = Q := ⟨_, rfl⟩
      rw [hRm, hQm] at HOK
      have hmR : ((1000 : Int) - (r : Int)) * (A : Int) = (R : Int) := by rw [← hRm, Int.natCast_mul]; congr 1; omega
      have hmQ : (c : Int) * (A : Int) = (Q : Int) := by rw [← hQm]; exact (Int.natCast_mul _ _).symm
      have hRb : R ≤ 1099511627776000 := by rw [← hRm]; have := Nat.mul_le_mul (show 1000 - r ≤ 1000 by omega) hAb; omega
      have hQb : Q ≤ 1099511627776000 := by rw [← hQm]; have := Nat.mul_le_mul hc1 hAb; omega
      clear hA hRm hQm CG CB CA hk
      go_wp2_with fail
      refine (hCA _).out.mono ?_
      rintro e w2 ⟨rfl, rfl⟩
      go_wp2_with fail
      clear hCA
      generalize go1 : gk = go0 at *
      clear go1
      generalize wr = wo at *
      go_loopg [14] (i + 2) (fun n v14 wr => ∃ a : Nat, v14 = .int .i64 (a : Int) ∧ Hid (a + n = i + 2) ∧ a ≤ i + 2 ∧ Hid (∀ j, j < i * 64 + a → okC l g b r c j = false) ∧ Hid (wo = wr))
      case atStart => exact ⟨0, by go_num, by show _ = _; omega, Nat.zero_le _, hN.out, rfl⟩
      case round =>
        obtain ⟨a, rfl, hka, ha, hNa, hw⟩ := hrel
        by_cases hla : a ≤ i + 1
        · have HJa : Hid (a + 1 + (gk - 1) = i + 2 ∧ gk - 1 < gk) := by have := hka.out; show _ ∧ _; omega
          have hlaI : (a : Int) ≤ (i : Int) + 1 := by omega
          have hCG := CG' a hla
          have hCB := CB' a hla
          rw [show ((a : Int) + 1).toNat = a + 1 from by omega] at hCG hCB
          have hxb : ac l g ((i : Int) + 1) (a + 1) ≤ 1099511627776 := ac_40 hli _ _ _
          have hyb : ac l b ((i : Int) + 1) (a + 1) ≤ 1099511627776 := ac_40 hli _ _ _
          have HO := Lib.hid (HOK.out a hla)
          generalize ac l g ((i : Int) + 1) (a + 1) = x at *
          generalize ac l b ((i : Int) + 1) (a + 1) = y at *
          have HN1 : Hid (okC l g b r c (i * 64 + a) = false → ∀ j, j < i * 64 + (a + 1) → okC l g b r c j = false) := Lib.hid fun h j hj => by
            by_cases e : j = i * 64 + a
            · rw [e]; exact h
            · exact hNa.out j (by omega)
          by_cases c1 : R ≤ x * 1000
          · have c1' : (x : Int) * 1000 ≥ (R : Int) := by omega
            by_cases c2 : y * 1000 ≤ Q
            · have c2' : (y : Int) * 1000 ≤ (Q : Int) := by omega
              have HF := Lib.hid (bp_found HPP.out (show i * 64 + a < l * 64 by omega) (by rw [HO.out, decide_eq_true c1, decide_eq_true c2]; rfl) hNa.out)
              have HDM : Hid ((i * 64 + a) / 64 = i ∧ (i * 64 + a) % 64 = a) := by show _ ∧ _; omega
              obtain ⟨⟨z0, z1⟩, ⟨f0, f1⟩, _⟩ := hR.out.two
              rw [hw.out] at z0 z1 f0 f1
              have HS := Lib.hid ((((hw.out ▸ hR.out : Blk.Blk wr w.heap.size [.int .i64 0, .int .i64 0] 25)).set 0 (.int .i64 ((i : Int) + 1))).set 1 (.int .i64 (a : Int)))
              have HBB : Hid (Below w.heap.size w wr) := by have := hB.out; rw [hw.out] at this; exact this
              clear c1 c2 hka CG' CB'
              go_wp2_with fail
              refine (hCG _).out.mono ?_
              rintro e w2 ⟨rfl, rfl⟩
              go_wp2_with fail
              refine (hCB _).out.mono ?_
              rintro e w2 ⟨rfl, rfl⟩
              go_wp2_with fail
              obtain ⟨⟨s0, s1⟩, _, _⟩ := HS.out.two
              rw [HF.out.1, HF.out.2.1, HF.out.2.2, HDM.out.1, HDM.out.2, show ((i + 1 : Nat) : Int) = (i : Int) + 1 from by omega]
              refine bodyPost_ret (v := .tuple #[.agg #[.int .i64 ((i : Int) + 1), .int .i64 (a : Int)], .bool true]) (by simp [results, Try.results25, go_sem, s0, s1]) rfl ⟨rfl, ?_⟩
              exact (HBB.out.setCell (Nat.le_refl _) _).setCell (Nat.le_refl _) _
            · have c2' : ¬ ((y : Int) * 1000 ≤ (Q : Int)) := by omega
              have HN2 := Lib.hid (HN1.out (by rw [HO.out, decide_eq_false c2, Bool.and_false]))
              clear c1 c2 hka CG' CB' HO HN1
              go_wp2_with fail
              refine (hCG _).out.mono ?_
              rintro e w2 ⟨rfl, rfl⟩
              go_wp2_with fail
              refine (hCB _).out.mono ?_
              rintro e w2 ⟨rfl, rfl⟩
              go_wp2_with fail
              go_roundg (gk - 1)
              case measure => exact HJa.out.2
              case rel => exact ⟨a + 1, by go_num, HJa.out.1, by omega, HN2.out, hw.out⟩
          · have c1' : ¬ ((x : Int) * 1000 ≥ (R : Int)) := by omega
            have HN2 := Lib.hid (HN1.out (by rw [HO.out, decide_eq_false c1, Bool.false_and]))
            clear c1 hka CG' CB' HO HN1
            go_wp2_with fail
            refine (hCG _).out.mono ?_
            rintro e w2 ⟨rfl, rfl⟩
            go_wp2_with fail
            go_roundg (gk - 1)
            case measure => exact HJa.out.2
            case rel => exact ⟨a + 1, by go_num, HJa.out.1, by omega, HN2.out, hw.out⟩
        · have hlaI : ¬ ((a : Int) ≤ (i : Int) + 1) := by omega
          have HNN : Hid (∀ j, j < (i + 1) * 64 → okC l g b r c j = false) := Lib.hid fun j hj => by
            by_cases e : j < i * 64 + a
            · exact hNa.out j e
            · exact ok_end (i := i) (by omega) hj
          have HBB : Hid (Below w.heap.size w wr) := by have := hB.out; rw [hw.out] at this; exact this
          have HRR : Hid (Blk.Blk wr w.heap.size [.int .i64 0, .int .i64 0] 25) := hw.out ▸ hR.out
          clear hla hka CG' CB' hNa HOK
          go_wp2_with fail
          go_roundg (go0 - 1)
          case measure => exact HJ.out.2
          case rel => exact ⟨i + 1, by go_num, HJ.out.1, by omega, HNN.out, HBB.out, HRR.out⟩
    · obtain rfl : i = l := by omega
      have hltI : ¬ ((i : Int) + 1 ≤ (i : Int)) := by omega
      have HF := Lib.hid (bp_all hN.out)
      obtain ⟨⟨z0, z1⟩, ⟨f0, f1⟩, _⟩ := hR.out.two
      have HS := Lib.hid ((hR.out.set 0 (.int .i64 0)).set 1 (.int .i64 0))
      clear hlt hk CG CB CA hN
      go_wp2_with fail
      obtain ⟨⟨s0, s1⟩, _, _⟩ := HS.out.two
      rw [HF.out.1, HF.out.2.1, HF.out.2.2]
      refine bodyPost_ret (v := .tuple #[.agg #[.int .i64 0, .int .i64 0], .bool false]) (by simp [results, Try.results25, go_sem, s0, s1]) rfl ⟨rfl, ?_⟩
      exact (hB.out.setCell (Nat.le_refl _) _).setCell (Nat.le_refl _) _
set_option maxRecDepth 40000 in
set_option maxHeartbeats 8000000 in
theorem iBestPlan_any (l g b r c : Int) (w : World) :
    Calls Try.prog 26 #[.int .i64 l, .int .i64 g, .int .i64 b, .int .i64 r, .int .i64 c] w fun e w' => e = .returned (.tuple #[.agg #[.int .i64 (bpS l g b r c), .int .i64 (bpA l g b r c)], .bool (bpB l g b r c)]) ∧ Below w.heap.size w w' := by
  by_cases t0 : lwB l g = true
  rotate_left
  · have HR := Lib.hid (bp_bad (l := l) (g := g) (b := b) (r := r) (c := c) (fun h => t0 (lw_of ⟨h.1, h.2.1, h.2.2.1, h.2.2.2.1⟩)))
    have H0 : Hid (lwB l g = false) := eq_false_of_ne_true t0
    clear t0
    go_enter Try.func26, Try.ntmps26
    go_wp2_with fail
    refine (c_isLotWith l g _).mono ?_
    rintro e w1 ⟨rfl, rfl⟩
    rw [H0.out]
    go_wp2_with fail
    rw [HR.out.1, HR.out.2.1, HR.out.2.2]
    refine bodyPost_ret (v := .tuple #[.agg #[.int .i64 0, .int .i64 0], .bool false]) (by simp [results, Try.results26, go_sem]) rfl ⟨rfl, ?_⟩
    exact (Below.refl _ _).alloc (Nat.le_refl _) _
  by_cases t1 : lwB l b = true
  rotate_left
  · have HR := Lib.hid (bp_bad (l := l) (g := g) (b := b) (r := r) (c := c) (fun h => t1 (lw_of ⟨h.1, h.2.1, h.2.2.2.2.1, h.2.2.2.2.2.1⟩)))
    have H0 : Hid (lwB l g = true) := t0
    have H1 : Hid (lwB l b = false) := eq_false_of_ne_true t1
    clear t0 t1
    go_enter Try.func26, Try.ntmps26
    go_wp2_with fail
    refine (c_isLotWith l g _).mono ?_
    rintro e w1 ⟨rfl, rfl⟩
    rw [H0.out]
    go_wp2_with fail
    refine (c_isLotWith l b _).mono ?_
    rintro e w1 ⟨rfl, rfl⟩
    rw [H1.out]
    go_wp2_with fail
    rw [HR.out.1, HR.out.2.1, HR.out.2.2]
    refine bodyPost_ret (v := .tuple #[.agg #[.int .i64 0, .int .i64 0], .bool false]) (by simp [results, Try.results26, go_sem]) rfl ⟨rfl, ?_⟩
    exact (Below.refl _ _).alloc (Nat.le_refl _) _
  by_cases t2 : g < b
  rotate_left
  · have HR := Lib.hid (bp_bad (l := l) (g := g) (b := b) (r := r) (c := c) (fun h => by unfold bpP at h; omega))
    have H0 : Hid (lwB l g = true) := t0
    have H1 : Hid (lwB l b = true) := t1
    have hge : decide (b ≤ g) = true := decide_eq_true (by omega)
    clear t0 t1 t2
    go_enter Try.func26, Try.ntmps26
    go_wp2_with fail
    refine (c_isLotWith l g _).mono ?_
    rintro e w1 ⟨rfl, rfl⟩
    rw [H0.out]
    go_wp2_with fail
    refine (c_isLotWith l b _).mono ?_
    rintro e w1 ⟨rfl, rfl⟩
    rw [H1.out]
    go_wp2_with fail
    rw [HR.out.1, HR.out.2.1, HR.out.2.2]
    refine bodyPost_ret (v := .tuple #[.agg #[.int .i64 0, .int .i64 0], .bool false]) (by simp [results, Try.results26, go_sem]) rfl ⟨rfl, ?_⟩
    exact (Below.refl _ _).alloc (Nat.le_refl _) _
  by_cases t3 : 0 ≤ r ∧ r ≤ 1000
  rotate_left
  · have HR := Lib.hid (bp_bad (l := l) (g := g) (b := b) (r := r) (c := c) (fun h => by unfold bpP at h; omega))
    have H0 : Hid (lwB l g = true) := t0
    have H1 : Hid (lwB l b = true) := t1
    have hge : decide (b ≤ g) = false := decide_eq_false (by omega)
    have H3 : Hid (decide (0 ≤ r ∧ r ≤ 1000) = false) := decide_eq_false t3
    clear t0 t1 t2 t3
    go_enter Try.func26, Try.ntmps26
    go_wp2_with fail
    refine (c_isLotWith l g _).mono ?_
    rintro e w1 ⟨rfl, rfl⟩
    rw [H0.out]
    go_wp2_with fail
    refine (c_isLotWith l b _).mono ?_
    rintro e w1 ⟨rfl, rfl⟩
    rw [H1.out]
    go_wp2_with fail
    refine (c_isRisk r _).mono ?_
    rintro e w1 ⟨rfl, rfl⟩
    rw [H3.out]
    go_wp2_with fail
    rw [HR.out.1, HR.out.2.1, HR.out.2.2]
    refine bodyPost_ret (v := .tuple #[.agg #[.int .i64 0, .int .i64 0], .bool false]) (by simp [results, Try.results26, go_sem]) rfl ⟨rfl, ?_⟩
    exact (Below.refl _ _).alloc (Nat.le_refl _) _
  by_cases t4 : 0 ≤ c ∧ c ≤ 1000
  rotate_left
  · have HR := Lib.hid (bp_bad (l := l) (g := g) (b := b) (r := r) (c := c) (fun h => by unfold bpP at h; omega))
    have H0 : Hid (lwB l g = true) := t0
    have H1 : Hid (lwB l b = true) := t1
    have hge : decide (b ≤ g) = false := decide_eq_false (by omega)
    have H3 : Hid (decide (0 ≤ r ∧ r ≤ 1000) = true) := decide_eq_true t3
    have H4 : Hid (decide (0 ≤ c ∧ c ≤ 1000) = false) := decide_eq_false t4
    clear t0 t1 t2 t3 t4
    go_enter Try.func26, Try.ntmps26
    go_wp2_with fail
    refine (c_isLotWith l g _).mono ?_
    rintro e w1 ⟨rfl, rfl⟩
    rw [H0.out]
    go_wp2_with fail
    refine (c_isLotWith l b _).mono ?_
    rintro e w1 ⟨rfl, rfl⟩
    rw [H1.out]
    go_wp2_with fail
    refine (c_isRisk r _).mono ?_
    rintro e w1 ⟨rfl, rfl⟩
    rw [H3.out]
    go_wp2_with fail
    refine (c_isRisk c _).mono ?_
    rintro e w1 ⟨rfl, rfl⟩
    rw [H4.out]
    go_wp2_with fail
    rw [HR.out.1, HR.out.2.1, HR.out.2.2]
    refine bodyPost_ret (v := .tuple #[.agg #[.int .i64 0, .int .i64 0], .bool false]) (by simp [results, Try.results26, go_sem]) rfl ⟨rfl, ?_⟩
    exact (Below.refl _ _).alloc (Nat.le_refl _) _
  have hP := lw_in t0
  have hP2 := lw_in t1
  have HPP : Hid (bpP l g b r c) := by show bpP l g b r c; unfold bpP; omega
  have H0 := Lib.hid t0
  have H1 := Lib.hid t1
  have H3 : Hid (decide (0 ≤ r ∧ r ≤ 1000) = true) := decide_eq_true t3
  have H4 : Hid (decide (0 ≤ c ∧ c ≤ 1000) = true) := decide_eq_true t4
  clear t0 t1
  obtain ⟨l, rfl⟩ : ∃ m : Nat, l = m := ⟨l.toNat, by omega⟩
  obtain ⟨g, rfl⟩ : ∃ m : Nat, g = m := ⟨g.toNat, by omega⟩
  obtain ⟨b, rfl⟩ : ∃ m : Nat, b = m := ⟨b.toNat, by omega⟩
  obtain ⟨r, rfl⟩ : ∃ m : Nat, r = m := ⟨r.toNat, by omega⟩
  obtain ⟨c, rfl⟩ : ∃ m : Nat, c = m := ⟨c.toNat, by omega⟩
  have hl0 : 1 ≤ l := by omega
  have hl1 : l ≤ 40 := by omega
  have hbl : b ≤ l := by omega
  have hgl : g ≤ l := by omega
  have hge : decide (b ≤ g) = false := decide_eq_false (by omega)
  have hge0 : ¬ ((b : Int) ≤ (g : Int)) := by omega
  have hr1 : r ≤ 1000 := by omega
  have hc1 : c ≤ 1000 := by omega
  have CG : ∀ (i a : Nat) (_ : i < l) (_ : a ≤ i + 1) w, Hid (Calls Try.prog 53 #[.int .i64 (l : Int), .int .i64 (g : Int), .agg #[.int .i64 ((i : Int) + 1), .int .i64 (a : Int)], .int .i64 ((1000 : Int) - (r : Int))] w fun e w' => (∃ v : Int, e = .returned (.int .i64 v) ∧ (0 ≤ v ↔ (1000 - r) * cho l (i + 1) ≤ ac l g ((i : Int) + 1) (a + 1) * 1000) ∧ (v ≤ 0 ↔ ac l g ((i : Int) + 1) (a + 1) * 1000 ≤ (1000 - r) * cho l (i + 1))) ∧ Below w.heap.size w w') := fun i a hi ha w => by
    have h := c_share l g (i + 1) a (1000 - r) hl0 hl1 hgl (by omega) (by omega) ha (by omega) w
    rw [show ((1000 - r : Nat) : Int) = (1000 : Int) - (r : Int) from by omega, show ((i + 1 : Nat) : Int) = (i : Int) + 1 from by omega] at h
    exact h
  have CB : ∀ (i a : Nat) (_ : i < l) (_ : a ≤ i + 1) w, Hid (Calls Try.prog 53 #[.int .i64 (l : Int), .int .i64 (b : Int), .agg #[.int .i64 ((i : Int) + 1), .int .i64 (a : Int)], .int .i64 (c : Int)] w fun e w' => (∃ v : Int, e = .returned (.int .i64 v) ∧ (0 ≤ v ↔ c * cho l (i + 1) ≤ ac l b ((i : Int) + 1) (a + 1) * 1000) ∧ (v ≤ 0 ↔ ac l b ((i : Int) + 1) (a + 1) * 1000 ≤ c * cho l (i + 1))) ∧ Below w.heap.size w w') := fun i a hi ha w => by
    have h := c_share l b (i + 1) a c hl0 hl1 hbl (by omega) (by omega) ha hc1 w
    rw [show ((i + 1 : Nat) : Int) = (i : Int) + 1 from by omega] at h
    exact h
  clear hP hP2 t2 t3 t4
  go_enter Try.func26, Try.ntmps26
  go_wp2_with fail
  refine (c_isLotWith (l : Int) (g : Int) _).mono ?_
  rintro e w1 ⟨rfl, rfl⟩
  rw [H0.out]
  go_wp2_with fail
  refine (c_isLotWith (l : Int) (b : Int) _).mono ?_
  rintro e w1 ⟨rfl, rfl⟩
  rw [H1.out]
  go_wp2_with fail
  refine (c_isRisk (r : Int) _).mono ?_
  rintro e w1 ⟨rfl, rfl⟩
  rw [H3.out]
  go_wp2_with fail
  refine (c_isRisk (c : Int) _).mono ?_
  rintro e w1 ⟨rfl, rfl⟩
  rw [H4.out]
  go_wp2_with fail
  have HB0 := Lib.hid (Blk.Blk.new w #[.int .i64 0, .int .i64 0] 25)
  have BB0 : Hid (Below w.heap.size w (w.alloc (.cells #[.int .i64 0, .int .i64 0] 25))) := (Below.refl _ _).alloc (Nat.le_refl _) _
  clear H0 H1 H3 H4 hge hge0
  go_loopg [12, 13, 14, 15, 43] l (fun n v12 v13 v14 v15 v43 wr => ∃ i : Nat, v43 = .int .i64 (i : Int) ∧ Hid (i + n = l) ∧ i ≤ l ∧ Hid (∀ j, j < i * 64 → okC l g b r c j = false) ∧ Hid (Below w.heap.size w wr) ∧ Hid (Blk.Blk wr w.heap.size [.int .i64 0, .int .i64 0] 25))
  case atStart => exact ⟨0, by go_num, by show _ = _; omega, Nat.zero_le _, (show Hid _ from fun j hj => by omega), BB0.out, HB0.out⟩
  case round =>
    clear BB0 HB0
    obtain ⟨i, rfl, hk, hi, hN, hB, hR⟩ := hrel
    by_cases hlt : i < l
    · have HJ : Hid (i + 1 + (gk - 1) = l ∧ gk - 1 < gk) := by have := hk.out; show _ ∧ _; omega
      have hltI : (i : Int) < (l : Int) := by omega
      have CG' := fun (a : Nat) (ha : a ≤ i + 1) => CG i a hlt ha
      have CB' := fun (a : Nat) (ha : a ≤ i + 1) => CB i a hlt ha
      have HOK := Lib.hid (fun (a : Nat) (ha : a ≤ i + 1) => ok_at (l := l) (g := g) (b := b) (r := r) (c := c) ha (show i ≤ 40 by omega))
      clear CG CB hk
      go_wp2_with fail
      generalize go1 : gk = go0 at *
      clear go1
      generalize wr = wo at *
      go_loopg [14, 15, 50] (i + 2) (fun n v14 v15 v50 wr => ∃ a : Nat, v50 = .int .i64 (a : Int) ∧ Hid (a + n = i + 2) ∧ a ≤ i + 2 ∧ Hid (∀ j, j < i * 64 + a → okC l g b r c j = false) ∧ Hid (Below w.heap.size w wr) ∧ Hid (Blk.Blk wr w.heap.size [.int .i64 0, .int .i64 0] 25))
      case atStart => exact ⟨0, by go_num, by show _ = _; omega, Nat.zero_le _, hN.out, hB.out, hR.out⟩
      case round =>
        clear hB hR
        obtain ⟨a, rfl, hka, ha, hNa, hB, hR⟩ := hrel
        by_cases hla : a ≤ i + 1
        · have HJa : Hid (a + 1 + (gk - 1) = i + 2 ∧ gk - 1 < gk) := by have := hka.out; show _ ∧ _; omega
          have hlaI : (a : Int) < (i : Int) + 2 := by omega
          have hCG := CG' a hla
          have hCB := CB' a hla
          have HO := Lib.hid (HOK.out a hla)
          have HN1 : Hid (okC l g b r c (i * 64 + a) = false → ∀ j, j < i * 64 + (a + 1) → okC l g b r c j = false) := Lib.hid fun h j hj => by
            by_cases e : j = i * 64 + a
            · rw [e]; exact h
            · exact hNa.out j (by omega)
          obtain ⟨pg, hpg⟩ : ∃ p : Bool, decide ((1000 - r) * cho l (i + 1) ≤ ac l g ((i : Int) + 1) (a + 1) * 1000) = p := ⟨_, rfl⟩
          obtain ⟨pb, hpb⟩ : ∃ p : Bool, decide (ac l b ((i : Int) + 1) (a + 1) * 1000 ≤ c * cho l (i + 1)) = p := ⟨_, rfl⟩
          rw [hpg, hpb] at HO
          have HPG := Lib.hid hpg
          have HPB := Lib.hid hpb
          have HP0 := Lib.hid (Blk.Blk.new wr #[.int .i64 ((i : Int) + 1), .int .i64 (a : Int)] 25)
          have HR1 := Lib.hid (hR.out.alloc (.cells #[.int .i64 ((i : Int) + 1), .int .i64 (a : Int)] 25))
          have HB1 := Lib.hid (hB.out.alloc hB.out.size (.cells #[.int .i64 ((i : Int) + 1), .int .i64 (a : Int)] 25))
          clear hpg hpb hka CG' CB' hB hR
          go_wp2_with fail
          obtain ⟨wa, hwa⟩ : ∃ W, wr.alloc (.cells #[.int .i64 ((i : Int) + 1), .int .i64 (a : Int)] 25) = W := ⟨_, rfl⟩
          rw [hwa] at HP0 HR1 HB1 ⊢
          clear hwa
          refine (hCG _).out.mono ?_
          rintro e w2 ⟨⟨v1, rfl, hv1, _⟩, b2⟩
          have HV1 := Lib.hid hv1
          have HP2 := Lib.hid (HP0.out.keep b2)
          have HR2 := Lib.hid (HR1.out.keep b2)
          have HB2 := Lib.hid (HB1.out.trans (b2.mono HB1.out.size))
          clear b2 hv1 HP0 HR1 HB1 hCG
          cases pg with
          | true =>
            have hv : 0 ≤ v1 := HV1.out.2 (of_decide_eq_true HPG.out)
            have hvg : v1 ≥ 0 := hv
            obtain ⟨⟨p0, p1⟩, _, _⟩ := HP2.out.two
            go_wp2_with fail
            refine (hCB _).out.mono ?_
            rintro e w3 ⟨⟨v2, rfl, _, hv2⟩, b3⟩
            have HV2 := Lib.hid hv2
            have HP3 := Lib.hid (HP2.out.keep b3)
            have HR3 := Lib.hid (HR2.out.keep b3)
            have HB3 := Lib.hid (HB2.out.trans (b3.mono HB2.out.size))
            clear b3 hv2 HP2 HR2 HB2 hCB p0 p1
            cases pb with
            | true =>
              have hv3 : v2 ≤ 0 := HV2.out.2 (of_decide_eq_true HPB.out)
              have HF := Lib.hid (bp_found HPP.out (show i * 64 + a < l * 64 by omega) (by rw [HO.out]; rfl) hNa.out)
              have HDM : Hid ((i * 64 + a) / 64 = i ∧ (i * 64 + a) % 64 = a) := by show _ ∧ _; omega
              obtain ⟨⟨p0, p1⟩, _, _⟩ := HP3.out.two
              obtain ⟨⟨z0, z1⟩, ⟨f0, f1⟩, _⟩ := HR3.out.two
              have HS := Lib.hid ((HR3.out.set 0 (.int .i64 ((i : Int) + 1))).set 1 (.int .i64 (a : Int)))
              go_wp2_with fail
              obtain ⟨⟨s0, s1⟩, _, _⟩ := HS.out.two
              rw [HF.out.1, HF.out.2.1, HF.out.2.2, HDM.out.1, HDM.out.2, show ((i + 1 : Nat) : Int) = (i : Int) + 1 from by omega]
              refine bodyPost_ret (v := .tuple #[.agg #[.int .i64 ((i : Int) + 1), .int .i64 (a : Int)], .bool true]) (by simp [results, Try.results26, go_sem, s0, s1]) rfl ⟨rfl, ?_⟩
              exact (HB3.out.setCell (Nat.le_refl _) _).setCell (Nat.le_refl _) _
            | false =>
              have hv3 : ¬ (v2 ≤ 0) := fun h => of_decide_eq_false HPB.out (HV2.out.1 h)
              have HN2 := Lib.hid (HN1.out (by rw [HO.out]; rfl))
              go_wp2_with fail
              go_roundg (gk - 1)
              case measure => exact HJa.out.2
              case rel => exact ⟨a + 1, by go_num, HJa.out.1, by omega, HN2.out, HB3.out, HR3.out⟩
          | false =>
            have hvg : ¬ (v1 ≥ 0) := fun h => of_decide_eq_false HPG.out (HV1.out.1 h)
            have HN2 := Lib.hid (HN1.out (by rw [HO.out]; rfl))
            go_wp2_with fail
            go_roundg (gk - 1)
            case measure => exact HJa.out.2
            case rel => exact ⟨a + 1, by go_num, HJa.out.1, by omega, HN2.out, HB2.out, HR2.out⟩
        · have hlaI : ¬ ((a : Int) < (i : Int) + 2) := by omega
          have HNN : Hid (∀ j, j < (i + 1) * 64 → okC l g b r c j = false) := Lib.hid fun j hj => by
            by_cases e : j < i * 64 + a
            · exact hNa.out j e
            · exact ok_end (i := i) (by omega) hj
          clear hla hka CG' CB' hNa HOK
          go_wp2_with fail
          go_roundg (go0 - 1)
          case measure => exact HJ.out.2
          case rel => exact ⟨i + 1, by go_num, HJ.out.1, by omega, HNN.out, hB.out, hR.out⟩
    · obtain rfl : i = l := by omega
      have hltI : ¬ ((i : Int) < (i : Int)) := by omega
      have HF := Lib.hid (bp_all hN.out)
      obtain ⟨⟨z0, z1⟩, ⟨f0, f1⟩, _⟩ := hR.out.two
      have HS := Lib.hid ((hR.out.set 0 (.int .i64 0)).set 1 (.int .i64 0))
      clear hlt hk CG CB hN
      go_wp2_with fail
      obtain ⟨⟨s0, s1⟩, _, _⟩ := HS.out.two
      rw [HF.out.1, HF.out.2.1, HF.out.2.2]
      refine bodyPost_ret (v := .tuple #[.agg #[.int .i64 0, .int .i64 0], .bool false]) (by simp [results, Try.results26, go_sem, s0, s1]) rfl ⟨rfl, ?_⟩
      exact (hB.out.setCell (Nat.le_refl _) _).setCell (Nat.le_refl _) _
end Go.Proofs.Ytemdgfjcjjadnaa
