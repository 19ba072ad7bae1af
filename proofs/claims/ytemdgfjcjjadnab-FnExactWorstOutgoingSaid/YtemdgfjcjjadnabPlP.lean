/-
  Sets of a size, how many have few bad parts, fractions in lowest terms, and their sums: numbers alone. No conditions.
-/
import Derived.WalkKit
namespace Pl
def cho : Nat → Nat → Nat
  | _, 0 => 1
  | 0, _ + 1 => 0
  | n + 1, k + 1 => cho n k + cho n (k + 1)
theorem cho_0 (n : Nat) : cho n 0 = 1 := by cases n <;> rfl
theorem cho_s (n k : Nat) : cho (n + 1) (k + 1) = cho n k + cho n (k + 1) := rfl
theorem cho_gt : ∀ {n k : Nat}, n < k → cho n k = 0
  | 0, 0, h => absurd h (by decide)
  | 0, _ + 1, _ => rfl
  | n + 1, 0, h => absurd h (by omega)
  | n + 1, k + 1, h => by rw [cho_s, cho_gt (by omega), cho_gt (by omega)]
theorem cho_pos : ∀ {n k : Nat}, k ≤ n → 1 ≤ cho n k
  | n, 0, _ => by rw [cho_0]; exact Nat.le_refl _
  | 0, _ + 1, h => absurd h (by omega)
  | n + 1, k + 1, h => by have := cho_pos (n := n) (k := k) (by omega); rw [cho_s]; omega
theorem cho_mul : ∀ n k : Nat, (k + 1) * cho (n + 1) (k + 1) = (n + 1) * cho n k
  | 0, 0 => rfl
  | 0, k + 1 => by rw [cho_gt (by omega : 0 + 1 < k + 1 + 1), cho_gt (by omega : 0 < k + 1)]; simp
  | n + 1, 0 => by
    have h := cho_mul n 0
    rw [cho_s, cho_0] at h
    rw [cho_s (n + 1), cho_0, cho_s n, cho_0]
    omega
  | n + 1, k + 1 => by
    have h1 := cho_mul n k
    have h2 := cho_mul n (k + 1)
    rw [cho_s (n + 1) (k + 1), Nat.mul_add, show (k + 1 + 1) * cho (n + 1) (k + 1) = (k + 1) * cho (n + 1) (k + 1) + cho (n + 1) (k + 1) from by rw [Nat.add_mul (k + 1) 1, Nat.one_mul], h1, h2, cho_s n k, Nat.add_mul (n + 1) 1, Nat.one_mul, Nat.mul_add]
    omega
theorem cho_step {n k : Nat} (h : k ≤ n) : cho n k * (n - k) = cho n (k + 1) * (k + 1) := by
  have h1 := cho_mul n k
  rw [cho_s, Nat.mul_add, Nat.mul_comm (k + 1) (cho n (k + 1)), Nat.mul_comm (n + 1) (cho n k), Nat.mul_comm (k + 1)] at h1
  have h2 : cho n k * (n + 1) = cho n k * (k + 1) + cho n k * (n - k) := by rw [← Nat.mul_add]; congr 1; omega
  omega
theorem cho_two : ∀ n k : Nat, cho n k ≤ 2 ^ n
  | 0, 0 => Nat.le_refl _
  | 0, _ + 1 => Nat.zero_le _
  | n + 1, 0 => by rw [cho_0]; exact Nat.one_le_two_pow
  | n + 1, k + 1 => by
    have h1 := cho_two n k
    have h2 := cho_two n (k + 1)
    rw [cho_s, Nat.pow_succ]; omega
theorem cho_40 {n : Nat} (h : n ≤ 40) (k : Nat) : cho n k ≤ 1099511627776 :=
  Nat.le_trans (cho_two n k) (Nat.le_trans (Nat.pow_le_pow_right (by decide) h) (by decide))
theorem cho_mono : ∀ {n m : Nat} (k : Nat), n ≤ m → cho n k ≤ cho m k := by
  intro n m k h
  induction h with
  | refl => exact Nat.le_refl _
  | step _ ih =>
    refine Nat.le_trans ih ?_
    cases k with
    | zero => rw [cho_0, cho_0]; exact Nat.le_refl _
    | succ k => rw [cho_s]; omega
def sm (f : Nat → Nat) : Nat → Nat
  | 0 => 0
  | n + 1 => sm f n + f n
theorem sm_0 (f : Nat → Nat) : sm f 0 = 0 := rfl
theorem sm_s (f : Nat → Nat) (n : Nat) : sm f (n + 1) = sm f n + f n := rfl
theorem sm_mono (f : Nat → Nat) : ∀ {n m : Nat}, n ≤ m → sm f n ≤ sm f m := by
  intro n m h
  induction h with
  | refl => exact Nat.le_refl _
  | step _ ih => rw [sm_s]; omega
theorem sm_congr {f g : Nat → Nat} : ∀ (n : Nat), (∀ k, k < n → f k = g k) → sm f n = sm g n
  | 0, _ => rfl
  | n + 1, h => by rw [sm_s, sm_s, sm_congr n fun k hk => h k (by omega), h n (by omega)]
theorem sm_le {f g : Nat → Nat} : ∀ (n : Nat), (∀ k, k < n → f k ≤ g k) → sm f n ≤ sm g n
  | 0, _ => Nat.le_refl _
  | n + 1, h => by
    have h1 := sm_le n fun k hk => h k (by omega)
    have h2 := h n (by omega)
    rw [sm_s, sm_s]; omega
theorem sm_add (f g : Nat → Nat) : ∀ n : Nat, sm (fun k => f k + g k) n = sm f n + sm g n
  | 0 => rfl
  | n + 1 => by rw [sm_s, sm_s, sm_s, sm_add f g n]; omega
theorem sm_mul (f : Nat → Nat) (c : Nat) : ∀ n : Nat, sm (fun k => f k * c) n = sm f n * c
  | 0 => by rw [sm_0, sm_0, Nat.zero_mul]
  | n + 1 => by rw [sm_s, sm_s, sm_mul f c n, Nat.add_mul]
theorem sm_zero {f : Nat → Nat} (n : Nat) (h : ∀ k, k < n → f k = 0) : sm f n = 0 := by
  induction n with
  | zero => rfl
  | succ n ih => rw [sm_s, ih fun k hk => h k (by omega), h n (by omega)]
theorem sm_first (f : Nat → Nat) : ∀ n : Nat, sm f (n + 1) = f 0 + sm (fun k => f (k + 1)) n
  | 0 => by rw [sm_s, sm_0, sm_0]; omega
  | n + 1 => by rw [sm_s, sm_first f n, sm_s]; omega
/-- all sets of a size, by how many of the first ones they have -/
theorem vander : ∀ a b s : Nat, sm (fun k => cho a k * cho b (s - k)) (s + 1) = cho (a + b) s
  | 0, b, s => by
    rw [sm_first, sm_zero]
    · rw [cho_0, Nat.one_mul, Nat.sub_zero, Nat.zero_add, Nat.add_zero]
    · intro k _; rw [cho_gt (by omega : 0 < k + 1), Nat.zero_mul]
  | a + 1, b, 0 => by rw [sm_s, sm_0, cho_0, cho_0, cho_0]
  | a + 1, b, s + 1 => by
    have h1 := vander a b s
    have h2 := vander a b (s + 1)
    rw [sm_first] at h2 ⊢
    rw [show a + 1 + b = (a + b) + 1 from by omega, cho_s, ← h1, ← h2, cho_0, cho_0]
    have : sm (fun k => cho (a + 1) (k + 1) * cho b (s + 1 - (k + 1))) (s + 1) = sm (fun k => cho a k * cho b (s - k)) (s + 1) + sm (fun k => cho a (k + 1) * cho b (s + 1 - (k + 1))) (s + 1) := by
      rw [← sm_add]
      refine sm_congr _ fun k _ => ?_
      rw [cho_s, Nat.add_mul, Nat.add_sub_add_right]
    rw [this]; omega
/-- how many sets, of whole numbers of any sign -/
def chI (n k : Int) : Nat := if k < 0 then 0 else if n < k then 0 else cho n.toNat k.toNat
theorem chI_nat (n k : Nat) : chI (n : Int) (k : Int) = cho n k := by
  unfold chI
  rw [if_neg (by omega)]
  by_cases h : (n : Int) < (k : Int)
  · rw [if_pos h, cho_gt (by omega)]
  · rw [if_neg h]; rfl
theorem chI_neg {n k : Int} (h : k < 0) : chI n k = 0 := by unfold chI; rw [if_pos h]
theorem chI_gt {n k : Int} (h : n < k) : chI n k = 0 := by unfold chI; rw [if_pos h]; split <;> rfl
theorem chI_40 {n : Int} (h : n ≤ 40) (k : Int) : chI n k ≤ 1099511627776 := by
  unfold chI
  split
  · decide
  · split
    · decide
    · exact cho_40 (by omega) _
/-- sets of a size with just so many bad parts -/
def wi (l b s : Int) (k : Nat) : Nat := chI b k * chI (l - b) (s - k)
/-- sets of a size with fewer bad parts than n -/
def ac (l b s : Int) (n : Nat) : Nat := sm (wi l b s) n
theorem ac_s (l b s : Int) (n : Nat) : ac l b s (n + 1) = ac l b s n + wi l b s n := rfl
theorem wi_zero {l b s : Int} {k : Nat} (h : b < k ∨ l - b < s - k ∨ s < k) : wi l b s k = 0 := by
  unfold wi
  rcases h with h | h | h
  · rw [chI_gt h, Nat.zero_mul]
  · rw [chI_gt h, Nat.mul_zero]
  · rw [chI_neg (show s - (k : Int) < 0 by omega), Nat.mul_zero]
theorem ac_end {l b s : Int} {n m : Nat} (hn : s < n) (hm : n ≤ m) : ac l b s m = ac l b s n := by
  induction hm with
  | refl => rfl
  | step h ih => rename_i m; rw [ac_s, ih, wi_zero (.inr (.inr (by have : n ≤ m := h; omega)))]; rfl
theorem ac_le (l b s : Int) (n : Nat) : ac l b s n ≤ chI l s := by
  by_cases h : 0 ≤ b ∧ b ≤ l ∧ 0 ≤ s ∧ s ≤ l
  · obtain ⟨b, rfl⟩ : ∃ m : Nat, b = m := ⟨b.toNat, by omega⟩
    obtain ⟨s, rfl⟩ : ∃ m : Nat, s = m := ⟨s.toNat, by omega⟩
    obtain ⟨c, rfl⟩ : ∃ m : Nat, l = ((b + m : Nat) : Int) := ⟨(l - b).toNat, by omega⟩
    have hw : ∀ k, k < s + 1 → wi ((b + c : Nat) : Int) b s k = cho b k * cho c (s - k) := by
      intro k hk
      unfold wi
      rw [show ((b + c : Nat) : Int) - (b : Int) = (c : Int) from by omega, show (s : Int) - (k : Int) = ((s - k : Nat) : Int) from by omega, chI_nat, chI_nat]
    have hv : ac ((b + c : Nat) : Int) b s (s + 1) = cho (b + c) s := by
      rw [← vander b c s]; exact sm_congr _ hw
    rw [chI_nat, ← hv]
    by_cases hn : n ≤ s + 1
    · exact sm_mono _ hn
    · rw [ac_end (m := n) (n := s + 1) (by omega) (by omega)]; exact Nat.le_refl _
  · have : ac l b s n = 0 := by
      refine sm_zero _ fun k _ => wi_zero ?_
      by_cases h1 : b < k
      · exact .inl h1
      · by_cases h2 : l - b < s - k
        · exact .inr (.inl h2)
        · by_cases h3 : s < k
          · exact .inr (.inr h3)
          · exact absurd h (by omega)
    rw [this]; exact Nat.zero_le _
theorem ac_40 {l : Int} (h : l ≤ 40) (b s : Int) (n : Nat) : ac l b s n ≤ 1099511627776 := Nat.le_trans (ac_le l b s n) (chI_40 h s)
theorem wi_le (l b s : Int) (k : Nat) : wi l b s k ≤ chI l s := by
  have h1 := ac_le l b s (k + 1)
  rw [ac_s] at h1; omega
def fac : Nat → Nat
  | 0 => 1
  | n + 1 => (n + 1) * fac n
theorem fac_pos : ∀ n : Nat, 0 < fac n
  | 0 => Nat.zero_lt_one
  | n + 1 => Nat.mul_pos (Nat.succ_pos n) (fac_pos n)
theorem cho_fac : ∀ {k : Nat} (j : Nat), cho (k + j) k * (fac k * fac j) = fac (k + j)
  | 0, j => by rw [cho_0, Nat.zero_add, show fac 0 = 1 from rfl]; omega
  | k + 1, j => by
    have h := cho_fac (k := k) j
    have h2 := cho_mul (k + j) k
    rw [show k + 1 + j = k + j + 1 from by omega, show fac (k + 1) = (k + 1) * fac k from rfl, show fac (k + j + 1) = (k + j + 1) * fac (k + j) from rfl, ← h, ← Nat.mul_assoc (k + j + 1), ← h2]
    ac_rfl
theorem cho_fac' {n k : Nat} (h : k ≤ n) : cho n k * (fac k * fac (n - k)) = fac n := by
  have := cho_fac (k := k) (n - k)
  rwa [show k + (n - k) = n from by omega] at this
/-- what all the numbers of sets divide -/
def M : Nat := 219060189739591200
def chk : Bool := (List.range 41).all fun l => (List.range (l + 1)).all fun i => M * (fac i * fac (l - i)) % fac l == 0
theorem chk_ok : chk = true := by decide +kernel
theorem cho_M {l i : Nat} (hl : l ≤ 40) (hi : i ≤ l) : cho l i ∣ M := by
  have h := chk_ok
  unfold chk at h
  have h1 := List.all_eq_true.1 h l (List.mem_range.2 (by omega))
  have h2 := List.all_eq_true.1 h1 i (List.mem_range.2 (by omega))
  have h3 : M * (fac i * fac (l - i)) % fac l = 0 := by simpa using h2
  have h4 := Nat.dvd_of_mod_eq_zero h3
  rw [← cho_fac' hi] at h4
  exact Nat.dvd_of_mul_dvd_mul_right (Nat.mul_pos (fac_pos _) (fac_pos _)) h4
def chk2 : Bool := (List.range 25).all fun a => (List.range (25 - a)).all fun b => fac 40 ≤ 180000000000000000 * (fac a * (fac b * fac (40 - a - b)))
theorem chk2_ok : chk2 = true := by decide +kernel
theorem cho_both {l a b : Nat} (hl : l ≤ 40) (h : a + b ≤ 24) : cho l a * cho (l - a) b ≤ 180000000000000000 := by
  refine Nat.le_trans (Nat.mul_le_mul (cho_mono a hl) (cho_mono b (show l - a ≤ 40 - a by omega))) ?_
  have h0 := chk2_ok
  unfold chk2 at h0
  have h1 := List.all_eq_true.1 h0 a (List.mem_range.2 (by omega))
  have h2 := List.all_eq_true.1 h1 b (List.mem_range.2 (by omega))
  have h3 : fac 40 ≤ 180000000000000000 * (fac a * (fac b * fac (40 - a - b))) := by simpa using h2
  have e1 := cho_fac' (show a ≤ 40 by omega)
  have e2 := cho_fac' (show b ≤ 40 - a by omega)
  rw [← e1, ← e2] at h3
  have : cho 40 a * cho (40 - a) b * (fac a * (fac b * fac (40 - a - b))) ≤ 180000000000000000 * (fac a * (fac b * fac (40 - a - b))) := by
    refine Nat.le_trans (Nat.le_of_eq ?_) h3
    ac_rfl
  exact Nat.le_of_mul_le_mul_right this (Nat.mul_pos (fac_pos _) (Nat.mul_pos (fac_pos _) (fac_pos _)))
/-- lowest terms -/
def lo1 (a b : Nat) : Nat := a / Nat.gcd a b
def lo2 (a b : Nat) : Nat := b / Nat.gcd a b
theorem lo_eq {a b c d : Nat} (hb : 0 < b) (hd : 0 < d) (h : a * d = c * b) : lo1 a b = lo1 c d ∧ lo2 a b = lo2 c d := by
  unfold lo1 lo2
  have hg : 0 < Nat.gcd a b := Nat.gcd_pos_of_pos_right _ hb
  have hk : 0 < Nat.gcd c d := Nat.gcd_pos_of_pos_right _ hd
  -- both over the same
  have h1 : a / Nat.gcd a b = (a * d) / Nat.gcd (a * d) (b * d) := by rw [Nat.gcd_mul_right, Nat.mul_div_mul_right _ _ hd]
  have h2 : b / Nat.gcd a b = (b * d) / Nat.gcd (a * d) (b * d) := by rw [Nat.gcd_mul_right, Nat.mul_div_mul_right _ _ hd]
  have h3 : c / Nat.gcd c d = (c * b) / Nat.gcd (c * b) (d * b) := by rw [Nat.gcd_mul_right, Nat.mul_div_mul_right _ _ hb]
  have h4 : d / Nat.gcd c d = (d * b) / Nat.gcd (c * b) (d * b) := by rw [Nat.gcd_mul_right, Nat.mul_div_mul_right _ _ hb]
  rw [h1, h2, h3, h4, h, Nat.mul_comm d b]
  exact ⟨rfl, rfl⟩
theorem lo_mul {a b : Nat} : lo1 a b * b = a * lo2 a b := by
  unfold lo1 lo2
  rw [Nat.div_mul_right_comm (Nat.gcd_dvd_left a b), Nat.mul_div_assoc a (Nat.gcd_dvd_right a b)]
theorem lo2_pos {a b : Nat} (hb : 0 < b) : 0 < lo2 a b := Nat.div_pos (Nat.le_of_dvd hb (Nat.gcd_dvd_right a b)) (Nat.gcd_pos_of_pos_right _ hb)
theorem lo2_dvd (a b : Nat) : lo2 a b ∣ b := Nat.div_dvd_of_dvd (Nat.gcd_dvd_right a b)
theorem lo1_le (a b : Nat) : lo1 a b ≤ a := Nat.div_le_self _ _
theorem lo2_le (a b : Nat) : lo2 a b ≤ b := Nat.div_le_self _ _
theorem lo_le {a b k : Nat} (hb : 0 < b) (h : a ≤ k * b) : lo1 a b ≤ k * lo2 a b := by
  have h1 := lo_mul (a := a) (b := b)
  have h2 : a * lo2 a b ≤ k * b * lo2 a b := Nat.mul_le_mul_right _ h
  rw [← h1] at h2
  refine Nat.le_of_mul_le_mul_right (c := b) ?_ hb
  rw [Nat.mul_right_comm]; exact h2
/-- lowest terms again are the same -/
theorem lo_lo {a b : Nat} (hb : 0 < b) : lo1 (lo1 a b) (lo2 a b) = lo1 a b ∧ lo2 (lo1 a b) (lo2 a b) = lo2 a b := by
  have := lo_eq (lo2_pos (a := a) hb) hb (lo_mul (a := a) (b := b))
  exact this
/-- the fraction of sets of i parts with at most A bad ones -/
def fx (l b A i : Nat) : Nat := lo1 (ac l b i (A + 1)) (cho l i)
def fy (l b A i : Nat) : Nat := lo2 (ac l b i (A + 1)) (cho l i)
theorem fy_pos {l i : Nat} (b A : Nat) (h : i ≤ l) : 0 < fy l b A i := lo2_pos (cho_pos h)
theorem fy_M {l i : Nat} (b A : Nat) (hl : l ≤ 40) (h : i ≤ l) : fy l b A i ∣ M := Nat.dvd_trans (lo2_dvd _ _) (cho_M hl h)
theorem fx_le {l i : Nat} (b A : Nat) (h : i ≤ l) : fx l b A i ≤ fy l b A i := by
  have := lo_le (a := ac l b i (A + 1)) (k := 1) (cho_pos h) (by rw [Nat.one_mul, ← chI_nat]; exact ac_le _ _ _ _)
  rwa [Nat.one_mul] at this
/-- the program's sum: above, below -/
def pu (l b A : Nat) : Nat → Nat × Nat
  | 0 => (0, 1)
  | i + 1 => ((pu l b A i).1 * lo2 (pu l b A i).2 (fy l b A i) + fx l b A i * lo1 (pu l b A i).2 (fy l b A i), (pu l b A i).2 * lo2 (pu l b A i).2 (fy l b A i))
theorem pu_s (l b A i : Nat) : pu l b A (i + 1) = ((pu l b A i).1 * lo2 (pu l b A i).2 (fy l b A i) + fx l b A i * lo1 (pu l b A i).2 (fy l b A i), (pu l b A i).2 * lo2 (pu l b A i).2 (fy l b A i)) := rfl
/-- the model's sum -/
def su (l b A : Nat) : Nat → Nat × Nat
  | 0 => (0, 1)
  | i + 1 => (lo1 ((su l b A i).1 * lo2 (su l b A i).2 (fy l b A i) + fx l b A i * lo1 (su l b A i).2 (fy l b A i)) (lo1 (su l b A i).2 (fy l b A i) * fy l b A i), lo2 ((su l b A i).1 * lo2 (su l b A i).2 (fy l b A i) + fx l b A i * lo1 (su l b A i).2 (fy l b A i)) (lo1 (su l b A i).2 (fy l b A i) * fy l b A i))
theorem su_s (l b A i : Nat) : su l b A (i + 1) = (lo1 ((su l b A i).1 * lo2 (su l b A i).2 (fy l b A i) + fx l b A i * lo1 (su l b A i).2 (fy l b A i)) (lo1 (su l b A i).2 (fy l b A i) * fy l b A i), lo2 ((su l b A i).1 * lo2 (su l b A i).2 (fy l b A i) + fx l b A i * lo1 (su l b A i).2 (fy l b A i)) (lo1 (su l b A i).2 (fy l b A i) * fy l b A i)) := rfl
/-- one step: what is added to a fraction -/
theorem one_step {u lo x y k : Nat} (hlo : 0 < lo) (hM : lo ∣ M) (hu : u ≤ k * lo) (hy : 0 < y) (hyM : y ∣ M) (hx : x ≤ y) :
    0 < lo * lo2 lo y ∧ lo * lo2 lo y ∣ M ∧ u * lo2 lo y + x * lo1 lo y ≤ (k + 1) * (lo * lo2 lo y) := by
  refine ⟨Nat.mul_pos hlo (lo2_pos hy), ?_, ?_⟩
  · have : lo * lo2 lo y = Nat.lcm lo y := by unfold lo2 Nat.lcm; rw [Nat.mul_div_assoc _ (Nat.gcd_dvd_right _ _)]
    rw [this]; exact Nat.lcm_dvd hM hyM
  · have h1 : x * lo1 lo y ≤ y * lo1 lo y := Nat.mul_le_mul_right _ hx
    rw [Nat.mul_comm y, lo_mul] at h1
    have h2 : u * lo2 lo y ≤ k * lo * lo2 lo y := Nat.mul_le_mul_right _ hu
    rw [Nat.add_mul, Nat.one_mul, ← Nat.mul_assoc]; omega
structure MeanInv (l b A i : Nat) : Prop where
  a1 : 0 < (pu l b A i).2
  a2 : (pu l b A i).2 ∣ M
  a3 : (pu l b A i).1 ≤ i * (pu l b A i).2
  b1 : 0 < (su l b A i).2
  b2 : (su l b A i).2 ∣ M
  b3 : (su l b A i).1 ≤ i * (su l b A i).2
  c1 : lo1 (pu l b A i).1 (pu l b A i).2 = (su l b A i).1
  c2 : lo2 (pu l b A i).1 (pu l b A i).2 = (su l b A i).2
theorem mean_inv {l : Nat} (b A : Nat) (hl : l ≤ 40) : ∀ i, i ≤ l → MeanInv l b A i
  | 0, _ => ⟨Nat.zero_lt_one, Nat.one_dvd _, Nat.zero_le _, Nat.zero_lt_one, Nat.one_dvd _, Nat.zero_le _, by show lo1 0 1 = 0; decide, by show lo2 0 1 = 1; decide⟩
  | i + 1, h => by
    have ih := mean_inv b A hl i (by omega)
    have hy := fy_pos b A (show i ≤ l by omega)
    have hyM := fy_M b A hl (show i ≤ l by omega)
    have hx := fx_le b A (show i ≤ l by omega)
    have P := one_step ih.a1 ih.a2 ih.a3 hy hyM hx
    have S := one_step ih.b1 ih.b2 ih.b3 hy hyM hx
    have hD : lo1 (su l b A i).2 (fy l b A i) * fy l b A i = (su l b A i).2 * lo2 (su l b A i).2 (fy l b A i) := lo_mul
    have hU := lo_mul (a := (pu l b A i).1) (b := (pu l b A i).2)
    rw [ih.c1, ih.c2] at hU
    have hl1 := lo_mul (a := (pu l b A i).2) (b := fy l b A i)
    have key : ((pu l b A i).1 * lo2 (pu l b A i).2 (fy l b A i) + fx l b A i * lo1 (pu l b A i).2 (fy l b A i)) * ((su l b A i).2 * lo2 (su l b A i).2 (fy l b A i)) = ((su l b A i).1 * lo2 (su l b A i).2 (fy l b A i) + fx l b A i * lo1 (su l b A i).2 (fy l b A i)) * ((pu l b A i).2 * lo2 (pu l b A i).2 (fy l b A i)) := by
      generalize (pu l b A i).1 = u at *
      generalize (pu l b A i).2 = lo at *
      generalize (su l b A i).1 = n at *
      generalize (su l b A i).2 = d at *
      generalize fy l b A i = y at *
      generalize fx l b A i = x at *
      generalize lo2 lo y = t at *
      generalize lo1 lo y = bf at *
      generalize lo2 d y = y1 at *
      generalize lo1 d y = d1 at *
      rw [Nat.add_mul, Nat.add_mul]
      congr 1
      · calc u * t * (d * y1) = (u * d) * (t * y1) := by ac_rfl
          _ = (n * lo) * (t * y1) := by rw [hU]
          _ = n * y1 * (lo * t) := by ac_rfl
      · calc x * bf * (d * y1) = x * bf * (d1 * y) := by rw [hD]
          _ = x * d1 * (bf * y) := by ac_rfl
          _ = x * d1 * (lo * t) := by rw [hl1]
    have E := lo_eq P.1 S.1 key
    rw [← hD] at S E
    exact ⟨by rw [pu_s]; exact P.1, by rw [pu_s]; exact P.2.1, by rw [pu_s]; exact P.2.2, by rw [su_s]; exact lo2_pos S.1, by rw [su_s]; exact Nat.dvd_trans (lo2_dvd _ _) S.2.1, by rw [su_s]; exact lo_le S.1 S.2.2, by rw [pu_s, su_s]; exact E.1, by rw [pu_s, su_s]; exact E.2⟩
theorem M_pos : 0 < M := by decide
theorem M_le {x : Nat} (h : x ∣ M) : x ≤ 219060189739591200 := Nat.le_of_dvd M_pos h
theorem mul_40 {u d k : Nat} (hk : k ≤ 40) (hd : d ≤ 219060189739591200) (h : u ≤ k * d) : u ≤ 8762407589583648000 :=
  Nat.le_trans h (Nat.le_trans (Nat.mul_le_mul hk hd) (by decide))
end Pl
