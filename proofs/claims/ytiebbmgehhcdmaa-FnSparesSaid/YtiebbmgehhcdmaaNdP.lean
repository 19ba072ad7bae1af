/-
  How likely needs are, told by their steps: each has a result that is finite. Plain facts; no conditions beyond those stated.
-/
import Derived.Test.YtiebbmgehhcdmaaExN
namespace Flt.Nd
open Go Flt Ieee ExN
def opC (op : Go.BinOp) (a b : Nat) : Nat := (Go.floatBits op .f32 a b).getD 0
/-- a mean from 0 to 64 -/
def mean (m : Nat) : Prop := m ≤ 1115684864 ∨ m = 2147483648
def lessM (m : Nat) : Nat := opC .sub 0 m
def exM (m : Nat) : Nat := (expRun (lessM m)).getD 0
def mulM (m a : Nat) : Nat := opC .mul a m
def nd (m : Nat) : Nat → Nat
  | 0 => exM m
  | k + 1 => opC .quo (mulM m (nd m k)) (Go.floatOfInt .f32 ((k + 1 : Nat) : Int))
def srv (m : Nat) : Nat → Nat
  | 0 => 0
  | n + 1 => opC .add (srv m n) (nd m n)
def ndL (m n : Nat) : List Nat := (List.range n).map (nd m)
theorem ndL_len (m n : Nat) : (ndL m n).length = n := by unfold ndL; simp
theorem ndL_snoc (m n : Nat) : ndL m (n + 1) = ndL m n ++ [nd m n] := by unfold ndL; rw [List.range_succ, List.map_append]; rfl
theorem ndL_get (m n k : Nat) (h : k < n) : (ndL m n).getD k 0 = nd m k := by unfold ndL; simp [List.getD, h]

theorem mean_le {m : Nat} (h : mean m) : S3.LeP m 6 := by
  have : Ieee.single.signWeight = 2147483648 := by decide
  have : Ieee.single.binade = 8388608 := by decide
  rcases h with h | h
  · refine ⟨by omega, ?_, by omega, by omega⟩
    rw [‹Ieee.single.signWeight = _›, Nat.mod_eq_of_lt (by omega)]
    exact h
  · subst h
    exact ⟨by omega, by decide, by omega, by omega⟩
theorem order_W {a b : Nat} (ha : nan .f32 a = false) (hb : nan .f32 b = false) : FloatKind.f64.format.order (W a) (W b) = FloatKind.f32.format.order a b := by
  rw [order_eq .f64 _ _ (W_spec a ha).2.1 (W_spec b hb).2.1, order_eq .f32 a b ha hb, W_cmp a b ha hb]
theorem W200 : W 1128792064 = 4641240890982006784 := by decide +kernel
theorem Wm200 : W 3276275712 = 13864612927836782592 := by decide +kernel
/-- what both ask of the argument -/
structure Good (x : Nat) : Prop where
  num : nan .f32 x = false
  c1 : (FloatKind.f32.format.order x 1128792064 == some .gt) = false
  c2 : (FloatKind.f32.format.order x 3276275712 == some .lt) = false
  d0 : (FloatKind.f64.format.order (W x) (W x) != some .eq) = false
  d1 : (FloatKind.f64.format.order (W x) 4641240890982006784 == some .gt) = false
  d2 : (FloatKind.f64.format.order (W x) 13864612927836782592 == some .lt) = false
theorem good_of {x : Nat} (hn : nan .f32 x = false) (c1 : (FloatKind.f32.format.order x 1128792064 == some .gt) = false) (c2 : (FloatKind.f32.format.order x 3276275712 == some .lt) = false) : Good x := by
  refine ⟨hn, c1, c2, ?_, ?_, ?_⟩
  · rw [order_self]; exact (W_spec x hn).2.1
  · rw [← W200, order_W hn (by decide)]; exact c1
  · rw [← Wm200, order_W hn (by decide)]; exact c2
theorem good_minus {x : Nat} (h : S3.LeP x 6) (hs : ExN.sg Ieee.single x = true) : Good x := by
  have hn := h.num
  have hl := h.1
  have e : Ieee.single.signWeight = 2147483648 := by decide
  have eb : Ieee.single.binade = 8388608 := by decide
  have h2 : x % 2147483648 ≤ 1115684864 := by have := h.2.1; rw [e, eb] at this; exact this
  have h3 : 2147483648 ≤ x := by
    unfold ExN.sg at hs
    rw [e] at hs
    refine Nat.le_of_not_lt fun hlt => ?_
    rw [Nat.div_eq_of_lt hlt] at hs
    cases hs
  refine good_of hn ?_ ?_
  · rw [gtB .f32 x _ hn (by decide), S32 x hl, S32 1128792064 (by decide), if_neg (show ¬ x < 2147483648 by omega), if_pos (show 1128792064 < 2147483648 by decide)]
    exact decide_eq_false (by omega)
  · rw [ltB .f32 x _ hn (by decide), S32 x hl, S32 3276275712 (by decide), if_neg (show ¬ x < 2147483648 by omega), if_neg (show ¬ 3276275712 < 2147483648 by decide)]
    exact decide_eq_false (by omega)
theorem good_zero : Good 0 := good_of (by decide) (by decide) (by decide)
theorem exp_zero : expRun 0 = some 1065353216 := by decide +kernel
theorem ex_ok {m : Nat} (h : mean m) : Go.floatBits .sub .f32 0 m = some (lessM m) ∧ Good (lessM m) ∧ expRun (lessM m) = some (exM m) ∧ S3.LeP (exM m) 0 := by
  by_cases h0 : m = 0 ∨ m = 2147483648
  · have hs : Go.floatBits .sub .f32 0 m = some 0 := by rcases h0 with rfl | rfl <;> decide
    have hl : lessM m = 0 := by unfold lessM opC; rw [hs]; rfl
    have he : exM m = 1065353216 := by unfold exM; rw [hl, exp_zero]; rfl
    rw [hl, he]
    exact ⟨hs, good_zero, exp_zero, by omega, by decide, by omega, by omega⟩
  · obtain ⟨x, x1, x2, x3⟩ := sub_mean (m := m) (by omega) (by rcases h with h | h <;> omega)
    obtain ⟨r, r1, r2⟩ := exp_minus x2 x3
    have hl : lessM m = x := by unfold lessM opC; rw [x1]; rfl
    have he : exM m = r := by unfold exM; rw [hl, r1]; rfl
    rw [hl, he]
    exact ⟨x1, good_minus x2 x3, r1, r2⟩
def ndE : Nat → Int
  | 0 => 0
  | k + 1 => ndE k + 6 - (Nat.log2 (k + 1) : Nat)
theorem ndE_ok (k : Nat) (h : k ≤ 32) : 0 ≤ ndE k ∧ ndE k ≤ 89 := by
  have : (List.range 33).all (fun k => decide (0 ≤ ndE k ∧ ndE k ≤ 89)) = true := by decide +kernel
  exact of_decide_eq_true (List.all_eq_true.1 this k (List.mem_range.2 (by omega)))
theorem whole32 (k : Nat) (h : k < 32) : S3.LeP (Go.floatOfInt .f32 ((k + 1 : Nat) : Int)) 6 ∧ S3.GeP (Go.floatOfInt .f32 ((k + 1 : Nat) : Int)) (Nat.log2 (k + 1) : Nat) := by
  have : (List.range 32).all (fun k => decide (Go.floatOfInt .f32 ((k + 1 : Nat) : Int) < 4294967296) && decide (Go.floatOfInt .f32 ((k + 1 : Nat) : Int) % Ieee.single.signWeight ≤ 133 * Ieee.single.binade) && decide ((((Nat.log2 (k + 1) : Nat) : Int) + 126).toNat + 1 ≤ 133) && decide (((((Nat.log2 (k + 1) : Nat) : Int) + 126).toNat + 1) * Ieee.single.binade ≤ Go.floatOfInt .f32 ((k + 1 : Nat) : Int) % Ieee.single.signWeight)) = true := by decide +kernel
  have := List.all_eq_true.1 this k (List.mem_range.2 h)
  simp only [Bool.and_eq_true, decide_eq_true_eq] at this
  obtain ⟨⟨⟨h1, h2⟩, h3⟩, h4⟩ := this
  exact ⟨⟨h1, h2, by omega, by omega⟩, h4, by omega⟩
theorem nd_ok {m : Nat} (h : mean m) : ∀ k, k ≤ 32 → S3.LeP (nd m k) (ndE k)
  | 0, _ => (ex_ok h).2.2.2
  | k + 1, hk => by
    have ih := nd_ok h k (by omega)
    have e1 := ndE_ok k (by omega)
    have e2 := ndE_ok (k + 1) hk
    have e2' : ndE (k + 1) = ndE k + 6 - (Nat.log2 (k + 1) : Nat) := rfl
    obtain ⟨u, u1, u2⟩ := S3.mul_le ih (mean_le h) (by omega) (by omega)
    obtain ⟨w1, w2⟩ := whole32 k (by omega)
    obtain ⟨v, v1, v2⟩ := S3.quo_le u2 w1 w2 (by omega) (by omega)
    have hu : mulM m (nd m k) = u := by unfold mulM opC; rw [u1]; rfl
    have hv : nd m (k + 1) = v := by show opC .quo (mulM m (nd m k)) _ = v; rw [hu]; unfold opC; rw [v1]; rfl
    rw [hv, e2']
    exact v2
theorem nd_step {m : Nat} (h : mean m) (k : Nat) (hk : k < 32) : Go.floatBits .mul .f32 (nd m k) m = some (mulM m (nd m k)) ∧ Go.floatBits .quo .f32 (mulM m (nd m k)) (Go.floatOfInt .f32 ((k + 1 : Nat) : Int)) = some (nd m (k + 1)) := by
  have ih := nd_ok h k (by omega)
  have e1 := ndE_ok k (by omega)
  have e2 := ndE_ok (k + 1) hk
  have e2' : ndE (k + 1) = ndE k + 6 - (Nat.log2 (k + 1) : Nat) := rfl
  obtain ⟨u, u1, u2⟩ := S3.mul_le ih (mean_le h) (by omega) (by omega)
  obtain ⟨w1, w2⟩ := whole32 k (by omega)
  obtain ⟨v, v1, v2⟩ := S3.quo_le u2 w1 w2 (by omega) (by omega)
  have hu : mulM m (nd m k) = u := by unfold mulM opC; rw [u1]; rfl
  have hv : nd m (k + 1) = v := by show opC .quo (mulM m (nd m k)) _ = v; rw [hu]; unfold opC; rw [v1]; rfl
  rw [hu, hv]
  exact ⟨u1, v1⟩
theorem nd_fin {m : Nat} (h : mean m) {k : Nat} (hk : k ≤ 32) : fin .f32 (nd m k) = true := (nd_ok h k hk).isFin
theorem nd_lt {m : Nat} (h : mean m) {k : Nat} (hk : k ≤ 32) : nd m k < 4294967296 := (nd_ok h k hk).lt
theorem ndL_fin {m : Nat} (h : mean m) {n : Nat} (hn : n ≤ 33) : ((ndL m n).all fun z => fin .f32 z) = true := by
  rw [List.all_eq_true]
  intro z hz
  unfold ndL at hz
  obtain ⟨k, hk, rfl⟩ := List.mem_map.1 hz
  exact nd_fin h (by have := List.mem_range.1 hk; omega)
theorem ndL_lt {m : Nat} (h : mean m) {n : Nat} (hn : n ≤ 33) : ∀ z ∈ ndL m n, z < 4294967296 := by
  intro z hz
  unfold ndL at hz
  obtain ⟨k, hk, rfl⟩ := List.mem_map.1 hz
  exact nd_lt h (by have := List.mem_range.1 hk; omega)
theorem srv_ok {m : Nat} (h : mean m) : ∀ n, n ≤ 33 → S3.LeP (srv m n) (90 + n)
  | 0, _ => ⟨by show 0 < _; omega, by show 0 % _ ≤ _; rw [Nat.zero_mod]; exact Nat.zero_le _, by omega, by omega⟩
  | n + 1, hn => by
    have ih := srv_ok h n (by omega)
    have e1 := ndE_ok n (by omega)
    obtain ⟨v, v1, v2⟩ := S3.add_le (K := 90 + ((n + 1 : Nat) : Int)) ih (nd_ok h n (by omega)) (by omega) (by omega) (by omega)
    have hv : srv m (n + 1) = v := by show opC .add (srv m n) (nd m n) = v; unfold opC; rw [v1]; rfl
    rw [hv]
    exact v2
theorem srv_step {m : Nat} (h : mean m) (n : Nat) (hn : n ≤ 32) : Go.floatBits .add .f32 (srv m n) (nd m n) = some (srv m (n + 1)) := by
  have ih := srv_ok h n (by omega)
  have e1 := ndE_ok n (by omega)
  obtain ⟨v, v1, v2⟩ := S3.add_le (K := 90 + ((n + 1 : Nat) : Int)) ih (nd_ok h n (by omega)) (by omega) (by omega) (by omega)
  have hv : srv m (n + 1) = v := by show opC .add (srv m n) (nd m n) = v; unfold opC; rw [v1]; rfl
  rw [hv]
  exact v1
theorem srv_fin {m : Nat} (h : mean m) {n : Nat} (hn : n ≤ 33) : fin .f32 (srv m n) = true := (srv_ok h n hn).isFin
theorem srv_lt {m : Nat} (h : mean m) {n : Nat} (hn : n ≤ 33) : srv m n < 4294967296 := (srv_ok h n hn).lt
/-- 1 less a service -/
def lack (m n : Nat) : Nat := opC .sub 1065353216 (srv m n)
theorem lack_ok {m : Nat} (h : mean m) (n : Nat) (hn : n ≤ 33) : Go.floatBits .sub .f32 1065353216 (srv m n) = some (lack m n) ∧ S3.LeP (lack m n) 124 := by
  have h1 : S3.LeP 1065353216 0 := ⟨by omega, by decide, by omega, by omega⟩
  obtain ⟨v, v1, v2⟩ := S3.sub_le (K := 124) h1 (srv_ok h n hn) (by omega) (by omega) (by omega)
  have hv : lack m n = v := by unfold lack opC; rw [v1]; rfl
  rw [hv]
  exact ⟨v1, v2⟩
/-- the two ask for the same means -/
theorem mean_iff {z : Nat} (hz : z < 4294967296) : ((FloatKind.f32.format.order z 0 == some .gt || FloatKind.f32.format.order z 0 == some .eq) && (FloatKind.f32.format.order z 1115684864 == some .lt || FloatKind.f32.format.order z 1115684864 == some .eq)) = true ↔ mean z := by
  cases hn : nan .f32 z with
  | true =>
    rw [order_nan .f32 z 0 (.inl hn)]
    have : ¬ mean z := by
      intro h
      have := (mean_le h).num
      rw [hn] at this
      cases this
    simp [this]
  | false =>
    rw [gtB .f32 z 0 hn (by decide), eqB .f32 z 0 hn (by decide), ltB .f32 z _ hn (by decide), eqB .f32 z _ hn (by decide), S32 z hz, S32 0 (by decide), S32 1115684864 (by decide), if_pos (by decide : (0 : Nat) < 2147483648), if_pos (by decide : 1115684864 < 2147483648)]
    simp only [Bool.and_eq_true, Bool.or_eq_true, decide_eq_true_eq]
    unfold mean
    split <;> omega
end Flt.Nd
