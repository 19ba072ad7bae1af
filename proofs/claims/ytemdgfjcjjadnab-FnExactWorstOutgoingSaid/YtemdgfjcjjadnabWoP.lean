/-
  The share of bad parts that go out is a number, for all shares of whole numbers: bounds. No conditions.
-/
import Derived.Test.YtemdgfjcjjadnabWoQ
import Derived.Test.YtemdgfjcjjadnabB32
import Derived.Test.YtemdgfjcjjadnabPlK
namespace Pl
open Go Flt F32 Cm We Ieee Flt.S3
theorem shr_word {q : Nat} (h : q ≤ 1065353216) : shr q = true := by
  have hn : nan .f32 q = false := nan_false (by show q % 2147483648 ≤ 2139095040; omega)
  unfold shr gq lq
  rw [gtB .f32 q 0 hn (by decide), eqB .f32 q 0 hn (by decide), ltB .f32 q 1065353216 hn (by decide), eqB .f32 q 1065353216 hn (by decide), S32 q (by omega), S32 0 (by decide), S32 1065353216 (by decide), if_pos (show q < 2147483648 by omega), if_pos (by decide), if_pos (by decide)]
  rw [Bool.and_eq_true, Bool.or_eq_true, Bool.or_eq_true, decide_eq_true_eq, decide_eq_true_eq, decide_eq_true_eq, decide_eq_true_eq]
  omega
/-- it is told, and at most 2 ^ K -/
def At (o : Option Nat) (K : Int) : Prop := ∃ v, o = some v ∧ S3.LeP v K
theorem at_mul {o p : Option Nat} {A B : Int} (ha : At o A) (hb : At p B) (h1 : -126 ≤ A + B) (h2 : A + B ≤ 126) : At (F32.opO .mul o p) (A + B) := by
  obtain ⟨v, rfl, hv⟩ := ha
  obtain ⟨u, rfl, hu⟩ := hb
  obtain ⟨r, h, hr⟩ := mul_le hv hu h1 h2
  exact ⟨r, h, hr⟩
theorem at_add {o p : Option Nat} {A B K : Int} (ha : At o A) (hb : At p B) (h1 : A < K) (h2 : B < K) (h3 : K ≤ 126) : At (F32.opO .add o p) K := by
  obtain ⟨v, rfl, hv⟩ := ha
  obtain ⟨u, rfl, hu⟩ := hb
  obtain ⟨r, h, hr⟩ := add_le hv hu h1 h2 h3
  exact ⟨r, h, hr⟩
theorem at_sub {o p : Option Nat} {A B K : Int} (ha : At o A) (hb : At p B) (h1 : A < K) (h2 : B < K) (h3 : K ≤ 126) : At (F32.opO .sub o p) K := by
  obtain ⟨v, rfl, hv⟩ := ha
  obtain ⟨u, rfl, hu⟩ := hb
  obtain ⟨r, h, hr⟩ := sub_le hv hu h1 h2 h3
  exact ⟨r, h, hr⟩
theorem at_word {q : Nat} (h : q ≤ 1065353216) : At (some q) 0 := by
  refine ⟨q, rfl, by omega, ?_, by decide, by decide⟩
  show q % 2147483648 ≤ _
  exact Nat.le_trans (Nat.mod_le _ _) (Nat.le_trans h (by decide))
def chk3 : Bool := (List.range 41).all fun s => (List.range (s + 1)).all fun k => decide (Go.floatOfInt .f32 ((fac s / (fac k * fac (s - k)) : Nat) : Int)  ≤ 1384120320)
theorem chk3_ok : chk3 = true := by decide +kernel
theorem foi_le {s k : Nat} (hs : s ≤ 40) : Go.floatOfInt .f32 ((chI s k : Nat) : Int) ≤ 1384120320 := by
  rw [chI_nat]
  by_cases hk : k ≤ s
  · have h := chk3_ok
    unfold chk3 at h
    have h1 := List.all_eq_true.1 h s (List.mem_range.2 (by omega))
    have h2 := List.all_eq_true.1 h1 k (List.mem_range.2 (by omega))
    have h3 := of_decide_eq_true h2
    rw [← cho_fac' hk, Nat.mul_div_cancel _ (Nat.mul_pos (fac_pos _) (fac_pos _))] at h3
    exact h3
  · rw [cho_gt (by omega)]; decide
theorem foi_pos {s k : Nat} (hs : s ≤ 40) : Go.floatOfInt .f32 ((chI s k : Nat) : Int) < 2147483648 := by have := foi_le (k := k) hs; omega
theorem at_sets {s k : Nat} (hs : s ≤ 40) : At (some (Go.floatOfInt .f32 ((chI s k : Nat) : Int))) 38 := by
  refine ⟨_, rfl, (foi_num _).2, ?_, by decide, by decide⟩
  exact Nat.le_trans (Nat.mod_le _ _) (Nat.le_trans (foi_le hs) (by decide))
theorem at_pw {o p : Option Nat} {A B : Int} (hA : 0 ≤ A) (hB : 0 ≤ B) (ha : At o A) (hb : At p B) : ∀ j : Nat, A + B * (j : Int) ≤ 126 → At (pw o p j) (A + B * (j : Int))
  | 0, _ => by rw [show A + B * ((0 : Nat) : Int) = A from by simp]; exact ha
  | j + 1, h => by
    have e : A + B * ((j + 1 : Nat) : Int) = (A + B * (j : Int)) + B := by rw [show ((j + 1 : Nat) : Int) = (j : Int) + 1 from by omega, Int.mul_add, Int.mul_one]; omega
    have hm : 0 ≤ B * (j : Int) := Int.mul_nonneg hB (by omega)
    rw [e] at h ⊢
    exact at_mul (at_pw hA hB ha hb j (by omega)) hb (by omega) h
theorem at_mono {o : Option Nat} {A B : Int} (h : At o A) (hB : A ≤ B) (h2 : B ≤ 126) : At o B := by
  obtain ⟨v, rfl, hv⟩ := h
  exact ⟨v, rfl, S3.LeP.mono hv hB h2⟩
theorem at_caT {s q k : Nat} (hs : s ≤ 40) (hq : q ≤ 1065353216) : At (caT s q k) 78 := by
  unfold caT caC
  have h1 := at_pw (by decide) (by decide) (at_sets (k := k) hs) (at_word hq) k (by omega)
  have h2 : At (pw (some (Go.floatOfInt .f32 ((chI s k : Nat) : Int))) (some q) k) 38 := by
    rw [show (38 : Int) + 0 * (k : Int) = 38 from by omega] at h1; exact h1
  have h3 := at_sub (at_word (show 1065353216 ≤ 1065353216 by decide)) (at_word hq) (K := 1) (by decide) (by decide) (by decide)
  exact at_mono (at_pw (by decide) (by decide) h2 h3 (s - k) (by omega)) (by omega) (by decide)
theorem at_sum {s q : Nat} (hs : s ≤ 40) (hq : q ≤ 1065353216) : ∀ n : Nat, n ≤ 41 → At (We.sm (caT s q) n) (79 + n)
  | 0, _ => ⟨0, rfl, by decide, by decide, by decide, by decide⟩
  | n + 1, h => at_add (at_sum hs hq n (by omega)) (at_caT hs hq) (by omega) (by omega) (by omega)
theorem at_ca {s a q : Nat} (hs : s ≤ 40) (ha : a ≤ s) (hq : q ≤ 1065353216) : At (caE s a q) 120 := at_mono (at_sum hs hq (a + 1) (by omega)) (by omega) (by decide)
def chk4 : Bool := (List.range 41).all fun l => (List.range l).all fun j => match ogF (l : Int) ((j + 1 : Nat) : Int) with | some r => decide (r ≤ 1065353216) | none => false
theorem chk4_ok : chk4 = true := by decide +kernel
theorem at_ogF {l s : Nat} (hl : l ≤ 40) (h1 : 1 ≤ s) (hs : s ≤ l) : ∃ r, ogF l s = some r ∧ r ≤ 1065353216 := by
  have h := chk4_ok
  unfold chk4 at h
  have h1' := List.all_eq_true.1 h l (List.mem_range.2 (by omega))
  have h2 := List.all_eq_true.1 h1' (s - 1) (List.mem_range.2 (by omega))
  rw [show s - 1 + 1 = s from by omega] at h2
  cases hq : ogF (l : Int) (s : Int) with
  | none => simp only [hq] at h2; cases h2
  | some r => simp only [hq] at h2; exact ⟨r, rfl, of_decide_eq_true h2⟩
theorem at_og {l s a q : Nat} (hl : l ≤ 40) (h1 : 1 ≤ s) (hs : s ≤ l) (ha : a ≤ s) (hq : q ≤ 1065353216) : At (ogE l s a q) 120 := by
  obtain ⟨r, hr, hr1⟩ := at_ogF hl h1 hs
  unfold ogE
  rw [hr]
  have h2 := at_mul (A := 0) (B := 120) (at_word hq) (at_ca (show s ≤ 40 by omega) ha hq) (by decide) (by decide)
  rw [show (0 : Int) + 120 = 120 from rfl] at h2
  have h3 := at_mul (A := 120) (B := 0) h2 (at_word hr1) (by decide) (by decide)
  rw [show (120 : Int) + 0 = 120 from rfl] at h3
  exact h3
/-- no bad parts: none go out -/
theorem mul_ones : ∀ n : Nat, pw (some 1065353216) (some 1065353216) n = some 1065353216
  | 0 => rfl
  | n + 1 => by show F32.opO .mul (pw (some 1065353216) (some 1065353216) n) (some 1065353216) = _; rw [mul_ones n]; decide
theorem mul_zeros : ∀ n : Nat, pw (some 0) (some 1065353216) n = some 0
  | 0 => rfl
  | n + 1 => by show F32.opO .mul (pw (some 0) (some 1065353216) n) (some 1065353216) = _; rw [mul_zeros n]; decide
theorem zero_word {v : Nat} {K : Int} (h : S3.LeP v K) (hv : v < 2147483648) : F32.opO .mul (some v) (some 0) = some 0 := by
  obtain ⟨m, e, h1, _⟩ := h.read
  show Ieee.single.mul v 0 = some 0
  unfold Format.mul
  have h0 : Ieee.single.read 0 = .number false 0 (-149) := by decide
  rw [h1, h0]
  have hs : (v / Ieee.single.signWeight % 2 == 1) = false := by
    have : v / Ieee.single.signWeight = 0 := by show v / 2147483648 = 0; omega
    rw [this]; rfl
  rw [hs]
  simp only [Datum.product, Option.map_some]
  congr 1
theorem word_zero {v : Nat} {K : Int} (h : S3.LeP v K) (hv : v < 2147483648) : F32.opO .mul (some 0) (some v) = some 0 := by
  obtain ⟨m, e, h1, _⟩ := h.read
  show Ieee.single.mul 0 v = some 0
  unfold Format.mul
  have h0 : Ieee.single.read 0 = .number false 0 (-149) := by decide
  rw [h1, h0]
  have hs : (v / Ieee.single.signWeight % 2 == 1) = false := by
    have : v / Ieee.single.signWeight = 0 := by show v / 2147483648 = 0; omega
    rw [this]; rfl
  rw [hs]
  simp only [Datum.product, Option.map_some, Nat.zero_mul]
  congr 1
theorem caC_0 (s : Nat) : caC s 0 0 = some 1065353216 := by
  show some (Go.floatOfInt .f32 ((chI (s : Int) ((0 : Nat) : Int) : Nat) : Int)) = _
  rw [chI_nat, cho_0]; decide
theorem caC_s {s k : Nat} (hs : s ≤ 40) : caC s (k + 1) 0 = some 0 := by
  obtain ⟨v, hv, hl⟩ := at_sets (k := k + 1) hs
  have hp : Go.floatOfInt .f32 ((chI (s : Int) ((k + 1 : Nat) : Int) : Nat) : Int) < 2147483648 := foi_pos hs
  have key : ∀ j : Nat, pw (some (Go.floatOfInt .f32 ((chI (s : Int) ((k + 1 : Nat) : Int) : Nat) : Int))) (some 0) (j + 1) = some 0 := by
    intro j
    induction j with
    | zero =>
      show F32.opO .mul (some _) (some 0) = _
      rw [← Option.some.inj hv] at hl
      exact zero_word hl hp
    | succ j ih => show F32.opO .mul (pw _ _ (j + 1)) (some 0) = _; rw [ih]; decide
  exact key k
theorem caT_0 (s : Nat) : caT s 0 0 = some 1065353216 := by
  unfold caT
  rw [caC_0, show F32.opO .sub (some 1065353216) (some 0) = some 1065353216 from by decide]
  exact mul_ones _
theorem caT_s {s k : Nat} (hs : s ≤ 40) : caT s 0 (k + 1) = some 0 := by
  unfold caT
  rw [caC_s hs, show F32.opO .sub (some 1065353216) (some 0) = some 1065353216 from by decide]
  exact mul_zeros _
theorem sum_one {s : Nat} (hs : s ≤ 40) : ∀ n : Nat, We.sm (caT s 0) (n + 1) = some 1065353216
  | 0 => by show F32.opO .add (some 0) (caT s 0 0) = _; rw [caT_0]; decide
  | n + 1 => by show F32.opO .add (We.sm (caT s 0) (n + 1)) (caT s 0 (n + 1)) = _; rw [sum_one hs n, caT_s hs]; decide
theorem og_zero {l s a : Nat} (hl : l ≤ 40) (h1 : 1 ≤ s) (hs : s ≤ l) : ogE l s a 0 = some 0 := by
  obtain ⟨r, hr, hr1⟩ := at_ogF hl h1 hs
  obtain ⟨v, hv, hvl⟩ := at_word hr1
  cases hv
  unfold ogE
  rw [hr, show caE (s : Int) (a : Int) 0 = some 1065353216 from sum_one (by omega) a, show F32.opO .mul (some 0) (some 1065353216) = some 0 from by decide]
  exact word_zero hvl (by omega)
end Pl
