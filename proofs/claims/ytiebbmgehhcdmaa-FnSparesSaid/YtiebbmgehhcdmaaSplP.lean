/-
  Spares that are split, told by their steps: the place of the greatest lack, as both find it. Plain facts; no conditions beyond those stated.
-/
import Derived.Test.YtiebbmgehhcdmaaNdS
namespace Flt.Spl
open Go Flt Nd Cm
/-- the first place of the greatest number among the first ones -/
def bs (f : Nat → Int) : Nat → Nat
  | 0 => 0
  | i + 1 => if i = 0 then 0 else if f (bs f i) < f i then i else bs f i
theorem bs_lt (f : Nat → Int) : ∀ n, 0 < n → bs f n < n
  | 1, _ => by simp [bs]
  | n + 2, _ => by
    have := bs_lt f (n + 1) (by omega)
    unfold bs
    rw [if_neg (by omega)]
    split <;> omega
theorem bs_max (f : Nat → Int) : ∀ n, 0 < n → (∀ j, j < n → f j ≤ f (bs f n)) ∧ ∀ j, j < bs f n → f j < f (bs f n)
  | 1, _ => by
    have : bs f 1 = 0 := by simp [bs]
    rw [this]
    exact ⟨fun j hj => by rw [show j = 0 by omega]; exact Int.le_refl _, fun j hj => by omega⟩
  | n + 2, _ => by
    obtain ⟨h1, h2⟩ := bs_max f (n + 1) (by omega)
    have hb := bs_lt f (n + 1) (by omega)
    have e : bs f (n + 2) = if f (bs f (n + 1)) < f (n + 1) then n + 1 else bs f (n + 1) := by
      show (if n + 1 = 0 then 0 else if f (bs f (n + 1)) < f (n + 1) then n + 1 else bs f (n + 1)) = _
      rw [if_neg (by omega)]
    rw [e]
    by_cases hc : f (bs f (n + 1)) < f (n + 1)
    · rw [if_pos hc]
      refine ⟨fun j hj => ?_, fun j hj => ?_⟩
      · by_cases ej : j = n + 1
        · subst ej; exact Int.le_refl _
        · have := h1 j (by omega); omega
      · have := h1 j (by omega); omega
    · rw [if_neg hc]
      refine ⟨fun j hj => ?_, h2⟩
      by_cases ej : j = n + 1
      · subst ej; omega
      · exact h1 j (by omega)
theorem bs_of {f : Nat → Int} {n i : Nat} (hi : i < n) (h1 : ∀ j, j < n → f j ≤ f i) (h2 : ∀ j, j < i → f j < f i) : bs f n = i := by
  obtain ⟨a1, a2⟩ := bs_max f n (by omega)
  have a3 := bs_lt f n (by omega)
  rcases Nat.lt_trichotomy (bs f n) i with h | h | h
  · have := h2 _ h; have := a1 i hi; omega
  · exact h
  · have := a2 _ h; have := h1 _ a3; omega
/-- what is lacking at a place -/
def lk (z : Nat) (c : Int) : Nat := lack z (c.toNat + 1)
def lkA (zs : List Nat) (v : List Int) (i : Nat) : Nat := lk (zs.getD i 0) (v.getD i 0)
def key (zs : List Nat) (v : List Int) (i : Nat) : Int := S .f32 (lkA zs v i)
def stp (zs : List Nat) (v : List Int) : List Int := v.set (bs (key zs v) zs.length) (v.getD (bs (key zs v) zs.length) 0 + 1)
def spl (zs : List Nat) : Nat → List Int
  | 0 => List.replicate zs.length 0
  | t + 1 => stp zs (spl zs t)
theorem spl_len (zs : List Nat) : ∀ t, (spl zs t).length = zs.length
  | 0 => by simp [spl]
  | t + 1 => by unfold spl stp; rw [List.length_set]; exact spl_len zs t
theorem spl_bd (zs : List Nat) : ∀ t i, 0 ≤ (spl zs t).getD i 0 ∧ (spl zs t).getD i 0 ≤ t
  | 0, i => by
    unfold spl
    by_cases h : i < zs.length
    · simp [List.getD, h]
    · simp [List.getD, h]
  | t + 1, i => by
    have ih := spl_bd zs t
    unfold spl stp
    by_cases e : i = bs (key zs (spl zs t)) zs.length
    · have := ih i
      subst e
      by_cases hl : bs (key zs (spl zs t)) zs.length < (spl zs t).length
      · simp only [List.getD, List.getElem?_set_self hl, Option.getD_some]
        have h2 := ih (bs (key zs (spl zs t)) zs.length)
        unfold List.getD at h2
        omega
      · rw [List.set_eq_of_length_le (by omega)]
        omega
    · have := ih i
      simp only [List.getD]
      rw [List.getElem?_set_ne (fun h => e h.symm)]
      unfold List.getD at this
      omega
theorem spl_mem (zs : List Nat) (t : Nat) (ht : t ≤ 32) : ∀ z ∈ spl zs t, -9223372036854775808 ≤ z ∧ z ≤ 9223372036854775807 := by
  intro z hz
  obtain ⟨i, hi, rfl⟩ := List.mem_iff_getElem.1 hz
  have := spl_bd zs t i
  rw [show (spl zs t).getD i 0 = (spl zs t)[i] from by simp [List.getD, hi]] at this
  omega
def splB (zs : List Nat) (n : Int) : Bool := decide (1 ≤ zs.length ∧ zs.length ≤ 8) && (decide (0 ≤ n ∧ n ≤ 32) && zs.all mn)
def splA (zs : List Nat) (n : Int) : List Int := if splB zs n then spl zs n.toNat else []
theorem splA_len (zs : List Nat) (n : Int) : (splA zs n).length ≤ 1048576 := by
  unfold splA
  cases h : splB zs n with
  | false => simp
  | true =>
    unfold splB at h
    simp only [Bool.and_eq_true, decide_eq_true_eq] at h
    rw [if_pos rfl, spl_len]
    omega
theorem splA_no {zs : List Nat} {n : Int} (h : splB zs n = false) : splA zs n = [] := by unfold splA; rw [h]; rfl
theorem lk_ok {z : Nat} (hz : mean z) {c : Int} (hc : 0 ≤ c ∧ c ≤ 32) : Go.floatBits .sub .f32 1065353216 (srv z (c.toNat + 1)) = some (lk z c) ∧ nan .f32 (lk z c) = false ∧ lk z c < 4294967296 := by
  obtain ⟨h1, h2⟩ := lack_ok hz (c.toNat + 1) (by omega)
  exact ⟨h1, h2.num, h2.lt⟩
/-- the greater one of two numbers, as the builtin tells it -/
def maxF (x y : Nat) : Nat := match FloatKind.f32.format.order x y with
  | some .lt => y
  | some .gt => x
  | _ => if (FloatKind.f32.decode x).neg then y else x
theorem maxF_S {x y : Nat} (hx : nan .f32 x = false) (hy : nan .f32 y = false) : (maxF x y = x ∨ maxF x y = y) ∧ S .f32 (maxF x y) = max (S .f32 x) (S .f32 y) := by
  unfold maxF
  rw [order_eq .f32 x y hx hy]
  rcases Int.lt_trichotomy (S .f32 x) (S .f32 y) with h | h | h
  · rw [Int.compare_eq_lt.2 h]
    exact ⟨.inr rfl, by simp only; omega⟩
  · rw [h, show compare (S .f32 y) (S .f32 y) = .eq from by simp]
    simp only
    split
    · exact ⟨.inr rfl, by omega⟩
    · exact ⟨.inl rfl, by omega⟩
  · rw [Int.compare_eq_gt.2 h]
    exact ⟨.inl rfl, by simp only; omega⟩
def mxK (l : List Nat) : Nat → Nat
  | 0 => l.getD 0 0
  | k + 1 => maxF (mxK l k) (l.getD (k + 1) 0)
theorem mxK_ok {l : List Nat} (hl : ∀ z ∈ l, nan .f32 z = false) : ∀ k, k < l.length → nan .f32 (mxK l k) = false ∧ (∀ j, j ≤ k → S .f32 (l.getD j 0) ≤ S .f32 (mxK l k)) ∧ ∃ j, j ≤ k ∧ S .f32 (l.getD j 0) = S .f32 (mxK l k)
  | 0, h => by
    have hm : l.getD 0 0 ∈ l := by simp [List.getD, h]
    exact ⟨hl _ hm, fun j hj => by rw [show j = 0 by omega]; exact Int.le_refl _, 0, Nat.le_refl _, rfl⟩
  | k + 1, h => by
    obtain ⟨a1, a2, j0, a3, a4⟩ := mxK_ok hl k (by omega)
    have hm : l.getD (k + 1) 0 ∈ l := by simp [List.getD, h]
    have hn := hl _ hm
    obtain ⟨b1, b2⟩ := maxF_S a1 hn
    have e : mxK l (k + 1) = maxF (mxK l k) (l.getD (k + 1) 0) := rfl
    rw [e]
    refine ⟨by rcases b1 with h | h <;> rw [h] <;> assumption, fun j hj => ?_, ?_⟩
    · rw [b2]
      by_cases ej : j = k + 1
      · subst ej; omega
      · have := a2 j (by omega); omega
    · rw [b2]
      by_cases hc : S .f32 (mxK l k) < S .f32 (l.getD (k + 1) 0)
      · exact ⟨k + 1, Nat.le_refl _, by omega⟩
      · exact ⟨j0, by omega, by omega⟩
/-- the list of what is lacking, and the first place of its greatest number -/
def lkL (zs : List Nat) (v : List Int) (n : Nat) : List Nat := (List.range n).map (lkA zs v)
theorem lkL_len (zs : List Nat) (v : List Int) (n : Nat) : (lkL zs v n).length = n := by simp [lkL]
theorem lkL_get {zs : List Nat} {v : List Int} {n k : Nat} (h : k < n) : (lkL zs v n).getD k 0 = lkA zs v k := by simp [lkL, List.getD, h]
theorem first_max {zs : List Nat} {v : List Int} {n : Nat} (hn : 0 < n) (hl : ∀ z ∈ lkL zs v n, nan .f32 z = false) :
    bs (key zs v) n < n ∧ S .f32 ((lkL zs v n).getD (bs (key zs v) n) 0) = S .f32 (mxK (lkL zs v n) (n - 1)) ∧ ∀ j, j < bs (key zs v) n → S .f32 ((lkL zs v n).getD j 0) ≠ S .f32 (mxK (lkL zs v n) (n - 1)) := by
  have hb := bs_lt (key zs v) n hn
  obtain ⟨m1, m2⟩ := bs_max (key zs v) n hn
  obtain ⟨_, a2, j0, a3, a4⟩ := mxK_ok hl (n - 1) (by rw [lkL_len]; omega)
  have e : S .f32 ((lkL zs v n).getD (bs (key zs v) n) 0) = S .f32 (mxK (lkL zs v n) (n - 1)) := by
    have h1 := a2 (bs (key zs v) n) (by omega)
    rw [lkL_get (by omega)] at a4
    have h2 : S .f32 (lkA zs v j0) ≤ S .f32 (lkA zs v (bs (key zs v) n)) := m1 j0 (by omega)
    rw [lkL_get hb] at h1 ⊢
    omega
  refine ⟨hb, e, fun j hj => ?_⟩
  rw [← e, lkL_get (by omega), lkL_get hb]
  have : S .f32 (lkA zs v j) < S .f32 (lkA zs v (bs (key zs v) n)) := m2 j hj
  omega
end Flt.Spl
