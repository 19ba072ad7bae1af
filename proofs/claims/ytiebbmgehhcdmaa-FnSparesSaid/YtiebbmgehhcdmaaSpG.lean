/-
  What the reckoned needs, services and shares of spares say, put for the law's steps. Plain facts; no conditions beyond those stated.
-/
import Derived.Test.YtiebbmgehhcdmaaSpP
namespace Flt.Sp
open Go Flt Nd Cm Spl Go.Proofs.Ytiebbmgehhcdmaa
theorem all_at {n : Nat} {p : Nat → Bool} (h : ((List.range n).all p) = true) {i : Nat} (hi : i < n) : p i = true := List.all_eq_true.1 h i (List.mem_range.2 hi)
theorem m_ok {i : Nat} (h : i < 24) : Go.floatBits .quo .f32 (Go.floatOfInt .f32 (i : Int)) 1082130432 = some (mq i) ∧ mn (mq i) = true ∧ mq i < 4294967296 := by
  have := all_at m_all h
  unfold okM at this
  simp only [Bool.and_eq_true, decide_eq_true_eq] at this
  exact ⟨opC_of this.1, this.2.1, this.2.2⟩
theorem h_ok {i : Nat} (h : i < 16) : Go.floatBits .quo .f32 (Go.floatOfInt .f32 (i : Int)) 1073741824 = some (hq i) ∧ mn (hq i) = true ∧ hq i < 4294967296 := by
  have := all_at h_all h
  unfold okM at this
  simp only [Bool.and_eq_true, decide_eq_true_eq] at this
  exact ⟨opC_of this.1, this.2.1, this.2.2⟩
theorem s_ok {i : Nat} (h : i < 16) : Go.floatBits .quo .f32 (Go.floatOfInt .f32 (i : Int)) 1098907648 = some (sq i) ∧ sq i < 4294967296 := by
  have := all_at s_all h
  simp only [Bool.and_eq_true, decide_eq_true_eq] at this
  exact ⟨opC_of this.1, this.2⟩
/-- what a mean's needs keep -/
structure Need (m k : Nat) : Prop where
  low : (FloatKind.f32.format.order (nd m k) 0 == some .lt) = false
  mul : Go.floatBits .mul .f32 (nd m k) (Go.floatOfInt .f32 (k : Int)) = some (kd m k)
  gap : 0 < k → gapOk (kd m k) (mulM m (nd m (k - 1))) = true
  add : Go.floatBits .add .f64 (sm m k) (W (nd m k)) = some (sm m (k + 1))
  most : (FloatKind.f64.format.order (sm m (k + 1)) 4607186922399644778 == some .gt) = false
theorem need {i k : Nat} (hi : i < 24) (hk : k < 24) : Need (mq i) k := by
  have := all_at (all_at c1_all hi) hk
  unfold chk1 at this
  simp only [Bool.and_eq_true, Bool.or_eq_true, Bool.not_eq_true', beq_iff_eq] at this
  obtain ⟨⟨⟨⟨h1, h2⟩, h3⟩, h4⟩, h5⟩ := this
  refine ⟨?_, opC_of h2, fun h => ?_, opD_of h4, ?_⟩
  · exact h1
  · rcases h3 with h3 | h3
    · exact absurd h3 (by omega)
    · exact h3
  · exact h5
structure Gap (a b : Nat) : Prop where
  na : nan .f32 a = false
  nb : nan .f32 b = false
  x : Go.floatBits .sub .f64 (W a) (W b) = some (g1 a b)
  y : Go.floatBits .sub .f64 (W b) (W a) = some (g1 b a)
  nx : nan .f64 (g1 a b) = false
  ny : nan .f64 (g1 b a) = false
  small : (FloatKind.f64.format.order (maxD (g1 a b) (g1 b a)) 4562254508917369340 == some .gt) = false
theorem gap_of {a b : Nat} (h : gapOk a b = true) : Gap a b := by
  unfold gapOk at h
  simp only [Bool.and_eq_true, Bool.not_eq_true'] at h
  obtain ⟨⟨⟨⟨⟨⟨ha, hb⟩, h1⟩, h2⟩, h3⟩, h4⟩, h5⟩ := h
  exact ⟨ha, hb, opD_of h1, opD_of h2, h3, h4, h5⟩
structure Serve (m s : Nat) : Prop where
  found : spB m s = true
  lo : 0 ≤ spK m s
  hi : spK m s ≤ 32
  at_ : stB m (spK m s) 1065353216 = true
  enough : (FloatKind.f32.format.order (stA m (spK m s) 1065353216) s == some .lt) = false
  less : 0 < spK m s → stB m (spK m s - 1) 1065353216 = true ∧ gq (stA m (spK m s - 1) 1065353216) s = false
theorem serve {i j : Nat} (hi : i < 24) (hj : j < 16) : Serve (mq i) (sq j) := by
  have := all_at (all_at c2_all hi) hj
  unfold chk2 at this
  simp only [Bool.and_eq_true, Bool.or_eq_true, Bool.not_eq_true', decide_eq_true_eq] at this
  obtain ⟨⟨⟨⟨h1, h2, h2'⟩, h3⟩, h4⟩, h5⟩ := this
  refine ⟨h1, h2, h2', h3, h4, fun h => ?_⟩
  rcases h5 with h5 | h5
  · exact absurd h5 (by omega)
  · exact h5
/-- a depot's mean that the law chooses -/
def Depot (z : Nat) : Prop := ∃ i, i < 16 ∧ z = hq i
theorem Depot.mean {z : Nat} (h : Depot z) : mn z = true := by obtain ⟨i, hi, rfl⟩ := h; exact (h_ok hi).2.1
theorem Depot.lt {z : Nat} (h : Depot z) : z < 4294967296 := by obtain ⟨i, hi, rfl⟩ := h; exact (h_ok hi).2.2
theorem Depot.chk {z : Nat} (h : Depot z) {n : Nat} (hn : n < 21) : stB z (n : Int) 1065353216 = true ∧ stA z (n : Int) 1065353216 = srv z (n + 1) ∧ S .f32 (lack z (n + 2)) ≤ S .f32 (lack z (n + 1)) := by
  obtain ⟨i, hi, rfl⟩ := h
  have := all_at (all_at c3_all hi) hn
  unfold chk3 at this
  simp only [Bool.and_eq_true, decide_eq_true_eq] at this
  exact ⟨this.1.1, this.1.2, this.2⟩
theorem depot_key {z : Nat} (h : Depot z) {c : Int} (h0 : 0 ≤ c) (h1 : c < 21) : S .f32 (lk z (c + 1)) ≤ S .f32 (lk z c) := by
  obtain ⟨n, rfl⟩ : ∃ n : Nat, c = n := ⟨c.toNat, by omega⟩
  have := (h.chk (n := n) (by omega)).2.2
  unfold lk
  rw [show ((n : Int) + 1).toNat = n + 1 by omega, show ((n : Int)).toNat = n by omega]
  exact this
/-- the greatest need came first, at every step -/
theorem fair (zs : List Nat) (hz : ∀ i, i < zs.length → Depot (zs.getD i 0)) (h0 : 0 < zs.length) : ∀ t, t ≤ 20 → ∀ i j, i < zs.length → j < zs.length → 0 < (spl zs t).getD j 0 →
    S .f32 (lk (zs.getD i 0) ((spl zs t).getD i 0)) ≤ S .f32 (lk (zs.getD j 0) ((spl zs t).getD j 0 - 1))
  | 0, _, i, j, hi, hj, h => by
    exfalso
    have := (spl_bd zs 0 j).2
    omega
  | t + 1, ht, i, j, hi, hj, h => by
    have ih := fair zs hz h0 t (by omega)
    have hb := bs_lt (key zs (spl zs t)) zs.length h0
    obtain ⟨mx, _⟩ := bs_max (key zs (spl zs t)) zs.length h0
    have bd := spl_bd zs t
    have e : spl zs (t + 1) = (spl zs t).set (bs (key zs (spl zs t)) zs.length) ((spl zs t).getD (bs (key zs (spl zs t)) zs.length) 0 + 1) := rfl
    have hlen := spl_len zs t
    have at_b : (spl zs (t + 1)).getD (bs (key zs (spl zs t)) zs.length) 0 = (spl zs t).getD (bs (key zs (spl zs t)) zs.length) 0 + 1 := by
      rw [e]; simp only [List.getD]; rw [List.getElem?_set_self (by omega)]; rfl
    have at_o : ∀ q, q ≠ bs (key zs (spl zs t)) zs.length → (spl zs (t + 1)).getD q 0 = (spl zs t).getD q 0 := by
      intro q hq
      rw [e]; simp only [List.getD]; rw [List.getElem?_set_ne (fun h => hq h.symm)]
    have mono : S .f32 (lk (zs.getD i 0) ((spl zs (t + 1)).getD i 0)) ≤ S .f32 (lk (zs.getD i 0) ((spl zs t).getD i 0)) := by
      by_cases ei : i = bs (key zs (spl zs t)) zs.length
      · subst ei
        rw [at_b]
        exact depot_key (hz _ hi) (bd _).1 (by have := (bd (bs (key zs (spl zs t)) zs.length)).2; omega)
      · rw [at_o i ei]; exact Int.le_refl _
    by_cases ej : j = bs (key zs (spl zs t)) zs.length
    · have h3 : key zs (spl zs t) i ≤ key zs (spl zs t) (bs (key zs (spl zs t)) zs.length) := mx i hi
      unfold key lkA at h3
      rw [ej, at_b, show ((spl zs t).getD (bs (key zs (spl zs t)) zs.length) 0 + 1 - 1) = (spl zs t).getD (bs (key zs (spl zs t)) zs.length) 0 by omega]
      exact Int.le_trans mono h3
    · rw [at_o j ej] at h ⊢
      exact Int.le_trans mono (ih i j hi hj h)
/-- sums of the first ones -/
def pre (v : List Int) : Nat → Int
  | 0 => 0
  | i + 1 => pre v i + v.getD i 0
theorem pre_set (v : List Int) (b : Nat) (x : Int) (hb : b < v.length) : ∀ n, pre (v.set b x) n = pre v n + if b < n then x - v.getD b 0 else 0
  | 0 => by simp [pre]
  | n + 1 => by
    have ih := pre_set v b x hb n
    show pre (v.set b x) n + (v.set b x).getD n 0 = pre v n + v.getD n 0 + _
    rw [ih]
    by_cases e : n = b
    · subst e
      rw [if_neg (by omega), if_pos (by omega)]
      have : (v.set n x).getD n 0 = x := by simp only [List.getD]; rw [List.getElem?_set_self hb]; rfl
      rw [this]
      omega
    · have : (v.set b x).getD n 0 = v.getD n 0 := by simp only [List.getD]; rw [List.getElem?_set_ne (fun h => e h.symm)]
      rw [this]
      by_cases h : b < n
      · rw [if_pos h, if_pos (by omega)]; omega
      · rw [if_neg h, if_neg (by omega)]; omega
theorem pre_zero (n : Nat) : ∀ k, pre (List.replicate n (0 : Int)) k = 0
  | 0 => rfl
  | k + 1 => by
    show pre (List.replicate n (0 : Int)) k + (List.replicate n (0 : Int)).getD k 0 = 0
    rw [pre_zero n k]
    by_cases h : k < n <;> simp [List.getD, h]
theorem given (zs : List Nat) (h0 : 0 < zs.length) : ∀ t, pre (spl zs t) zs.length = t
  | 0 => pre_zero _ _
  | t + 1 => by
    have hb := bs_lt (key zs (spl zs t)) zs.length h0
    show pre ((spl zs t).set _ _) _ = _
    rw [pre_set _ _ _ (by rw [spl_len]; exact hb), if_pos hb, given zs h0 t]
    omega
theorem pre_bd (zs : List Nat) (t : Nat) (ht : t ≤ 20) : ∀ n, n ≤ 8 → 0 ≤ pre (spl zs t) n ∧ pre (spl zs t) n ≤ 20 * n
  | 0, _ => by simp [pre]
  | n + 1, h => by
    have ih := pre_bd zs t ht n (by omega)
    have := spl_bd zs t n
    show 0 ≤ pre (spl zs t) n + _ ∧ pre (spl zs t) n + _ ≤ _
    omega
end Flt.Sp
