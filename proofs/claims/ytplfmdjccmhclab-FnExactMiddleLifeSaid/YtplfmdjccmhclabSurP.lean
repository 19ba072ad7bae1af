/-
  Survivors behind failures: the numbers. Conditions: all of them are lives.
-/
import Derived.Test.YtplfmdjccmhclabOne
import Derived.Test.YtplfmdjccmhclabMomW
namespace Liv
open Go Flt F32
def chkQ (d r : Nat) : Bool :=
  match Go.floatBits .quo .f32 (Go.floatOfInt .f32 (d : Int)) (Go.floatOfInt .f32 (r : Int)) with
  | some q => decide (q ≤ 1065353216) && (match Go.floatBits .sub .f32 1065353216 q with | some y => decide (y ≤ 1065353216) | none => false)
  | none => false
set_option maxRecDepth 100000 in
theorem chk_all : ((List.range 48).all fun r => (List.range (r + 1)).all fun d => chkQ (d + 1) (r + 1)) = true := by kernel_rfl
theorem chk_one {d r : Nat} (h1 : 1 ≤ d) (h2 : d ≤ r) (h3 : r ≤ 48) : chkQ d r = true := by
  have a := List.all_eq_true.1 chk_all (r - 1) (List.mem_range.2 (by omega))
  have b := List.all_eq_true.1 a (d - 1) (List.mem_range.2 (by omega))
  rw [show d - 1 + 1 = d by omega, show r - 1 + 1 = r by omega] at b
  exact b
/-- how many failed of those at risk -/
def qT (zs : List (Nat × Bool)) (t : Nat) : Nat := (Go.floatBits .quo .f32 (fN zs t) (rN zs t)).getD 0
/-- the part of those at risk that survive -/
def yT (zs : List (Nat × Bool)) (t : Nat) : Nat := (Go.floatBits .sub .f32 1065353216 (qT zs t)).getD 0
theorem fT_mem2 {zs : List (Nat × Bool)} {t : Nat} (h : t ∈ fT zs) : (t, true) ∈ zs := by
  unfold fT at h
  obtain ⟨⟨x, b⟩, hz, rfl⟩ := List.mem_map.1 h
  obtain ⟨h1, h2⟩ := List.mem_filter.1 hz
  simp only at h2
  subst h2
  exact h1
theorem count_good {zs : List (Nat × Bool)} (hL : livB zs = true) (hV : ∀ z ∈ zs, VL z) {t : Nat} (ht : t ∈ tS zs) : 1 ≤ zs.countP (fellP t) ∧ zs.countP (fellP t) ≤ zs.countP (riskP t) ∧ zs.countP (riskP t) ≤ 48 := by
  have hm : (t, true) ∈ zs := fT_mem2 ((ordF_perm _).mem_iff.1 (compact_mem ht))
  have hv : VF t := hV _ hm
  refine ⟨?_, ?_, Nat.le_trans List.countP_le_length (liv_len hL).2⟩
  · refine List.countP_pos_iff.2 ⟨_, hm, ?_⟩
    show (true && _) = true
    rw [(eq_VF hv hv).1]
    simp
  · refine List.countP_mono_left fun z _ h => ?_
    unfold fellP at h
    unfold riskP
    rw [Bool.and_eq_true] at h
    rw [h.2, Bool.or_true]
theorem q_good {zs : List (Nat × Bool)} (hL : livB zs = true) (hV : ∀ z ∈ zs, VL z) {t : Nat} (ht : t ∈ tS zs) :
    Go.floatBits .quo .f32 (fN zs t) (rN zs t) = some (qT zs t) ∧ Go.floatBits .sub .f32 1065353216 (qT zs t) = some (yT zs t) ∧ yT zs t ≤ 1065353216 ∧ qT zs t ≤ 1065353216 := by
  obtain ⟨h1, h2, h3⟩ := count_good hL hV ht
  have h := chk_one h1 h2 h3
  unfold chkQ at h
  unfold yT qT
  rw [show fN zs t = Go.floatOfInt .f32 (zs.countP (fellP t) : Int) from rfl, show rN zs t = Go.floatOfInt .f32 (zs.countP (riskP t) : Int) from rfl]
  cases hq : Go.floatBits .quo .f32 (Go.floatOfInt .f32 (zs.countP (fellP t) : Int)) (Go.floatOfInt .f32 (zs.countP (riskP t) : Int)) with
  | none => rw [hq] at h; exact absurd h (by decide)
  | some q =>
    rw [hq] at h
    simp only [Bool.and_eq_true, decide_eq_true_eq] at h
    cases hy : Go.floatBits .sub .f32 1065353216 q with
    | none => rw [hy] at h; exact absurd h.2 (by decide)
    | some y =>
      rw [hy] at h
      exact ⟨rfl, by simp only [Option.getD_some]; rw [hy]; rfl, by simp only [Option.getD_some]; rw [hy]; simpa using h.2, h.1⟩
/-- survivors behind the first 'k' times -/
def sv (zs : List (Nat × Bool)) (ts : List Nat) : Nat → Nat
  | 0 => 1065353216
  | k + 1 => (Go.floatBits .mul .f32 (sv zs ts k) (yT zs (ts.getD k 0))).getD 0
theorem getD_mem {ts : List Nat} {k : Nat} (h : k < ts.length) : ts.getD k 0 ∈ ts := by simp [List.getD, h]
theorem sv_le {zs : List (Nat × Bool)} (hL : livB zs = true) (hV : ∀ z ∈ zs, VL z) : ∀ k, k ≤ (tS zs).length → sv zs (tS zs) k ≤ 1065353216
  | 0, _ => Nat.le_refl _
  | k + 1, h => by
    obtain ⟨r, h1, h2⟩ := one_mul (sv_le hL hV k (by omega)) (q_good hL hV (getD_mem (show k < (tS zs).length by omega))).2.2.1
    show (Go.floatBits .mul .f32 (sv zs (tS zs) k) (yT zs ((tS zs).getD k 0))).getD 0 ≤ _
    rw [h1]; exact h2
theorem sv_next {zs : List (Nat × Bool)} (hL : livB zs = true) (hV : ∀ z ∈ zs, VL z) {k : Nat} (h : k < (tS zs).length) :
    Go.floatBits .mul .f32 (sv zs (tS zs) k) (yT zs ((tS zs).getD k 0)) = some (sv zs (tS zs) (k + 1)) := by
  obtain ⟨r, h1, h2⟩ := one_mul (sv_le hL hV k (by omega)) (q_good hL hV (getD_mem h)).2.2.1
  show _ = some ((Go.floatBits .mul .f32 (sv zs (tS zs) k) (yT zs ((tS zs).getD k 0))).getD 0)
  rw [h1]; rfl
/-- the table -/
def tab (zs : List (Nat × Bool)) (ts : List Nat) (n : Nat) : List Nat := (List.range n).map fun j => sv zs ts (j + 1)
theorem tab_len (zs : List (Nat × Bool)) (ts : List Nat) (n : Nat) : (tab zs ts n).length = n := by simp [tab]
theorem tab_snoc (zs : List (Nat × Bool)) (ts : List Nat) (n : Nat) : tab zs ts (n + 1) = tab zs ts n ++ [sv zs ts (n + 1)] := by simp [tab, List.range_succ]
theorem tab_get (zs : List (Nat × Bool)) (ts : List Nat) {n j : Nat} (h : j < n) : (tab zs ts n).getD j 0 = sv zs ts (j + 1) := by simp [tab, List.getD, h]
theorem one_num {b : Nat} (h : b ≤ 1065353216) : nan .f32 b = false := nan_false (k := .f32) (by
  have e : FloatKind.f32.format.signWeight = 2147483648 := by decide
  have ei : FloatKind.f32.format.infRung = 2139095040 := by decide
  rw [e, ei, Nat.mod_eq_of_lt (by omega)]; omega)
end Liv
