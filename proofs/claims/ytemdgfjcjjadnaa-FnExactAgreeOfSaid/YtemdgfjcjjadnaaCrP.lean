/-
  Operations whose result may be no number; how likely so many machines are down, told so. Plain facts; no conditions beyond those stated.
-/
import Derived.Test.YtemdgfjcjjadnaaF32
import Derived.Test.YtemdgfjcjjadnaaCmW
import Derived.Test.YtemdgfjcjjadnaaSumW
namespace F32
open Go Flt
/-- one operation, whatever comes of it -/
theorem arith_ex {P : Program} {op : Go.BinOp} (hop : isOp op) (t : TypeId) {o p : Option Nat} {x y : Nat} (h : Is o x) (g : Is p y) (w : World) :
    ∃ z w', (binOp op t (.float .f32 x) (.float .f32 y)).run P w = .ok (.float .f32 z) w' ∧ Is (opO op o p) z ∧ z < 4294967296 ∧ Drawn w w' := by
  have ha : isArith op = true := by rcases hop with rfl | rfl | rfl | rfl <;> rfl
  rcases op_step hop h g with ⟨s1, s2⟩ | ⟨r, s1, s2, s3, s4⟩
  · exact ⟨_, _, run_arith_nan w op ha t .f32 x y s2, by rw [s1]; exact drawNan_nan .f32 x y w, drawNan_lt .f32 x y w, Drawn.one w⟩
  · refine ⟨r, w, ?_, by rw [s1]; exact ⟨rfl, s3, s4⟩, s4, Drawn.refl w⟩
    rcases hop with rfl | rfl | rfl | rfl
    · exact run_float_arith w .add t .f32 _ _ _ s2
    · exact run_float_arith w .sub t .f32 _ _ _ s2
    · exact run_float_arith w .mul t .f32 _ _ _ s2
    · exact run_float_arith w .quo t .f32 _ _ _ s2
/-- is it told, and finite -/
def finO (o : Option Nat) : Bool := match o with | some v => fin .f32 v | none => false
theorem fin_is {o : Option Nat} {v : Nat} (h : Is o v) : fin .f32 v = finO o ∧ (if fin .f32 v then v else 0) = (if finO o then o.getD 0 else 0) := by
  cases o with
  | none =>
    have : fin .f32 v = false := nan_fin h
    exact ⟨this, by rw [this]; rfl⟩
  | some u =>
    obtain ⟨rfl, _, _⟩ := h
    exact ⟨rfl, rfl⟩
theorem is_some {v : Nat} (h1 : nan .f32 v = false) (h2 : v < 4294967296) : Is (some v) v := ⟨rfl, h1, h2⟩
/-- a list that is told place by place -/
def oks (O : Nat → Option Nat) (m : Nat) : Bool := (List.range m).all fun k => finO (O k)
def outs (O : Nat → Option Nat) (m : Nat) : List Nat := (List.range m).map fun k => (O k).getD 0
theorem outs_len (O : Nat → Option Nat) (m : Nat) : (outs O m).length = m := by simp [outs]
theorem all_is {O : Nat → Option Nat} {zs : List Nat} {m : Nat} (hl : zs.length = m) (h : ∀ k, k < m → Is (O k) (zs.getD k 0)) : (zs.all fun z => fin .f32 z) = oks O m ∧ (oks O m = true → zs = outs O m) := by
  have h1 : (zs.all fun z => fin .f32 z) = oks O m := by
    rw [Bool.eq_iff_iff, List.all_eq_true]
    unfold oks
    rw [List.all_eq_true]
    constructor
    · intro g k hk
      have hk' := List.mem_range.1 hk
      have := g (zs.getD k 0) (by simp [List.getD, hl, hk'])
      rw [(fin_is (h k hk')).1] at this
      exact this
    · intro g z hz
      obtain ⟨j, hj, rfl⟩ := List.mem_iff_getElem.1 hz
      have := g j (List.mem_range.2 (by omega))
      rw [← (fin_is (h j (by omega))).1] at this
      rw [show zs.getD j 0 = zs[j] from by simp [List.getD, hj]] at this
      exact this
  refine ⟨h1, fun g => ?_⟩
  refine List.ext_getElem (by rw [outs_len, hl]) fun i hi hj => ?_
  have hk := h i (by omega)
  unfold oks at g
  have hf := List.all_eq_true.1 g i (List.mem_range.2 (by omega))
  rw [show zs.getD i 0 = zs[i] from by simp [List.getD, hi]] at hk
  simp only [outs, List.getElem_map, List.getElem_range]
  cases ho : O i with
  | none => rw [ho] at hf; cases hf
  | some v => rw [ho] at hk; exact hk.1
theorem outs_fin {O : Nat → Option Nat} {m k : Nat} (h : oks O m = true) (hk : k < m) : fin .f32 ((outs O m).getD k 0) = true := by
  have hf := List.all_eq_true.1 (show ((List.range m).all fun k => finO (O k)) = true from h) k (List.mem_range.2 hk)
  have : (outs O m).getD k 0 = (O k).getD 0 := by simp [outs, List.getD, hk]
  rw [this]
  cases ho : O k with
  | none => rw [ho] at hf; cases hf
  | some v => rw [ho] at hf; exact hf
theorem num_is {o : Option Nat} {z : Nat} (h : Is o z) : Flt.numO z = o := by
  unfold Flt.numO
  cases o with
  | none => rw [if_pos (show nan .f32 z = true from h)]
  | some v => obtain ⟨rfl, h2, _⟩ := h; rw [if_neg (by rw [h2]; decide)]
theorem sum_is {U S : Nat → Option Nat} (h0 : S 0 = some 0) (hs : ∀ k, S (k + 1) = opO .add (S k) (U k)) : ∀ (zs : List Nat), (∀ k, k < zs.length → Is (U k) (zs.getD k 0)) → Flt.sumO zs = S zs.length := by
  intro zs h
  have key : ∀ n, n ≤ zs.length → Flt.sumO (zs.take n) = S n := by
    intro n
    induction n with
    | zero => intro _; exact h0.symm
    | succ n ih =>
      intro hn
      have h2 := h n (by omega)
      rw [List.take_succ_eq_append_getElem (show n < zs.length by omega), Flt.sumO_snoc, ih (by omega), hs, show zs[n] = zs.getD n 0 from by simp [List.getD, show n < zs.length by omega], num_is h2]
      rfl
  have := key zs.length (Nat.le_refl _)
  rw [List.take_length] at this
  exact this
end F32
namespace Flt.Cr
open Go Flt F32 Cm
theorem whole_num (k : Nat) (h : k ≤ 64) : nan .f32 (Go.floatOfInt .f32 (k : Int)) = false ∧ Go.floatOfInt .f32 (k : Int) < 4294967296 := by
  have : (List.range 65).all (fun k => !nan .f32 (Go.floatOfInt .f32 ((k : Nat) : Int)) && decide (Go.floatOfInt .f32 ((k : Nat) : Int) < 4294967296)) = true := by decide +kernel
  have := List.all_eq_true.1 this k (List.mem_range.2 (by omega))
  simp only [Bool.and_eq_true, Bool.not_eq_true', decide_eq_true_eq] at this
  exact this
theorem whole_is (k : Nat) (h : k ≤ 64) : Is (some (Go.floatOfInt .f32 (k : Int))) (Go.floatOfInt .f32 (k : Int)) := ⟨rfl, (whole_num k h).1, (whole_num k h).2⟩
/-- how likely, but for a factor: k are down -/
def crU (n c f p : Nat) : Nat → Option Nat
  | 0 => some 1065353216
  | k + 1 => F32.opO .quo (F32.opO .mul (F32.opO .mul (crU n c f p k) (some (Go.floatOfInt .f32 ((n - k : Nat) : Int)))) (some f)) (F32.opO .mul (some (Go.floatOfInt .f32 ((min (k + 1) c : Nat) : Int))) (some p))
def crS (n c f p : Nat) : Nat → Option Nat
  | 0 => some 0
  | k + 1 => F32.opO .add (crS n c f p k) (crU n c f p k)
def crO (n c f p k : Nat) : Option Nat := F32.opO .quo (crU n c f p k) (crS n c f p (n + 1))
theorem crS_one (n c f p : Nat) : crS n c f p 1 = some 1065353216 := by show F32.opO .add (some 0) (some 1065353216) = _; decide
def cr0 (m c : Int) (f p : Nat) : Bool := decide (1 ≤ m ∧ m ≤ 16) && (decide (1 ≤ c ∧ c ≤ m) && (nng f && pos p))
def crB (m c : Int) (f p : Nat) : Bool := cr0 m c f p && oks (crO m.toNat c.toNat f p) (m.toNat + 1)
def crA (m c : Int) (f p : Nat) : List Nat := if crB m c f p then outs (crO m.toNat c.toNat f p) (m.toNat + 1) else []
theorem cr0_parts {m c : Int} {f p : Nat} (h : cr0 m c f p = true) : (1 ≤ m ∧ m ≤ 16) ∧ (1 ≤ c ∧ c ≤ m) ∧ nng f = true ∧ pos p = true := by
  unfold cr0 at h
  simp only [Bool.and_eq_true, decide_eq_true_eq] at h
  exact h
theorem crB_no0 {m c : Int} {f p : Nat} (h : cr0 m c f p = false) : crB m c f p = false ∧ crA m c f p = [] := by
  have : crB m c f p = false := by unfold crB; rw [h]; rfl
  exact ⟨this, by unfold crA; rw [this]; rfl⟩
theorem crA_len (m c : Int) (f p : Nat) : (crA m c f p).length ≤ 1023 := by
  unfold crA
  cases h : crB m c f p with
  | false => simp
  | true =>
    have h0 : cr0 m c f p = true := by unfold crB at h; rw [Bool.and_eq_true] at h; exact h.1
    have := (cr0_parts h0).1
    rw [if_pos rfl, outs_len]
    omega
theorem crB_at {n c f p : Nat} (h : cr0 n c f p = true) : crB n c f p = oks (crO n c f p) (n + 1) := by unfold crB; rw [h, Int.toNat_natCast, Int.toNat_natCast]; rfl
theorem crA_at {n c f p : Nat} (h : crB n c f p = true) : crA n c f p = outs (crO n c f p) (n + 1) := by unfold crA; rw [h, Int.toNat_natCast, Int.toNat_natCast]; rfl
theorem nng_is {f : Nat} (h : nng f = true) (hf : f < 4294967296) : Is (some f) f := by
  unfold nng at h; rw [Bool.and_eq_true] at h
  exact ⟨rfl, fin_num h.1, hf⟩
theorem pos_is {f : Nat} (h : pos f = true) (hf : f < 4294967296) : Is (some f) f := by
  unfold pos at h; rw [Bool.and_eq_true] at h
  exact ⟨rfl, fin_num h.1, hf⟩
/-- how many are down in the mean -/
def mdO (L : List Nat) : Nat → Option Nat
  | 0 => some 0
  | k + 1 => F32.opO .add (mdO L k) (F32.opO .mul (some (Go.floatOfInt .f32 (k : Int))) (some (L.getD k 0)))
def mdE (m c : Int) (f p : Nat) : Option Nat := mdO (crA m c f p) (m.toNat + 1)
def mdB (m c : Int) (f p : Nat) : Bool := crB m c f p && finO (mdE m c f p)
def mdV (m c : Int) (f p : Nat) : Nat := if mdB m c f p then (mdE m c f p).getD 0 else 0
theorem mdB_no {m c : Int} {f p : Nat} (h : crB m c f p = false) : mdB m c f p = false ∧ mdV m c f p = 0 := by
  have : mdB m c f p = false := by unfold mdB; rw [h]; rfl
  exact ⟨this, by unfold mdV; rw [this]; rfl⟩
theorem mdB_yes {m c : Int} {f p : Nat} (h : crB m c f p = true) : mdB m c f p = finO (mdE m c f p) ∧ mdV m c f p = if finO (mdE m c f p) then (mdE m c f p).getD 0 else 0 := by
  have : mdB m c f p = finO (mdE m c f p) := by unfold mdB; rw [h]; rfl
  exact ⟨this, by unfold mdV; rw [this]⟩
theorem mdV_num (m c : Int) (f p : Nat) : nan .f32 (mdV m c f p) = false := by
  unfold mdV
  cases h : mdB m c f p with
  | false => exact (show nan .f32 0 = false by decide)
  | true =>
    unfold mdB at h
    rw [Bool.and_eq_true] at h
    rw [if_pos rfl]
    cases ho : mdE m c f p with
    | none => rw [ho] at h; cases h.2
    | some v => rw [ho] at h; exact fin_num h.2
end Flt.Cr
