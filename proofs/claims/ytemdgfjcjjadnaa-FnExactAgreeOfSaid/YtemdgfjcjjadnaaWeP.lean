/-
  What the functions of wear tell, as plain functions of their arguments: numbers that may be none, told operation by operation. Plain facts; no conditions beyond those stated.
-/
import Derived.Test.YtemdgfjcjjadnaaIxF
import Derived.Test.YtemdgfjcjjadnaaCrP
namespace We
open Go Flt F32 Cm
/-- a whole number -/
def fi (n : Nat) : Option Nat := some (Go.floatOfInt .f32 (n : Int))
/-- how two are in order -/
def cmpO (r : Ordering) (o p : Option Nat) : Bool := match o, p with | some a, some b => FloatKind.f32.format.order a b == some r | _, _ => false
theorem cmp_is (r : Ordering) {o p : Option Nat} {x y : Nat} (h : Is o x) (g : Is p y) : (FloatKind.f32.format.order x y == some r) = cmpO r o p := by
  cases o with
  | none => rw [order_nan .f32 x y (.inl h)]; cases p <;> rfl
  | some u =>
    obtain ⟨rfl, _, _⟩ := h
    cases p with
    | none => rw [order_nan .f32 x y (.inr g)]; rfl
    | some v => obtain ⟨rfl, _, _⟩ := g; rfl
theorem zero_is : Is (some 0) 0 := ⟨rfl, by decide, by decide⟩
theorem one_is : Is (some 1065353216) 1065353216 := ⟨rfl, by decide, by decide⟩
/-- the sum of the first ones -/
def sm (f : Nat → Option Nat) : Nat → Option Nat
  | 0 => some 0
  | k + 1 => F32.opO .add (sm f k) (f k)
theorem sm_ext {f g : Nat → Option Nat} : ∀ {n : Nat}, (∀ k, k < n → f k = g k) → sm f n = sm g n
  | 0, _ => rfl
  | n + 1, h => by
    show F32.opO .add (sm f n) (f n) = F32.opO .add (sm g n) (g n)
    rw [sm_ext (n := n) (fun k hk => h k (by omega)), h n (by omega)]
/-- one number of a list -/
def at_ (Z : List Nat) (i : Nat) : Option Nat := some (Z.getD i 0)
theorem at_is {Z : List Nat} (h : (Z.all fun z => fin .f32 z) = true) {w : World} {a : Option Addr} {len : Nat} (hr : FRow w a len Z) {k : Nat} (hk : k < len) : Is (at_ Z k) (Z.getD k 0) :=
  fin_isN (all_get h (by rw [hr.1]; exact hk)) (lt_at hr hk)
theorem sumO_sm {Z : List Nat} (h : (Z.all fun z => fin .f32 z) = true) : Flt.sumO Z = sm (at_ Z) Z.length := by
  have key : ∀ n, n ≤ Z.length → Flt.sumO (Z.take n) = sm (at_ Z) n := by
    intro n
    induction n with
    | zero => intro _; rfl
    | succ n ih =>
      intro hn
      have hf := all_get h (show n < Z.length by omega)
      rw [List.take_succ_eq_append_getElem (show n < Z.length by omega), Flt.sumO_snoc, ih (by omega), show Z[n] = Z.getD n 0 from by simp [List.getD, show n < Z.length by omega]]
      show _ = F32.opO .add _ (some (Z.getD n 0))
      have : Flt.numO (Z.getD n 0) = some (Z.getD n 0) := by unfold Flt.numO; rw [if_neg (by rw [fin_num hf]; decide)]
      rw [this]
      rfl
  have := key Z.length (Nat.le_refl _)
  rw [List.take_length] at this
  exact this
/-- an answer that is asked for being finite -/
def okB (c : Bool) (o : Option Nat) : Bool := c && finO o
def okV (c : Bool) (o : Option Nat) : Nat := if c && finO o then o.getD 0 else 0
theorem okV_num (c : Bool) (o : Option Nat) : nan .f32 (okV c o) = false := by
  unfold okV
  cases h : c && finO o with
  | false => exact (show nan .f32 0 = false by decide)
  | true =>
    rw [Bool.and_eq_true] at h
    rw [if_pos rfl]
    cases ho : o with
    | none => rw [ho] at h; cases h.2
    | some v => rw [ho] at h; exact fin_num h.2
theorem ok_no {c : Bool} (h : c = false) (o : Option Nat) : okB c o = false ∧ okV c o = 0 := by subst h; exact ⟨rfl, rfl⟩
theorem ok_yes {c : Bool} (h : c = true) (o : Option Nat) : okB c o = finO o ∧ okV c o = if finO o then o.getD 0 else 0 := by subst h; exact ⟨rfl, rfl⟩
/-- a list that is asked for being finite -/
def okL (c : Bool) (O : Nat → Option Nat) (n : Nat) : Bool := c && oks O n
def okA (c : Bool) (O : Nat → Option Nat) (n : Nat) : List Nat := if c && oks O n then outs O n else []
theorem okA_len (c : Bool) (O : Nat → Option Nat) (n : Nat) : (okA c O n).length ≤ n := by
  unfold okA
  split
  · rw [outs_len]; exact Nat.le_refl _
  · exact Nat.zero_le _
theorem okl_no {c : Bool} (h : c = false) (O : Nat → Option Nat) (n : Nat) : okL c O n = false ∧ okA c O n = [] := by subst h; exact ⟨rfl, rfl⟩
theorem okl_bad {c : Bool} {O : Nat → Option Nat} {n : Nat} (h : oks O n = false) : okL c O n = false ∧ okA c O n = [] := by
  unfold okL okA; rw [h]; simp
theorem okl_yes {c : Bool} {O : Nat → Option Nat} {n : Nat} (hc : c = true) (h : oks O n = true) : okL c O n = true ∧ okA c O n = outs O n := by subst hc; unfold okL okA; rw [h]; exact ⟨rfl, rfl⟩
/-- when a line is at a limit -/
def tt0 (b s l : Nat) : Bool := fin .f32 b && (fin .f32 s && (fin .f32 l && !(FloatKind.f32.format.order s 0 == some .eq)))
def ttO (b s l : Nat) : Option Nat := F32.opO .quo (F32.opO .sub (some l) (some b)) (some s)
def finL (Z : List Nat) : Bool := Z.all fun z => fin .f32 z
/-- the line of a path, and what is left -/
def pl0 (T V : List Nat) : Bool := decide (2 ≤ T.length ∧ T.length ≤ 48) && (decide (V.length = T.length) && (finL T && finL V))
def plM (Z : List Nat) : Option Nat := F32.opO .quo (sm (at_ Z) Z.length) (fi Z.length)
def plU (T : List Nat) (i : Nat) : Option Nat := F32.opO .sub (at_ T i) (plM T)
def plFP (T V : List Nat) (i : Nat) : Option Nat := F32.opO .mul (plU T i) (F32.opO .sub (at_ V i) (plM V))
def plFW (T : List Nat) (i : Nat) : Option Nat := F32.opO .mul (plU T i) (plU T i)
def plP (T V : List Nat) : Option Nat := sm (plFP T V) T.length
def plW (T : List Nat) : Option Nat := sm (plFW T) T.length
def plS (T V : List Nat) : Option Nat := F32.opO .quo (plP T V) (plW T)
def plB (T V : List Nat) : Option Nat := F32.opO .sub (plM V) (F32.opO .mul (plS T V) (plM T))
def plD (T V : List Nat) (b s : Option Nat) (i : Nat) : Option Nat := F32.opO .sub (F32.opO .sub (at_ V i) b) (F32.opO .mul s (at_ T i))
def plFL (T V : List Nat) (b s : Option Nat) (i : Nat) : Option Nat := F32.opO .mul (plD T V b s i) (plD T V b s i)
def plE (T V : List Nat) (b s : Option Nat) (n : Nat) : Option Nat := F32.opO .quo (sm (plFL T V b s) n) (fi n)
def plL (T V : List Nat) : Option Nat := plE T V (plB T V) (plS T V) T.length
def plC (T V : List Nat) : Bool := pl0 T V && (!cmpO .eq (plW T) (some 0) && (finO (plB T V) && (finO (plS T V) && finO (plL T V))))
def plV (T V : List Nat) (o : Option Nat) : Nat := if plC T V then o.getD 0 else 0
theorem plV_num (T V : List Nat) {o : Option Nat} (h : plC T V = true → finO o = true) : nan .f32 (plV T V o) = false := by
  unfold plV
  cases hc : plC T V with
  | false => exact (show nan .f32 0 = false by decide)
  | true =>
    have := h hc
    rw [if_pos rfl]
    cases ho : o with
    | none => rw [ho] at this; cases this
    | some v => rw [ho] at this; exact fin_num this
theorem plC_parts {T V : List Nat} (h : plC T V = true) : pl0 T V = true ∧ cmpO .eq (plW T) (some 0) = false ∧ finO (plB T V) = true ∧ finO (plS T V) = true ∧ finO (plL T V) = true := by
  unfold plC at h
  simp only [Bool.and_eq_true, Bool.not_eq_true'] at h
  exact h
theorem pl0_parts {T V : List Nat} (h : pl0 T V = true) : (2 ≤ T.length ∧ T.length ≤ 48) ∧ V.length = T.length ∧ finL T = true ∧ finL V = true := by
  unfold pl0 at h
  simp only [Bool.and_eq_true, decide_eq_true_eq] at h
  exact h
/-- the first time at which a path is at a limit -/
def asc (T : List Nat) : Bool := (List.range T.length).all fun i => i == 0 || cmpO .gt (at_ T i) (at_ T (i - 1))
def pc0 (T V : List Nat) (l : Nat) : Bool := pl0 T V && (asc T && fin .f32 l)
/-- is it at the limit -/
def geB (l z : Nat) : Bool := (FloatKind.f32.format.order z l == some .gt) || (FloatKind.f32.format.order z l == some .eq)
def pcO (T V : List Nat) (l k : Nat) : Option Nat :=
  if k = 0 then at_ T 0 else
  F32.opO .add (at_ T (k - 1)) (F32.opO .mul (F32.opO .quo (F32.opO .sub (some l) (at_ V (k - 1))) (F32.opO .sub (at_ V k) (at_ V (k - 1)))) (F32.opO .sub (at_ T k) (at_ T (k - 1))))
/-- the first place at which it holds, or none -/
def fst (p : Nat → Bool) (Z : List Nat) : Nat := Z.findIdx p
def pcC (T V : List Nat) (l : Nat) : Bool := pc0 T V l && V.any (geB l)
def pcR (T V : List Nat) (l : Nat) : Option Nat := pcO T V l (fst (geB l) V)
end We
