/-
  The line of lives over stresses, in the model. Conditions: the lists read as lists of numbers, of at most 2^20.
-/
import Derived.Test.YtppkeabkjabhdaaLinI
import Derived.Test.YtppkeabkjabhdaaAsc
import Derived.Test.YtppkeabkjabhdaaLogW
namespace Go.Proofs.Ytppkeabkjabhdaa
open Go Flt Dec F32 Cm We
/-- where a number lies: 1 over it, its logarithm, itself -/
def sfp (kd : Int) (S : List Nat) (j : Nat) : Option Nat := if kd = 0 then F32.opO .quo (some 1065353216) (some (S.getD j 0)) else if kd = 1 then logOut (S.getD j 0) else some (S.getD j 0)
def sf0 (kd : Int) (S L : List Nat) : Bool := decide (0 ≤ kd ∧ kd ≤ 2) && (decide (S.length = L.length) && (S.all pos && L.all pos))
def sfK (kd : Int) (S L : List Nat) : Bool := F32.oks (sfp kd S) S.length && F32.oks (sfp 1 L) L.length
def sfX (kd : Int) (S : List Nat) : List Nat := F32.outs (sfp kd S) S.length
def sfC (kd : Int) (S L : List Nat) : Bool := sf0 kd S L && (sfK kd S L && plC (sfX kd S) (sfX 1 L))
def sfB (kd : Int) (S L : List Nat) : Nat := if sfC kd S L then (plB (sfX kd S) (sfX 1 L)).getD 0 else 0
def sfM (kd : Int) (S L : List Nat) : Nat := if sfC kd S L then (plS (sfX kd S) (sfX 1 L)).getD 0 else 0
theorem sf_no {kd : Int} {S L : List Nat} (h : sf0 kd S L = false) : sfC kd S L = false ∧ sfB kd S L = 0 ∧ sfM kd S L = 0 := by
  have h1 : sfC kd S L = false := by unfold sfC; rw [h]; exact Bool.false_and _
  have hf : ¬ (false = true) := by decide
  exact ⟨h1, by unfold sfB; rw [h1]; exact if_neg hf, by unfold sfM; rw [h1]; exact if_neg hf⟩
/-- the lists that were laid tell the same -/
theorem sf_end {kd : Int} {S L : List Nat} {n : Nat} (h : sf0 kd S L = true) (hs : S.length = n) {X Y : List Nat} (hx : X.length = n) (hy : Y.length = n) (gx : ∀ j, j < n → F32.Is (sfp kd S j) (X.getD j 0)) (gy : ∀ j, j < n → F32.Is (sfp 1 L j) (Y.getD j 0)) :
    sfC kd S L = plC X Y ∧ sfB kd S L = (if plC X Y then (plB X Y).getD 0 else 0) ∧ sfM kd S L = (if plC X Y then (plS X Y).getD 0 else 0) := by
  have hl : L.length = n := by
    unfold sf0 at h
    simp only [Bool.and_eq_true, decide_eq_true_eq] at h
    omega
  obtain ⟨a1, a2⟩ := F32.all_is hx gx
  obtain ⟨b1, b2⟩ := F32.all_is hy gy
  have key : sfC kd S L = plC X Y ∧ (plC X Y = true → sfX kd S = X ∧ sfX 1 L = Y) := by
    cases h1 : F32.oks (sfp kd S) n with
    | false =>
      have e : plC X Y = false := plC_0 (pl_t (by rw [← h1]; exact a1))
      refine ⟨?_, fun q => by rw [e] at q; cases q⟩
      rw [e]; unfold sfC sfK; rw [hs, h1]; simp
    | true =>
      cases h2 : F32.oks (sfp 1 L) n with
      | false =>
        have e : plC X Y = false := plC_0 (pl_v (by rw [← h2]; exact b1))
        refine ⟨?_, fun q => by rw [e] at q; cases q⟩
        rw [e]; unfold sfC sfK; rw [hs, hl, h2]; simp
      | true =>
        have e1 : sfX kd S = X := by unfold sfX; rw [hs]; exact (a2 h1).symm
        have e2 : sfX 1 L = Y := by unfold sfX; rw [hl]; exact (b2 h2).symm
        refine ⟨?_, fun _ => ⟨e1, e2⟩⟩
        unfold sfC sfK; rw [h, hs, hl, h1, h2, e1, e2]; simp only [Bool.true_and]
  refine ⟨key.1, ?_, ?_⟩
  · unfold sfB
    rw [key.1]
    cases hc : plC X Y with
    | false => rw [if_neg (show ¬ (false = true) by decide), if_neg (show ¬ (false = true) by decide)]
    | true => obtain ⟨e1, e2⟩ := key.2 hc; rw [e1, e2]
  · unfold sfM
    rw [key.1]
    cases hc : plC X Y with
    | false => rw [if_neg (show ¬ (false = true) by decide), if_neg (show ¬ (false = true) by decide)]
    | true => obtain ⟨e1, e2⟩ := key.2 hc; rw [e1, e2]
theorem num_get {o : Option Nat} (h : finO o = true) : nan .f32 (o.getD 0) = false := by
  cases o with
  | none => cases h
  | some v => exact fin_num h
theorem sfB_num (kd : Int) (S L : List Nat) : nan .f32 (sfB kd S L) = false := by
  unfold sfB
  cases hc : sfC kd S L with
  | false => rw [if_neg (show ¬ (false = true) by decide)]; decide
  | true =>
    rw [if_pos rfl]
    unfold sfC at hc
    simp only [Bool.and_eq_true] at hc
    exact num_get (plC_parts hc.2.2).2.2.1
theorem sfM_num (kd : Int) (S L : List Nat) : nan .f32 (sfM kd S L) = false := by
  unfold sfM
  cases hc : sfC kd S L with
  | false => rw [if_neg (show ¬ (false = true) by decide)]; decide
  | true =>
    rw [if_pos rfl]
    unfold sfC at hc
    simp only [Bool.and_eq_true] at hc
    exact num_get (plC_parts hc.2.2).2.2.2.1
/-- the logarithm of what is above 0 is a number -/
theorem log_pos {a : Nat} (h : pos a = true) (ha : a < 4294967296) : ∃ v, logOut a = some v := by
  have hf := pos_fin h
  rcases log_kinds a ha with ⟨hn, _⟩ | ⟨_, hz, _⟩ | ⟨_, hs, _⟩ | ⟨hi, _⟩ | ⟨_, _, _, _, v, hv, ho⟩
  · rw [fin_num hf] at hn; cases hn
  · rcases hz with rfl | rfl
    · exact absurd h (by decide)
    · exact absurd h (by decide)
  · exfalso
    have hg : (FloatKind.f32.format.order a 0 == some .gt) = true := by unfold pos at h; rw [Bool.and_eq_true] at h; exact h.2
    rw [gtB .f32 a 0 (fin_num hf) (by decide), S32 a ha, if_neg (by omega), S32 0 (by decide), if_pos (by decide)] at hg
    have := of_decide_eq_true hg
    omega
  · subst hi; exact absurd h (by decide)
  · exact ⟨v, by rw [ho]; exact hv⟩
end Go.Proofs.Ytppkeabkjabhdaa
