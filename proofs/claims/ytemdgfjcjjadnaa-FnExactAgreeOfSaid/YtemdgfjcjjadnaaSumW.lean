/-
  Contracts of sums of float32 numbers in the program and in its model, of the laws' comparison of two slices, and the walk of the exact law of SumNumbers. Conditions: arguments fit their kind.
-/
import Derived.Test.YtemdgfjcjjadnaaEqW
import Derived.Test.YtemdgfjcjjadnaaRootW
namespace Flt
open Ieee
theorem write_num {k : Go.FloatKind} {d : Option Datum} {r : Nat} (h : d.map k.format.write = some r) (hd : ∀ s t, d ≠ some (.nan s t)) : nan k r = false := by
  cases d with
  | none => cases h
  | some d =>
    simp only [Option.map_some, Option.some.injEq] at h
    cases d with
    | nan s t => exact absurd rfl (hd s t)
    | infinity s =>
      rw [← h]
      exact nan_false (by show k.format.word s k.format.infRung % k.format.signWeight ≤ _; rw [(word_mod k.format s _ (infRung_lt _)).1]; exact Nat.le_refl _)
    | number s m e =>
      have hw : ∃ q, k.format.nearest s m e = k.format.word s q ∧ q ≤ k.format.infRung := by
        unfold Format.nearest
        split
        · exact ⟨0, rfl, Nat.zero_le _⟩
        · exact ⟨_, rfl, Nat.min_le_right _ _⟩
      obtain ⟨q, h1, h2⟩ := hw
      rw [← h]
      exact nan_false (by show k.format.nearest s m e % k.format.signWeight ≤ _; rw [h1, (word_mod k.format s _ (Nat.lt_of_le_of_lt h2 (infRung_lt _))).1]; exact h2)
theorem sum_num (a b : Datum) : ∀ s t, a.sum b ≠ some (.nan s t) := by
  intro s t
  cases a <;> cases b <;> simp [Datum.sum]
theorem product_num (a b : Datum) : ∀ s t, a.product b ≠ some (.nan s t) := by
  intro s t
  cases a <;> cases b <;> simp [Datum.product]
theorem add_some {k : Go.FloatKind} {x y r : Nat} (h : Go.floatBits .add k x y = some r) : nan k r = false := write_num (d := (k.format.read x).sum (k.format.read y)) h (sum_num _ _)
theorem mul_some {k : Go.FloatKind} {x y r : Nat} (h : Go.floatBits .mul k x y = some r) : nan k r = false := write_num (d := (k.format.read x).product (k.format.read y)) h (product_num _ _)
theorem add_nan {k : Go.FloatKind} {x y : Nat} (h : nan k x = true ∨ nan k y = true) : Go.floatBits .add k x y = none := by
  show k.format.add x y = none
  unfold Format.add
  rcases h with h | h
  · obtain ⟨s, t, ht⟩ := nan_read h; rw [ht]; cases k.format.read y <;> rfl
  · obtain ⟨s, t, ht⟩ := nan_read h; rw [ht]; cases k.format.read x <;> rfl
theorem mul_nan {k : Go.FloatKind} {x y : Nat} (h : nan k x = true ∨ nan k y = true) : Go.floatBits .mul k x y = none := by
  show k.format.mul x y = none
  unfold Format.mul
  rcases h with h | h
  · obtain ⟨s, t, ht⟩ := nan_read h; rw [ht]; cases k.format.read y <;> rfl
  · obtain ⟨s, t, ht⟩ := nan_read h; rw [ht]; cases k.format.read x <;> rfl
/-- one more, where both are numbers and the sum is one -/
def opO (op : Go.BinOp) (o p : Option Nat) : Option Nat := o.bind fun s => p.bind fun z => Go.floatBits op .f32 s z
def numO (z : Nat) : Option Nat := if nan .f32 z then none else some z
def sumO (zs : List Nat) : Option Nat := zs.foldl (fun o z => opO .add o (numO z)) (some 0)
theorem sumO_snoc (zs : List Nat) (z : Nat) : sumO (zs ++ [z]) = opO .add (sumO zs) (numO z) := by unfold sumO; rw [List.foldl_append]; rfl
end Flt
namespace Go.Proofs.Ytemdgfjcjjadnaa
open Go.RowKit Flt

theorem is_num {z : Nat} (h : z < 4294967296) : Is (numO z) z := by
  unfold numO
  rcases Bool.eq_false_or_eq_true (nan .f32 z) with hn | hn
  · rw [if_pos hn]; exact hn
  · rw [if_neg (by rw [hn]; decide)]; exact ⟨rfl, hn, h⟩
/-- an operation on what was told: it has a result, or it has none -/
theorem op_step (op : BinOp) (hop : op = .add ∨ op = .mul) {o p : Option Nat} {s z : Nat} (h : Is o s) (g : Is p z) :
    (opO op o p = none ∧ floatBits op .f32 s z = none) ∨ (∃ r, opO op o p = some r ∧ floatBits op .f32 s z = some r ∧ nan .f32 r = false ∧ r < 4294967296) := by
  have hnan : nan .f32 s = true ∨ nan .f32 z = true → floatBits op .f32 s z = none := by
    rcases hop with rfl | rfl
    · exact add_nan
    · exact mul_nan
  have hnum : ∀ r, floatBits op .f32 s z = some r → nan .f32 r = false ∧ r < 4294967296 := by
    rcases hop with rfl | rfl
    · exact fun r hr => ⟨add_some hr, FloatKind.f32.format.add_lt hr⟩
    · exact fun r hr => ⟨mul_some hr, FloatKind.f32.format.mul_lt hr⟩
  cases o with
  | none => exact .inl ⟨rfl, hnan (.inl h)⟩
  | some u =>
    cases p with
    | none => exact .inl ⟨rfl, hnan (.inr g)⟩
    | some v =>
      obtain ⟨rfl, _, _⟩ := h
      obtain ⟨rfl, _, _⟩ := g
      show (floatBits op .f32 s z = none ∧ _) ∨ _
      cases hb : floatBits op .f32 s z with
      | none => exact .inl ⟨rfl, rfl⟩
      | some r => exact .inr ⟨r, hb, rfl, hnum r hb⟩
theorem take_next (zs : List Nat) (k : Nat) (h : k < zs.length) : zs.take (k + 1) = zs.take k ++ [zs.getD k 0] := by
  rw [List.take_succ_eq_append_getElem h]; simp [List.getD, h]
end Go.Proofs.Ytemdgfjcjjadnaa
