/-
  One operation on floating-point numbers: a number, or none; what comes of either. No conditions.
-/
import Derived.Test.YtemdgfjcjjadnaaFlt
import Derived.Test.YtemdgfjcjjadnaaFop
namespace F32
open Go Flt Ieee
/-- 'v' is what was told: this number, or none -/
def Is (o : Option Nat) (v : Nat) : Prop := match o with | some u => v = u ∧ nan .f32 v = false ∧ v < 4294967296 | none => nan .f32 v = true
theorem Is.two {o : Option Nat} {u v : Nat} (hu : Is o u) (hv : Is o v) : (u = v ∧ nan .f32 u = false ∧ u < 4294967296) ∨ (nan .f32 u = true ∧ nan .f32 v = true) := by
  cases o with
  | none => exact .inr ⟨hu, hv⟩
  | some x => exact .inl ⟨hu.1.trans hv.1.symm, hu.2.1, hu.2.2⟩
def numO (z : Nat) : Option Nat := if nan .f32 z then none else some z
theorem is_num {z : Nat} (h : z < 4294967296) : Is (numO z) z := by
  unfold numO
  rcases Bool.eq_false_or_eq_true (nan .f32 z) with hn | hn
  · rw [if_pos hn]; exact hn
  · rw [if_neg (by rw [hn]; decide)]; exact ⟨rfl, hn, h⟩
theorem numO_of {z : Nat} (h : nan .f32 z = false) : numO z = some z := by unfold numO; rw [if_neg (by rw [h]; decide)]
def opO (op : Go.BinOp) (o p : Option Nat) : Option Nat := o.bind fun s => p.bind fun z => Go.floatBits op .f32 s z
theorem write_num {k : Go.FloatKind} {d : Option Datum} {r : Nat} (h : d.map k.format.write = some r) (hd : ∀ s t, d ≠ some (.nan s t)) : nan k r = false := by
  cases d with
  | none => cases h
  | some d =>
    simp only [Option.map_some, Option.some.injEq] at h
    cases d with
    | nan s t => exact absurd rfl (hd s t)
    | infinity s =>
      rw [← h]
      exact nan_false (by show k.format.word s k.format.infRung % k.format.signWeight ≤ _; rw [(word_mod k.format s _ (infRung_lt _)).1]; exact Nat.le_refl _)
    | number s m e =>
      have hw : ∃ q, k.format.nearest s m e = k.format.word s q ∧ q ≤ k.format.infRung := by
        unfold Format.nearest
        split
        · exact ⟨0, rfl, Nat.zero_le _⟩
        · exact ⟨_, rfl, Nat.min_le_right _ _⟩
      obtain ⟨q, h1, h2⟩ := hw
      rw [← h]
      exact nan_false (by show k.format.nearest s m e % k.format.signWeight ≤ _; rw [h1, (word_mod k.format s _ (Nat.lt_of_le_of_lt h2 (infRung_lt _))).1]; exact h2)
theorem write_lt32 {d : Option Datum} {r : Nat} (h : d.map Go.FloatKind.f32.format.write = some r) : r < 4294967296 := by
  cases d with
  | none => cases h
  | some d =>
    simp only [Option.map_some, Option.some.injEq] at h
    rw [← h]
    exact Ieee.Format.write_lt _ _
def isOp (op : Go.BinOp) : Prop := op = .add ∨ op = .sub ∨ op = .mul ∨ op = .quo
theorem op_nan {op : Go.BinOp} (hop : isOp op) {k : Go.FloatKind} {x y : Nat} (h : nan k x = true ∨ nan k y = true) : Go.floatBits op k x y = none := by
  have hx : ∀ {b}, nan k b = true → ∃ s t, k.format.read b = .nan s t := fun {b} hb => by
    obtain ⟨t, ht⟩ := read_nan k.format b (by simpa [nan] using hb) (bin_le k)
    exact ⟨_, t, ht⟩
  rcases hop with rfl | rfl | rfl | rfl
  · show k.format.add x y = none
    unfold Format.add
    rcases h with h | h
    · obtain ⟨s, t, ht⟩ := hx h; rw [ht]; cases k.format.read y <;> rfl
    · obtain ⟨s, t, ht⟩ := hx h; rw [ht]; cases k.format.read x <;> rfl
  · show k.format.sub x y = none
    unfold Format.sub
    rcases h with h | h
    · obtain ⟨s, t, ht⟩ := hx h; rw [ht]; cases k.format.read y <;> rfl
    · obtain ⟨s, t, ht⟩ := hx h; rw [ht]; cases k.format.read x <;> rfl
  · show k.format.mul x y = none
    unfold Format.mul
    rcases h with h | h
    · obtain ⟨s, t, ht⟩ := hx h; rw [ht]; cases k.format.read y <;> rfl
    · obtain ⟨s, t, ht⟩ := hx h; rw [ht]; cases k.format.read x <;> rfl
  · show k.format.div x y = none
    unfold Format.div
    rcases h with h | h
    · obtain ⟨s, t, ht⟩ := hx h; rw [ht]; cases k.format.read y <;> rfl
    · obtain ⟨s, t, ht⟩ := hx h; rw [ht]; cases k.format.read x <;> rfl
theorem op_num {op : Go.BinOp} (hop : isOp op) {k : Go.FloatKind} {x y r : Nat} (h : Go.floatBits op k x y = some r) : nan k r = false := by
  rcases hop with rfl | rfl | rfl | rfl
  · exact write_num (d := (k.format.read x).sum (k.format.read y)) h (by intro s t; cases k.format.read x <;> cases k.format.read y <;> simp [Datum.sum])
  · exact write_num (d := (k.format.read x).sum (k.format.read y).opposite) h (by intro s t; cases k.format.read x <;> cases k.format.read y <;> simp [Datum.sum, Datum.opposite])
  · exact write_num (d := (k.format.read x).product (k.format.read y)) h (by intro s t; cases k.format.read x <;> cases k.format.read y <;> simp [Datum.product])
  · refine write_num (d := (k.format.read x).quotient (k.format.fractionBits + 2) (k.format.read y)) h ?_
    intro s t
    cases k.format.read x <;> cases k.format.read y <;> simp [Datum.quotient]
    split
    · split <;> simp
    · simp
theorem op_lt {op : Go.BinOp} (hop : isOp op) {x y r : Nat} (h : Go.floatBits op .f32 x y = some r) : r < 4294967296 := by
  rcases hop with rfl | rfl | rfl | rfl
  · exact write_lt32 (d := (Go.FloatKind.f32.format.read x).sum (Go.FloatKind.f32.format.read y)) h
  · exact write_lt32 (d := (Go.FloatKind.f32.format.read x).sum (Go.FloatKind.f32.format.read y).opposite) h
  · exact write_lt32 (d := (Go.FloatKind.f32.format.read x).product (Go.FloatKind.f32.format.read y)) h
  · exact write_lt32 (d := (Go.FloatKind.f32.format.read x).quotient (Go.FloatKind.f32.format.fractionBits + 2) (Go.FloatKind.f32.format.read y)) h
/-- one operation more, where each operand is what was told -/
theorem op_step {op : Go.BinOp} (hop : isOp op) {o p : Option Nat} {s z : Nat} (h : Is o s) (g : Is p z) :
    (opO op o p = none ∧ Go.floatBits op .f32 s z = none) ∨ (∃ r, opO op o p = some r ∧ Go.floatBits op .f32 s z = some r ∧ nan .f32 r = false ∧ r < 4294967296) := by
  cases o with
  | none => exact .inl ⟨rfl, op_nan hop (.inl h)⟩
  | some u =>
    cases p with
    | none => exact .inl ⟨rfl, op_nan hop (.inr g)⟩
    | some v =>
      obtain ⟨rfl, _, _⟩ := h
      obtain ⟨rfl, _, _⟩ := g
      show (Go.floatBits op .f32 _ _ = none ∧ _) ∨ _
      cases hb : Go.floatBits op .f32 s z with
      | none => exact .inl ⟨rfl, rfl⟩
      | some r => exact .inr ⟨r, hb, rfl, op_num hop hb, op_lt hop hb⟩
/-- a number and a finite one have a sum -/
theorem add_fin {s t : Nat} (hs : nan .f32 s = false) (ht : fin .f32 t = true) : ∃ r, Go.floatBits .add .f32 s t = some r ∧ nan .f32 r = false ∧ r < 4294967296 := by
  have hb : ∃ r, Go.floatBits .add .f32 s t = some r := by
    obtain ⟨m, e, h2, _⟩ := read_num Go.FloatKind.f32.format t (of_decide_eq_true ht)
    show ∃ r, Go.FloatKind.f32.format.add s t = some r
    unfold Format.add
    rw [h2]
    rcases read_case .f32 s hs with ⟨m', e', h, _⟩ | ⟨h, _⟩
    · rw [h]; exact ⟨_, rfl⟩
    · rw [h]; exact ⟨_, rfl⟩
  obtain ⟨r, h⟩ := hb
  exact ⟨r, h, op_num (.inl rfl) h, op_lt (.inl rfl) h⟩
end F32
