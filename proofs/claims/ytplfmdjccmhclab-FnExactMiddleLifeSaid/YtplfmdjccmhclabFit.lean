/-
  The law with one rate that lives fit: contracts, and its exact law. No conditions beyond the statement's own.
-/
import Derived.Test.YtplfmdjccmhclabLawW
import Derived.Test.YtplfmdjccmhclabTot
namespace Liv
open Go Flt F32 Ieee
def okN (k : Nat) : Bool := match FloatKind.f32.format.read (Go.floatOfInt .f32 (k : Int)) with | .number _ m _ => m != 0 | _ => false
theorem count_read {k : Nat} (h1 : 1 ≤ k) (h2 : k ≤ 48) : ∃ s m e, FloatKind.f32.format.read (Go.floatOfInt .f32 (k : Int)) = .number s m e ∧ m ≠ 0 := by
  have h := List.all_eq_true.1 (show ((List.range 48).all fun k => okN (k + 1)) = true by kernel_rfl) (k - 1) (List.mem_range.2 (by omega))
  rw [Nat.sub_add_cancel h1] at h
  unfold okN at h
  split at h
  · rename_i s m e he
    exact ⟨s, m, e, he, by simpa using h⟩
  · cases h
theorem quo_count {t k : Nat} (ht : nan .f32 t = false) (h1 : 1 ≤ k) (h2 : k ≤ 48) : ∃ q, Go.floatBits .quo .f32 t (Go.floatOfInt .f32 (k : Int)) = some q ∧ nan .f32 q = false ∧ q < 4294967296 ∧ (fin .f32 t = false → lnB q = false) := by
  obtain ⟨s, m, e, hr, hm⟩ := count_read h1 h2
  have hb : ∃ q, Go.floatBits .quo .f32 t (Go.floatOfInt .f32 (k : Int)) = some q ∧ (fin .f32 t = false → lnB q = false) := by
    show ∃ q, FloatKind.f32.format.div t (Go.floatOfInt .f32 (k : Int)) = some q ∧ _
    unfold Format.div
    rw [hr]
    rcases read_case .f32 t ht with ⟨m', e', h, _, hf, _⟩ | ⟨h, _⟩
    · rw [h]
      simp only [Datum.quotient, if_neg hm, Option.map_some]
      exact ⟨_, rfl, fun hn => by
        have : fin .f32 t = true := decide_eq_true hf
        rw [this] at hn; cases hn⟩
    · rw [h]
      simp only [Datum.quotient, Option.map_some]
      refine ⟨_, rfl, fun _ => ?_⟩
      cases (t / FloatKind.f32.format.signWeight % 2 == 1) <;> cases s <;> decide
  obtain ⟨q, h, hq⟩ := hb
  exact ⟨q, h, op_num (.inr (.inr (.inr rfl))) h, op_lt (.inr (.inr (.inr rfl))) h, hq⟩
/-- what the law with one rate is told to be: whether it is one, its Shape and its Scale -/
def fitB (zs : List (Nat × Bool)) : Bool := livB zs && (decide (zs.countP (·.2) ≠ 0) && lnB (op32 .quo (tot zs) (Go.floatOfInt .f32 (zs.countP (·.2) : Int))))
def fitS (zs : List (Nat × Bool)) : Nat := if fitB zs then 1065353216 else 0
def fitC (zs : List (Nat × Bool)) : Nat := if fitB zs then op32 .quo (tot zs) (Go.floatOfInt .f32 (zs.countP (·.2) : Int)) else 0
theorem fitS_num (zs : List (Nat × Bool)) : nan .f32 (fitS zs) = false := by unfold fitS; split <;> decide
theorem fitC_num (zs : List (Nat × Bool)) : nan .f32 (fitC zs) = false := by
  unfold fitC
  split
  · rename_i h
    unfold fitB at h
    rw [Bool.and_eq_true, Bool.and_eq_true] at h
    exact ln_num h.2.2
  · decide
/-- a block with three cells, behind calls that leave it as it was -/
theorem three {w w' : World} {r : Nat} {a b c : Value} {t : TypeId} (h : w.heap[r]? = some (.cells #[a, b, c] t (0, 0))) (g : Go.RowKit.Below w.heap.size w w') :
    (w'.cell? ⟨r, 0, none⟩ = some a ∧ w'.cell? ⟨r, 1, none⟩ = some b ∧ w'.cell? ⟨r, 2, none⟩ = some c) ∧ (w'.frozen? ⟨r, 0, none⟩ = false ∧ w'.frozen? ⟨r, 1, none⟩ = false ∧ w'.frozen? ⟨r, 2, none⟩ = false) ∧ r < w'.heap.size := by
  have hlt : r < w.heap.size := by
    refine Nat.lt_of_not_le fun hle => ?_
    rw [Array.getElem?_eq_none hle] at h; cases h
  have h' : w'.heap[r]? = some (.cells #[a, b, c] t (0, 0)) := by rw [g.block r hlt]; exact h
  refine ⟨⟨?_, ?_, ?_⟩, ⟨?_, ?_, ?_⟩, Nat.lt_of_lt_of_le hlt g.size⟩ <;> simp [World.cell?, World.frozen?, h']
theorem three_set {w : World} {r : Nat} {a b c x y z : Value} (h : w.cell? ⟨r, 0, none⟩ = some a ∧ w.cell? ⟨r, 1, none⟩ = some b ∧ w.cell? ⟨r, 2, none⟩ = some c) :
    (((w.setCell ⟨r, 0, none⟩ x).setCell ⟨r, 1, none⟩ y).setCell ⟨r, 2, none⟩ z).cell? ⟨r, 0, none⟩ = some x ∧ (((w.setCell ⟨r, 0, none⟩ x).setCell ⟨r, 1, none⟩ y).setCell ⟨r, 2, none⟩ z).cell? ⟨r, 1, none⟩ = some y ∧
    (((w.setCell ⟨r, 0, none⟩ x).setCell ⟨r, 1, none⟩ y).setCell ⟨r, 2, none⟩ z).cell? ⟨r, 2, none⟩ = some z := by
  obtain ⟨h0, h1, h2⟩ := h
  have n1 : (⟨r, 0, none⟩ : Addr) ≠ ⟨r, 1, none⟩ := by simp
  have n2 : (⟨r, 0, none⟩ : Addr) ≠ ⟨r, 2, none⟩ := by simp
  have n3 : (⟨r, 1, none⟩ : Addr) ≠ ⟨r, 2, none⟩ := by simp
  refine ⟨?_, ?_, ?_⟩
  · rw [World.cell?_setCell_other _ _ _ _ n2.symm, World.cell?_setCell_other _ _ _ _ n1.symm]; exact World.cell?_setCell_same _ _ _ h0
  · rw [World.cell?_setCell_other _ _ _ _ n3.symm]; exact World.cell?_setCell_same _ _ _ (by rw [World.cell?_setCell_other _ _ _ _ n1]; exact h1)
  · exact World.cell?_setCell_same _ _ _ (by rw [World.cell?_setCell_other _ _ _ _ n3, World.cell?_setCell_other _ _ _ _ n2]; exact h2)
theorem law_fit (c : Nat) : lawB 0 1065353216 c = lnB c := by
  unfold lawB
  rw [show lnB 1065353216 = true by decide]
  simp
end Liv
namespace Go.Proofs.Ytplfmdjccmhclab
open Go.RowKit Liv Flt F32
theorem cnt_le (zs : List (Nat × Bool)) : zs.countP (·.2) ≤ zs.length := List.countP_le_length
end Go.Proofs.Ytplfmdjccmhclab
