/-
  Spares that are split: both functions. Conditions: the list reads as a list of 32-bit numbers.
-/
import Derived.Test.YtiebbmgehhcdmaaSplW
import Derived.Test.YtiebbmgehhcdmaaIntW
namespace Flt.Nd
open Go Flt Dec
theorem FHead1.keep {w w' : World} {g : Nat} {l : List Nat} (h : FHead1 w g l) (hg : g < w.heap.size) (hb : Go.RowKit.Below w.heap.size w w') : FHead1 w' g l := by
  intro j hj
  rw [World.cell?_of_block (w := w) (hb.block g hg)]; exact h j hj
theorem FHead1.row {w : World} {g : Nat} {l : List Nat} (h : FHead1 w g l) (hg : g < w.heap.size) (hm : l.length ≤ 1048576) (hz : ∀ z ∈ l, z < 4294967296) : FRow w (some ⟨g, 0, none⟩) l.length l :=
  ⟨rfl, by unfold maxLen; omega, hz, fun i hi => ⟨g, 0, rfl, hg, by rw [Nat.zero_add]; exact h i hi⟩⟩
end Flt.Nd
namespace Flt.Spl
open Go Flt Nd Cm Dec
theorem irow_nil (w : World) (a : Option Addr) : IRow w a 0 [] := ⟨rfl, Nat.zero_le _, by simp, fun i hi => absurd hi (Nat.not_lt_zero _)⟩
theorem lkL_snoc (zs : List Nat) (v : List Int) (n : Nat) : lkL zs v (n + 1) = lkL zs v n ++ [lkA zs v n] := by simp [lkL, List.range_succ]
theorem splB_len {zs : List Nat} {n : Int} (h : ¬ (1 ≤ zs.length ∧ zs.length ≤ 8)) : splB zs n = false := by unfold splB; rw [decide_eq_false h, Bool.false_and]
theorem splB_tot {zs : List Nat} {n : Int} (h : ¬ (0 ≤ n ∧ n ≤ 32)) : splB zs n = false := by unfold splB; rw [decide_eq_false h, Bool.false_and, Bool.and_false]
theorem splB_mn {zs : List Nat} {n : Int} (h : zs.all mn = false) : splB zs n = false := by unfold splB; rw [h, Bool.and_false, Bool.and_false]
theorem all_no {zs : List Nat} {k : Nat} (hk : k < zs.length) (h : mn (zs.getD k 0) = false) : zs.all mn = false := by
  rw [List.all_eq_false]
  exact ⟨zs.getD k 0, by simp [List.getD, hk], by rw [h]; decide⟩
theorem all_yes {zs : List Nat} (h : ∀ k, k < zs.length → mn (zs.getD k 0) = true) : zs.all mn = true := by
  rw [List.all_eq_true]
  intro z hz
  obtain ⟨j, hj, rfl⟩ := List.mem_iff_getElem.1 hz
  have := h j hj
  rw [show zs.getD j 0 = zs[j] from by simp [List.getD, hj]] at this
  exact this
theorem splA_yes {zs : List Nat} {N : Nat} (h1 : 1 ≤ zs.length ∧ zs.length ≤ 8) (h2 : N ≤ 32) (h3 : zs.all mn = true) : splB zs N = true ∧ splA zs N = spl zs N := by
  have : splB zs N = true := by unfold splB; rw [decide_eq_true h1, decide_eq_true (show 0 ≤ (N : Int) ∧ (N : Int) ≤ 32 by omega), h3]; rfl
  refine ⟨this, ?_⟩
  unfold splA; rw [this, Int.toNat_natCast]; rfl
/-- the greatest number so far -/
def most (zs : List Nat) (v : List Int) (k : Nat) : Nat := if k = 0 then 0 else lkA zs v (bs (key zs v) k)
theorem bs_one (f : Nat → Int) : bs f 1 = 0 := by simp [bs]
theorem bs_gt {f : Nat → Int} {k : Nat} (h0 : 0 < k) (h : f (bs f k) < f k) : bs f (k + 1) = k := by unfold bs; rw [if_neg (by omega), if_pos h]
theorem bs_le {f : Nat → Int} {k : Nat} (h0 : 0 < k) (h : ¬ f (bs f k) < f k) : bs f (k + 1) = bs f k := by
  show (if k = 0 then 0 else if f (bs f k) < f k then k else bs f k) = _
  rw [if_neg (by omega), if_neg h]
/-- all that the walks ask of a place -/
theorem lkA_ok {zs : List Nat} {v : List Int} {k : Nat} (hz : mean (zs.getD k 0)) (hv : 0 ≤ v.getD k 0 ∧ v.getD k 0 ≤ 32) : ∃ c : Nat, v.getD k 0 = (c : Int) ∧ c ≤ 32 ∧ Go.floatBits .sub .f32 1065353216 (srv (zs.getD k 0) (c + 1)) = some (lkA zs v k) ∧ nan .f32 (lkA zs v k) = false ∧ lkA zs v k < 4294967296 := by
  obtain ⟨h1, h2, h3⟩ := lk_ok hz hv
  refine ⟨(v.getD k 0).toNat, by omega, by omega, h1, h2, h3⟩
end Flt.Spl
namespace Go.Proofs.Ytiebbmgehhcdmaa
open Go.RowKit Flt Dec Cm Nd Liv Spl Hld
end Go.Proofs.Ytiebbmgehhcdmaa
