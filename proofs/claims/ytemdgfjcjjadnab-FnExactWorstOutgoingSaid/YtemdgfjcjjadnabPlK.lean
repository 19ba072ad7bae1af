/-
  Contracts: how many sets accept a lot, for each number of bad parts, in both. No conditions.
-/
import Derived.Test.YtemdgfjcjjadnabPlA
import Derived.Test.YtemdgfjcjjadnabIow
namespace Pl
open Go Flt Dec
def kvL (l s a : Int) (n : Nat) : List Int := (List.range n).map fun b => ((ac l (b : Nat) s (a + 1).toNat : Nat) : Int)
theorem kvL_len (l s a : Int) (n : Nat) : (kvL l s a n).length = n := by simp [kvL]
theorem kvL_s (l s a : Int) (n : Nat) : kvL l s a (n + 1) = kvL l s a n ++ [((ac l (n : Nat) s (a + 1).toNat : Nat) : Int)] := by
  unfold kvL; rw [List.range_succ, List.map_append]; rfl
theorem kvL_get {l s a : Int} {n k : Nat} (h : k < n) : (kvL l s a n).getD k 0 = ((ac l (k : Nat) s (a + 1).toNat : Nat) : Int) := by
  simp [kvL, List.getD, h]
theorem kvL_bd {l s a : Int} {n : Nat} (hl : l ≤ 40) {z : Int} (h : z ∈ kvL l s a n) : 0 ≤ z ∧ z ≤ 1099511627776 := by
  unfold kvL at h
  obtain ⟨b, _, rfl⟩ := List.mem_map.1 h
  have := ac_40 hl (b : Nat) s (a + 1).toNat
  omega
def kvA (l s a : Int) : List Int := if pfB l s a then kvL l s a (l + 1).toNat else []
def kvN (l s a : Int) : Int := if pfB l s a then ((chI l s : Nat) : Int) else 0
theorem kv_no {l s a : Int} (h : pfB l s a = false) : kvA l s a = [] ∧ kvN l s a = 0 := by unfold kvA kvN; rw [h]; exact ⟨rfl, rfl⟩
theorem kv_yes {l s a : Int} (h : pfB l s a = true) : kvA l s a = kvL l s a (l + 1).toNat ∧ kvN l s a = ((chI l s : Nat) : Int) := by unfold kvA kvN; rw [h]; exact ⟨rfl, rfl⟩
theorem pf_in {l s a : Int} (h : pfB l s a = true) : 1 ≤ l ∧ l ≤ 40 ∧ 1 ≤ s ∧ s ≤ l ∧ 0 ≤ a ∧ a ≤ s := by
  unfold pfB plB at h
  simp only [Bool.and_eq_true, decide_eq_true_eq] at h
  omega
theorem as_pf (l s a : Int) : asB l 0 s a = pfB l s a := by
  by_cases h : 1 ≤ l ∧ l ≤ 40
  · exact as_7 (by unfold lwB; rw [decide_eq_true h, decide_eq_true (by omega)]; rfl)
  · rw [as_1 (decide_eq_false h)]; unfold pfB; rw [decide_eq_false h]; rfl
theorem kvA_len (l s a : Int) : (kvA l s a).length ≤ 1048576 := by
  cases h : pfB l s a with
  | false => rw [(kv_no h).1]; exact Nat.zero_le _
  | true => have := pf_in h; rw [(kv_yes h).1, kvL_len]; omega
end Pl
namespace Go.Proofs.Ytemdgfjcjjadnab
open Go.RowKit Flt Dec Cm Pl Iow
end Go.Proofs.Ytemdgfjcjjadnab
