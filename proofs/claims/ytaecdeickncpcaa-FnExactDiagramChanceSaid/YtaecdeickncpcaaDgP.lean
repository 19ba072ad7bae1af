/-
  How likely the top of a diagram fails, told by its nodes. Plain facts; no conditions beyond those stated.
-/
import Derived.Test.YtaecdeickncpcaaChW
import Derived.Test.YtaecdeickncpcaaF32
namespace Flt.Dg
open Go Flt Chn Syl
/-- whether a number of a diagram stands where it may -/
def okP (d : List Int) (m : Int) (p : Nat) : Bool := if p % 3 = 0 then decide (0 ≤ d.getD p 0 ∧ d.getD p 0 ≤ m - 1) else decide (-2 ≤ d.getD p 0 ∧ d.getD p 0 ≤ ((p / 3 : Nat) : Int) - 1)
def lenB (n : Nat) : Bool := decide (3 ≤ n) && (decide (n ≤ 3072) && decide (n % 3 = 0))
def nodB (d : List Int) (m : Int) : Bool := lenB d.length && (List.range d.length).all (okP d m)
def dgB (d : List Int) (cs : List Nat) : Bool := partsB (cs.length : Int) && (chsB cs && nodB d (cs.length : Int))
/-- the ends, and then the nodes -/
def dgL (d : List Int) (cs : List Nat) : Nat → List (Option Nat)
  | 0 => [some 1065353216, some 0]
  | i + 1 => dgL d cs i ++ [F32.opO .add
      (F32.opO .mul (F32.opO .sub (some 1065353216) (some (cs.getD (d.getD (3 * i) 0).toNat 0))) ((dgL d cs i).getD (d.getD (3 * i + 1) 0 + 2).toNat none))
      (F32.opO .mul (some (cs.getD (d.getD (3 * i) 0).toNat 0)) ((dgL d cs i).getD (d.getD (3 * i + 2) 0 + 2).toNat none))]
theorem dgL_len (d : List Int) (cs : List Nat) : ∀ i, (dgL d cs i).length = i + 2
  | 0 => rfl
  | i + 1 => by unfold dgL; rw [List.length_append, dgL_len d cs i]; rfl
/-- the number of a node, or of an end, whatever stands behind it -/
def dgO (d : List Int) (cs : List Nat) (q : Nat) : Option Nat := (dgL d cs q).getD q none
theorem dgL_old (d : List Int) (cs : List Nat) (q : Nat) : ∀ i, q < i + 2 → (dgL d cs (i + 1)).getD q none = (dgL d cs i).getD q none := by
  intro i h
  show (dgL d cs i ++ _).getD q none = _
  simp only [List.getD]
  rw [List.getElem?_append_left (by rw [dgL_len]; exact h)]
theorem dgL_any (d : List Int) (cs : List Nat) (q : Nat) : ∀ i, q < i + 2 → (dgL d cs i).getD q none = dgO d cs q
  | 0, h => by
    unfold dgO
    rcases q with _ | _ | q
    · rfl
    · rfl
    · omega
  | i + 1, h => by
    by_cases e : q < i + 2
    · rw [dgL_old d cs q i e]; exact dgL_any d cs q i e
    · obtain rfl : q = i + 2 := by omega
      unfold dgO
      have h1 : ∀ k, (dgL d cs (i + 1 + k)).getD (i + 2) none = (dgL d cs (i + 1)).getD (i + 2) none := by
        intro k
        induction k with
        | zero => rfl
        | succ k ih => rw [show i + 1 + (k + 1) = (i + 1 + k) + 1 by omega, dgL_old d cs _ _ (by omega), ih]
      rw [show i + 2 = i + 1 + 1 by omega]
      exact (h1 1).symm
theorem dgO_zero (d : List Int) (cs : List Nat) : dgO d cs 0 = some 1065353216 ∧ dgO d cs 1 = some 0 := ⟨rfl, by rw [← dgL_any d cs 1 0 (by omega)]; rfl⟩
/-- a node, told by those ahead of it -/
theorem dgO_node (d : List Int) (cs : List Nat) (i : Nat) (h1 : d.getD (3 * i + 1) 0 + 2 < (i : Int) + 2) (h2 : d.getD (3 * i + 2) 0 + 2 < (i : Int) + 2) :
    dgO d cs (i + 2) = F32.opO .add
      (F32.opO .mul (F32.opO .sub (some 1065353216) (some (cs.getD (d.getD (3 * i) 0).toNat 0))) (dgO d cs (d.getD (3 * i + 1) 0 + 2).toNat))
      (F32.opO .mul (some (cs.getD (d.getD (3 * i) 0).toNat 0)) (dgO d cs (d.getD (3 * i + 2) 0 + 2).toNat)) := by
  rw [← dgL_any d cs (i + 2) (i + 1) (by omega), ← dgL_any d cs (d.getD (3 * i + 1) 0 + 2).toNat i (by omega), ← dgL_any d cs (d.getD (3 * i + 2) 0 + 2).toNat i (by omega)]
  have hl := dgL_len d cs i
  show (dgL d cs i ++ [_]).getD (i + 2) none = _
  simp only [List.getD]
  rw [List.getElem?_append_right (by omega), hl, Nat.sub_self]
  rfl
def dgE (d : List Int) (cs : List Nat) : Option Nat := if dgB d cs then dgO d cs (d.length / 3 + 1) else some 0
theorem nod_at {d : List Int} {m : Int} (h : nodB d m = true) {p : Nat} (hp : p < d.length) : okP d m p = true := by
  unfold nodB at h
  rw [Bool.and_eq_true] at h
  exact List.all_eq_true.1 h.2 p (List.mem_range.2 hp)
theorem nod_no {d : List Int} {m : Int} {p : Nat} (hp : p < d.length) (h : okP d m p = false) : nodB d m = false := by
  unfold nodB
  rw [show (List.range d.length).all (okP d m) = false from List.all_eq_false.2 ⟨p, List.mem_range.2 hp, by rw [h]; decide⟩, Bool.and_false]
theorem nod_yes {d : List Int} {m : Int} (hl : lenB d.length = true) (h : ∀ p, p < d.length → okP d m p = true) : nodB d m = true := by
  unfold nodB
  rw [hl, show (List.range d.length).all (okP d m) = true from List.all_eq_true.2 fun p hp => h p (List.mem_range.1 hp)]
  rfl
theorem ok_first {d : List Int} {m : Int} {i : Nat} : okP d m (3 * i) = decide (0 ≤ d.getD (3 * i) 0 ∧ d.getD (3 * i) 0 ≤ m - 1) := by
  unfold okP; rw [if_pos (by omega)]
theorem ok_more {d : List Int} {m : Int} {i k : Nat} (h1 : 1 ≤ k) (h2 : k ≤ 2) : okP d m (3 * i + k) = decide (-2 ≤ d.getD (3 * i + k) 0 ∧ d.getD (3 * i + k) 0 ≤ (i : Int) - 1) := by
  unfold okP; rw [if_neg (by omega), show (3 * i + k) / 3 = i by omega]
end Flt.Dg
