/-
  Small tests of numbers, in both: finite and greater than 0, finite and at least 0, from 0 to 1, from 0 to 64, within two whole numbers, and what is returned if it is finite. No conditions.
-/
import Derived.Test.YtemdgfjcjjadnaaMathW
import Derived.Test.YtemdgfjcjjadnaaFOwnW
import Derived.WalkKit
namespace Cm
open Go Flt
def gq (a b : Nat) : Bool := (FloatKind.f32.format.order a b == some .gt) || (FloatKind.f32.format.order a b == some .eq)
def lq (a b : Nat) : Bool := (FloatKind.f32.format.order a b == some .lt) || (FloatKind.f32.format.order a b == some .eq)
/-- finite and greater than 0 -/
def pos (t : Nat) : Bool := fin .f32 t && (FloatKind.f32.format.order t 0 == some .gt)
/-- finite and at least 0 -/
def nng (t : Nat) : Bool := fin .f32 t && ((FloatKind.f32.format.order t 0 == some .gt) || (FloatKind.f32.format.order t 0 == some .eq))
/-- from 0 to 1 -/
def shr (z : Nat) : Bool := gq z 0 && lq z 1065353216
/-- from 0 to 64 -/
def mn (z : Nat) : Bool := gq z 0 && lq z 1115684864
open Dec in
theorem fv_snoc (l : List Nat) (t : Nat) : fv (l ++ [t]) = fv l ++ [.float .f32 t] := by simp [fv]
theorem cell_new1 (w : World) (t : TypeId) (v : Value) : ∀ j u, [v][j]? = some u → (w.alloc (.cells #[v] t)).cell? ((⟨w.heap.size, 0, none⟩ : Addr).add j) = some u := by
  intro j u hj
  match j, hj with
  | 0, hj => simp at hj; subst hj; rw [Addr.add_lit, World.cell?_alloc_mark]; rfl
  | j + 1, hj => simp at hj
theorem owns_shape {w : World} {B : Nat} {e : TypeId} {sz : Nat} {v : Value} {n : Nat} {xs : List Value} (h : w.ownsRow B e sz v n xs) : ∃ a c, v = .slice a n c := by
  obtain ⟨h1, ⟨rfl, h2⟩ | ⟨g, cap, cur, rfl, _⟩⟩ := h
  · exact ⟨none, 0, by rw [h2]⟩
  · exact ⟨_, _, rfl⟩
theorem owned_first (w : World) (e : TypeId) (v : Value) : (w.alloc (.cells #[v] e)).ownsRow w.heap.size e 1 (.slice (some ⟨w.heap.size, 0, none⟩) 1 1) 1 [v] :=
  ⟨rfl, .inr ⟨w.heap.size, 1, #[v], rfl, Nat.le_refl _, heap_alloc_new _ _, Nat.le_refl _, by decide, rfl, rfl⟩⟩
open Dec in
/-- what the call owns, as a row of numbers -/
theorem row_owned {w : World} {B t : Nat} {a : Option Addr} {n c : Nat} {Z : List Nat} (h : w.ownsRow B t 1 (.slice a n c) n (fv Z)) (hl : Z.length = n) (hn : n ≤ 1048576) (hz : ∀ z ∈ Z, z < 4294967296) : FRow w a n Z := by
  subst hl
  obtain ⟨a', c', hv, hr⟩ := frow_of_owned h hn hz
  cases hv
  exact hr
end Cm
namespace Go.Proofs.Ytemdgfjcjjadnaa
open Go.RowKit Flt Cm
theorem c_implChance (x : Nat) (w : World) : Calls Try.prog 61 #[.float .f32 x] w fun e w' => e = .returned (.bool (shr x)) ∧ w = w' := by
  unfold shr
  cases h1 : gq x 0
  · unfold gq at h1
    go_enter Try.func61, Try.ntmps61
    go_wp2
    go_ret
    exact ⟨rfl, rfl⟩
  · unfold gq at h1
    unfold lq
    go_enter Try.func61, Try.ntmps61
    go_wp2
    go_ret
    exact ⟨rfl, rfl⟩
theorem c_specShare (x : Nat) (w : World) : Calls Try.prog 59 #[.float .f32 x] w fun e w' => e = .returned (.bool (shr x)) ∧ w = w' := by
  unfold shr
  cases h1 : gq x 0
  · unfold gq at h1
    go_enter Try.func59, Try.ntmps59
    go_wp2
    go_ret
    exact ⟨rfl, rfl⟩
  · unfold gq at h1
    unfold lq
    go_enter Try.func59, Try.ntmps59
    go_wp2
    go_ret
    exact ⟨rfl, rfl⟩
theorem c_onlyFinite (x : Nat) (w : World) : Calls Try.prog 58 #[.float .f32 x] w fun e w' => e = .returned (.tuple #[.float .f32 (if fin .f32 x then x else 0), .bool (fin .f32 x)]) ∧ Drawn w w' := by
  cases hf : fin .f32 x
  all_goals
    have Hf := Lib.hid hf
    go_enter Try.func58, Try.ntmps58
    go_wp2_with fail
    refine (implIsFinite_any x _).mono ?_
    rintro e w1 ⟨rfl, d1⟩
    rw [Hf.out]
    go_wp2_with fail
    go_ret2
    exact ⟨rfl, d1⟩
theorem c_Number (x : Nat) (w : World) : Calls Try.prog 56 #[.float .f32 x] w fun e w' => e = .returned (.tuple #[.float .f32 (if fin .f32 x then x else 0), .bool (fin .f32 x)]) ∧ Drawn w w' := by
  cases hf : fin .f32 x
  all_goals
    have Hf := Lib.hid hf
    go_enter Try.func56, Try.ntmps56
    go_wp2_with fail
    refine (specFinite_any x _).mono ?_
    rintro e w1 ⟨rfl, d1⟩
    rw [Hf.out]
    go_wp2_with fail
    go_ret2
    exact ⟨rfl, d1⟩
theorem c_In (n lo hi : Int) (w : World) : Calls Try.prog 51 #[.int .i64 n, .int .i64 lo, .int .i64 hi] w fun e w' => e = .returned (.bool (decide (lo ≤ n ∧ n ≤ hi))) ∧ w = w' := by
  by_cases h1 : lo ≤ n
  · have h2 : decide (lo ≤ n ∧ n ≤ hi) = decide (n ≤ hi) := by
      by_cases c : n ≤ hi
      · rw [decide_eq_true c, decide_eq_true ⟨h1, c⟩]
      · rw [decide_eq_false c, decide_eq_false (by omega)]
    rw [h2]
    clear h2
    go_enter Try.func51, Try.ntmps51
    go_wp2_with fail
    all_goals first | (exfalso; omega) | skip
    go_ret
    exact ⟨rfl, rfl⟩
  · rw [decide_eq_false (show ¬ (lo ≤ n ∧ n ≤ hi) by omega)]
    go_enter Try.func51, Try.ntmps51
    go_wp2_with fail
    all_goals first | (exfalso; omega) | skip
    go_ret
    exact ⟨rfl, rfl⟩
end Go.Proofs.Ytemdgfjcjjadnaa
