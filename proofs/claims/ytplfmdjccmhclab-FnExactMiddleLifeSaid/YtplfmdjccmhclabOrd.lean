/-
  Lives in order, in the program and in its model. Conditions: all of them are lives.
-/
import Derived.Test.YtplfmdjccmhclabSrtL5
import Derived.Test.YtplfmdjccmhclabTot
import Derived.Laws.AppendOwn
namespace Liv
open Go Flt Go.Sort Stb
/-- the cells of lives, one behind the other -/
def lc (zs : List (Nat × Bool)) : List Value := zs.flatMap fun z => [Value.float .f32 z.1, Value.bool z.2]
theorem lc_len (zs : List (Nat × Bool)) : (lc zs).length = zs.length * 2 := by
  induction zs with
  | nil => rfl
  | cons z r ih => show (lc r).length + 2 = _; rw [ih, List.length_cons]; omega
theorem lc_get (zs : List (Nat × Bool)) : ∀ j, j < zs.length → (lc zs)[j * 2]? = some (.float .f32 (tm zs j)) ∧ (lc zs)[j * 2 + 1]? = some (.bool (fl zs j)) := by
  induction zs with
  | nil => intro j hj; cases hj
  | cons z r ih =>
    intro j hj
    cases j with
    | zero => exact ⟨rfl, rfl⟩
    | succ j =>
      have := ih j (by simpa using hj)
      exact ⟨by rw [show (j + 1) * 2 = j * 2 + 2 by omega]; exact this.1, by rw [show (j + 1) * 2 + 1 = j * 2 + 1 + 2 by omega]; exact this.2⟩
theorem lc_one {zs : List (Nat × Bool)} : ∀ u ∈ lc zs, u.oneCell' = true := by
  intro u hu
  obtain ⟨z, _, h⟩ := List.mem_flatMap.1 hu
  rcases List.mem_cons.1 h with rfl | h
  · rfl
  · rcases List.mem_cons.1 h with rfl | h
    · rfl
    · cases h
theorem arow_of_owned {w : World} {B : Nat} {e : TypeId} {v : Value} {n : Nat} {zs : List (Nat × Bool)} (h : w.ownsRow B e 2 v n (lc zs)) (hn : zs.length = n) (h0 : 0 < n) : ∃ g cap, v = .slice (some ⟨g, 0, none⟩) n cap ∧ B ≤ g ∧ ARow e w g zs.toArray := by
  obtain ⟨h1, ⟨rfl, h2⟩ | ⟨g, cap, cur, rfl, hg, hc, hcap, _, hcs, hcur⟩⟩ := h
  · omega
  · refine ⟨g, cap, rfl, hg, ⟨cur, hc, by simp; omega⟩, fun i hi => ?_⟩
    have hi' : i < zs.length := by simpa using hi
    obtain ⟨a1, a2⟩ := lc_get zs i hi'
    rw [← hcur] at a1 a2
    have hg : zs.toArray[i]! = (tm zs i, fl zs i) := by
      rw [getElem!_pos zs.toArray i (by simpa using hi')]
      simp [tm, fl, List.getD, hi']
    rw [hg]
    constructor
    · rw [List.getElem?_take_of_lt (by omega)] at a1
      unfold World.cell?
      simp only [hc]
      simpa using a1
    · rw [List.getElem?_take_of_lt (by omega)] at a2
      unfold World.cell?
      simp only [hc]
      simpa using a2
/-- a block of the call's own is a slice that can be read -/
theorem ARow.row {e : TypeId} {w : World} {g : Nat} {d : Array (Nat × Bool)} (h : ARow e w g d) {n : Nat} (hn : d.size = n) (hm : n ≤ maxLen) (hz : ∀ z ∈ d.toList, z.1 < 4294967296) : LRow w (some ⟨g, 0, none⟩) n d.toList := by
  refine ⟨by rw [Array.length_toList]; exact hn, hm, hz, fun i hi => ⟨g, 0, rfl, h.1.lt, ?_⟩⟩
  have hi' : i < d.size := by omega
  have := h.2 i hi'
  rw [getElem!_pos d i hi'] at this
  rw [Nat.zero_add]
  simpa [tm, fl, List.getD, hi'] using this
/-- how two lives are compared -/
def cfL (x y : Nat × Bool) : Int := if x.1 = y.1 then (if x.2 = y.2 then 0 else if x.2 then -1 else 1) else if x.1 < y.1 then -1 else 1
def VL (x : Nat × Bool) : Prop := posB x.1 = true ∧ x.1 < 4294967296
theorem pos_bits {t : Nat} (h : posB t = true) (ht : t < 4294967296) : 0 < t ∧ t < 2139095040 ∧ nan .f32 t = false ∧ S .f32 t = (t : Int) := by
  unfold posB at h
  rw [Bool.and_eq_true] at h
  have hn := fin_num h.1
  have h2 := h.2
  rw [gtB .f32 t 0 hn (by decide)] at h2
  have h3 := of_decide_eq_true h2
  have e0 : S .f32 0 = 0 := by decide
  rw [e0, S32 t ht] at h3
  have h4 : t < 2147483648 := by
    by_cases hq : t < 2147483648
    · exact hq
    · rw [if_neg hq] at h3; omega
  rw [if_pos h4] at h3
  have hf := of_decide_eq_true h.1
  have e1 : FloatKind.f32.format.signWeight = 2147483648 := by decide
  have e2 : FloatKind.f32.format.infRung = 2139095040 := by decide
  rw [e1, e2] at hf
  refine ⟨by omega, by omega, hn, ?_⟩
  rw [S32 t ht, if_pos h4]
theorem swoL : SWO (fun x y : Nat × Bool => decide (cfL x y < 0)) := by
  have key : ∀ x y : Nat × Bool, decide (cfL x y < 0) = decide (2 * x.1 + (if x.2 then 0 else 1) < 2 * y.1 + (if y.2 then 0 else 1)) := by
    rintro ⟨a, p⟩ ⟨b, q⟩
    unfold cfL
    cases p <;> cases q <;> simp only <;> split <;> (try split) <;> simp_all <;> omega
  constructor
  · intro x; rw [key]; simp
  · intro x y z h1 h2; rw [key] at *; have := of_decide_eq_true h1; have := of_decide_eq_true h2; exact decide_eq_true (by omega)
  · intro x y z h1 h2; rw [key] at *; have := of_decide_eq_false h1; have := of_decide_eq_false h2; exact decide_eq_false (by omega)
theorem antiL (x y : Nat × Bool) (h1 : decide (cfL x y < 0) = false) (h2 : decide (cfL y x < 0) = false) : x = y := by
  obtain ⟨a, p⟩ := x
  obtain ⟨b, q⟩ := y
  have h1 := of_decide_eq_false h1
  have h2 := of_decide_eq_false h2
  unfold cfL at h1 h2
  simp only at h1 h2
  by_cases hab : a = b
  · subst hab
    cases p <;> cases q <;> simp_all
  · rw [if_neg hab] at h1
    rw [if_neg (Ne.symm hab)] at h2
    split at h1 <;> split at h2 <;> omega
/-- lives in order -/
def ordL (zs : List (Nat × Bool)) : List (Nat × Bool) := zs.mergeSort (fun x y => !decide (cfL y x < 0))
theorem ord_unique {d d' : Array (Nat × Bool)} (h : PermIn 0 d.size d d') (hs : SortedIn (fun x y => decide (cfL x y < 0)) 0 d.size d') : d'.toList = ordL d.toList := sorted_unique_holds swoL antiL d d' h hs
theorem ord_perm (zs : List (Nat × Bool)) : (ordL zs).Perm zs := List.mergeSort_perm zs _
theorem ord_len (zs : List (Nat × Bool)) : (ordL zs).length = zs.length := (ord_perm zs).length_eq
end Liv
