/-
  How far two agree: sums of a table, and whether a table is as it must be, in the program. Conditions: the list reads as a list of integers.
-/
import Derived.Test.YtemdgfjcjjadnaaCpP
import Derived.Test.YtemdgfjcjjadnaaIxF
import Derived.Test.YtemdgfjcjjadnaaIow
import Derived.Test.YtemdgfjcjjadnaaHld
namespace Ag
open Go Ieee Flt Dec F32 We
def g (Z : List Int) (i : Nat) : Int := Z.getD i 0
def tS (Z : List Int) : Nat → Int | 0 => 0 | k + 1 => tS Z k + g Z k
def sS (Z : List Int) (n : Nat) : Nat → Int | 0 => 0 | k + 1 => if k % (n + 1) = 0 then sS Z n k + g Z k else sS Z n k
def dS (Z : List Int) (n : Nat) : Nat → Int | 0 => 0 | i + 1 => dS Z n i + g Z (i * n + i)
def rS (Z : List Int) (n i : Nat) : Nat → Int | 0 => 0 | k + 1 => rS Z n i k + g Z (i * n + k)
def cS (Z : List Int) (n i : Nat) : Nat → Int | 0 => 0 | k + 1 => cS Z n i k + g Z (k * n + i)
theorem diag_at : ∀ n, n ≤ 8 → ∀ i, i < n → ∀ j, j < n → ((i * n + j) % (n + 1) = 0 ↔ j = i) := by
  have : (List.range 9).all (fun n => (List.range n).all fun i => (List.range n).all fun j => decide ((i * n + j) % (n + 1) = 0 ↔ j = i)) = true := by decide +kernel
  intro n hn i hi j hj
  have := List.all_eq_true.1 this n (List.mem_range.2 (by omega))
  have := List.all_eq_true.1 this i (List.mem_range.2 hi)
  have := List.all_eq_true.1 this j (List.mem_range.2 hj)
  exact of_decide_eq_true this
theorem diag_row (Z : List Int) {n : Nat} (hn : n ≤ 8) : ∀ i, i ≤ n → sS Z n (i * n) = dS Z n i := by
  intro i
  induction i with
  | zero => intro _; rw [Nat.zero_mul]; rfl
  | succ i ih =>
    intro hi
    have h0 := ih (by omega)
    have key : ∀ j, j ≤ n → sS Z n (i * n + j) = dS Z n i + (if i < j then g Z (i * n + i) else 0) := by
      intro j
      induction j with
      | zero => intro _; rw [Nat.add_zero, h0]; simp
      | succ j ihj =>
        intro hj
        have h1 := ihj (by omega)
        have hd := diag_at n hn i (by omega) j (by omega)
        show (if (i * n + j) % (n + 1) = 0 then sS Z n (i * n + j) + g Z (i * n + j) else sS Z n (i * n + j)) = _
        by_cases e : j = i
        · rw [if_pos (hd.2 e), h1, e, if_neg (by omega), if_pos (by omega)]; omega
        · rw [if_neg (fun h => e (hd.1 h)), h1]
          by_cases e2 : i < j
          · rw [if_pos e2, if_pos (by omega)]
          · rw [if_neg e2, if_neg (by omega)]
    rw [Nat.succ_mul, key n (Nat.le_refl _), if_pos (by omega)]
    rfl
theorem diag_all (Z : List Int) {n : Nat} (hn : n ≤ 8) : sS Z n (n * n) = dS Z n n := diag_row Z hn n (Nat.le_refl _)
def okZ (Z : List Int) : Bool := Z.all fun z => decide (0 ≤ z ∧ z ≤ 1000)
theorem g_bd {Z : List Int} (h : okZ Z = true) (i : Nat) : 0 ≤ g Z i ∧ g Z i ≤ 1000 := by
  unfold g
  by_cases hi : i < Z.length
  · rw [show Z.getD i 0 = Z[i] from by simp [List.getD, hi]]
    exact of_decide_eq_true (List.all_eq_true.1 h _ (List.getElem_mem hi))
  · rw [show Z.getD i 0 = 0 from by simp [List.getD, Nat.le_of_not_lt hi]]; omega
theorem tS_bd {Z : List Int} (h : okZ Z = true) (k : Nat) : 0 ≤ tS Z k ∧ tS Z k ≤ 1000 * (k : Int) := by
  induction k with
  | zero => exact ⟨Int.le_refl _, Int.le_refl _⟩
  | succ k ih => have := g_bd h k; show 0 ≤ tS Z k + g Z k ∧ tS Z k + g Z k ≤ _; omega
theorem sS_bd {Z : List Int} (h : okZ Z = true) (n k : Nat) : 0 ≤ sS Z n k ∧ sS Z n k ≤ 1000 * (k : Int) := by
  induction k with
  | zero => exact ⟨Int.le_refl _, Int.le_refl _⟩
  | succ k ih =>
    have := g_bd h k
    show 0 ≤ (if k % (n + 1) = 0 then sS Z n k + g Z k else sS Z n k) ∧ (if k % (n + 1) = 0 then sS Z n k + g Z k else sS Z n k) ≤ _
    split <;> omega
theorem dS_bd {Z : List Int} (h : okZ Z = true) (n k : Nat) : 0 ≤ dS Z n k ∧ dS Z n k ≤ 1000 * (k : Int) := by
  induction k with
  | zero => exact ⟨Int.le_refl _, Int.le_refl _⟩
  | succ k ih => have := g_bd h (k * n + k); show 0 ≤ dS Z n k + _ ∧ dS Z n k + _ ≤ _; omega
theorem rS_bd {Z : List Int} (h : okZ Z = true) (n i k : Nat) : 0 ≤ rS Z n i k ∧ rS Z n i k ≤ 1000 * (k : Int) := by
  induction k with
  | zero => exact ⟨Int.le_refl _, Int.le_refl _⟩
  | succ k ih => have := g_bd h (i * n + k); show 0 ≤ rS Z n i k + _ ∧ rS Z n i k + _ ≤ _; omega
theorem cS_bd {Z : List Int} (h : okZ Z = true) (n i k : Nat) : 0 ≤ cS Z n i k ∧ cS Z n i k ≤ 1000 * (k : Int) := by
  induction k with
  | zero => exact ⟨Int.le_refl _, Int.le_refl _⟩
  | succ k ih => have := g_bd h (k * n + i); show 0 ≤ cS Z n i k + _ ∧ cS Z n i k + _ ≤ _; omega
def fl (z : Int) : Option Nat := some (Go.floatOfInt .f32 z)
theorem fl_is (z : Int) : F32.Is (fl z) (Go.floatOfInt .f32 z) := by
  have e : ∃ s m, (some (Datum.number s m 0)).map Go.FloatKind.f32.format.write = some (Go.floatOfInt .f32 z) := ⟨_, _, rfl⟩
  obtain ⟨s, m, h⟩ := e
  exact ⟨rfl, F32.write_num h (by intro s t h; cases h), F32.write_lt32 h⟩
def agC (Z : List Int) (n : Int) : Bool := decide (1 ≤ n ∧ n ≤ 8) && (decide ((Z.length : Int) = n * n) && okZ Z)
def agT (Z : List Int) : Int := tS Z Z.length
def bS (Z : List Int) (n : Nat) : Nat → Option Nat
  | 0 => some 0
  | k + 1 => F32.opO .add (bS Z n k) (F32.opO .quo (fl (rS Z n k n * cS Z n k n)) (fl (agT Z * agT Z)))
def agE (Z : List Int) (n : Nat) : Option Nat :=
  F32.opO .quo (F32.opO .sub (F32.opO .quo (fl (dS Z n n)) (fl (agT Z))) (bS Z n n)) (F32.opO .sub (some 1065353216) (bS Z n n))
def ag0 (Z : List Int) (n : Int) : Bool := agC Z n && (!decide (agT Z = 0) && !cmpO .eq (bS Z n.toNat n.toNat) (some 1065353216))
/-- 1 less a number is 0 where the number is 1 -/
theorem one_less {o p : Option Nat} {x y : Nat} (ho : F32.Is o x) (hp : F32.Is p y) (hpo : p = F32.opO .sub (some 1065353216) o) : (FloatKind.f32.format.order y 0 == some .eq) = cmpO .eq o (some 1065353216) := by
  rw [cmp_is .eq hp zero_is, hpo]
  cases o with
  | none => rfl
  | some v =>
    obtain ⟨rfl, nx, lx⟩ := ho
    have h1 : nan .f32 1065353216 = false := by decide
    by_cases hv : x = 1065353216
    · subst hv; decide
    · have hne : (FloatKind.f32.format.order x 1065353216 == some .eq) = false := by
        rw [eqB .f32 x _ nx h1]
        refine decide_eq_false fun h => hv ?_
        rw [S32 x lx, S32 _ (by decide)] at h
        split at h <;> simp at h <;> omega
      show cmpO .eq (F32.opO .sub (some 1065353216) (some x)) (some 0) = (FloatKind.f32.format.order x 1065353216 == some .eq)
      rw [hne]
      cases hs : F32.opO .sub (some 1065353216) (some x) with
      | none => rfl
      | some r =>
        have hs' : Go.floatBits .sub .f32 1065353216 x = some r := hs
        show (FloatKind.f32.format.order r 0 == some .eq) = false
        rw [eqB .f32 r 0 (F32.op_num (.inr (.inl rfl)) hs') (by decide)]
        refine decide_eq_false fun h => ?_
        have lr := F32.op_lt (.inr (.inl rfl)) hs'
        have hz : r % 2147483648 = 0 := by
          rw [S32 r lr, S32 0 (by decide)] at h
          split at h <;> simp at h <;> omega
        have hS := Cp.sub_nz h1 nx hs' hz
        rw [S32 x lx, S32 _ (by decide)] at hS
        apply hv
        split at hS <;> simp at hS <;> omega
end Ag
namespace Go.Proofs.Ytemdgfjcjjadnaa
open Go.RowKit Flt Dec Cm We F32 Ag
def AtI (p : Int → Bool) (zs : List Int) (i : Int) : Prop := (i = -1 ∧ zs.any p = false) ∨ (∃ k : Nat, k < zs.length ∧ i = k ∧ zs.any p = true)
theorem AtI.any {p : Int → Bool} {zs : List Int} {i : Int} (h : AtI p zs i) : decide (0 ≤ i) = zs.any p := by
  rcases h with ⟨rfl, h⟩ | ⟨k, _, rfl, h⟩
  · rw [h]; rfl
  · rw [h, decide_eq_true_eq]; omega
theorem ati_none {p : Int → Bool} {zs : List Int} (h : ∀ j, j < zs.length → p (zs.getD j 0) = false) : AtI p zs (-1) := by
  refine .inl ⟨rfl, ?_⟩
  rw [List.any_eq_false]
  intro z hz
  obtain ⟨j, hj, rfl⟩ := List.mem_iff_getElem.1 hz
  have := h j hj
  rw [show zs.getD j 0 = zs[j] from by simp [List.getD, hj]] at this
  rw [this]; decide
theorem ati_some {p : Int → Bool} {zs : List Int} {k : Nat} (hk : k < zs.length) (hp : p (zs.getD k 0) = true) : AtI p zs (k : Int) := by
  refine .inr ⟨k, hk, rfl, List.any_eq_true.2 ⟨zs[k], List.getElem_mem hk, ?_⟩⟩
  rw [show zs.getD k 0 = zs[k] from by simp [List.getD, hk]] at hp
  exact hp
def badZ (z : Int) : Bool := !decide (0 ≤ z ∧ z ≤ 1000)
theorem bad_any (zs : List Int) : (!zs.any badZ) = okZ zs := by
  unfold okZ
  induction zs with
  | nil => rfl
  | cons z zs ih => rw [List.any_cons, List.all_cons, ← ih]; unfold badZ; cases decide (0 ≤ z ∧ z ≤ 1000) <;> simp
theorem rating1_any (z : Int) (w : World) : Calls Try.prog 65 #[.int .i64 z] w fun e w' => e = .returned (.bool (badZ z)) ∧ w = w' := by
  by_cases h1 : z < 0
  · have HB : Hid (badZ z = true) := by show _ = _; unfold badZ; rw [decide_eq_false (by omega)]; rfl
    rw [HB.out]
    go_enter Try.func65, Try.ntmps65
    go_wp2_with fail
    go_ret
    exact ⟨rfl, rfl⟩
  · by_cases h2 : z > 1000
    · have HB : Hid (badZ z = true) := by show _ = _; unfold badZ; rw [decide_eq_false (by omega)]; rfl
      rw [HB.out]
      go_enter Try.func65, Try.ntmps65
      go_wp2_with fail
      go_ret
      exact ⟨rfl, rfl⟩
    · have HB : Hid (badZ z = false) := by show _ = _; unfold badZ; rw [decide_eq_true (by omega)]; rfl
      rw [HB.out]
      go_enter Try.func65, Try.ntmps65
      go_wp2_with fail
      go_ret
      exact ⟨rfl, rfl⟩
set_option maxHeartbeats 1600000 in
theorem indexRatings_any (a : Option Addr) (len cap : Nat) (zs : List Int) (w : World) (h : IRow w a len zs) :
    Calls Try.prog 67 #[.slice a len cap, .func (.func 65) #[] #[]] w fun e w' => (∃ i : Int, e = .returned (.int .i64 i) ∧ AtI badZ zs i) ∧ w = w' := by
  have H := Lib.hid h
  have hm : len ≤ 9223372036854775807 := by have := h.2.1; unfold maxLen at this; exact this
  have eg : ∀ args w, (callFunc 65 args).run Try.prog w = .ok (.enter 65 args) w := by intro args w; kernel_rfl
  clear h
  go_enter Try.func67, Try.ntmps67
  go_wp2_with fail
  go_loopg [5, 8] len (fun n i5 i8 wr => ∃ k : Nat, i8 = .int .i64 k ∧ Hid (k + n = len) ∧ k ≤ len ∧ Hid (w = wr) ∧ Hid (∀ j, j < k → badZ (zs.getD j 0) = false))
  case atStart => exact ⟨0, rfl, by show _ = _; omega, Nat.zero_le _, rfl, fun j hj => absurd hj (Nat.not_lt_zero _)⟩
  case round =>
    obtain ⟨k, rfl, hk, hkl, hD, hN⟩ := hrel
    obtain rfl : w = wr := hD.out
    by_cases hlt : k < len
    · obtain ⟨b, off, rfl, hbl, hc⟩ := H.out.2.2.2 k hlt
      have HJ : Hid (k + 1 + (gk - 1) = len) := by have := hk.out; show _ = _; omega
      have HG : Hid (gk - 1 < gk) := by have := hk.out; show _ < _; omega
      have HZ : Hid (k < zs.length) := by show _ < _; rw [H.out.1]; exact hlt
      cases hq : badZ (zs.getD k 0) with
      | true =>
        have AT1 : Hid (AtI badZ zs (k : Int)) := Lib.hid (ati_some HZ.out hq)
        have HQ := Lib.hid hq
        clear hq hD
        generalize zs.getD k 0 = t at *
        go_wp2_with fail
        refine (rating1_any t _).mono ?_
        rintro e w1 ⟨rfl, rfl⟩
        rw [HQ.out]
        go_wp2_with fail
        go_ret
        exact ⟨⟨k, rfl, AT1.out⟩, rfl⟩
      | false =>
        have HQ := Lib.hid hq
        clear hq hD
        have HN : Hid (∀ j, j < k + 1 → badZ (zs.getD j 0) = false) := Lib.hid fun j hj => by
          by_cases e : j = k
          · subst e; exact HQ.out
          · exact hN.out j (by omega)
        generalize zs.getD k 0 = t at *
        go_wp2_with fail
        refine (rating1_any t _).mono ?_
        rintro e w1 ⟨rfl, rfl⟩
        rw [HQ.out]
        go_wp2_with fail
        go_roundg (gk - 1)
        case measure => exact HG.out
        case rel => exact ⟨k + 1, by go_num, HJ, by omega, rfl, HN.out⟩
    · obtain rfl : k = len := by have := hk.out; omega
      clear hlt hD
      go_wp2_with fail
      go_ret
      exact ⟨⟨-1, rfl, ati_none fun j hj => hN.out j (by rw [← H.out.1]; exact hj)⟩, rfl⟩
theorem containsRatings_any (a : Option Addr) (len cap : Nat) (zs : List Int) (w : World) (h : IRow w a len zs) :
    Calls Try.prog 64 #[.slice a len cap, .func (.func 65) #[] #[]] w fun e w' => e = .returned (.bool (zs.any badZ)) ∧ w = w' := by
  have H := Lib.hid h
  clear h
  go_enter Try.func64, Try.ntmps64
  go_wp2_with fail
  refine (indexRatings_any a len cap zs _ H.out).mono ?_
  rintro e w1 ⟨⟨i, rfl, hi⟩, rfl⟩
  have HI := Lib.hid hi.any
  clear hi
  go_wp2_with fail
  go_ret
  exact ⟨congrArg (fun b => Ending.returned (.bool b)) HI.out, rfl⟩
set_option maxHeartbeats 1600000 in
theorem areRatings_any (a : Option Addr) (len cap : Nat) (Z : List Int) (n : Int) (w : World) (h : IRow w a len Z) :
    Calls Try.prog 57 #[.slice a len cap, .int .i64 n] w fun e w' => e = .returned (.bool (agC Z n)) ∧ w = w' := by
  have H := Lib.hid h
  have HA : Hid (agC Z n = (decide (1 ≤ n ∧ n ≤ 8) && (decide ((len : Int) = n * n) && okZ Z))) := by show _ = _; unfold agC; rw [h.1]
  rw [HA.out]
  clear h
  by_cases h1 : n < 1
  · rw [decide_eq_false (show ¬ (1 ≤ n ∧ n ≤ 8) from by omega), Bool.false_and]
    go_enter Try.func57, Try.ntmps57
    go_wp2_with fail
    go_ret
    exact ⟨rfl, rfl⟩
  · by_cases h2 : n > 8
    · rw [decide_eq_false (show ¬ (1 ≤ n ∧ n ≤ 8) from by omega), Bool.false_and]
      go_enter Try.func57, Try.ntmps57
      go_wp2_with fail
      go_ret
      exact ⟨rfl, rfl⟩
    · rw [decide_eq_true (show 1 ≤ n ∧ n ≤ 8 from by omega), Bool.true_and]
      obtain ⟨m, hmm⟩ : ∃ m : Int, n * n = m := ⟨_, rfl⟩
      have hm1 : 0 ≤ m ∧ m ≤ 64 := by
        rw [← hmm]; exact ⟨Int.mul_nonneg (by omega) (by omega), by have := Int.mul_le_mul (show n ≤ 8 by omega) (show n ≤ 8 by omega) (by omega) (by omega); omega⟩
      by_cases h3 : (len : Int) = m
      · rw [hmm, decide_eq_true h3, Bool.true_and]
        have hq : ((len : Int) != m) = false := by simp [h3]
        have HB := Lib.hid (bad_any Z)
        go_enter Try.func57, Try.ntmps57
        go_wp2_with fail
        refine (containsRatings_any a len cap Z _ H.out).mono ?_
        rintro e w1 ⟨rfl, rfl⟩
        go_wp2_with fail
        go_ret
        exact ⟨congrArg (fun b => Ending.returned (.bool b)) HB.out, rfl⟩
      · rw [hmm, decide_eq_false h3, Bool.false_and]
        have hq : ((len : Int) != m) = true := by simp [h3]
        go_enter Try.func57, Try.ntmps57
        go_wp2_with fail
        go_ret
        exact ⟨rfl, rfl⟩
end Go.Proofs.Ytemdgfjcjjadnaa
