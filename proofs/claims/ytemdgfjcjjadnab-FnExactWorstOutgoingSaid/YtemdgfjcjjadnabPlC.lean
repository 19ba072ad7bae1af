/-
  Contracts: whether lots and plans are valid, in both; how many sets have few bad parts; with which share a lot is accepted. Conditions: cells lie where the walk says.
-/
import Derived.Test.YtemdgfjcjjadnabPlW
import Derived.Test.YtemdgfjcjjadnabBlk
import Derived.Deep.QuietTactic
namespace Pl
open Go Flt
def asB (l b s a : Int) : Bool := lwB l b && pfB l s a
def asX (l b s a : Int) : Int := if asB l b s a then ((lo1 (ac l b s (a + 1).toNat) (chI l s) : Nat) : Int) else 0
def asY (l b s a : Int) : Int := if asB l b s a then ((lo2 (ac l b s (a + 1).toNat) (chI l s) : Nat) : Int) else 0
theorem as_no {l b s a : Int} (h : asB l b s a = false) : asX l b s a = 0 ∧ asY l b s a = 0 := by unfold asX asY; rw [h]; exact ⟨rfl, rfl⟩
theorem as_yes {l b s a : Int} (h : asB l b s a = true) : asX l b s a = ((lo1 (ac l b s (a + 1).toNat) (chI l s) : Nat) : Int) ∧ asY l b s a = ((lo2 (ac l b s (a + 1).toNat) (chI l s) : Nat) : Int) := by unfold asX asY; rw [h]; exact ⟨rfl, rfl⟩
theorem as_in {l b s a : Int} (h : asB l b s a = true) : 1 ≤ l ∧ l ≤ 40 ∧ 0 ≤ b ∧ b ≤ l ∧ 1 ≤ s ∧ s ≤ l ∧ 0 ≤ a ∧ a ≤ s := by
  unfold asB lwB pfB plB at h
  simp only [Bool.and_eq_true, decide_eq_true_eq] at h
  omega
theorem as_1 {l b s a : Int} (h : decide (1 ≤ l ∧ l ≤ 40) = false) : asB l b s a = false := by unfold asB lwB; rw [h]; rfl
theorem as_2 {l b s a : Int} (h : decide (0 ≤ b ∧ b ≤ l) = false) : asB l b s a = false := by unfold asB lwB; rw [h]; simp
theorem as_3 {l b s a : Int} (h : plB s a = false) : asB l b s a = false := by unfold asB pfB; rw [h]; simp
theorem as_4 {l b s a : Int} (h1 : decide (1 ≤ l ∧ l ≤ 40) = true) (h2 : decide (0 ≤ b ∧ b ≤ l) = true) (h3 : plB s a = true) : asB l b s a = decide (s ≤ l) := by unfold asB lwB pfB; rw [h1, h2, h3]; simp
theorem as_5 {l b s a : Int} (h : pfB l s a = false) : asB l b s a = false := by unfold asB; rw [h]; simp
theorem as_6 {l b s a : Int} (h : lwB l b = false) : asB l b s a = false := by unfold asB; rw [h]; rfl
theorem as_7 {l b s a : Int} (h : lwB l b = true) : asB l b s a = pfB l s a := by unfold asB; rw [h]; simp
theorem chI_pos {l s : Int} (h0 : 0 ≤ s) (h : s ≤ l) : 1 ≤ chI l s := by
  obtain ⟨l, rfl⟩ : ∃ m : Nat, l = m := ⟨l.toNat, by omega⟩
  obtain ⟨s, rfl⟩ : ∃ m : Nat, s = m := ⟨s.toNat, by omega⟩
  rw [chI_nat]; exact cho_pos (by omega)
end Pl
namespace Go.Proofs.Ytemdgfjcjjadnab
open Go.RowKit Flt Dec Cm Pl
theorem c_isLot (n : Int) (w : World) : Calls Try.prog 85 #[.int .i64 n] w fun e w' => e = .returned (.bool (decide (1 ≤ n ∧ n ≤ 40))) ∧ w = w' := by
  by_cases h1 : 1 ≤ n
  · have h2 : decide (1 ≤ n ∧ n ≤ 40) = decide (n ≤ 40) := by
      by_cases c : n ≤ 40
      · rw [decide_eq_true c, decide_eq_true ⟨h1, c⟩]
      · rw [decide_eq_false c, decide_eq_false (by omega)]
    rw [h2]
    clear h2
    go_enter Try.func85, Try.ntmps85
    go_wp2_with fail
    all_goals first | (exfalso; omega) | skip
    go_ret
    exact ⟨rfl, rfl⟩
  · rw [decide_eq_false (show ¬ (1 ≤ n ∧ n ≤ 40) by omega)]
    go_enter Try.func85, Try.ntmps85
    go_wp2_with fail
    all_goals first | (exfalso; omega) | skip
    go_ret
    exact ⟨rfl, rfl⟩
theorem iValidPlan_grn (s a : Int) (w : World) : Calls Try.prog 76 #[.agg #[.int .i64 s, .int .i64 a]] w fun e w' => e = .returned (.bool (plB s a)) ∧ Liv.Grn w w' := by
  cases h1 : decide (1 ≤ s ∧ s ≤ 40) with
  | false =>
    have HR : Hid (plB s a = false) := by show _ = _; unfold plB; rw [h1]; rfl
    have H1 := Lib.hid h1
    clear h1
    go_enter Try.func76, Try.ntmps76
    go_wp2_with fail
    refine (c_isLot s _).mono ?_
    rintro e w1 ⟨rfl, rfl⟩
    rw [H1.out]
    go_wp2_with fail
    go_ret
    exact ⟨by rw [HR.out] <;> rfl, (Liv.Grn.refl _).alloc _⟩
  | true =>
    have H1 := Lib.hid h1
    by_cases h2 : 0 ≤ a
    · have HR : Hid (plB s a = decide (a ≤ s)) := by
        show _ = _; unfold plB; rw [h1, Bool.true_and]
        by_cases c : a ≤ s
        · rw [decide_eq_true c, decide_eq_true ⟨h2, c⟩]
        · rw [decide_eq_false c, decide_eq_false (by omega)]
      clear h1
      go_enter Try.func76, Try.ntmps76
      go_wp2_with fail
      refine (c_isLot s _).mono ?_
      rintro e w1 ⟨rfl, rfl⟩
      rw [H1.out]
      go_wp2_with fail
      go_ret
      exact ⟨by rw [HR.out] <;> rfl, (Liv.Grn.refl _).alloc _⟩
    · have HR : Hid (plB s a = false) := by show _ = _; unfold plB; rw [h1, decide_eq_false (by omega)]; rfl
      clear h1
      go_enter Try.func76, Try.ntmps76
      go_wp2_with fail
      refine (c_isLot s _).mono ?_
      rintro e w1 ⟨rfl, rfl⟩
      rw [H1.out]
      go_wp2_with fail
      go_ret
      exact ⟨by rw [HR.out] <;> rfl, (Liv.Grn.refl _).alloc _⟩
theorem iValidPlan_any (s a : Int) (w : World) : Calls Try.prog 76 #[.agg #[.int .i64 s, .int .i64 a]] w fun e w' => e = .returned (.bool (plB s a)) ∧ Below w.heap.size w w' :=
  (iValidPlan_grn s a w).mono fun _ _ h => ⟨h.1, h.2.below⟩
theorem c_isPlanFor (l s a : Int) (w : World) : Calls Try.prog 49 #[.int .i64 l, .agg #[.int .i64 s, .int .i64 a]] w fun e w' => e = .returned (.bool (pfB l s a)) ∧ Below w.heap.size w w' := by
  cases h1 : decide (1 ≤ l ∧ l ≤ 40) with
  | false =>
    have HR : Hid (pfB l s a = false) := by show _ = _; unfold pfB; rw [h1]; rfl
    have H1 := Lib.hid h1
    clear h1
    go_enter Try.func49, Try.ntmps49
    go_wp2_with fail
    refine (c_isLot l _).mono ?_
    rintro e w1 ⟨rfl, rfl⟩
    rw [H1.out]
    go_wp2_with fail
    go_ret
    exact ⟨by rw [HR.out] <;> rfl, (Below.refl _ _).alloc (Nat.le_refl _) _⟩
  | true =>
    have H1 := Lib.hid h1
    cases h2 : plB s a
    all_goals
      have HR : Hid (pfB l s a = (plB s a && decide (s ≤ l))) := by show _ = _; unfold pfB; rw [h1]; rfl
      have H2 := Lib.hid h2
      rw [h2] at HR
      clear h2
      try clear h1
      go_enter Try.func49, Try.ntmps49
      go_wp2_with fail
      refine (c_isLot l _).mono ?_
      rintro e w1 ⟨rfl, rfl⟩
      rw [H1.out]
      go_wp2_with fail
      have HB := Lib.hid (Blk.Blk.new w #[.int .i64 s, .int .i64 a] 27)
      have hb : Below w.heap.size w (w.alloc (.cells #[.int .i64 s, .int .i64 a] 27)) := (Below.refl _ _).alloc (Nat.le_refl _) _
      generalize w.alloc (.cells #[.int .i64 s, .int .i64 a] 27) = w0 at *
      refine (iValidPlan_any s a _).mono ?_
      rintro e w1 ⟨rfl, b1⟩
      rw [H2.out]
      obtain ⟨⟨c1, c2⟩, _, _⟩ := (HB.out.keep b1).two
      have HBB := Lib.hid (hb.trans (b1.mono hb.size))
      clear hb b1
      go_wp2_with fail
      go_ret
      exact ⟨by rw [HR.out] <;> rfl, HBB.out⟩
set_option maxHeartbeats 1600000 in
theorem c_l06Is (g : Nat) (s a : Int) (w : World) (h : Blk.Blk w g [.int .i64 s, .int .i64 a] 27) : Calls Try.prog 83 #[.pointer (some ⟨g, 0, none⟩)] w fun e w' => e = .returned (.bool (plB s a)) ∧ Drawn w w' := by
  have c1 : ∀ m, (w.drewN m).cell? ⟨g, 0, none⟩ = some (.int .i64 s) := fun m => (h.two).1.1
  have c2 : ∀ m, (w.drewN m).cell? ⟨g, 1, none⟩ = some (.int .i64 a) := fun m => (h.two).1.2
  clear h
  cases h1 : decide (1 ≤ s ∧ s ≤ 40) with
  | false =>
    have HR : Hid (plB s a = false) := by show _ = _; unfold plB; rw [h1]; rfl
    have H1 := Lib.hid h1
    clear h1
    go_enter Try.func83, Try.ntmps83
    go_wp2_with fail
    go_quiet ((go_at_call 47; exact Calls.quiet_of_same ((c_In s 1 40 _).mono fun e w' ⟨h1, h2⟩ => ⟨h1.trans (by rw [H1.out]), h2.symm⟩)))
    go_wp2_with fail
    go_ret
    exact ⟨by rw [HR.out] <;> rfl, ⟨_, rfl⟩⟩
  | true =>
    have HR : Hid (plB s a = (decide (0 ≤ a) && decide (a ≤ s))) := by show _ = _; unfold plB; rw [h1, Bool.true_and, Bool.decide_and]
    go_enter Try.func83, Try.ntmps83
    go_wp2_with fail
    go_quiet ((go_at_call 47; exact Calls.quiet_of_same ((c_In _ _ _ _).mono fun e w' ⟨h1, h2⟩ => ⟨h1, h2.symm⟩)))
    go_wp2_with fail
    go_ret
    exact ⟨by rw [HR.out] <;> rfl, ⟨_, rfl⟩⟩
set_option maxHeartbeats 1600000 in
theorem c_l06Lot (l b : Int) (g : Nat) (s a : Int) (w : World) (h : Blk.Blk w g [.int .i64 s, .int .i64 a] 27) : Calls Try.prog 46 #[.int .i64 l, .int .i64 b, .pointer (some ⟨g, 0, none⟩)] w fun e w' => e = .returned (.bool (asB l b s a)) ∧ Drawn w w' := by
  have H := Lib.hid h
  clear h
  cases h1 : decide (1 ≤ l ∧ l ≤ 40) with
  | false =>
    have HR := Lib.hid (as_1 (b := b) (s := s) (a := a) h1)
    have H1 := Lib.hid h1
    clear h1
    go_enter Try.func46, Try.ntmps46
    go_wp2_with fail
    refine (c_In l 1 40 _).mono ?_
    rintro e w1 ⟨rfl, rfl⟩
    rw [H1.out]
    go_wp2_with fail
    go_ret
    exact ⟨by rw [HR.out] <;> rfl, Drawn.refl _⟩
  | true =>
    cases h2 : decide (0 ≤ b ∧ b ≤ l) with
    | false =>
      have HR := Lib.hid (as_2 (s := s) (a := a) h2)
      have H1 := Lib.hid h1
      have H2 := Lib.hid h2
      clear h1 h2
      go_enter Try.func46, Try.ntmps46
      go_wp2_with fail
      refine (c_In l 1 40 _).mono ?_
      rintro e w1 ⟨rfl, rfl⟩
      rw [H1.out]
      go_wp2_with fail
      refine (c_In b 0 l _).mono ?_
      rintro e w1 ⟨rfl, rfl⟩
      rw [H2.out]
      go_wp2_with fail
      go_ret
      exact ⟨by rw [HR.out] <;> rfl, Drawn.refl _⟩
    | true =>
      cases h3 : plB s a with
      | false =>
        have HR := Lib.hid (as_3 (l := l) (b := b) h3)
        have H1 := Lib.hid h1
        have H2 := Lib.hid h2
        have H3 := Lib.hid h3
        clear h1 h2 h3
        go_enter Try.func46, Try.ntmps46
        go_wp2_with fail
        refine (c_In l 1 40 _).mono ?_
        rintro e w1 ⟨rfl, rfl⟩
        rw [H1.out]
        go_wp2_with fail
        refine (c_In b 0 l _).mono ?_
        rintro e w1 ⟨rfl, rfl⟩
        rw [H2.out]
        go_wp2_with fail
        refine (c_l06Is g s a _ H.out).mono ?_
        rintro e w1 ⟨rfl, d1⟩
        rw [H3.out]
        go_wp2_with fail
        go_ret
        exact ⟨by rw [HR.out] <;> rfl, d1⟩
      | true =>
        have HR := Lib.hid (as_4 h1 h2 h3)
        have H1 := Lib.hid h1
        have H2 := Lib.hid h2
        have H3 := Lib.hid h3
        clear h1 h2 h3
        go_enter Try.func46, Try.ntmps46
        go_wp2_with fail
        refine (c_In l 1 40 _).mono ?_
        rintro e w1 ⟨rfl, rfl⟩
        rw [H1.out]
        go_wp2_with fail
        refine (c_In b 0 l _).mono ?_
        rintro e w1 ⟨rfl, rfl⟩
        rw [H2.out]
        go_wp2_with fail
        refine (c_l06Is g s a _ H.out).mono ?_
        rintro e w1 ⟨rfl, d1⟩
        rw [H3.out]
        obtain ⟨⟨c1, c2⟩, _, _⟩ := (H.out.keep (d1.below _)).two
        have D1 := Lib.hid d1
        clear d1
        go_wp2_with fail
        go_ret
        exact ⟨by rw [HR.out] <;> rfl, D1.out⟩
end Go.Proofs.Ytemdgfjcjjadnab
