/-
  Contracts: whether lots and plans are valid, in both; how many sets have few bad parts; with which share a lot is accepted. Conditions: cells lie where the walk says.
-/
import Derived.Test.YtemdgfjcjjadnaaPlW
import Derived.Test.YtemdgfjcjjadnaaBlk
import Derived.Deep.QuietTactic
namespace Pl
open Go Flt
def asB (l b s a : Int) : Bool := lwB l b && pfB l s a
def asX (l b s a : Int) : Int := if asB l b s a then ((lo1 (ac l b s (a + 1).toNat) (chI l s) : Nat) : Int) else 0
def asY (l b s a : Int) : Int := if asB l b s a then ((lo2 (ac l b s (a + 1).toNat) (chI l s) : Nat) : Int) else 0
theorem as_no {l b s a : Int} (h : asB l b s a = false) : asX l b s a = 0 ∧ asY l b s a = 0 := by unfold asX asY; rw [h]; exact ⟨rfl, rfl⟩
theorem as_yes {l b s a : Int} (h : asB l b s a = true) : asX l b s a = ((lo1 (ac l b s (a + 1).toNat) (chI l s) : Nat) : Int) ∧ asY l b s a = ((lo2 (ac l b s (a + 1).toNat) (chI l s) : Nat) : Int) := by unfold asX asY; rw [h]; exact ⟨rfl, rfl⟩
theorem as_in {l b s a : Int} (h : asB l b s a = true) : 1 ≤ l ∧ l ≤ 40 ∧ 0 ≤ b ∧ b ≤ l ∧ 1 ≤ s ∧ s ≤ l ∧ 0 ≤ a ∧ a ≤ s := by
  unfold asB lwB pfB plB at h
  simp only [Bool.and_eq_true, decide_eq_true_eq] at h
  omega
theorem as_1 {l b s a : Int} (h : decide (1 ≤ l ∧ l ≤ 40) = false) : asB l b s a = false := by unfold asB lwB; rw [h]; rfl
theorem as_2 {l b s a : Int} (h : decide (0 ≤ b ∧ b ≤ l) = false) : asB l b s a = false := by unfold asB lwB; rw [h]; simp
theorem as_3 {l b s a : Int} (h : plB s a = false) : asB l b s a = false := by unfold asB pfB; rw [h]; simp
theorem as_4 {l b s a : Int} (h1 : decide (1 ≤ l ∧ l ≤ 40) = true) (h2 : decide (0 ≤ b ∧ b ≤ l) = true) (h3 : plB s a = true) : asB l b s a = decide (s ≤ l) := by unfold asB lwB pfB; rw [h1, h2, h3]; simp
theorem as_5 {l b s a : Int} (h : pfB l s a = false) : asB l b s a = false := by unfold asB; rw [h]; simp
theorem as_6 {l b s a : Int} (h : lwB l b = false) : asB l b s a = false := by unfold asB; rw [h]; rfl
theorem as_7 {l b s a : Int} (h : lwB l b = true) : asB l b s a = pfB l s a := by unfold asB; rw [h]; simp
theorem chI_pos {l s : Int} (h0 : 0 ≤ s) (h : s ≤ l) : 1 ≤ chI l s := by
  obtain ⟨l, rfl⟩ : ∃ m : Nat, l = m := ⟨l.toNat, by omega⟩
  obtain ⟨s, rfl⟩ : ∃ m : Nat, s = m := ⟨s.toNat, by omega⟩
  rw [chI_nat]; exact cho_pos (by omega)
end Pl
namespace Go.Proofs.Ytemdgfjcjjadnaa
open Go.RowKit Flt Dec Cm Pl
theorem c_isLot (n : Int) (w : World) : Calls Try.prog 41 #[.int .i64 n] w fun e w' => e = .returned (.bool (decide (1 ≤ n ∧ n ≤ 40))) ∧ w = w' := by
  by_cases h1 : 1 ≤ n
  · have h2 : decide (1 ≤ n ∧ n ≤ 40) = decide (n ≤ 40) := by
      by_cases c : n ≤ 40
      · rw [decide_eq_true c, decide_eq_true ⟨h1, c⟩]
      · rw [decide_eq_false c, decide_eq_false (by omega)]
    rw [h2]
    clear h2
    go_enter Try.func41, Try.ntmps41
    go_wp2_with fail
    all_goals first | (exfalso; omega) | skip
    go_ret
    exact ⟨rfl, rfl⟩
  · rw [decide_eq_false (show ¬ (1 ≤ n ∧ n ≤ 40) by omega)]
    go_enter Try.func41, Try.ntmps41
    go_wp2_with fail
    all_goals first | (exfalso; omega) | skip
    go_ret
    exact ⟨rfl, rfl⟩
theorem c_isLotWith (l b : Int) (w : World) : Calls Try.prog 46 #[.int .i64 l, .int .i64 b] w fun e w' => e = .returned (.bool (lwB l b)) ∧ w = w' := by
  cases h1 : decide (1 ≤ l ∧ l ≤ 40) with
  | false =>
    have HR : Hid (lwB l b = false) := by show _ = _; unfold lwB; rw [h1]; rfl
    have H1 := Lib.hid h1
    clear h1
    go_enter Try.func46, Try.ntmps46
    go_wp2_with fail
    refine (c_isLot l _).mono ?_
    rintro e w1 ⟨rfl, rfl⟩
    rw [H1.out]
    go_wp2_with fail
    go_ret
    exact ⟨by rw [HR.out] <;> rfl, rfl⟩
  | true =>
    have H1 := Lib.hid h1
    by_cases h2 : 0 ≤ b
    · have HR : Hid (lwB l b = decide (b ≤ l)) := by
        show _ = _; unfold lwB; rw [h1, Bool.true_and]
        by_cases c : b ≤ l
        · rw [decide_eq_true c, decide_eq_true ⟨h2, c⟩]
        · rw [decide_eq_false c, decide_eq_false (by omega)]
      clear h1
      go_enter Try.func46, Try.ntmps46
      go_wp2_with fail
      refine (c_isLot l _).mono ?_
      rintro e w1 ⟨rfl, rfl⟩
      rw [H1.out]
      go_wp2_with fail
      go_ret
      exact ⟨by rw [HR.out] <;> rfl, rfl⟩
    · have HR : Hid (lwB l b = false) := by show _ = _; unfold lwB; rw [h1, decide_eq_false (by omega)]; rfl
      clear h1
      go_enter Try.func46, Try.ntmps46
      go_wp2_with fail
      refine (c_isLot l _).mono ?_
      rintro e w1 ⟨rfl, rfl⟩
      rw [H1.out]
      go_wp2_with fail
      go_ret
      exact ⟨by rw [HR.out] <;> rfl, rfl⟩
theorem iValidPlan_grn (s a : Int) (w : World) : Calls Try.prog 15 #[.agg #[.int .i64 s, .int .i64 a]] w fun e w' => e = .returned (.bool (plB s a)) ∧ Liv.Grn w w' := by
  cases h1 : decide (1 ≤ s ∧ s ≤ 40) with
  | false =>
    have HR : Hid (plB s a = false) := by show _ = _; unfold plB; rw [h1]; rfl
    have H1 := Lib.hid h1
    clear h1
    go_enter Try.func15, Try.ntmps15
    go_wp2_with fail
    refine (c_isLot s _).mono ?_
    rintro e w1 ⟨rfl, rfl⟩
    rw [H1.out]
    go_wp2_with fail
    go_ret
    exact ⟨by rw [HR.out] <;> rfl, (Liv.Grn.refl _).alloc _⟩
  | true =>
    have H1 := Lib.hid h1
    by_cases h2 : 0 ≤ a
    · have HR : Hid (plB s a = decide (a ≤ s)) := by
        show _ = _; unfold plB; rw [h1, Bool.true_and]
        by_cases c : a ≤ s
        · rw [decide_eq_true c, decide_eq_true ⟨h2, c⟩]
        · rw [decide_eq_false c, decide_eq_false (by omega)]
      clear h1
      go_enter Try.func15, Try.ntmps15
      go_wp2_with fail
      refine (c_isLot s _).mono ?_
      rintro e w1 ⟨rfl, rfl⟩
      rw [H1.out]
      go_wp2_with fail
      go_ret
      exact ⟨by rw [HR.out] <;> rfl, (Liv.Grn.refl _).alloc _⟩
    · have HR : Hid (plB s a = false) := by show _ = _; unfold plB; rw [h1, decide_eq_false (by omega)]; rfl
      clear h1
      go_enter Try.func15, Try.ntmps15
      go_wp2_with fail
      refine (c_isLot s _).mono ?_
      rintro e w1 ⟨rfl, rfl⟩
      rw [H1.out]
      go_wp2_with fail
      go_ret
      exact ⟨by rw [HR.out] <;> rfl, (Liv.Grn.refl _).alloc _⟩
theorem iValidPlan_any (s a : Int) (w : World) : Calls Try.prog 15 #[.agg #[.int .i64 s, .int .i64 a]] w fun e w' => e = .returned (.bool (plB s a)) ∧ Below w.heap.size w w' :=
  (iValidPlan_grn s a w).mono fun _ _ h => ⟨h.1, h.2.below⟩
theorem c_isPlanFor (l s a : Int) (w : World) : Calls Try.prog 47 #[.int .i64 l, .agg #[.int .i64 s, .int .i64 a]] w fun e w' => e = .returned (.bool (pfB l s a)) ∧ Below w.heap.size w w' := by
  cases h1 : decide (1 ≤ l ∧ l ≤ 40) with
  | false =>
    have HR : Hid (pfB l s a = false) := by show _ = _; unfold pfB; rw [h1]; rfl
    have H1 := Lib.hid h1
    clear h1
    go_enter Try.func47, Try.ntmps47
    go_wp2_with fail
    refine (c_isLot l _).mono ?_
    rintro e w1 ⟨rfl, rfl⟩
    rw [H1.out]
    go_wp2_with fail
    go_ret
    exact ⟨by rw [HR.out] <;> rfl, (Below.refl _ _).alloc (Nat.le_refl _) _⟩
  | true =>
    have H1 := Lib.hid h1
    cases h2 : plB s a
    all_goals
      have HR : Hid (pfB l s a = (plB s a && decide (s ≤ l))) := by show _ = _; unfold pfB; rw [h1]; rfl
      have H2 := Lib.hid h2
      rw [h2] at HR
      clear h2
      try clear h1
      go_enter Try.func47, Try.ntmps47
      go_wp2_with fail
      refine (c_isLot l _).mono ?_
      rintro e w1 ⟨rfl, rfl⟩
      rw [H1.out]
      go_wp2_with fail
      have HB := Lib.hid (Blk.Blk.new w #[.int .i64 s, .int .i64 a] 25)
      have hb : Below w.heap.size w (w.alloc (.cells #[.int .i64 s, .int .i64 a] 25)) := (Below.refl _ _).alloc (Nat.le_refl _) _
      generalize w.alloc (.cells #[.int .i64 s, .int .i64 a] 25) = w0 at *
      refine (iValidPlan_any s a _).mono ?_
      rintro e w1 ⟨rfl, b1⟩
      rw [H2.out]
      obtain ⟨⟨c1, c2⟩, _, _⟩ := (HB.out.keep b1).two
      have HBB := Lib.hid (hb.trans (b1.mono hb.size))
      clear hb b1
      go_wp2_with fail
      go_ret
      exact ⟨by rw [HR.out] <;> rfl, HBB.out⟩
set_option maxHeartbeats 1600000 in
theorem c_l06Is (g : Nat) (s a : Int) (w : World) (h : Blk.Blk w g [.int .i64 s, .int .i64 a] 25) : Calls Try.prog 40 #[.pointer (some ⟨g, 0, none⟩)] w fun e w' => e = .returned (.bool (plB s a)) ∧ Drawn w w' := by
  have c1 : ∀ m, (w.drewN m).cell? ⟨g, 0, none⟩ = some (.int .i64 s) := fun m => (h.two).1.1
  have c2 : ∀ m, (w.drewN m).cell? ⟨g, 1, none⟩ = some (.int .i64 a) := fun m => (h.two).1.2
  clear h
  cases h1 : decide (1 ≤ s ∧ s ≤ 40) with
  | false =>
    have HR : Hid (plB s a = false) := by show _ = _; unfold plB; rw [h1]; rfl
    have H1 := Lib.hid h1
    clear h1
    go_enter Try.func40, Try.ntmps40
    go_wp2_with fail
    go_quiet ((go_at_call 51; exact Calls.quiet_of_same ((c_In s 1 40 _).mono fun e w' ⟨h1, h2⟩ => ⟨h1.trans (by rw [H1.out]), h2.symm⟩)))
    go_wp2_with fail
    go_ret
    exact ⟨by rw [HR.out] <;> rfl, ⟨_, rfl⟩⟩
  | true =>
    have HR : Hid (plB s a = (decide (0 ≤ a) && decide (a ≤ s))) := by show _ = _; unfold plB; rw [h1, Bool.true_and, Bool.decide_and]
    go_enter Try.func40, Try.ntmps40
    go_wp2_with fail
    go_quiet ((go_at_call 51; exact Calls.quiet_of_same ((c_In _ _ _ _).mono fun e w' ⟨h1, h2⟩ => ⟨h1, h2.symm⟩)))
    go_wp2_with fail
    go_ret
    exact ⟨by rw [HR.out] <;> rfl, ⟨_, rfl⟩⟩
theorem sValidPlan_any (s a : Int) (w : World) : Calls Try.prog 13 #[.agg #[.int .i64 s, .int .i64 a]] w fun e w' => e = .returned (.bool (plB s a)) ∧ Below w.heap.size w w' := by
  go_enter Try.func13, Try.ntmps13
  go_wp2_with fail
  have HB := Blk.Blk.new w #[.int .i64 s, .int .i64 a] 25
  have hb : Below w.heap.size w (w.alloc (.cells #[.int .i64 s, .int .i64 a] 25)) := (Below.refl _ _).alloc (Nat.le_refl _) _
  refine (c_l06Is _ s a _ HB).mono ?_
  rintro e w1 ⟨rfl, d1⟩
  have HBB := Lib.hid (hb.trans (d1.below _))
  clear hb d1 HB
  go_wp2_with fail
  go_ret
  exact ⟨rfl, HBB.out⟩
set_option maxHeartbeats 1600000 in
theorem c_l06Lot (l b : Int) (g : Nat) (s a : Int) (w : World) (h : Blk.Blk w g [.int .i64 s, .int .i64 a] 25) : Calls Try.prog 42 #[.int .i64 l, .int .i64 b, .pointer (some ⟨g, 0, none⟩)] w fun e w' => e = .returned (.bool (asB l b s a)) ∧ Drawn w w' := by
  have H := Lib.hid h
  clear h
  cases h1 : decide (1 ≤ l ∧ l ≤ 40) with
  | false =>
    have HR := Lib.hid (as_1 (b := b) (s := s) (a := a) h1)
    have H1 := Lib.hid h1
    clear h1
    go_enter Try.func42, Try.ntmps42
    go_wp2_with fail
    refine (c_In l 1 40 _).mono ?_
    rintro e w1 ⟨rfl, rfl⟩
    rw [H1.out]
    go_wp2_with fail
    go_ret
    exact ⟨by rw [HR.out] <;> rfl, Drawn.refl _⟩
  | true =>
    cases h2 : decide (0 ≤ b ∧ b ≤ l) with
    | false =>
      have HR := Lib.hid (as_2 (s := s) (a := a) h2)
      have H1 := Lib.hid h1
      have H2 := Lib.hid h2
      clear h1 h2
      go_enter Try.func42, Try.ntmps42
      go_wp2_with fail
      refine (c_In l 1 40 _).mono ?_
      rintro e w1 ⟨rfl, rfl⟩
      rw [H1.out]
      go_wp2_with fail
      refine (c_In b 0 l _).mono ?_
      rintro e w1 ⟨rfl, rfl⟩
      rw [H2.out]
      go_wp2_with fail
      go_ret
      exact ⟨by rw [HR.out] <;> rfl, Drawn.refl _⟩
    | true =>
      cases h3 : plB s a with
      | false =>
        have HR := Lib.hid (as_3 (l := l) (b := b) h3)
        have H1 := Lib.hid h1
        have H2 := Lib.hid h2
        have H3 := Lib.hid h3
        clear h1 h2 h3
        go_enter Try.func42, Try.ntmps42
        go_wp2_with fail
        refine (c_In l 1 40 _).mono ?_
        rintro e w1 ⟨rfl, rfl⟩
        rw [H1.out]
        go_wp2_with fail
        refine (c_In b 0 l _).mono ?_
        rintro e w1 ⟨rfl, rfl⟩
        rw [H2.out]
        go_wp2_with fail
        refine (c_l06Is g s a _ H.out).mono ?_
        rintro e w1 ⟨rfl, d1⟩
        rw [H3.out]
        go_wp2_with fail
        go_ret
        exact ⟨by rw [HR.out] <;> rfl, d1⟩
      | true =>
        have HR := Lib.hid (as_4 h1 h2 h3)
        have H1 := Lib.hid h1
        have H2 := Lib.hid h2
        have H3 := Lib.hid h3
        clear h1 h2 h3
        go_enter Try.func42, Try.ntmps42
        go_wp2_with fail
        refine (c_In l 1 40 _).mono ?_
        rintro e w1 ⟨rfl, rfl⟩
        rw [H1.out]
        go_wp2_with fail
        refine (c_In b 0 l _).mono ?_
        rintro e w1 ⟨rfl, rfl⟩
        rw [H2.out]
        go_wp2_with fail
        refine (c_l06Is g s a _ H.out).mono ?_
        rintro e w1 ⟨rfl, d1⟩
        rw [H3.out]
        obtain ⟨⟨c1, c2⟩, _, _⟩ := (H.out.keep (d1.below _)).two
        have D1 := Lib.hid d1
        clear d1
        go_wp2_with fail
        go_ret
        exact ⟨by rw [HR.out] <;> rfl, D1.out⟩
theorem c_Least (a b : Nat) (ha : a ≤ 9000000000000000000) (hb : b ≤ 9000000000000000000) (h1 : 1 ≤ b) (w : World) :
    Calls Try.prog 43 #[.int .i64 (a : Int), .int .i64 (b : Int)] w fun e w' => e = .returned (.tuple #[.int .i64 ((lo1 a b : Nat) : Int), .int .i64 ((lo2 a b : Nat) : Int)]) ∧ Drawn w w' := by
  have HC := fun w => Lib.hid (c_gcd6 a b ha hb w)
  have HP : 0 < Nat.gcd a b := Nat.gcd_pos_of_pos_right a h1
  unfold lo1 lo2
  obtain ⟨G, hG⟩ : ∃ G, Nat.gcd a b = G := ⟨_, rfl⟩
  rw [hG] at HP HC ⊢
  obtain ⟨X, hX⟩ : ∃ X, a / G = X := ⟨_, rfl⟩
  obtain ⟨Y, hY⟩ : ∃ Y, b / G = Y := ⟨_, rfl⟩
  have hv1 : X ≤ 9000000000000000000 := by have := Nat.div_le_self a G; omega
  have hv2 : Y ≤ 9000000000000000000 := by have := Nat.div_le_self b G; omega
  rw [hX, hY]
  have hq1 : (a : Int).tdiv (G : Int) = (X : Int) := by rw [tdiv_nat, hX]
  have hq2 : (b : Int).tdiv (G : Int) = (Y : Int) := by rw [tdiv_nat, hY]
  have hz2 : ¬ ((G : Int) = 0) := by omega
  clear hG hX hY HP
  go_enter Try.func43, Try.ntmps43
  go_wp2_with fail
  refine (HC _).out.mono ?_
  rintro e w1 ⟨rfl, rfl⟩
  go_wp2_with fail
  go_quiet (fail)
  go_wp2_with fail
  go_ret2
  exact ⟨rfl, ⟨_, rfl⟩⟩
theorem c_setsWith (l b s : Int) (k : Nat) (hl : l ≤ 40) (hb : -100 ≤ b ∧ b ≤ 40) (hlb : l - b ≤ 40) (hl0 : -100 ≤ l) (hs : -100 ≤ s ∧ s ≤ 100) (hk : k ≤ 100) (w : World) :
    Calls Try.prog 54 #[.int .i64 l, .int .i64 b, .int .i64 s, .int .i64 (k : Int)] w fun e w' => e = .returned (.int .i64 ((wi l b s k : Nat) : Int)) ∧ w = w' := by
  have HC1 := fun w => Lib.hid (c_setsOf b k hb.2 w)
  have HC2 := fun w => Lib.hid (c_setsOf (l - b) (s - k) hlb w)
  have hw : wi l b s k = chI b k * chI (l - b) (s - k) := rfl
  have hle := Nat.le_trans (wi_le l b s k) (chI_40 hl s)
  rw [hw] at hle ⊢
  obtain ⟨X, hX⟩ : ∃ X, chI b k = X := ⟨_, rfl⟩
  obtain ⟨Y, hY⟩ : ∃ Y, chI (l - b) (s - k) = Y := ⟨_, rfl⟩
  obtain ⟨Z, hZ⟩ : ∃ Z, X * Y = Z := ⟨_, rfl⟩
  rw [hX] at HC1 hle ⊢
  rw [hY] at HC2 hle ⊢
  rw [hZ] at hle ⊢
  have hm : (X : Int) * (Y : Int) = (Z : Int) := by rw [← hZ]; exact (Int.natCast_mul X Y).symm
  clear hX hY hZ hw
  go_enter Try.func54, Try.ntmps54
  go_wp2_with fail
  refine (HC1 _).out.mono ?_
  rintro e w1 ⟨rfl, rfl⟩
  go_wp2_with fail
  refine (HC2 _).out.mono ?_
  rintro e w1 ⟨rfl, rfl⟩
  go_wp2_with fail
  go_ret
  exact ⟨rfl, rfl⟩
set_option maxHeartbeats 1600000 in
theorem c_accepted (l b s a : Int) (hl : l ≤ 40) (hb : -100 ≤ b ∧ b ≤ 40) (hlb : l - b ≤ 40) (hl0 : -100 ≤ l) (hs : -100 ≤ s ∧ s ≤ 100) (ha : -100 ≤ a ∧ a ≤ 99) (w : World) :
    Calls Try.prog 49 #[.int .i64 l, .int .i64 b, .int .i64 s, .int .i64 a] w fun e w' => e = .returned (.int .i64 ((ac l b s (a + 1).toNat : Nat) : Int)) ∧ w = w' := by
  obtain ⟨n, hn⟩ : ∃ n, (a + 1).toNat = n := ⟨_, rfl⟩
  rw [hn]
  have HC := fun (k : Nat) (hk : k ≤ 100) w => Lib.hid (c_setsWith l b s k hl hb hlb hl0 hs hk w)
  have HN := Lib.hid hn
  clear hn
  go_enter Try.func49, Try.ntmps49
  go_wp2_with fail
  go_loopg [9, 10, 13] n (fun m x i c wr => ∃ j t : Nat, x = .int .i64 (t : Int) ∧ c = .int .i64 (j : Int) ∧ Hid (t = ac l b s j) ∧ Hid (j + m = n) ∧ j ≤ 100 ∧ Hid (w = wr))
  case atStart => exact ⟨0, 0, rfl, rfl, rfl, by show _ = _; omega, by omega, rfl⟩
  case round =>
    obtain ⟨j, t, rfl, rfl, ht, hm, hj, hw⟩ := hrel
    have hj0 : Hid (j < n ↔ (j : Int) < a + 1) := by have := HN.out; show _ ↔ _; omega
    have hta : t ≤ 1099511627776 := by rw [ht.out]; exact ac_40 hl b s j
    by_cases hlt : (j : Int) < a + 1
    · have hjn := hj0.out.2 hlt
      have HM : Hid (j + 1 + (gk - 1) = n ∧ gk - 1 < gk) := by have := hm.out; show _ ∧ _; omega
      obtain ⟨x, hx⟩ : ∃ x, wi l b s j = x := ⟨_, rfl⟩
      have hsum : t + x ≤ 1099511627776 := by rw [ht.out, ← hx, ← ac_s]; exact ac_40 hl b s (j + 1)
      have HT : Hid (t + x = ac l b s (j + 1)) := by show _ = _; rw [ac_s, ← ht.out, hx]
      have HCC := HC j (by omega)
      rw [hx] at HCC
      clear hx ht hm hj0 HC
      go_wp2_with fail
      refine (HCC _).out.mono ?_
      rintro e w1 ⟨rfl, rfl⟩
      go_wp2_with fail
      go_roundg (gk - 1)
      case measure => exact HM.out.2
      case rel => exact ⟨j + 1, t + x, by go_num, by go_num, HT.out, HM.out.1, by omega, hw.out⟩
    · have HE : Hid (t = ac l b s n) := by
        show _ = _
        have h1 := hj0.out
        have h2 := hm.out
        have h3 := HN.out
        obtain rfl : j = n := by omega
        exact ht.out
      clear hj0 hm HC
      go_wp2_with fail
      go_ret
      exact ⟨by rw [← HE.out] <;> rfl, hw.out⟩
end Go.Proofs.Ytemdgfjcjjadnaa
