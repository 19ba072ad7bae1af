/-
  Contracts: how many sets have few bad parts, in the model; with which share a lot is accepted, in both; the laws' copy and comparison of plans. No conditions.
-/
import Derived.Test.YtemdgfjcjjadnaaPlC
namespace Go.Proofs.Ytemdgfjcjjadnaa
open Go.RowKit Flt Dec Cm Pl
theorem toPlan_any (s a : Int) (w : World) : Calls Try.prog 14 #[.agg #[.int .i64 s, .int .i64 a]] w fun e w' => e = .returned (.agg #[.int .i64 s, .int .i64 a]) ∧ Below w.heap.size w w' := by
  go_enter Try.func14, Try.ntmps14
  go_wp2
  refine bodyPost_ret (v := .agg #[.int .i64 s, .int .i64 a]) (by simp [results, Try.results14, go_sem]) rfl ⟨rfl, ?_⟩
  exact ((((Liv.Grn.refl _).alloc _).alloc _).alloc _).below
theorem eqPlan_any (s a : Int) (w : World) : Calls Try.prog 27 #[.agg #[.int .i64 s, .int .i64 a], .agg #[.int .i64 s, .int .i64 a]] w fun e w' => e = .returned (.bool true) ∧ Below w.heap.size w w' := by
  have hx : ∀ x : Int, (x != x) = false := by simp
  go_enter Try.func27, Try.ntmps27
  go_wp2_with fail
  go_ret
  exact ⟨rfl, (((Liv.Grn.refl _).alloc _).alloc _).below⟩
set_option maxHeartbeats 1600000 in
theorem c_Sets (l b s a : Int) (hl : l ≤ 40) (hb : -100 ≤ b ∧ b ≤ 40) (hlb : l - b ≤ 40) (hl0 : -100 ≤ l) (hs : -100 ≤ s ∧ s ≤ 100) (ha : -100 ≤ a ∧ a ≤ 99) (w : World) :
    Calls Try.prog 44 #[.int .i64 l, .int .i64 b, .int .i64 s, .int .i64 a] w fun e w' => e = .returned (.int .i64 ((ac l b s (a + 1).toNat : Nat) : Int)) ∧ w = w' := by
  obtain ⟨n, hn⟩ : ∃ n, (a + 1).toNat = n := ⟨_, rfl⟩
  rw [hn]
  have HC1 := fun (k : Nat) w => Lib.hid (c_Choose b k hb.2 w)
  have HC2 := fun (k : Nat) w => Lib.hid (c_Choose (l - b) (s - k) hlb w)
  have HN := Lib.hid hn
  clear hn
  go_enter Try.func44, Try.ntmps44
  go_wp2_with fail
  go_loopg [9, 10] n (fun m x i wr => ∃ j t : Nat, x = .int .i64 (t : Int) ∧ i = .int .i64 (j : Int) ∧ Hid (t = ac l b s j) ∧ Hid (j + m = n) ∧ j ≤ 100 ∧ Hid (w = wr))
  case atStart => exact ⟨0, 0, rfl, rfl, rfl, by show _ = _; omega, by omega, rfl⟩
  case round =>
    obtain ⟨j, t, rfl, rfl, ht, hm, hj, hw⟩ := hrel
    have hj0 : Hid (j < n ↔ (j : Int) ≤ a) := by have := HN.out; show _ ↔ _; omega
    have hta : t ≤ 1099511627776 := by rw [ht.out]; exact ac_40 hl b s j
    by_cases hlt : (j : Int) ≤ a
    · have hjn := hj0.out.2 hlt
      have HM : Hid (j + 1 + (gk - 1) = n ∧ gk - 1 < gk) := by have := hm.out; show _ ∧ _; omega
      obtain ⟨Z, hx⟩ : ∃ x, wi l b s j = x := ⟨_, rfl⟩
      have hsum : t + Z ≤ 1099511627776 := by rw [ht.out, ← hx, ← ac_s]; exact ac_40 hl b s (j + 1)
      have HT : Hid (t + Z = ac l b s (j + 1)) := by show _ = _; rw [ac_s, ← ht.out, hx]
      have hw' : wi l b s j = chI b j * chI (l - b) (s - j) := rfl
      have HD1 := HC1 j
      have HD2 := HC2 j
      rw [hw'] at hx
      obtain ⟨X, hX⟩ : ∃ X, chI b j = X := ⟨_, rfl⟩
      obtain ⟨Y, hY⟩ : ∃ Y, chI (l - b) (s - j) = Y := ⟨_, rfl⟩
      rw [hX] at hx HD1
      rw [hY] at hx HD2
      have hmul : (X : Int) * (Y : Int) = (Z : Int) := by rw [← hx]; exact (Int.natCast_mul X Y).symm
      clear hx ht hm hj0 HC1 HC2 hX hY hw'
      go_wp2_with fail
      refine (HD1 _).out.mono ?_
      rintro e w1 ⟨rfl, rfl⟩
      go_wp2_with fail
      refine (HD2 _).out.mono ?_
      rintro e w1 ⟨rfl, rfl⟩
      go_wp2_with fail
      go_roundg (gk - 1)
      case measure => exact HM.out.2
      case rel => exact ⟨j + 1, t + Z, by go_num, by go_num, HT.out, HM.out.1, by omega, hw.out⟩
    · have HE : Hid (t = ac l b s n) := by
        show _ = _
        have h1 := hj0.out
        have h2 := hm.out
        have h3 := HN.out
        obtain rfl : j = n := by omega
        exact ht.out
      clear hj0 hm HC1 HC2
      go_wp2_with fail
      go_ret
      exact ⟨by rw [← HE.out] <;> rfl, hw.out⟩
set_option maxHeartbeats 1600000 in
theorem sAcceptShare_any (l b s a : Int) (w : World) :
    Calls Try.prog 18 #[.int .i64 l, .int .i64 b, .agg #[.int .i64 s, .int .i64 a]] w fun e w' => e = .returned (.tuple #[.int .i64 (asX l b s a), .int .i64 (asY l b s a), .bool (asB l b s a)]) ∧ Below w.heap.size w w' := by
  have hb : Below w.heap.size w (w.alloc (.cells #[.int .i64 s, .int .i64 a] 25)) := (Below.refl _ _).alloc (Nat.le_refl _) _
  have HB := Lib.hid (Blk.Blk.new w #[.int .i64 s, .int .i64 a] 25)
  cases h : asB l b s a with
  | false =>
    have HR := Lib.hid (as_no h)
    have H := Lib.hid h
    clear h
    go_enter Try.func18, Try.ntmps18
    go_wp2_with fail
    refine (c_l06Lot l b _ s a _ HB.out).mono ?_
    rintro e w1 ⟨rfl, d1⟩
    have B1 := Lib.hid (hb.trans (d1.below _))
    clear hb d1
    rw [H.out]
    go_wp2_with fail
    go_ret3
    rw [HR.out.1, HR.out.2]
    exact ⟨rfl, B1.out⟩
  | true =>
    have HR := Lib.hid (as_yes h)
    have H := Lib.hid h
    obtain ⟨i1, i2, i3, i4, i5, i6, i7, i8⟩ := as_in h
    have C1 := fun w => Lib.hid (c_Sets l b s a i2 (by omega) (by omega) (by omega) (by omega) (by omega) w)
    have C2 := fun w => Lib.hid (c_Choose l s i2 w)
    have h1 := ac_40 i2 b s (a + 1).toNat
    have h2 := chI_40 i2 s
    have h3 := chI_pos (show 0 ≤ s by omega) i6
    generalize ac l b s (a + 1).toNat = X at *
    generalize chI l s = Y at *
    have C3 := fun w => Lib.hid (c_Least X Y (by omega) (by omega) h3 w)
    clear h i1 i2 i3 i4 i5 i6 i7 i8
    have h4 : lo1 X Y ≤ 1099511627776 := Nat.le_trans (lo1_le X Y) h1
    have h5 : lo2 X Y ≤ 1099511627776 := Nat.le_trans (lo2_le X Y) h2
    generalize lo1 X Y = U at *
    generalize lo2 X Y = V at *
    go_enter Try.func18, Try.ntmps18
    go_wp2_with fail
    refine (c_l06Lot l b _ s a _ HB.out).mono ?_
    rintro e w1 ⟨rfl, d1⟩
    have B1 := Lib.hid (hb.trans (d1.below _))
    have HB1 := HB.out.keep (d1.below _)
    have c1 : ∀ m, (w1.drewN m).cell? ⟨w.heap.size, 0, none⟩ = some (.int .i64 s) := fun m => (HB1.two).1.1
    have c2 : ∀ m, (w1.drewN m).cell? ⟨w.heap.size, 1, none⟩ = some (.int .i64 a) := fun m => (HB1.two).1.2
    clear hb d1 HB1
    rw [H.out]
    go_wp2_with fail
    go_quiet ((first | (go_at_call 44; exact Calls.quiet_of_same ((C1 _).out.mono fun e w' ⟨h1, h2⟩ => ⟨h1, h2.symm⟩)) | (go_at_call 45; exact Calls.quiet_of_same ((C2 _).out.mono fun e w' ⟨h1, h2⟩ => ⟨h1, h2.symm⟩)) | (go_at_call 43; exact (C3 _).out.mono fun e w' ⟨h1, ⟨n, h2⟩⟩ => ⟨h1, ⟨_, h2.trans (Flt.drewN_drewN _ _ _)⟩⟩)))
    go_wp2_with fail
    go_ret3
    rw [HR.out.1, HR.out.2]
    exact ⟨rfl, B1.out.trans ((Drawn.below ⟨_, rfl⟩ _).mono B1.out.size)⟩
set_option maxHeartbeats 1600000 in
theorem iAcceptShare_any (l b s a : Int) (w : World) :
    Calls Try.prog 19 #[.int .i64 l, .int .i64 b, .agg #[.int .i64 s, .int .i64 a]] w fun e w' => e = .returned (.tuple #[.int .i64 (asX l b s a), .int .i64 (asY l b s a), .bool (asB l b s a)]) ∧ Below w.heap.size w w' := by
  have hb : Below w.heap.size w (w.alloc (.cells #[.int .i64 s, .int .i64 a] 25)) := (Below.refl _ _).alloc (Nat.le_refl _) _
  have HB := Lib.hid (Blk.Blk.new w #[.int .i64 s, .int .i64 a] 25)
  cases h1 : lwB l b with
  | false =>
    have H := Lib.hid (as_6 (s := s) (a := a) h1)
    have HR := Lib.hid (as_no H.out)
    have H1 := Lib.hid h1
    clear h1
    go_enter Try.func19, Try.ntmps19
    go_wp2_with fail
    refine (c_isLotWith l b _).mono ?_
    rintro e w1 ⟨rfl, rfl⟩
    rw [H1.out]
    have B1 := Lib.hid hb
    clear hb
    go_wp2_with fail
    go_ret3
    rw [HR.out.1, HR.out.2, H.out]
    exact ⟨rfl, B1.out⟩
  | true =>
    have HA := Lib.hid (as_7 (s := s) (a := a) h1)
    have H1 := Lib.hid h1
    clear h1
    cases h : pfB l s a with
    | false =>
      have H : Hid (asB l b s a = false) := by show _ = _; rw [HA.out, h]
      have HR := Lib.hid (as_no H.out)
      have H2 := Lib.hid h
      clear h
      go_enter Try.func19, Try.ntmps19
      go_wp2_with fail
      refine (c_isLotWith l b _).mono ?_
      rintro e w1 ⟨rfl, rfl⟩
      rw [H1.out]
      obtain ⟨⟨c1, c2⟩, _, _⟩ := HB.out.two
      go_wp2_with fail
      refine (c_isPlanFor l s a _).mono ?_
      rintro e w1 ⟨rfl, b1⟩
      rw [H2.out]
      have B1 := Lib.hid (hb.trans (b1.mono hb.size))
      clear hb b1 c1 c2
      go_wp2_with fail
      go_ret3
      rw [HR.out.1, HR.out.2, H.out]
      exact ⟨rfl, B1.out⟩
    | true =>
      have h0 : asB l b s a = true := by rw [HA.out, h]
      have HR := Lib.hid (as_yes h0)
      have H := Lib.hid h0
      have H2 := Lib.hid h
      obtain ⟨i1, i2, i3, i4, i5, i6, i7, i8⟩ := as_in h0
      have C1 := fun w => Lib.hid (c_accepted l b s a i2 (by omega) (by omega) (by omega) (by omega) (by omega) w)
      have C2 := fun w => Lib.hid (c_setsOf l s i2 w)
      have h1 := ac_40 i2 b s (a + 1).toNat
      have h2 := chI_40 i2 s
      have h3 := chI_pos (show 0 ≤ s by omega) i6
      generalize ac l b s (a + 1).toNat = X at *
      generalize chI l s = Y at *
      have C3 := fun w => Lib.hid (c_low6 X Y (by omega) (by omega) h3 w)
      clear h h0 i1 i2 i3 i4 i5 i6 i7 i8
      have h4 : lo1 X Y ≤ 1099511627776 := Nat.le_trans (lo1_le X Y) h1
      have h5 : lo2 X Y ≤ 1099511627776 := Nat.le_trans (lo2_le X Y) h2
      generalize lo1 X Y = U at *
      generalize lo2 X Y = V at *
      go_enter Try.func19, Try.ntmps19
      go_wp2_with fail
      refine (c_isLotWith l b _).mono ?_
      rintro e w1 ⟨rfl, rfl⟩
      rw [H1.out]
      obtain ⟨⟨c1, c2⟩, _, _⟩ := HB.out.two
      go_wp2_with fail
      refine (c_isPlanFor l s a _).mono ?_
      rintro e w1 ⟨rfl, b1⟩
      rw [H2.out]
      have B1 := Lib.hid (hb.trans (b1.mono hb.size))
      have HB1 := HB.out.keep b1
      clear c1 c2
      have c1 : ∀ m, (w1.drewN m).cell? ⟨w.heap.size, 0, none⟩ = some (.int .i64 s) := fun m => (HB1.two).1.1
      have c2 : ∀ m, (w1.drewN m).cell? ⟨w.heap.size, 1, none⟩ = some (.int .i64 a) := fun m => (HB1.two).1.2
      clear hb b1 HB1
      go_wp2_with fail
      go_quiet ((first | (go_at_call 49; exact Calls.quiet_of_same ((C1 _).out.mono fun e w' ⟨h1, h2⟩ => ⟨h1, h2.symm⟩)) | (go_at_call 50; exact Calls.quiet_of_same ((C2 _).out.mono fun e w' ⟨h1, h2⟩ => ⟨h1, h2.symm⟩)) | (go_at_call 48; exact (C3 _).out.mono fun e w' ⟨h1, ⟨n, h2⟩⟩ => ⟨h1, ⟨_, h2.trans (Flt.drewN_drewN _ _ _)⟩⟩)))
      go_wp2_with fail
      go_ret3
      rw [HR.out.1, HR.out.2, H.out]
      exact ⟨rfl, B1.out.trans ((Drawn.below ⟨_, rfl⟩ _).mono B1.out.size)⟩
theorem sSamePlan_any (s a t b : Int) (w : World) : Calls Try.prog 16 #[.agg #[.int .i64 s, .int .i64 a], .agg #[.int .i64 t, .int .i64 b]] w fun e w' => e = .returned (.bool (decide (s = t ∧ a = b))) ∧ Below w.heap.size w w' := by
  by_cases h1 : s = t
  · subst h1
    rw [show decide (s = s ∧ a = b) = (a == b) from by by_cases c : a = b <;> simp [c]]
    go_enter Try.func16, Try.ntmps16
    go_wp2_with fail
    go_ret
    exact ⟨rfl, (((Liv.Grn.refl _).alloc _).alloc _).below⟩
  · rw [show decide (s = t ∧ a = b) = false from by simp [h1]]
    have h2 : (s == t) = false := by simpa using h1
    go_enter Try.func16, Try.ntmps16
    go_wp2_with fail
    go_ret
    exact ⟨rfl, (((Liv.Grn.refl _).alloc _).alloc _).below⟩
theorem iSamePlan_any (s a t b : Int) (w : World) : Calls Try.prog 17 #[.agg #[.int .i64 s, .int .i64 a], .agg #[.int .i64 t, .int .i64 b]] w fun e w' => e = .returned (.bool (decide (s = t ∧ a = b))) ∧ Below w.heap.size w w' := by
  obtain ⟨r, hr⟩ : ∃ r, decide (s = t ∧ a = b) = r := ⟨_, rfl⟩
  rw [hr]
  have HR := Lib.hid hr
  clear hr
  go_enter Try.func17, Try.ntmps17
  go_wp2_with fail
  all_goals
    go_ret
    refine ⟨?_, (((Liv.Grn.refl _).alloc _).alloc _).below⟩
    rw [← HR.out]
    simp_all
end Go.Proofs.Ytemdgfjcjjadnaa
