/-
  Contracts: how many parts are looked at in the mean, in both. No conditions.
-/
import Derived.Test.YtemdgfjcjjadnaaPlA
namespace Pl
open Go Flt
def mlX (l b s a : Int) : Int := if asB l b s a then (((su l.toNat b.toNat a.toNat s.toNat).1 : Nat) : Int) else 0
def mlY (l b s a : Int) : Int := if asB l b s a then (((su l.toNat b.toNat a.toNat s.toNat).2 : Nat) : Int) else 0
theorem ml_no {l b s a : Int} (h : asB l b s a = false) : mlX l b s a = 0 ∧ mlY l b s a = 0 := by unfold mlX mlY; rw [h]; exact ⟨rfl, rfl⟩
theorem ml_yes {l b s a : Nat} (h : asB l b s a = true) : mlX l b s a = (((su l b a s).1 : Nat) : Int) ∧ mlY l b s a = (((su l b a s).2 : Nat) : Int) := by unfold mlX mlY; rw [h]; exact ⟨rfl, rfl⟩
theorem ac_nat (l b i A : Nat) : ac l b i ((A : Int) + 1).toNat = ac l b i (A + 1) := by rw [show ((A : Int) + 1).toNat = A + 1 from by omega]
/-- what one round of a sum makes -/
structure MeanStep (u lo x y u' lo' : Nat) : Prop where
  ex : ∃ t bf p1 p2 : Nat, lo2 lo y = t ∧ lo1 lo y = bf ∧ (u : Int) * (t : Int) = (p1 : Int) ∧ (x : Int) * (bf : Int) = (p2 : Int) ∧ (lo : Int) * (t : Int) = (lo' : Int) ∧ p1 + p2 = u' ∧ p1 ≤ u' ∧ p2 ≤ u' ∧ t ≤ y ∧ bf ≤ lo
theorem mean_step {u lo x y : Nat} : MeanStep u lo x y (u * lo2 lo y + x * lo1 lo y) (lo * lo2 lo y) :=
  ⟨⟨lo2 lo y, lo1 lo y, u * lo2 lo y, x * lo1 lo y, rfl, rfl, (Int.natCast_mul _ _).symm, (Int.natCast_mul _ _).symm, (Int.natCast_mul _ _).symm, rfl, Nat.le_add_right _ _, Nat.le_add_left _ _, lo2_le _ _, lo1_le _ _⟩⟩
end Pl
namespace Go.Proofs.Ytemdgfjcjjadnaa
open Go.RowKit Flt Dec Cm Pl
set_option maxHeartbeats 3200000 in
theorem iMeanLooks_any (l b s a : Int) (w : World) :
    Calls Try.prog 31 #[.int .i64 l, .int .i64 b, .agg #[.int .i64 s, .int .i64 a]] w fun e w' => e = .returned (.tuple #[.int .i64 (mlX l b s a), .int .i64 (mlY l b s a), .bool (asB l b s a)]) ∧ Below w.heap.size w w' := by
  have hb : Below w.heap.size w (w.alloc (.cells #[.int .i64 s, .int .i64 a] 25)) := (Below.refl _ _).alloc (Nat.le_refl _) _
  have HB := Lib.hid (Blk.Blk.new w #[.int .i64 s, .int .i64 a] 25)
  cases h1 : lwB l b with
  | false =>
    have H := Lib.hid (as_6 (s := s) (a := a) h1)
    have HR := Lib.hid (ml_no H.out)
    have H1 := Lib.hid h1
    clear h1
    go_enter Try.func31, Try.ntmps31
    go_wp2_with fail
    refine (c_isLotWith l b _).mono ?_
    rintro e w1 ⟨rfl, rfl⟩
    rw [H1.out]
    have B1 := Lib.hid hb
    clear hb
    go_wp2_with fail
    go_ret3
    rw [HR.out.1, HR.out.2, H.out]
    exact ⟨rfl, B1.out⟩
  | true =>
    have HA := Lib.hid (as_7 (s := s) (a := a) h1)
    have H1 := Lib.hid h1
    clear h1
    cases h : pfB l s a with
    | false =>
      have H : Hid (asB l b s a = false) := by show _ = _; rw [HA.out, h]
      have HR := Lib.hid (ml_no H.out)
      have H2 := Lib.hid h
      clear h
      go_enter Try.func31, Try.ntmps31
      go_wp2_with fail
      refine (c_isLotWith l b _).mono ?_
      rintro e w1 ⟨rfl, rfl⟩
      rw [H1.out]
      obtain ⟨⟨c1, c2⟩, _, _⟩ := HB.out.two
      go_wp2_with fail
      refine (c_isPlanFor l s a _).mono ?_
      rintro e w1 ⟨rfl, b1⟩
      rw [H2.out]
      have B1 := Lib.hid (hb.trans (b1.mono hb.size))
      clear hb b1 c1 c2
      go_wp2_with fail
      go_ret3
      rw [HR.out.1, HR.out.2, H.out]
      exact ⟨rfl, B1.out⟩
    | true =>
      have h0 : asB l b s a = true := by rw [HA.out, h]
      have H2 := Lib.hid h
      obtain ⟨i1, i2, i3, i4, i5, i6, i7, i8⟩ := as_in h0
      obtain ⟨l, rfl⟩ : ∃ m : Nat, l = m := ⟨l.toNat, by omega⟩
      obtain ⟨b, rfl⟩ : ∃ m : Nat, b = m := ⟨b.toNat, by omega⟩
      obtain ⟨s, rfl⟩ : ∃ m : Nat, s = m := ⟨s.toNat, by omega⟩
      obtain ⟨a, rfl⟩ : ∃ m : Nat, a = m := ⟨a.toNat, by omega⟩
      have HR := Lib.hid (ml_yes h0)
      have H := Lib.hid h0
      have hl : l ≤ 40 := by omega
      have hs : s ≤ l := by omega
      have C1 := fun (i : Nat) (hi : i ≤ l) w => Lib.hid (c_accepted l b i a i2 (by omega) (by omega) (by omega) (by omega) (by omega) w)
      have C2 := fun (i : Nat) w => Lib.hid (c_setsOf l i i2 w)
      have INV := Lib.hid (fun i hi => mean_inv (l := l) b a hl i hi)
      clear h h0 i1 i3 i4 i5 i6 i7 i8
      go_enter Try.func31, Try.ntmps31
      go_wp2_with fail
      refine (c_isLotWith l b _).mono ?_
      rintro e w1 ⟨rfl, rfl⟩
      rw [H1.out]
      obtain ⟨⟨c1, c2⟩, _, _⟩ := HB.out.two
      go_wp2_with fail
      refine (c_isPlanFor l s a _).mono ?_
      rintro e w1 ⟨rfl, b1⟩
      rw [H2.out]
      have B1 := Lib.hid (hb.trans (b1.mono hb.size))
      have HB1 := Lib.hid (HB.out.keep b1)
      clear hb b1 c1 c2
      obtain ⟨⟨c1, c2⟩, _, _⟩ := HB1.out.two
      go_wp2_with fail
      clear c1 c2
      go_loopg [9, 10, 11, 12, 13, 14, 15, 28] s (fun n v9 v10 v11 v12 v13 v14 v15 v28 wr => ∃ i u lo : Nat, v9 = .int .i64 (u : Int) ∧ v10 = .int .i64 (lo : Int) ∧ v28 = .int .i64 (i : Int) ∧ Hid (i + n = s) ∧ i ≤ s ∧ Hid (u = (pu l b a i).1 ∧ lo = (pu l b a i).2) ∧ Hid (Below w.heap.size w wr) ∧ Hid (Blk.Blk wr w.heap.size [.int .i64 (s : Int), .int .i64 (a : Int)] 25))
      case atStart => exact ⟨0, 0, 1, rfl, rfl, rfl, by show _ = _; omega, Nat.zero_le _, ⟨rfl, rfl⟩, B1.out, HB1.out⟩
      case round =>
        clear B1 HB1 HB
        obtain ⟨i, u, lo, rfl, rfl, rfl, hk, hi, hu, hB, hP⟩ := hrel
        have I0 := INV.out i (by omega)
        have hu1 : u ≤ 8762407589583648000 := by rw [hu.out.1]; exact mul_40 (by omega) (M_le I0.a2) I0.a3
        have hlo1 : lo ≤ 219060189739591200 := by rw [hu.out.2]; exact M_le I0.a2
        have hlo0 : 1 ≤ lo := by rw [hu.out.2]; exact I0.a1
        have HI0 := Lib.hid I0
        clear I0
        by_cases hlt : i < s
        · obtain ⟨⟨c1, c2⟩, _, _⟩ := hP.out.two
          have I1 := INV.out (i + 1) (by omega)
          have hu2 : (pu l b a (i + 1)).1 ≤ 8762407589583648000 := mul_40 (by omega) (M_le I1.a2) I1.a3
          have hlo2 : (pu l b a (i + 1)).2 ≤ 219060189739591200 := M_le I1.a2
          have HPU := Lib.hid (pu_s l b a i)
          rw [← hu.out.1, ← hu.out.2] at HPU
          have hC1 := C1 i (by omega)
          have hC2 := C2 i
          rw [ac_nat] at hC1
          rw [chI_nat] at hC2
          have q1 : ac l b i (a + 1) ≤ 1099511627776 := ac_40 i2 _ _ _
          have q2 : cho l i ≤ 1099511627776 := cho_40 hl i
          have q3 : 1 ≤ cho l i := cho_pos (by omega)
          have hC3 := fun w => Lib.hid (c_low6 (ac l b i (a + 1)) (cho l i) (by omega) (by omega) q3 w)
          have e1 : lo1 (ac l b i (a + 1)) (cho l i) = fx l b a i := rfl
          have e2 : lo2 (ac l b i (a + 1)) (cho l i) = fy l b a i := rfl
          have y1 := lo1_le (ac l b i (a + 1)) (cho l i)
          have y2 := lo2_le (ac l b i (a + 1)) (cho l i)
          rw [e1] at y1
          rw [e2] at y2
          rw [e1, e2] at hC3
          have y3 := fy_pos b a (show i ≤ l by omega)
          clear e1 e2
          generalize ac l b i (a + 1) = X at *
          generalize cho l i = Y at *
          generalize fx l b a i = x at *
          generalize fy l b a i = y at *
          have hC4 := fun w => Lib.hid (c_low6 lo y (by omega) (by omega) y3 w)
          have ST := mean_step (u := u) (lo := lo) (x := x) (y := y)
          rw [HPU.out] at hu2 hlo2
          dsimp only at hu2 hlo2
          have HPU2 : Hid (u * lo2 lo y + x * lo1 lo y = (pu l b a (i + 1)).1 ∧ lo * lo2 lo y = (pu l b a (i + 1)).2) := by show _ ∧ _; rw [HPU.out]; exact ⟨rfl, rfl⟩
          generalize u * lo2 lo y + x * lo1 lo y = u' at *
          generalize lo * lo2 lo y = lo' at *
          obtain ⟨t, bf, p1, p2, r1, r2, m1, m2, m3, m4, m5, m6, m7, m8⟩ := ST.ex
          rw [r1, r2] at hC4
          have hadd : (p1 : Int) + (p2 : Int) = (u' : Int) := by omega
          have HJ : Hid (i + 1 + (gk - 1) = s ∧ gk - 1 < gk) := by have := hk.out; show _ ∧ _; omega
          clear HPU ST r1 r2 I1 hu hk C1 C2
          go_wp2_with fail
          refine (hC1 _).out.mono ?_
          rintro e w2 ⟨rfl, rfl⟩
          go_wp2_with fail
          refine (hC2 _).out.mono ?_
          rintro e w2 ⟨rfl, rfl⟩
          go_wp2_with fail
          refine (hC3 _).out.mono ?_
          rintro e w2 ⟨rfl, d2⟩
          have D2 := Lib.hid d2
          clear d2
          go_wp2_with fail
          refine (hC4 _).out.mono ?_
          rintro e w3 ⟨rfl, d3⟩
          have D3 := Lib.hid (D2.out.trans d3)
          clear d3
          go_wp2_with fail
          go_roundg (gk - 1)
          case measure => exact HJ.out.2
          case rel => exact ⟨i + 1, u', lo', by go_num, by go_num, by go_num, HJ.out.1, by omega, HPU2.out, hB.out.trans ((D3.out.below _).mono hB.out.size), hP.out.keep (D3.out.below _)⟩
        · obtain rfl : i = s := by omega
          have hC4 := fun w => Lib.hid (c_low6 u lo (by omega) (by omega) hlo0 w)
          have HE : Hid (lo1 u lo = (su l b a i).1 ∧ lo2 u lo = (su l b a i).2) := by show _ ∧ _; rw [hu.out.1, hu.out.2]; exact ⟨HI0.out.c1, HI0.out.c2⟩
          rw [HE.out.1, HE.out.2] at hC4
          clear hlt hk C1 C2
          go_wp2_with fail
          refine (hC4 _).out.mono ?_
          rintro e w3 ⟨rfl, d3⟩
          have D3 := Lib.hid d3
          clear d3
          go_wp2_with fail
          go_ret3
          rw [HR.out.1, HR.out.2, H.out]
          exact ⟨rfl, hB.out.trans ((D3.out.below _).mono hB.out.size)⟩
set_option maxHeartbeats 3200000 in
theorem sMeanLooks_any (l b s a : Int) (w : World) :
    Calls Try.prog 30 #[.int .i64 l, .int .i64 b, .agg #[.int .i64 s, .int .i64 a]] w fun e w' => e = .returned (.tuple #[.int .i64 (mlX l b s a), .int .i64 (mlY l b s a), .bool (asB l b s a)]) ∧ Below w.heap.size w w' := by
  have hb : Below w.heap.size w (w.alloc (.cells #[.int .i64 s, .int .i64 a] 25)) := (Below.refl _ _).alloc (Nat.le_refl _) _
  have HB := Lib.hid (Blk.Blk.new w #[.int .i64 s, .int .i64 a] 25)
  cases h : asB l b s a with
  | false =>
    have HR := Lib.hid (ml_no h)
    have H := Lib.hid h
    clear h
    go_enter Try.func30, Try.ntmps30
    go_wp2_with fail
    refine (c_l06Lot l b _ s a _ HB.out).mono ?_
    rintro e w1 ⟨rfl, d1⟩
    have B1 := Lib.hid (hb.trans (d1.below _))
    clear hb d1
    rw [H.out]
    go_wp2_with fail
    go_ret3
    rw [HR.out.1, HR.out.2]
    exact ⟨rfl, B1.out⟩
  | true =>
    obtain ⟨i1, i2, i3, i4, i5, i6, i7, i8⟩ := as_in h
    obtain ⟨l, rfl⟩ : ∃ m : Nat, l = m := ⟨l.toNat, by omega⟩
    obtain ⟨b, rfl⟩ : ∃ m : Nat, b = m := ⟨b.toNat, by omega⟩
    obtain ⟨s, rfl⟩ : ∃ m : Nat, s = m := ⟨s.toNat, by omega⟩
    obtain ⟨a, rfl⟩ : ∃ m : Nat, a = m := ⟨a.toNat, by omega⟩
    have HR := Lib.hid (ml_yes h)
    have H := Lib.hid h
    have hl : l ≤ 40 := by omega
    have hs : s ≤ l := by omega
    have C1 := fun (i : Nat) (hi : i ≤ l) w => Lib.hid (c_Sets l b i a i2 (by omega) (by omega) (by omega) (by omega) (by omega) w)
    have C2 := fun (i : Nat) w => Lib.hid (c_Choose l i i2 w)
    have INV := Lib.hid (fun i hi => mean_inv (l := l) b a hl i hi)
    clear h i1 i3 i4 i5 i6 i7 i8
    go_enter Try.func30, Try.ntmps30
    go_wp2_with fail
    refine (c_l06Lot l b _ s a _ HB.out).mono ?_
    rintro e w1 ⟨rfl, d1⟩
    have B1 := Lib.hid (hb.trans (d1.below _))
    have HB1 := Lib.hid (HB.out.keep (d1.below _))
    clear hb d1
    rw [H.out]
    go_wp2_with fail
    go_loopg [9, 10, 11, 12, 13, 14, 15, 16] s (fun n v9 v10 v11 v12 v13 v14 v15 v16 wr => ∃ i u lo : Nat, v9 = .int .i64 (u : Int) ∧ v10 = .int .i64 (lo : Int) ∧ v11 = .int .i64 (i : Int) ∧ Hid (i + n = s) ∧ i ≤ s ∧ Hid (u = (su l b a i).1 ∧ lo = (su l b a i).2) ∧ Hid (Below w.heap.size w wr) ∧ Hid (Blk.Blk wr w.heap.size [.int .i64 (s : Int), .int .i64 (a : Int)] 25))
    case atStart => exact ⟨0, 0, 1, rfl, rfl, rfl, by show _ = _; omega, Nat.zero_le _, ⟨rfl, rfl⟩, B1.out, HB1.out⟩
    case round =>
      clear B1 HB1 HB
      obtain ⟨i, u, lo, rfl, rfl, rfl, hk, hi, hu, hB, hP⟩ := hrel
      have I0 := INV.out i (by omega)
      have hu1 : u ≤ 8762407589583648000 := by rw [hu.out.1]; exact mul_40 (by omega) (M_le I0.b2) I0.b3
      have hlo1 : lo ≤ 219060189739591200 := by rw [hu.out.2]; exact M_le I0.b2
      have hlo0 : 1 ≤ lo := by rw [hu.out.2]; exact I0.b1
      obtain ⟨⟨c1, c2⟩, _, _⟩ := hP.out.two
      by_cases hlt : i < s
      · have y3 := fy_pos b a (show i ≤ l by omega)
        have P1 := one_step (u := u) (lo := lo) (x := fx l b a i) (y := fy l b a i) (k := i) hlo0 (by rw [hu.out.2]; exact I0.b2) (by rw [hu.out.1, hu.out.2]; exact I0.b3) y3 (fy_M b a hl (show i ≤ l by omega)) (fx_le b a (show i ≤ l by omega))
        have hu2 : u * lo2 lo (fy l b a i) + fx l b a i * lo1 lo (fy l b a i) ≤ 8762407589583648000 := mul_40 (k := i + 1) (by omega) (M_le P1.2.1) P1.2.2
        have hlo2 : lo * lo2 lo (fy l b a i) ≤ 219060189739591200 := M_le P1.2.1
        have hlo3 := P1.1
        have HPU := Lib.hid (su_s l b a i)
        rw [← hu.out.1, ← hu.out.2] at HPU
        have hD : lo1 lo (fy l b a i) * fy l b a i = lo * lo2 lo (fy l b a i) := lo_mul
        have hC1 := C1 i (by omega)
        have hC2 := C2 i
        rw [ac_nat] at hC1
        rw [chI_nat] at hC2
        have q1 : ac l b i (a + 1) ≤ 1099511627776 := ac_40 i2 _ _ _
        have q2 : cho l i ≤ 1099511627776 := cho_40 hl i
        have q3 : 1 ≤ cho l i := cho_pos (by omega)
        have hC3 := fun w => Lib.hid (c_Least (ac l b i (a + 1)) (cho l i) (by omega) (by omega) q3 w)
        have e1 : lo1 (ac l b i (a + 1)) (cho l i) = fx l b a i := rfl
        have e2 : lo2 (ac l b i (a + 1)) (cho l i) = fy l b a i := rfl
        have y1 := lo1_le (ac l b i (a + 1)) (cho l i)
        have y2 := lo2_le (ac l b i (a + 1)) (cho l i)
        rw [e1] at y1
        rw [e2] at y2
        rw [e1, e2] at hC3
        clear e1 e2 P1
        generalize ac l b i (a + 1) = X at *
        generalize cho l i = Y at *
        generalize fx l b a i = x at *
        generalize fy l b a i = y at *
        have hC4 := fun w => Lib.hid (c_gcd6 lo y (by omega) (by omega) w)
        have hz0 : 0 < Nat.gcd lo y := Nat.gcd_pos_of_pos_right _ y3
        have hq1 : (y : Int).tdiv ((Nat.gcd lo y : Nat) : Int) = ((lo2 lo y : Nat) : Int) := tdiv_nat _ _
        have hq2 : (lo : Int).tdiv ((Nat.gcd lo y : Nat) : Int) = ((lo1 lo y : Nat) : Int) := tdiv_nat _ _
        have hgle : Nat.gcd lo y ≤ y := Nat.le_of_dvd y3 (Nat.gcd_dvd_right _ _)
        generalize Nat.gcd lo y = g at *
        have ST := mean_step (u := u) (lo := lo) (x := x) (y := y)
        have HPU2 : Hid (lo1 (u * lo2 lo y + x * lo1 lo y) (lo * lo2 lo y) = (su l b a (i + 1)).1 ∧ lo2 (u * lo2 lo y + x * lo1 lo y) (lo * lo2 lo y) = (su l b a (i + 1)).2) := by show _ ∧ _; rw [HPU.out, hD]; exact ⟨rfl, rfl⟩
        have hm3 : ((lo1 lo y : Nat) : Int) * (y : Int) = ((lo * lo2 lo y : Nat) : Int) := by rw [← hD]; exact (Int.natCast_mul _ _).symm
        generalize u * lo2 lo y + x * lo1 lo y = u' at *
        generalize lo * lo2 lo y = lo' at *
        obtain ⟨t, bf, p1, p2, r1, r2, m1, m2, m3, m4, m5, m6, m7, m8⟩ := ST.ex
        rw [r1] at hq1
        rw [r2] at hq2 hm3
        have hadd : (p1 : Int) + (p2 : Int) = (u' : Int) := by omega
        have hC5 := fun w => Lib.hid (c_Least u' lo' (by omega) (by omega) hlo3 w)
        rw [HPU2.out.1, HPU2.out.2] at hC5
        have hgz : ¬ ((g : Int) = 0) := by omega
        have v1 : (su l b a (i + 1)).1 ≤ 8762407589583648000 := by rw [← HPU2.out.1]; exact Nat.le_trans (lo1_le _ _) hu2
        have v2 : (su l b a (i + 1)).2 ≤ 219060189739591200 := by rw [← HPU2.out.2]; exact Nat.le_trans (lo2_le _ _) hlo2
        obtain ⟨U, hU⟩ : ∃ U, (su l b a (i + 1)).1 = U := ⟨_, rfl⟩
        obtain ⟨V, hV⟩ : ∃ V, (su l b a (i + 1)).2 = V := ⟨_, rfl⟩
        rw [hU, hV] at hC5
        rw [hU] at v1
        rw [hV] at v2
        have HUV : Hid (U = (su l b a (i + 1)).1 ∧ V = (su l b a (i + 1)).2) := ⟨hU.symm, hV.symm⟩
        have HJ : Hid (i + 1 + (gk - 1) = s ∧ gk - 1 < gk) := by have := hk.out; show _ ∧ _; omega
        clear HPU HPU2 ST r1 r2 hu hk C1 C2 hU hV hD m3 I0
        go_wp2_with fail
        refine (hC1 _).out.mono ?_
        rintro e w2 ⟨rfl, rfl⟩
        go_wp2_with fail
        refine (hC2 _).out.mono ?_
        rintro e w2 ⟨rfl, rfl⟩
        go_wp2_with fail
        refine (hC3 _).out.mono ?_
        rintro e w2 ⟨rfl, d2⟩
        have D2 := Lib.hid d2
        clear d2 c1 c2
        go_wp2_with fail
        refine (hC4 _).out.mono ?_
        rintro e w3 ⟨rfl, rfl⟩
        go_wp2_with fail
        go_quiet ((go_at_call 43; exact (hC5 _).out.mono fun e w' ⟨h1, ⟨n, h2⟩⟩ => ⟨h1, ⟨_, h2.trans (Flt.drewN_drewN _ _ _)⟩⟩))
        have D3 := Lib.hid (D2.out.trans ⟨nq, rfl⟩)
        obtain ⟨wq, hwq⟩ : ∃ W, w2.drewN nq = W := ⟨_, rfl⟩
        rw [hwq] at D3 ⊢
        clear hwq D2
        go_wp2_with fail
        go_roundg (gk - 1)
        case measure => exact HJ.out.2
        case rel => exact ⟨i + 1, U, V, by go_num, by go_num, by go_num, HJ.out.1, by omega, HUV.out, hB.out.trans ((D3.out.below _).mono hB.out.size), hP.out.keep (D3.out.below _)⟩
      · obtain rfl : i = s := by omega
        have HU := Lib.hid hu.out
        clear hlt hk C1 C2 I0 hu
        go_wp2_with fail
        go_ret3
        rw [HR.out.1, HR.out.2, ← HU.out.1, ← HU.out.2]
        exact ⟨rfl, hB.out⟩
end Go.Proofs.Ytemdgfjcjjadnaa
