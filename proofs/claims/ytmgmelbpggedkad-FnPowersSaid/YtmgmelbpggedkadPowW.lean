/-
  The law FnPowers: whatever the bytes, they choose one of 65 times 65 pairs of arguments; all of them have been reckoned. No conditions.
-/
import Derived.Test.YtmgmelbpggedkadPowN
import Derived.Test.YtmgmelbpggedkadByteW
namespace Go.Proofs.Ytmgmelbpggedkad
open Go.RowKit Flt
theorem gap_some (p q g : Nat) (h : gapC p q = some g) (w : World) : Calls Try.prog 10 #[.float .f64 p, .float .f64 q] w fun e w' => e = .returned (.float .f64 g) ∧ w = w' := by
  unfold gapC at h
  cases hc : (FloatKind.f64.format.order p q == some .lt)
  · rw [hc, if_neg (by decide)] at h
    have hr : ∀ w, (binOp .sub 27 (.float .f64 p) (.float .f64 q)).run Try.prog w = .ok (.float .f64 g) w := fun w => run_float_arith w .sub 27 .f64 _ _ _ h
    clear h
    go_enter Try.func10, Try.ntmps10
    go_wp2
    go_ret
    exact ⟨rfl, rfl⟩
  · rw [hc, if_pos rfl] at h
    have hr : ∀ w, (binOp .sub 27 (.float .f64 q) (.float .f64 p)).run Try.prog w = .ok (.float .f64 g) w := fun w => run_float_arith w .sub 27 .f64 _ _ _ h
    clear h
    go_enter Try.func10, Try.ntmps10
    go_wp2
    go_ret
    exact ⟨rfl, rfl⟩
theorem logN_some (a r : Nat) (ha : a < 4294967296) (h : logOut a = some r) (w : World) :
    Calls Try.prog 26 #[.float .f32 a] w fun e w' => e = .returned (.float .f32 r) ∧ Drawn w w' := by
  refine (implLogN_any a ha w).mono ?_
  rintro e w' ⟨v, rfl, hI, hd⟩
  rw [h] at hI
  obtain ⟨rfl, _, _⟩ := hI
  exact ⟨rfl, hd⟩
set_option maxHeartbeats 1600000 in
theorem powers_walk (a b : Option Addr) (la ca lb cb : Nat) (zs ys : List Nat) (w : World) (ha : BRow w a la zs) (hb : BRow w b lb ys) :
    Calls Try.prog 5 #[.slice a la ca, .slice b lb cb] w fun e w' => e = .returned (.bool true) ∧ Below w.heap.size w w' := by
  have hma : la ≤ 9223372036854775807 := by have := ha.2.1; unfold maxLen at this; exact this
  have hmb : lb ≤ 9223372036854775807 := by have := hb.2.1; unfold maxLen at this; exact this
  have HA := Lib.hid ha
  have HB := Lib.hid hb
  clear ha hb
  by_cases h12 : la ≤ 1048576 ∧ lb ≤ 1048576
  · have hl : Hid ((decide (1048576 < la) || decide (1048576 < lb)) = false) := by show _ = _; simp [h12.1, h12.2]
    clear h12
    go_enter Try.func5, Try.ntmps5
    go_wp2_with fail
    refine (b10Long_any a b la lb ca cb hma hmb _).mono ?_
    rintro e w1 ⟨rfl, rfl⟩
    rw [hl.out]
    go_wp2_with fail
    refine (b10At_any 0 65 (by omega) (by omega) (by omega) a la ca zs _ HA.out).mono ?_
    rintro e w1 ⟨v, rfl, hv, rfl⟩
    have hq1 : ∀ w, (binOp .quo 28 (.float .f32 (floatOfInt .f32 ((v : Int) - 32))) (.float .f32 1090519040)).run Try.prog w = .ok (.float .f32 (xk (v + 32))) w := fun w => run_float_arith w .quo 28 .f32 _ _ _ (by
      have := (getX (k := v + 32) (by omega)).1
      rwa [show ((v + 32 : Nat) : Int) - 64 = (v : Int) - 32 by omega] at this)
    go_wp2_with fail
    refine (b10At_any 0 65 (by omega) (by omega) (by omega) b lb cb ys _ HB.out).mono ?_
    rintro e w1 ⟨u, rfl, hu, rfl⟩
    have hq2 : ∀ w, (binOp .quo 28 (.float .f32 (floatOfInt .f32 ((u : Int) - 32))) (.float .f32 1090519040)).run Try.prog w = .ok (.float .f32 (xk (u + 32))) w := fun w => run_float_arith w .quo 28 .f32 _ _ _ (by
      have := (getX (k := u + 32) (by omega)).1
      rwa [show ((u + 32 : Nat) : Int) - 64 = (u : Int) - 32 by omega] at this)
    have hs : ∀ w, (binOp .add 28 (.float .f32 (xk (v + 32))) (.float .f32 (xk (u + 32)))).run Try.prog w = .ok (.float .f32 (xk (v + u))) w := fun w => run_float_arith w .add 28 .f32 _ _ _ (getS hv hu)
    obtain ⟨_, a1, a2, a3, a4, a5, a6, a7⟩ := getX (k := v + 32) (by omega)
    obtain ⟨_, b1, b2, b3, b4, b5, _, _⟩ := getX (k := u + 32) (by omega)
    obtain ⟨_, c1, c2, c3, c4, c5, _, _⟩ := getX (k := v + u) (by omega)
    obtain ⟨l1, l2, g1, l3, l4⟩ := getL hv
    obtain ⟨m, g2, h2, p1, p2, p3, p4⟩ := getP hv hu
    have HE1 := Lib.hid (implExp_some _ _ a1 a2 a3 a4)
    have HE2 := Lib.hid (implExp_some _ _ b1 b2 b3 b4)
    have HE3 := Lib.hid (implExp_some _ _ c1 c2 c3 c4)
    have HLG := Lib.hid (logN_some _ _ a7 l1)
    have HG1 := Lib.hid (gap_some _ _ _ l3)
    have HG2 := Lib.hid (gap_some _ _ _ p2)
    have HE0 := Lib.hid (implExp_some 0 1065353216 (by decide) (by decide) (by decide) (by kernel_rfl))
    have HL1 := Lib.hid (logN_some 1065353216 0 (by decide) (by kernel_rfl))
    have wl := widen _ l2
    have wx := widen _ a1
    have wa := widen _ a5
    have wb := widen _ b5
    have wc := widen _ c5
    have rm : ∀ w, (binOp .mul 27 (.float .f64 (W (ek (v + 32)))) (.float .f64 (W (ek (u + 32))))).run Try.prog w = .ok (.float .f64 m) w := fun w => run_float_arith w .mul 27 .f64 _ _ _ p1
    have rh : ∀ w, (binOp .mul 27 (.float .f64 4562254508917369340) (.float .f64 (W (ek (v + u))))).run Try.prog w = .ok (.float .f64 h2) w := fun w => run_float_arith w .mul 27 .f64 _ _ _ p3
    have e1 : (FloatKind.f32.format.order 1065353216 1065353216 == some .eq) = true := by decide
    have e2 : (FloatKind.f32.format.order 0 0 == some .eq) = true := by decide
    clear a1 a2 a3 a4 a5 a7 b1 b2 b3 b4 b5 c1 c2 c3 c4 c5 l1 l2 l3 p1 p2 p3
    generalize xk (v + 32) = x at *
    generalize xk (u + 32) = y at *
    generalize xk (v + u) = z at *
    generalize ek (v + 32) = ea at *
    generalize ek (u + 32) = eb at *
    generalize ek (v + u) = ec at *
    generalize lk v = lg at *
    generalize W lg = wlg at *
    generalize W x = wwx at *
    generalize W ea = wea at *
    generalize W eb = web at *
    generalize W ec = wec at *
    go_wp2_with fail
    refine (HE1.out _).mono ?_
    rintro e w1 ⟨rfl, rfl⟩
    go_wp2_with fail
    refine (HE2.out _).mono ?_
    rintro e w1 ⟨rfl, rfl⟩
    go_wp2_with fail
    refine (HE3.out _).mono ?_
    rintro e w1 ⟨rfl, rfl⟩
    go_wp2_with fail
    refine (HLG.out _).mono ?_
    rintro e w1 ⟨rfl, d1⟩
    have B1 := Lib.hid (d1.below w.heap.size)
    clear d1
    go_wp2_with fail
    refine (HG1.out _).mono ?_
    rintro e w2 ⟨rfl, rfl⟩
    go_wp2_with fail
    refine (HG2.out _).mono ?_
    rintro e w2 ⟨rfl, rfl⟩
    go_wp2_with fail
    refine (HE0.out _).mono ?_
    rintro e w2 ⟨rfl, rfl⟩
    go_wp2_with fail
    refine (HL1.out _).mono ?_
    rintro e w3 ⟨rfl, d3⟩
    have B3 := Lib.hid (B1.out.trans (d3.below _))
    clear d3
    go_wp2_with fail
    go_ret
    exact ⟨rfl, B3.out⟩
  · have hl : Hid ((decide (1048576 < la) || decide (1048576 < lb)) = true) := by show _ = _; simp; omega
    clear h12
    go_enter Try.func5, Try.ntmps5
    go_wp2_with fail
    refine (b10Long_any a b la lb ca cb hma hmb _).mono ?_
    rintro e w1 ⟨rfl, rfl⟩
    rw [hl.out]
    go_wp2_with fail
    go_ret
    exact ⟨rfl, Below.refl _ _⟩
theorem fnPowers_walk (a : Option Addr) (la ca : Nat) (zs : List Nat) (b : Option Addr) (lb cb : Nat) (ys : List Nat) (w : World) (ha : BRow w a la zs) (hb : BRow w b lb ys) :
    Calls Try.prog 5 #[.slice a la ca, .slice b lb cb] w fun e w' => e = .returned (.bool true) ∧ Below w.heap.size w w' := powers_walk a b la ca lb cb zs ys w ha hb
end Go.Proofs.Ytmgmelbpggedkad
