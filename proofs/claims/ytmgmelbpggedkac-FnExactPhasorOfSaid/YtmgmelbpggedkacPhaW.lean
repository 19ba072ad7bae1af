/-
  Contracts of phasors in the program and in its model, of sameComplex, and the walk of the exact law of PhasorOf. Conditions: arguments are bits that fit their kind.
-/
import Derived.Test.YtmgmelbpggedkacAngW
import Derived.Test.YtmgmelbpggedkacPha
namespace Go.Proofs.Ytmgmelbpggedkac
open Go.RowKit Flt

set_option maxHeartbeats 1600000 in
theorem implPha_any (x : Nat) (hl : x < 18446744073709551616) (hf : fin .f64 x = true) (hb : x % 9223372036854775808 < 4841369599423283200) (w : World) :
    Calls Try.prog 18 #[.float .f64 x] w fun e w' => e = .returned (.complex .f32 (ph x).1 (ph x).2) ∧ Drawn w w' := by
  have h52 := le52 hl hb
  have hny := nan_abs (fin_num hf)
  have o1 := geB .f64 (absW x) 4841369599423283200 hny (by decide)
  have hm : absW x < 9223372036854775808 := Nat.mod_lt _ (by decide)
  have hb' : absW x < 4841369599423283200 := hb
  rw [S64 (absW x) (by omega), if_pos hm, S64 4841369599423283200 (by decide), if_pos (by decide : 4841369599423283200 < 9223372036854775808), decide_eq_false (by omega)] at o1
  have f0le := partC_le h52
  obtain ⟨f0, hfx⟩ : ∃ f, partC x = f := ⟨_, rfl⟩
  rw [hfx] at f0le
  have HX := Lib.hid hfx
  have HF := Lib.hid hf
  have H52 := Lib.hid h52
  obtain ⟨y, hy⟩ : ∃ y, absW x = y := ⟨_, rfl⟩
  rw [hy] at o1
  have HY := Lib.hid hy
  clear hfx hf h52 hny hm hb hb' hy
  go_enter Try.func18, Try.ntmps18
  go_wp2_with fail
  refine (isFinite64_any x hl _).mono ?_
  rintro e w' ⟨rfl, rfl⟩
  rw [HF.out]
  go_wp2_with fail
  refine (abs_any x hl _).mono ?_
  rintro e w' ⟨rfl, rfl⟩
  rw [show x % 9223372036854775808 = y from HY.out]
  go_wp2_with fail
  refine (partOf_any x H52.out _).mono ?_
  rintro e w' ⟨rfl, rfl⟩
  rw [HX.out]
  clear o1
  have d0 : Drawn w w := Drawn.refl w
  obtain ⟨w0, hw0⟩ : ∃ w0, w0 = w := ⟨_, rfl⟩
  subst hw0
  go_wp2_with fail
  go_loopg [3, 4] 8 (fun n v i wr => ∃ (f : Nat) (q : Int), v = .float .f64 f ∧ i = .int .i64 q ∧ PhI f0 n f q ∧ w0 = wr)
  case atStart => exact ⟨f0, 0, rfl, rfl, ph_start f0le, rfl⟩
  case round =>
    obtain ⟨f, q, rfl, rfl, hI, rfl⟩ := hrel
    have hge := geB .f64 f 4598175219545276416 hI.2.1.num (by decide)
    by_cases c : S .f64 quartW ≤ S .f64 f
    · rw [decide_eq_true c] at hge
      obtain ⟨r, m, r1, rfl, hI2, hq0, hq8⟩ := ph_more hI c
      have rq : ∀ w, (binOp .sub 25 (.float .f64 f) (.float .f64 4598175219545276416)).run Try.prog w = .ok (.float .f64 r) w := fun w => run_float_arith w .sub 25 .f64 _ _ _ r1
      clear r1 c hI
      go_wp2_with fail
      go_roundg m
      case measure => omega
      case rel => exact ⟨r, q + 1, rfl, rfl, hI2, rfl⟩
    · rw [decide_eq_false c] at hge
      obtain ⟨hr, fle, hq0, hq8⟩ := ph_done hI c
      have HR := Lib.hid hr
      clear c hI hr
      obtain ⟨d, c1, s1, d1, d2, d3, hc, hs, c2, s2, c3, s3, c4, s4⟩ := ph_parts fle
      have rd : ∀ w, (binOp .sub 25 (.float .f64 4598175219545276416) (.float .f64 f)).run Try.prog w = .ok (.float .f64 d) w := fun w => run_float_arith w .sub 25 .f64 _ _ _ d1
      have rc : ∀ w, (binOp .sub 25 (.float .f64 0) (.float .f64 (phC f))).run Try.prog w = .ok (.float .f64 c1) w := fun w => run_float_arith w .sub 25 .f64 _ _ _ c2
      have rs : ∀ w, (binOp .sub 25 (.float .f64 0) (.float .f64 (phS f))).run Try.prog w = .ok (.float .f64 s1) w := fun w => run_float_arith w .sub 25 .f64 _ _ _ s2
      have nC := narrow_some _ _ (nw_ok hc (by omega)).1
      have nS := narrow_some _ _ (nw_ok hs (by omega)).1
      have nC1 := narrow_some _ _ (nw_ok c3 (by omega)).1
      have nS1 := narrow_some _ _ (nw_ok s3 (by omega)).1
      have HP : Hid (ph x = if q = 1 then (nw s1, nw (phC f)) else if q = 2 then (nw c1, nw s1) else if q = 3 then (nw (phS f), nw c1) else (nw (phC f), nw (phS f))) := by
        show _ = _; unfold ph; rw [HX.out, HR.out]; unfold ph2; simp only; rw [← c4, ← s4]
      have HCd : Hid (sineW d = phC f) := by show _ = _; unfold phC; rw [← d3]
      have HSf : Hid (sineW f = phS f) := rfl
      generalize phC f = C at *
      generalize phS f = Z at *
      generalize nw C = vC at *
      generalize nw Z = vZ at *
      generalize nw c1 = vc1 at *
      generalize nw s1 = vs1 at *
      have DL : Hid (LeP d 2) := d2
      have FL : Hid (LeP f 1) := fle
      clear d1 d2 d3 hc hs c2 s2 c3 s3 c4 s4 fle
      by_cases q1 : q = 1
      · have HE : Hid (ph x = (vs1, vC)) := by show _ = _; rw [HP.out, if_pos q1]
        subst q1
        clear HP hq0 hq8
        go_wp2_with fail
        refine (implSine_any d (DL.out.mono (by omega) (by omega)) _).mono ?_
        rintro e w' ⟨rfl, rfl⟩
        rw [HCd.out]
        go_wp2_with fail
        refine (implSine_any f (FL.out.mono (by omega) (by omega)) _).mono ?_
        rintro e w' ⟨rfl, rfl⟩
        rw [HSf.out]
        go_wp2_with fail
        go_enter Try.func43, Try.ntmps43
        go_wp2_with fail
        go_ret
        exact ⟨by rw [HE.out]; rfl, d0⟩
      · have k1 : (q == 1) = false := by simpa using q1
        by_cases q2 : q = 2
        · have HE : Hid (ph x = (vc1, vs1)) := by show _ = _; rw [HP.out, if_neg q1, if_pos q2]
          subst q2
          clear HP hq0 hq8 q1 k1
          go_wp2_with fail
          refine (implSine_any d (DL.out.mono (by omega) (by omega)) _).mono ?_
          rintro e w' ⟨rfl, rfl⟩
          rw [HCd.out]
          go_wp2_with fail
          refine (implSine_any f (FL.out.mono (by omega) (by omega)) _).mono ?_
          rintro e w' ⟨rfl, rfl⟩
          rw [HSf.out]
          go_wp2_with fail
          go_enter Try.func43, Try.ntmps43
          go_wp2_with fail
          go_ret
          exact ⟨by rw [HE.out]; rfl, d0⟩
        · have k2 : (q == 2) = false := by simpa using q2
          by_cases q3 : q = 3
          · have HE : Hid (ph x = (vZ, vc1)) := by show _ = _; rw [HP.out, if_neg q1, if_neg q2, if_pos q3]
            subst q3
            clear HP hq0 hq8 q1 k1 q2 k2
            go_wp2_with fail
            refine (implSine_any d (DL.out.mono (by omega) (by omega)) _).mono ?_
            rintro e w' ⟨rfl, rfl⟩
            rw [HCd.out]
            go_wp2_with fail
            refine (implSine_any f (FL.out.mono (by omega) (by omega)) _).mono ?_
            rintro e w' ⟨rfl, rfl⟩
            rw [HSf.out]
            go_wp2_with fail
            go_enter Try.func43, Try.ntmps43
            go_wp2_with fail
            go_ret
            exact ⟨by rw [HE.out]; rfl, d0⟩
          · have k3 : (q == 3) = false := by simpa using q3
            have HE : Hid (ph x = (vC, vZ)) := by show _ = _; rw [HP.out, if_neg q1, if_neg q2, if_neg q3]
            clear HP q1 q2 q3
            go_wp2_with fail
            refine (implSine_any d (DL.out.mono (by omega) (by omega)) _).mono ?_
            rintro e w' ⟨rfl, rfl⟩
            rw [HCd.out]
            go_wp2_with fail
            refine (implSine_any f (FL.out.mono (by omega) (by omega)) _).mono ?_
            rintro e w' ⟨rfl, rfl⟩
            rw [HSf.out]
            go_wp2_with fail
            go_enter Try.func43, Try.ntmps43
            go_wp2_with fail
            go_ret
            exact ⟨by rw [HE.out]; rfl, d0⟩

set_option maxHeartbeats 1600000 in
theorem specPha_any (x : Nat) (hl : x < 18446744073709551616) (hf : fin .f64 x = true) (hb : x % 9223372036854775808 < 4841369599423283200) (w : World) :
    Calls Try.prog 41 #[.float .f64 x] w fun e w' => e = .returned (.complex .f32 (ph x).1 (ph x).2) ∧ Drawn w w' := by
  have h52 := le52 hl hb
  have ss : floatBits .sub .f64 x x = some 0 := by rw [sub_self .f64 x, hf]; rfl
  have r0 : ∀ w, (binOp .sub 25 (.float .f64 x) (.float .f64 x)).run Try.prog w = .ok (.float .f64 0) w := fun w => run_float_arith w .sub 25 .f64 _ _ _ ss
  have o0 : (FloatKind.f64.format.order 0 0 != some .eq) = false := by decide
  have hn := fin_num hf
  have o1 := geB .f64 x 4841369599423283200 hn (by decide)
  rw [S64 x hl, S64 4841369599423283200 (by decide), if_pos (by decide : 4841369599423283200 < 9223372036854775808), decide_eq_false (by split <;> omega)] at o1
  have o2 := leB .f64 x 14064741636278059008 hn (by decide)
  rw [S64 x hl, S64 14064741636278059008 (by decide), if_neg (by decide : ¬ 14064741636278059008 < 9223372036854775808), decide_eq_false (by split <;> omega)] at o2
  have f0le := partC_le h52
  obtain ⟨f0, hfx⟩ : ∃ f, partC x = f := ⟨_, rfl⟩
  rw [hfx] at f0le
  have HX := Lib.hid hfx
  obtain ⟨s1, s2⟩ := frac_step h52
  have ht := toInt64 x (truncI x) (trunc_spec h52).1
  have rs : ∀ w, (binOp .sub 25 (.float .f64 x) (.float .f64 (floatOfInt .f64 (truncI x)))).run Try.prog w = .ok (.float .f64 (fracC x)) w := fun w => run_float_arith w .sub 25 .f64 _ _ _ s1
  have hc := ltB .f64 (fracC x) 0 s2.num (by decide)
  have S0 : S .f64 0 = 0 := by decide
  rw [S0] at hc
  have d0 : Drawn w w := Drawn.refl w
  obtain ⟨w0, hw0⟩ : ∃ w0, w0 = w := ⟨_, rfl⟩
  subst hw0
  by_cases c : S .f64 (fracC x) < 0
  · rw [decide_eq_true c] at hc
    obtain ⟨r, r1, r2, r3⟩ := part_step s2
    have ra : ∀ w, (binOp .add 25 (.float .f64 (fracC x)) (.float .f64 4607182418800017408)).run Try.prog w = .ok (.float .f64 r) w := fun w => run_float_arith w .add 25 .f64 _ _ _ r1
    obtain rfl : f0 = r := by rw [← hfx]; unfold partC; rw [if_pos c, r3]
    generalize fracC x = g at *
    generalize truncI x = t at *
    clear s1 s2 c r1 r2 r3 h52 S0 ss hfx hb hn hf hl
    go_enter Try.func41, Try.ntmps41
    go_wp2_with fail
    clear o0 o1 o2 r0 ht rs hc ra
    go_loopg [3, 4] 8 (fun n v i wr => ∃ (f : Nat) (q : Int), v = .float .f64 f ∧ i = .int .i64 q ∧ PhI f0 n f q ∧ w0 = wr)
    case atStart => exact ⟨f0, 0, rfl, rfl, ph_start f0le, rfl⟩
    case round =>
      obtain ⟨f, q, rfl, rfl, hI, rfl⟩ := hrel
      have hge := geB .f64 f 4598175219545276416 hI.2.1.num (by decide)
      by_cases c : S .f64 quartW ≤ S .f64 f
      · rw [decide_eq_true c] at hge
        obtain ⟨r, m, r1, rfl, hI2, hq0, hq8⟩ := ph_more hI c
        have rq : ∀ w, (binOp .sub 25 (.float .f64 f) (.float .f64 4598175219545276416)).run Try.prog w = .ok (.float .f64 r) w := fun w => run_float_arith w .sub 25 .f64 _ _ _ r1
        clear r1 c hI
        go_wp2_with fail
        go_roundg m
        case measure => omega
        case rel => exact ⟨r, q + 1, rfl, rfl, hI2, rfl⟩
      · rw [decide_eq_false c] at hge
        obtain ⟨hr, fle, hq0, hq8⟩ := ph_done hI c
        have HR := Lib.hid hr
        clear c hI hr
        obtain ⟨d, c1, s1, d1, d2, d3, hc, hs, c2, s2, c3, s3, c4, s4⟩ := ph_parts fle
        have rd : ∀ w, (binOp .sub 25 (.float .f64 4598175219545276416) (.float .f64 f)).run Try.prog w = .ok (.float .f64 d) w := fun w => run_float_arith w .sub 25 .f64 _ _ _ d1
        have rc : ∀ w, (binOp .sub 25 (.float .f64 0) (.float .f64 (phC f))).run Try.prog w = .ok (.float .f64 c1) w := fun w => run_float_arith w .sub 25 .f64 _ _ _ c2
        have rs : ∀ w, (binOp .sub 25 (.float .f64 0) (.float .f64 (phS f))).run Try.prog w = .ok (.float .f64 s1) w := fun w => run_float_arith w .sub 25 .f64 _ _ _ s2
        have nC := narrow_some _ _ (nw_ok hc (by omega)).1
        have nS := narrow_some _ _ (nw_ok hs (by omega)).1
        have nC1 := narrow_some _ _ (nw_ok c3 (by omega)).1
        have nS1 := narrow_some _ _ (nw_ok s3 (by omega)).1
        have HP : Hid (ph x = if q = 1 then (nw s1, nw (phC f)) else if q = 2 then (nw c1, nw s1) else if q = 3 then (nw (phS f), nw c1) else (nw (phC f), nw (phS f))) := by
          show _ = _; unfold ph; rw [HX.out, HR.out]; unfold ph2; simp only; rw [← c4, ← s4]
        have HCd : Hid (sineW d = phC f) := by show _ = _; unfold phC; rw [← d3]
        have HSf : Hid (sineW f = phS f) := rfl
        generalize phC f = C at *
        generalize phS f = Z at *
        generalize nw C = vC at *
        generalize nw Z = vZ at *
        generalize nw c1 = vc1 at *
        generalize nw s1 = vs1 at *
        have DL : Hid (LeP d 2) := d2
        have FL : Hid (LeP f 1) := fle
        clear d1 d2 d3 hc hs c2 s2 c3 s3 c4 s4 fle
        by_cases q1 : q = 1
        · have HE : Hid (ph x = (vs1, vC)) := by show _ = _; rw [HP.out, if_pos q1]
          subst q1
          clear HP hq0 hq8
          go_wp2_with fail
          refine (specSine_any d (DL.out.mono (by omega) (by omega)) (small_mod DL.out (by omega)) _).mono ?_
          rintro e w' ⟨rfl, rfl⟩
          rw [HCd.out]
          go_wp2_with fail
          refine (specSine_any f (FL.out.mono (by omega) (by omega)) (small_mod FL.out (by omega)) _).mono ?_
          rintro e w' ⟨rfl, rfl⟩
          rw [HSf.out]
          go_wp2_with fail
          go_enter Try.func57, Try.ntmps57
          go_wp2_with fail
          go_enter Try.func57, Try.ntmps57
          go_wp2_with fail
          go_ret
          exact ⟨by rw [HE.out]; rfl, d0⟩
        · have k1 : (q == 1) = false := by simpa using q1
          by_cases q2 : q = 2
          · have HE : Hid (ph x = (vc1, vs1)) := by show _ = _; rw [HP.out, if_neg q1, if_pos q2]
            subst q2
            clear HP hq0 hq8 q1 k1
            go_wp2_with fail
            refine (specSine_any d (DL.out.mono (by omega) (by omega)) (small_mod DL.out (by omega)) _).mono ?_
            rintro e w' ⟨rfl, rfl⟩
            rw [HCd.out]
            go_wp2_with fail
            refine (specSine_any f (FL.out.mono (by omega) (by omega)) (small_mod FL.out (by omega)) _).mono ?_
            rintro e w' ⟨rfl, rfl⟩
            rw [HSf.out]
            go_wp2_with fail
            go_enter Try.func57, Try.ntmps57
            go_wp2_with fail
            go_enter Try.func57, Try.ntmps57
            go_wp2_with fail
            go_ret
            exact ⟨by rw [HE.out]; rfl, d0⟩
          · have k2 : (q == 2) = false := by simpa using q2
            by_cases q3 : q = 3
            · have HE : Hid (ph x = (vZ, vc1)) := by show _ = _; rw [HP.out, if_neg q1, if_neg q2, if_pos q3]
              subst q3
              clear HP hq0 hq8 q1 k1 q2 k2
              go_wp2_with fail
              refine (specSine_any d (DL.out.mono (by omega) (by omega)) (small_mod DL.out (by omega)) _).mono ?_
              rintro e w' ⟨rfl, rfl⟩
              rw [HCd.out]
              go_wp2_with fail
              refine (specSine_any f (FL.out.mono (by omega) (by omega)) (small_mod FL.out (by omega)) _).mono ?_
              rintro e w' ⟨rfl, rfl⟩
              rw [HSf.out]
              go_wp2_with fail
              go_enter Try.func57, Try.ntmps57
              go_wp2_with fail
              go_enter Try.func57, Try.ntmps57
              go_wp2_with fail
              go_ret
              exact ⟨by rw [HE.out]; rfl, d0⟩
            · have k3 : (q == 3) = false := by simpa using q3
              have HE : Hid (ph x = (vC, vZ)) := by show _ = _; rw [HP.out, if_neg q1, if_neg q2, if_neg q3]
              clear HP q1 q2 q3
              go_wp2_with fail
              refine (specSine_any d (DL.out.mono (by omega) (by omega)) (small_mod DL.out (by omega)) _).mono ?_
              rintro e w' ⟨rfl, rfl⟩
              rw [HCd.out]
              go_wp2_with fail
              refine (specSine_any f (FL.out.mono (by omega) (by omega)) (small_mod FL.out (by omega)) _).mono ?_
              rintro e w' ⟨rfl, rfl⟩
              rw [HSf.out]
              go_wp2_with fail
              go_enter Try.func57, Try.ntmps57
              go_wp2_with fail
              go_enter Try.func57, Try.ntmps57
              go_wp2_with fail
              go_ret
              exact ⟨by rw [HE.out]; rfl, d0⟩
  · rw [decide_eq_false c] at hc
    have hrf : fracC x = f0 := by rw [← hfx]; unfold partC; rw [if_neg c]
    rw [hrf] at rs hc
    generalize truncI x = t at *
    clear s1 s2 c h52 S0 ss hfx hb hn hf hl hrf
    go_enter Try.func41, Try.ntmps41
    go_wp2_with fail
    clear o0 o1 o2 r0 ht rs hc
    go_loopg [3, 4] 8 (fun n v i wr => ∃ (f : Nat) (q : Int), v = .float .f64 f ∧ i = .int .i64 q ∧ PhI f0 n f q ∧ w0 = wr)
    case atStart => exact ⟨f0, 0, rfl, rfl, ph_start f0le, rfl⟩
    case round =>
      obtain ⟨f, q, rfl, rfl, hI, rfl⟩ := hrel
      have hge := geB .f64 f 4598175219545276416 hI.2.1.num (by decide)
      by_cases c : S .f64 quartW ≤ S .f64 f
      · rw [decide_eq_true c] at hge
        obtain ⟨r, m, r1, rfl, hI2, hq0, hq8⟩ := ph_more hI c
        have rq : ∀ w, (binOp .sub 25 (.float .f64 f) (.float .f64 4598175219545276416)).run Try.prog w = .ok (.float .f64 r) w := fun w => run_float_arith w .sub 25 .f64 _ _ _ r1
        clear r1 c hI
        go_wp2_with fail
        go_roundg m
        case measure => omega
        case rel => exact ⟨r, q + 1, rfl, rfl, hI2, rfl⟩
      · rw [decide_eq_false c] at hge
        obtain ⟨hr, fle, hq0, hq8⟩ := ph_done hI c
        have HR := Lib.hid hr
        clear c hI hr
        obtain ⟨d, c1, s1, d1, d2, d3, hc, hs, c2, s2, c3, s3, c4, s4⟩ := ph_parts fle
        have rd : ∀ w, (binOp .sub 25 (.float .f64 4598175219545276416) (.float .f64 f)).run Try.prog w = .ok (.float .f64 d) w := fun w => run_float_arith w .sub 25 .f64 _ _ _ d1
        have rc : ∀ w, (binOp .sub 25 (.float .f64 0) (.float .f64 (phC f))).run Try.prog w = .ok (.float .f64 c1) w := fun w => run_float_arith w .sub 25 .f64 _ _ _ c2
        have rs : ∀ w, (binOp .sub 25 (.float .f64 0) (.float .f64 (phS f))).run Try.prog w = .ok (.float .f64 s1) w := fun w => run_float_arith w .sub 25 .f64 _ _ _ s2
        have nC := narrow_some _ _ (nw_ok hc (by omega)).1
        have nS := narrow_some _ _ (nw_ok hs (by omega)).1
        have nC1 := narrow_some _ _ (nw_ok c3 (by omega)).1
        have nS1 := narrow_some _ _ (nw_ok s3 (by omega)).1
        have HP : Hid (ph x = if q = 1 then (nw s1, nw (phC f)) else if q = 2 then (nw c1, nw s1) else if q = 3 then (nw (phS f), nw c1) else (nw (phC f), nw (phS f))) := by
          show _ = _; unfold ph; rw [HX.out, HR.out]; unfold ph2; simp only; rw [← c4, ← s4]
        have HCd : Hid (sineW d = phC f) := by show _ = _; unfold phC; rw [← d3]
        have HSf : Hid (sineW f = phS f) := rfl
        generalize phC f = C at *
        generalize phS f = Z at *
        generalize nw C = vC at *
        generalize nw Z = vZ at *
        generalize nw c1 = vc1 at *
        generalize nw s1 = vs1 at *
        have DL : Hid (LeP d 2) := d2
        have FL : Hid (LeP f 1) := fle
        clear d1 d2 d3 hc hs c2 s2 c3 s3 c4 s4 fle
        by_cases q1 : q = 1
        · have HE : Hid (ph x = (vs1, vC)) := by show _ = _; rw [HP.out, if_pos q1]
          subst q1
          clear HP hq0 hq8
          go_wp2_with fail
          refine (specSine_any d (DL.out.mono (by omega) (by omega)) (small_mod DL.out (by omega)) _).mono ?_
          rintro e w' ⟨rfl, rfl⟩
          rw [HCd.out]
          go_wp2_with fail
          refine (specSine_any f (FL.out.mono (by omega) (by omega)) (small_mod FL.out (by omega)) _).mono ?_
          rintro e w' ⟨rfl, rfl⟩
          rw [HSf.out]
          go_wp2_with fail
          go_enter Try.func57, Try.ntmps57
          go_wp2_with fail
          go_enter Try.func57, Try.ntmps57
          go_wp2_with fail
          go_ret
          exact ⟨by rw [HE.out]; rfl, d0⟩
        · have k1 : (q == 1) = false := by simpa using q1
          by_cases q2 : q = 2
          · have HE : Hid (ph x = (vc1, vs1)) := by show _ = _; rw [HP.out, if_neg q1, if_pos q2]
            subst q2
            clear HP hq0 hq8 q1 k1
            go_wp2_with fail
            refine (specSine_any d (DL.out.mono (by omega) (by omega)) (small_mod DL.out (by omega)) _).mono ?_
            rintro e w' ⟨rfl, rfl⟩
            rw [HCd.out]
            go_wp2_with fail
            refine (specSine_any f (FL.out.mono (by omega) (by omega)) (small_mod FL.out (by omega)) _).mono ?_
            rintro e w' ⟨rfl, rfl⟩
            rw [HSf.out]
            go_wp2_with fail
            go_enter Try.func57, Try.ntmps57
            go_wp2_with fail
            go_enter Try.func57, Try.ntmps57
            go_wp2_with fail
            go_ret
            exact ⟨by rw [HE.out]; rfl, d0⟩
          · have k2 : (q == 2) = false := by simpa using q2
            by_cases q3 : q = 3
            · have HE : Hid (ph x = (vZ, vc1)) := by show _ = _; rw [HP.out, if_neg q1, if_neg q2, if_pos q3]
              subst q3
              clear HP hq0 hq8 q1 k1 q2 k2
              go_wp2_with fail
              refine (specSine_any d (DL.out.mono (by omega) (by omega)) (small_mod DL.out (by omega)) _).mono ?_
              rintro e w' ⟨rfl, rfl⟩
              rw [HCd.out]
              go_wp2_with fail
              refine (specSine_any f (FL.out.mono (by omega) (by omega)) (small_mod FL.out (by omega)) _).mono ?_
              rintro e w' ⟨rfl, rfl⟩
              rw [HSf.out]
              go_wp2_with fail
              go_enter Try.func57, Try.ntmps57
              go_wp2_with fail
              go_enter Try.func57, Try.ntmps57
              go_wp2_with fail
              go_ret
              exact ⟨by rw [HE.out]; rfl, d0⟩
            · have k3 : (q == 3) = false := by simpa using q3
              have HE : Hid (ph x = (vC, vZ)) := by show _ = _; rw [HP.out, if_neg q1, if_neg q2, if_neg q3]
              clear HP q1 q2 q3
              go_wp2_with fail
              refine (specSine_any d (DL.out.mono (by omega) (by omega)) (small_mod DL.out (by omega)) _).mono ?_
              rintro e w' ⟨rfl, rfl⟩
              rw [HCd.out]
              go_wp2_with fail
              refine (specSine_any f (FL.out.mono (by omega) (by omega)) (small_mod FL.out (by omega)) _).mono ?_
              rintro e w' ⟨rfl, rfl⟩
              rw [HSf.out]
              go_wp2_with fail
              go_enter Try.func57, Try.ntmps57
              go_wp2_with fail
              go_enter Try.func57, Try.ntmps57
              go_wp2_with fail
              go_ret
              exact ⟨by rw [HE.out]; rfl, d0⟩
theorem specPha_none (x : Nat) (hf : fin .f64 x = false) (w : World) :
    Calls Try.prog 41 #[.float .f64 x] w fun e w' => ∃ u v, e = .returned (.complex .f32 u v) ∧ nan .f32 u = true ∧ nan .f32 v = true ∧ Drawn w w' := by
  have ss : floatBits .sub .f64 x x = none := by rw [sub_self .f64 x, hf]; rfl
  have r0 : ∀ w, (binOp .sub 25 (.float .f64 x) (.float .f64 x)).run Try.prog w = .ok (.float .f64 (drawNan .f64 x x w)) w.drew := fun w => run_arith_nan w .sub rfl 25 .f64 x x ss
  have o0 : (FloatKind.f64.format.order (drawNan .f64 x x w) 0 != some .eq) = true := by rw [order_nan .f64 _ _ (.inl (drawNan_nan .f64 x x w))]; rfl
  clear ss hf
  go_enter Try.func41, Try.ntmps41
  go_wp2_with fail
  refine (l01From_any 2143289344 (by decide) _).mono ?_
  rintro e w' ⟨rfl, rfl⟩
  go_wp2_with fail
  refine (l01From_any 2143289344 (by decide) _).mono ?_
  rintro e w' ⟨rfl, rfl⟩
  clear o0
  go_wp2_with fail
  go_ret
  exact ⟨_, _, rfl, by decide, by decide, Drawn.one _⟩

theorem implPha_none (x : Nat) (hf : fin .f64 x = false) (hl : x < 18446744073709551616) (w : World) :
    Calls Try.prog 18 #[.float .f64 x] w fun e w' => ∃ u v, e = .returned (.complex .f32 u v) ∧ nan .f32 u = true ∧ nan .f32 v = true ∧ Drawn w w' := by
  have hN := narrow_nan 9221120237041090561 (by decide)
  have HF := Lib.hid hf
  have k1 := Lib.hid (convNan_nan .f32 9221120237041090561 w)
  have k2 := Lib.hid (convNan_nan .f32 9221120237041090561 w.drew)
  clear hf
  go_enter Try.func18, Try.ntmps18
  go_wp2_with fail
  refine (isFinite64_any x hl _).mono ?_
  rintro e w1 ⟨rfl, rfl⟩
  rw [HF.out]
  go_wp2_with fail
  refine (mNaN_any _).mono ?_
  rintro e w1 ⟨rfl, rfl⟩
  go_wp2_with fail
  refine (mNaN_any _).mono ?_
  rintro e w1 ⟨rfl, rfl⟩
  go_wp2_with fail
  go_ret
  exact ⟨_, _, rfl, k1.out, k2.out, (Drawn.one w).trans (Drawn.one _)⟩

theorem specPha_big (x : Nat) (hf : fin .f64 x = true) (hl : x < 18446744073709551616) (hr : ¬ x % 9223372036854775808 < 4841369599423283200) (w : World) :
    Calls Try.prog 41 #[.float .f64 x] w fun e w' => e = .returned (.complex .f32 1065353216 0) ∧ Drawn w w' := by
  have ss : floatBits .sub .f64 x x = some 0 := by rw [sub_self .f64 x, hf]; rfl
  have r0 : ∀ w, (binOp .sub 25 (.float .f64 x) (.float .f64 x)).run Try.prog w = .ok (.float .f64 0) w := fun w => run_float_arith w .sub 25 .f64 _ _ _ ss
  have o0 : (FloatKind.f64.format.order 0 0 != some .eq) = false := by decide
  have hn := fin_num hf
  have o1 := geB .f64 x 4841369599423283200 hn (by decide)
  have o2 := leB .f64 x 14064741636278059008 hn (by decide)
  rw [S64 x hl, S64 4841369599423283200 (by decide), if_pos (by decide : 4841369599423283200 < 9223372036854775808)] at o1
  rw [S64 x hl, S64 14064741636278059008 (by decide), if_neg (by decide : ¬ 14064741636278059008 < 9223372036854775808)] at o2
  by_cases hp : x < 9223372036854775808
  · rw [if_pos hp, decide_eq_true (by omega)] at o1
    clear ss hf hn o2 hp hr hl
    go_enter Try.func41, Try.ntmps41
    go_wp2_with fail
    go_ret
    exact ⟨rfl, Drawn.refl _⟩
  · rw [if_neg hp, decide_eq_false (by omega)] at o1
    rw [if_neg hp, decide_eq_true (by omega)] at o2
    clear ss hf hn hp hr hl
    go_enter Try.func41, Try.ntmps41
    go_wp2_with fail
    go_ret
    exact ⟨rfl, Drawn.refl _⟩

theorem implPha_big (x : Nat) (hf : fin .f64 x = true) (hl : x < 18446744073709551616) (hr : ¬ x % 9223372036854775808 < 4841369599423283200) (w : World) :
    Calls Try.prog 18 #[.float .f64 x] w fun e w' => e = .returned (.complex .f32 1065353216 0) ∧ Drawn w w' := by
  have hny := nan_abs (fin_num hf)
  have o1 := geB .f64 (absW x) 4841369599423283200 hny (by decide)
  have hm : absW x < 9223372036854775808 := Nat.mod_lt _ (by decide)
  have hb' : ¬ absW x < 4841369599423283200 := hr
  rw [S64 (absW x) (by omega), if_pos hm, S64 4841369599423283200 (by decide), if_pos (by decide : 4841369599423283200 < 9223372036854775808), decide_eq_true (by omega)] at o1
  have HF := Lib.hid hf
  obtain ⟨y, hy⟩ : ∃ y, absW x = y := ⟨_, rfl⟩
  rw [hy] at o1
  have HY := Lib.hid hy
  clear hf hny hm hb' hy hr
  go_enter Try.func18, Try.ntmps18
  go_wp2_with fail
  refine (isFinite64_any x hl _).mono ?_
  rintro e w' ⟨rfl, rfl⟩
  rw [HF.out]
  go_wp2_with fail
  refine (abs_any x hl _).mono ?_
  rintro e w' ⟨rfl, rfl⟩
  rw [show x % 9223372036854775808 = y from HY.out]
  go_wp2_with fail
  go_ret
  exact ⟨rfl, Drawn.refl _⟩

theorem cwiden (u v : Nat) (hu : nan .f32 u = false) (hv : nan .f32 v = false) (w : World) : (convert 27 30 (.complex .f32 u v)).run Try.prog w = .ok (.complex .f64 (W u) (W v)) w :=
  run_convert_complex w 27 30 .f32 .f64 u v _ _ (by rw [Try.underlying27]; rfl) Try.underlying30 (by unfold cConvBits; rw [W_conv u hu, W_conv v hv]; rfl)

theorem run_fconv_nan (b : Nat) (h : nan .f32 b = true) (w : World) : (Conv.floatToFloat .f32 b .f64).run Try.prog w = .ok (.float .f64 (convNan .f64 b w)) w.drew := by
  obtain ⟨s, t, ht⟩ := nan_read h
  have ht' : FloatKind.f32.decode b = .nan s t := ht
  simp [Conv.floatToFloat, ht', Question.forced, convNan]
theorem cwiden_nan (u v : Nat) (hu : nan .f32 u = true) (hv : nan .f32 v = true) (w : World) :
    (convert 27 30 (.complex .f32 u v)).run Try.prog w = .ok (.complex .f64 (convNan .f64 u w) (convNan .f64 v w.drew)) w.drew.drew := by
  have hs : Try.prog.underlying 27 = some (.complex .f32) := Try.underlying27
  have hd : Try.prog.underlying 30 = some (.complex .f64) := Try.underlying30
  simp [convert, run_underlying hs, run_underlying hd, Conv.complexToComplex, run_fconv_nan u hu, run_fconv_nan v hv]

theorem sameCx_eq (u v : Nat) (lu : u < 18446744073709551616) (lv : v < 18446744073709551616) (hu : nan .f64 u = false) (hv : nan .f64 v = false) (w : World) :
    Calls Try.prog 19 #[.complex .f64 u v, .complex .f64 u v] w fun e w' => e = .returned (.bool true) ∧ w = w' := by
  have HU := Lib.hid hu
  have HV := Lib.hid hv
  clear hu hv
  go_enter Try.func19, Try.ntmps19
  go_wp2_with fail
  refine (sameFloat_eq u lu HU.out _).mono ?_
  rintro e w1 ⟨rfl, rfl⟩
  go_wp2_with fail
  refine (sameFloat_eq v lv HV.out _).mono ?_
  rintro e w1 ⟨rfl, rfl⟩
  go_wp2_with fail
  go_ret
  exact ⟨rfl, rfl⟩
theorem sameCx_nan (u v x y : Nat) (hu : nan .f64 u = true) (hv : nan .f64 v = true) (hx : nan .f64 x = true) (hy : nan .f64 y = true) (w : World) :
    Calls Try.prog 19 #[.complex .f64 u v, .complex .f64 x y] w fun e w' => e = .returned (.bool true) ∧ w = w' := by
  have HU := Lib.hid hu
  have HV := Lib.hid hv
  have HX := Lib.hid hx
  have HY := Lib.hid hy
  clear hu hv hx hy
  go_enter Try.func19, Try.ntmps19
  go_wp2_with fail
  refine (sameFloat_nan u x HU.out HX.out _).mono ?_
  rintro e w1 ⟨rfl, rfl⟩
  go_wp2_with fail
  refine (sameFloat_nan v y HV.out HY.out _).mono ?_
  rintro e w1 ⟨rfl, rfl⟩
  go_wp2_with fail
  go_ret
  exact ⟨rfl, rfl⟩

theorem ph_num (x : Nat) (h : LeP x 52) : nan .f32 (ph x).1 = false ∧ nan .f32 (ph x).2 = false := by
  have run : ∀ n f (q : Int), PhI (partC x) n f q → ∃ g r, qr 8 (partC x) 0 = (g, r) ∧ LeP g 1 := by
    intro n
    induction n with
    | zero =>
      intro f q hI
      by_cases c : S .f64 quartW ≤ S .f64 f
      · obtain ⟨_, m, _, hm, _⟩ := ph_more hI c; omega
      · obtain ⟨h1, h2, _⟩ := ph_done hI c; exact ⟨f, q, h1, h2⟩
    | succ n ih =>
      intro f q hI
      by_cases c : S .f64 quartW ≤ S .f64 f
      · obtain ⟨r, m, _, hm, hI2, _⟩ := ph_more hI c
        obtain rfl : n = m := by omega
        exact ih _ _ hI2
      · obtain ⟨h1, h2, _⟩ := ph_done hI c; exact ⟨f, q, h1, h2⟩
  obtain ⟨g, r, hr, hg⟩ := run 8 _ 0 (ph_start (partC_le h))
  obtain ⟨d, c1, s1, d1, d2, d3, hc, hs, c2, s2, c3, s3, c4, s4⟩ := ph_parts hg
  unfold ph
  rw [hr]
  simp only
  unfold ph2
  rw [← c4, ← s4]
  have a1 := (nw_ok hc (by omega)).2.2
  have a2 := (nw_ok hs (by omega)).2.2
  have a3 := (nw_ok c3 (by omega)).2.2
  have a4 := (nw_ok s3 (by omega)).2.2
  split
  · exact ⟨a4, a1⟩
  · split
    · exact ⟨a3, a4⟩
    · split
      · exact ⟨a2, a3⟩
      · exact ⟨a1, a2⟩

theorem fnExactPhasorOf_walk (x : Nat) (wx : (Lit.float .f64 x).wf = true) (w : World) :
    Calls Try.prog 5 #[.float .f64 x] w fun e w' => e = .returned (.bool true) ∧ Below w.heap.size w w' := by
  have hl := lt64 wx
  clear wx
  cases hf : fin .f64 x
  · have HF := Lib.hid hf
    clear hf
    go_enter Try.func5, Try.ntmps5
    go_wp2_with fail
    go_enter Try.func17, Try.ntmps17
    go_wp2_with fail
    refine (specPha_none x HF.out _).mono ?_
    rintro e w1 ⟨u, v, rfl, hu, hv, d1⟩
    go_wp2_with fail
    refine (implPha_none x HF.out hl _).mono ?_
    rintro e w2 ⟨s, t, rfl, hs, ht, d2⟩
    have c1 := cwiden_nan u v hu hv
    have c2 := cwiden_nan s t hs ht
    have n1 := fun w => convNan_nan .f64 u w
    have n2 := fun w => convNan_nan .f64 v w
    have n3 := fun w => convNan_nan .f64 s w
    have n4 := fun w => convNan_nan .f64 t w
    clear hu hv hs ht
    go_wp2_with fail
    refine (sameCx_nan _ _ _ _ (n3 _) (n4 _) (n1 _) (n2 _) _).mono ?_
    rintro e w3 ⟨rfl, rfl⟩
    go_wp2_with fail
    go_ret
    exact ⟨rfl, ((d1.trans d2).trans ((Drawn.one _).trans ((Drawn.one _).trans ((Drawn.one _).trans (Drawn.one _))))).below _⟩
  · by_cases hb : x % 9223372036854775808 < 4841369599423283200
    · obtain ⟨p1, p2⟩ := ph_num x (le52 hl hb)
      have c1 := cwiden _ _ p1 p2
      have l1 := W_lt (ph x).1
      have l2 := W_lt (ph x).2
      have q1 := (W_spec _ p1).2.1
      have q2 := (W_spec _ p2).2.1
      obtain ⟨u, hu⟩ : ∃ u, (ph x).1 = u := ⟨_, rfl⟩
      obtain ⟨v, hv⟩ : ∃ v, (ph x).2 = v := ⟨_, rfl⟩
      rw [hu, hv] at c1
      rw [hu] at l1 q1
      rw [hv] at l2 q2
      generalize W u = U1 at *
      generalize W v = V1 at *
      have HU := Lib.hid hu
      have HV := Lib.hid hv
      have HF := Lib.hid hf
      have Q1 := Lib.hid q1
      have Q2 := Lib.hid q2
      clear hf p1 p2 hu hv q1 q2
      go_enter Try.func5, Try.ntmps5
      go_wp2_with fail
      go_enter Try.func17, Try.ntmps17
      go_wp2_with fail
      refine (specPha_any x hl HF.out hb _).mono ?_
      rintro e w1 ⟨rfl, d1⟩
      rw [HU.out, HV.out]
      go_wp2_with fail
      refine (implPha_any x hl HF.out hb _).mono ?_
      rintro e w2 ⟨rfl, d2⟩
      rw [HU.out, HV.out]
      go_wp2_with fail
      refine (sameCx_eq U1 V1 l1 l2 Q1.out Q2.out _).mono ?_
      rintro e w3 ⟨rfl, rfl⟩
      go_wp2_with fail
      go_ret
      exact ⟨rfl, (d1.trans d2).below _⟩
    · have c1 := cwiden 1065353216 0 (by decide) (by decide)
      have l1 := W_lt 1065353216
      have l2 := W_lt 0
      have q1 := (W_spec 1065353216 (by decide)).2.1
      have q2 := (W_spec 0 (by decide)).2.1
      generalize W 1065353216 = U1 at *
      generalize W 0 = V1 at *
      have HF := Lib.hid hf
      have Q1 := Lib.hid q1
      have Q2 := Lib.hid q2
      have HB := Lib.hid hb
      clear hf q1 q2 hb
      go_enter Try.func5, Try.ntmps5
      go_wp2_with fail
      go_enter Try.func17, Try.ntmps17
      go_wp2_with fail
      refine (specPha_big x HF.out hl (by have := HB.out; omega) _).mono ?_
      rintro e w1 ⟨rfl, d1⟩
      go_wp2_with fail
      refine (implPha_big x HF.out hl (by have := HB.out; omega) _).mono ?_
      rintro e w2 ⟨rfl, d2⟩
      go_wp2_with fail
      refine (sameCx_eq U1 V1 l1 l2 Q1.out Q2.out _).mono ?_
      rintro e w3 ⟨rfl, rfl⟩
      go_wp2_with fail
      go_ret
      exact ⟨rfl, (d1.trans d2).below _⟩
end Go.Proofs.Ytmgmelbpggedkac
