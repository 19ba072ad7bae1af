/-
  Contracts of the sine of a float64 number of turns in the program and in its model, and of SineTurns with the walk of its exact law. Conditions: arguments are bits that fit their kind.
-/
import Derived.Test.YtmgmelbpggedkacLogW
import Derived.Test.YtmgmelbpggedkacSin
namespace Go.Proofs.Ytmgmelbpggedkac
open Go.RowKit Flt

theorem partOf_any (x : Nat) (hx : LeP x 52) (w : World) :
    Calls Try.prog 42 #[.float .f64 x] w fun e w' => e = .returned (.float .f64 (partC x)) ∧ w = w' := by
  obtain ⟨s1, s2⟩ := frac_step hx
  have ht := toInt64 x (truncI x) (trunc_spec hx).1
  have rs : ∀ w, (binOp .sub 25 (.float .f64 x) (.float .f64 (floatOfInt .f64 (truncI x)))).run Try.prog w = .ok (.float .f64 (fracC x)) w := fun w => run_float_arith w .sub 25 .f64 _ _ _ s1
  have hc := ltB .f64 (fracC x) 0 s2.num (by decide)
  have S0 : S .f64 0 = 0 := by decide
  rw [S0] at hc
  by_cases c : S .f64 (fracC x) < 0
  · rw [decide_eq_true c] at hc
    obtain ⟨r, r1, r2, r3⟩ := part_step s2
    have ra : ∀ w, (binOp .add 25 (.float .f64 (fracC x)) (.float .f64 4607182418800017408)).run Try.prog w = .ok (.float .f64 r) w := fun w => run_float_arith w .add 25 .f64 _ _ _ r1
    have HP : Hid (partC x = r) := by show _ = _; unfold partC; rw [if_pos c, r3]
    generalize fracC x = f at *
    generalize truncI x = t at *
    clear s1 s2 c r1 r2 r3 hx S0
    go_enter Try.func42, Try.ntmps42
    go_wp2_with fail
    go_ret
    exact ⟨by rw [HP.out]; rfl, rfl⟩
  · rw [decide_eq_false c] at hc
    have HP : Hid (partC x = fracC x) := by show _ = _; unfold partC; rw [if_neg c]
    generalize fracC x = f at *
    generalize truncI x = t at *
    clear s1 s2 c hx S0
    go_enter Try.func42, Try.ntmps42
    go_wp2_with fail
    go_ret
    exact ⟨by rw [HP.out]; rfl, rfl⟩
set_option maxHeartbeats 1600000 in
theorem implSine_any (x : Nat) (hx : LeP x 52) (w : World) :
    Calls Try.prog 40 #[.float .f64 x] w fun e w' => e = .returned (.float .f64 (sineW x)) ∧ w = w' := by
  have fle := partC_le hx
  obtain ⟨f, hfx⟩ : ∃ f, partC x = f := ⟨_, rfl⟩
  rw [hfx] at fle
  have HX := Lib.hid hfx
  have HL := Lib.hid hx
  clear hfx hx
  have hf := fle.num
  have hge := geB .f64 f 4602678819172646912 hf (by decide)
  by_cases c1 : S .f64 halfW ≤ S .f64 f
  · rw [decide_eq_true c1] at hge
    obtain ⟨f2, f21, f2le, f23⟩ := low_step fle
    have rl : ∀ w, (binOp .sub 25 (.float .f64 f) (.float .f64 4602678819172646912)).run Try.prog w = .ok (.float .f64 f2) w := fun w => run_float_arith w .sub 25 .f64 _ _ _ f21
    have hgt := gtB .f64 f2 4598175219545276416 f2le.num (by decide)
    have E1 : Hid (lowC f = f2) := by show _ = _; unfold lowC; rw [if_pos c1, f23]
    have C1 := Lib.hid (decide_eq_true c1)
    by_cases c2 : S .f64 quartW < S .f64 f2
    · rw [decide_eq_true c2] at hgt
      obtain ⟨g, g1, gle, g3⟩ := fold_step f2le
      have rg : ∀ w, (binOp .sub 25 (.float .f64 4602678819172646912) (.float .f64 f2)).run Try.prog w = .ok (.float .f64 g) w := fun w => run_float_arith w .sub 25 .f64 _ _ _ g1
      have E2 : Hid (foldC f2 = g) := by show _ = _; unfold foldC; rw [if_pos c2, g3]
      clear c1 c2 f21 f23 g1 g3 hf
      obtain ⟨z, u, z1, u1, z2, u2, z3, u3⟩ := z_step gle
      have rz : ∀ w, (binOp .mul 25 (.float .f64 g) (.float .f64 4618760256179416344)).run Try.prog w = .ok (.float .f64 z) w := fun w => run_float_arith w .mul 25 .f64 _ _ _ z1
      have ru : ∀ w, (binOp .mul 25 (.float .f64 z) (.float .f64 z)).run Try.prog w = .ok (.float .f64 u) w := fun w => run_float_arith w .mul 25 .f64 _ _ _ u1
      have HZ := Lib.hid z3
      have HU := Lib.hid u3
      clear z1 u1 z3 u3
      go_enter Try.func40, Try.ntmps40
      go_wp2_with fail
      refine (partOf_any x HL.out _).mono ?_
      rintro e w' ⟨rfl, rfl⟩
      rw [HX.out]
      go_wp2_with fail
      go_loopg [7, 8] 8 (fun n v i wr => ∃ (j p : Nat), v = .float .f64 p ∧ i = .int .i64 (8 - (j : Int)) ∧ Hid (p = pC u j) ∧ LeP p ((11 * j : Nat) : Int) ∧ Hid (j + n = 8) ∧ w = wr)
      case atStart => exact ⟨0, 4607182418800017408, rfl, rfl, rfl, one_le, rfl, rfl⟩
      case round =>
        obtain ⟨j, p, rfl, rfl, hp, hl, hj, rfl⟩ := hrel
        have hj' := hj.out
        by_cases hlt : j ≤ 7
        · obtain ⟨m, d, r, m1, d1, r1, r2, r3⟩ := p_step u2 hl hlt hp.out
          obtain ⟨b1, b2⟩ := kk_bd j hlt
          have hk : (decide ((1 : Int) ≤ 8 - (j : Int))) = true := decide_eq_true (by omega)
          have HR : Hid (r = pC u (j + 1)) := r3
          have rm : ∀ w, (binOp .mul 25 (.float .f64 u) (.float .f64 p)).run Try.prog w = .ok (.float .f64 m) w := fun w => run_float_arith w .mul 25 .f64 _ _ _ m1
          have rd : ∀ w, (binOp .quo 25 (.float .f64 m) (.float .f64 (floatOfInt .f64 (2 * (8 - (j : Int)) * (2 * (8 - (j : Int)) + 1))))).run Try.prog w = .ok (.float .f64 d) w := fun w => run_float_arith w .quo 25 .f64 _ _ _ d1
          have rr : ∀ w, (binOp .sub 25 (.float .f64 4607182418800017408) (.float .f64 d)).run Try.prog w = .ok (.float .f64 r) w := fun w => run_float_arith w .sub 25 .f64 _ _ _ r1
          have HJ : Hid (j + 1 + (gk - 1) = 8) := by show _ = _; omega
          have hgk : 1 ≤ gk := by omega
          clear m1 d1 r1 r3 hj'
          go_wp2_with fail
          go_roundg (gk - 1)
          case measure => omega
          case rel => exact ⟨j + 1, r, rfl, by go_num, HR, r2, HJ, rfl⟩
        · have hj8 : j = 8 := by omega
          subst hj8
          obtain ⟨r, t1, t2, t3⟩ := t_step z2 hl
          have rt : ∀ w, (binOp .mul 25 (.float .f64 z) (.float .f64 p)).run Try.prog w = .ok (.float .f64 r) w := fun w => run_float_arith w .mul 25 .f64 _ _ _ t1
          have hsin : r = sinT g := by
            have h1 := HZ.out
            have h2 := HU.out
            have h3 := hp.out
            unfold sinT
            rw [← h2, ← h1, ← h3, t3]
          have rn : ∀ w, (Op.unary .neg (.float .f64 r)).run Try.prog w = .ok (.float .f64 (negW r)) w := fun _ => rfl
          have HF : Hid (sineW x = negW r) := by show _ = _; unfold sineW; rw [HX.out, if_pos (of_decide_eq_true C1.out), E1.out, E2.out, hsin]
          generalize negW r = r' at *
          clear t1 t2 t3 hsin hj' hlt
          go_wp2_with fail
          go_ret
          exact ⟨by rw [HF.out]; rfl, rfl⟩
    · rw [decide_eq_false c2] at hgt
      have E2 : Hid (foldC f2 = f2) := by show _ = _; unfold foldC; rw [if_neg c2]
      have f2le := f2le.mono (show (2 : Int) ≤ 3 by omega) (by omega)
      clear c1 c2 f21 f23 hf
      obtain ⟨z, u, z1, u1, z2, u2, z3, u3⟩ := z_step f2le
      have rz : ∀ w, (binOp .mul 25 (.float .f64 f2) (.float .f64 4618760256179416344)).run Try.prog w = .ok (.float .f64 z) w := fun w => run_float_arith w .mul 25 .f64 _ _ _ z1
      have ru : ∀ w, (binOp .mul 25 (.float .f64 z) (.float .f64 z)).run Try.prog w = .ok (.float .f64 u) w := fun w => run_float_arith w .mul 25 .f64 _ _ _ u1
      have HZ := Lib.hid z3
      have HU := Lib.hid u3
      clear z1 u1 z3 u3
      go_enter Try.func40, Try.ntmps40
      go_wp2_with fail
      refine (partOf_any x HL.out _).mono ?_
      rintro e w' ⟨rfl, rfl⟩
      rw [HX.out]
      go_wp2_with fail
      go_loopg [7, 8] 8 (fun n v i wr => ∃ (j p : Nat), v = .float .f64 p ∧ i = .int .i64 (8 - (j : Int)) ∧ Hid (p = pC u j) ∧ LeP p ((11 * j : Nat) : Int) ∧ Hid (j + n = 8) ∧ w = wr)
      case atStart => exact ⟨0, 4607182418800017408, rfl, rfl, rfl, one_le, rfl, rfl⟩
      case round =>
        obtain ⟨j, p, rfl, rfl, hp, hl, hj, rfl⟩ := hrel
        have hj' := hj.out
        by_cases hlt : j ≤ 7
        · obtain ⟨m, d, r, m1, d1, r1, r2, r3⟩ := p_step u2 hl hlt hp.out
          obtain ⟨b1, b2⟩ := kk_bd j hlt
          have hk : (decide ((1 : Int) ≤ 8 - (j : Int))) = true := decide_eq_true (by omega)
          have HR : Hid (r = pC u (j + 1)) := r3
          have rm : ∀ w, (binOp .mul 25 (.float .f64 u) (.float .f64 p)).run Try.prog w = .ok (.float .f64 m) w := fun w => run_float_arith w .mul 25 .f64 _ _ _ m1
          have rd : ∀ w, (binOp .quo 25 (.float .f64 m) (.float .f64 (floatOfInt .f64 (2 * (8 - (j : Int)) * (2 * (8 - (j : Int)) + 1))))).run Try.prog w = .ok (.float .f64 d) w := fun w => run_float_arith w .quo 25 .f64 _ _ _ d1
          have rr : ∀ w, (binOp .sub 25 (.float .f64 4607182418800017408) (.float .f64 d)).run Try.prog w = .ok (.float .f64 r) w := fun w => run_float_arith w .sub 25 .f64 _ _ _ r1
          have HJ : Hid (j + 1 + (gk - 1) = 8) := by show _ = _; omega
          have hgk : 1 ≤ gk := by omega
          clear m1 d1 r1 r3 hj'
          go_wp2_with fail
          go_roundg (gk - 1)
          case measure => omega
          case rel => exact ⟨j + 1, r, rfl, by go_num, HR, r2, HJ, rfl⟩
        · have hj8 : j = 8 := by omega
          subst hj8
          obtain ⟨r, t1, t2, t3⟩ := t_step z2 hl
          have rt : ∀ w, (binOp .mul 25 (.float .f64 z) (.float .f64 p)).run Try.prog w = .ok (.float .f64 r) w := fun w => run_float_arith w .mul 25 .f64 _ _ _ t1
          have hsin : r = sinT f2 := by
            have h1 := HZ.out
            have h2 := HU.out
            have h3 := hp.out
            unfold sinT
            rw [← h2, ← h1, ← h3, t3]
          have rn : ∀ w, (Op.unary .neg (.float .f64 r)).run Try.prog w = .ok (.float .f64 (negW r)) w := fun _ => rfl
          have HF : Hid (sineW x = negW r) := by show _ = _; unfold sineW; rw [HX.out, if_pos (of_decide_eq_true C1.out), E1.out, E2.out, hsin]
          generalize negW r = r' at *
          clear t1 t2 t3 hsin hj' hlt
          go_wp2_with fail
          go_ret
          exact ⟨by rw [HF.out]; rfl, rfl⟩
  · rw [decide_eq_false c1] at hge
    have hgt := gtB .f64 f 4598175219545276416 hf (by decide)
    have E1 : Hid (lowC f = f) := by show _ = _; unfold lowC; rw [if_neg c1]
    have C1 := Lib.hid (decide_eq_false c1)
    by_cases c2 : S .f64 quartW < S .f64 f
    · rw [decide_eq_true c2] at hgt
      obtain ⟨g, g1, gle, g3⟩ := fold_step (fle.mono (show (1 : Int) ≤ 2 by omega) (by omega))
      have rg : ∀ w, (binOp .sub 25 (.float .f64 4602678819172646912) (.float .f64 f)).run Try.prog w = .ok (.float .f64 g) w := fun w => run_float_arith w .sub 25 .f64 _ _ _ g1
      have E2 : Hid (foldC f = g) := by show _ = _; unfold foldC; rw [if_pos c2, g3]
      clear c1 c2 g1 g3 hf
      obtain ⟨z, u, z1, u1, z2, u2, z3, u3⟩ := z_step gle
      have rz : ∀ w, (binOp .mul 25 (.float .f64 g) (.float .f64 4618760256179416344)).run Try.prog w = .ok (.float .f64 z) w := fun w => run_float_arith w .mul 25 .f64 _ _ _ z1
      have ru : ∀ w, (binOp .mul 25 (.float .f64 z) (.float .f64 z)).run Try.prog w = .ok (.float .f64 u) w := fun w => run_float_arith w .mul 25 .f64 _ _ _ u1
      have HZ := Lib.hid z3
      have HU := Lib.hid u3
      clear z1 u1 z3 u3
      go_enter Try.func40, Try.ntmps40
      go_wp2_with fail
      refine (partOf_any x HL.out _).mono ?_
      rintro e w' ⟨rfl, rfl⟩
      rw [HX.out]
      go_wp2_with fail
      go_loopg [7, 8] 8 (fun n v i wr => ∃ (j p : Nat), v = .float .f64 p ∧ i = .int .i64 (8 - (j : Int)) ∧ Hid (p = pC u j) ∧ LeP p ((11 * j : Nat) : Int) ∧ Hid (j + n = 8) ∧ w = wr)
      case atStart => exact ⟨0, 4607182418800017408, rfl, rfl, rfl, one_le, rfl, rfl⟩
      case round =>
        obtain ⟨j, p, rfl, rfl, hp, hl, hj, rfl⟩ := hrel
        have hj' := hj.out
        by_cases hlt : j ≤ 7
        · obtain ⟨m, d, r, m1, d1, r1, r2, r3⟩ := p_step u2 hl hlt hp.out
          obtain ⟨b1, b2⟩ := kk_bd j hlt
          have hk : (decide ((1 : Int) ≤ 8 - (j : Int))) = true := decide_eq_true (by omega)
          have HR : Hid (r = pC u (j + 1)) := r3
          have rm : ∀ w, (binOp .mul 25 (.float .f64 u) (.float .f64 p)).run Try.prog w = .ok (.float .f64 m) w := fun w => run_float_arith w .mul 25 .f64 _ _ _ m1
          have rd : ∀ w, (binOp .quo 25 (.float .f64 m) (.float .f64 (floatOfInt .f64 (2 * (8 - (j : Int)) * (2 * (8 - (j : Int)) + 1))))).run Try.prog w = .ok (.float .f64 d) w := fun w => run_float_arith w .quo 25 .f64 _ _ _ d1
          have rr : ∀ w, (binOp .sub 25 (.float .f64 4607182418800017408) (.float .f64 d)).run Try.prog w = .ok (.float .f64 r) w := fun w => run_float_arith w .sub 25 .f64 _ _ _ r1
          have HJ : Hid (j + 1 + (gk - 1) = 8) := by show _ = _; omega
          have hgk : 1 ≤ gk := by omega
          clear m1 d1 r1 r3 hj'
          go_wp2_with fail
          go_roundg (gk - 1)
          case measure => omega
          case rel => exact ⟨j + 1, r, rfl, by go_num, HR, r2, HJ, rfl⟩
        · have hj8 : j = 8 := by omega
          subst hj8
          obtain ⟨r, t1, t2, t3⟩ := t_step z2 hl
          have rt : ∀ w, (binOp .mul 25 (.float .f64 z) (.float .f64 p)).run Try.prog w = .ok (.float .f64 r) w := fun w => run_float_arith w .mul 25 .f64 _ _ _ t1
          have hsin : r = sinT g := by
            have h1 := HZ.out
            have h2 := HU.out
            have h3 := hp.out
            unfold sinT
            rw [← h2, ← h1, ← h3, t3]
          have HF : Hid (sineW x = r) := by show _ = _; unfold sineW; rw [HX.out, if_neg (of_decide_eq_false C1.out), E1.out, E2.out, hsin]
          clear t1 t2 t3 hsin hj' hlt
          go_wp2_with fail
          go_ret
          exact ⟨by rw [HF.out]; rfl, rfl⟩
    · rw [decide_eq_false c2] at hgt
      have E2 : Hid (foldC f = f) := by show _ = _; unfold foldC; rw [if_neg c2]
      have fle := fle.mono (show (1 : Int) ≤ 3 by omega) (by omega)
      clear c1 c2 hf
      obtain ⟨z, u, z1, u1, z2, u2, z3, u3⟩ := z_step fle
      have rz : ∀ w, (binOp .mul 25 (.float .f64 f) (.float .f64 4618760256179416344)).run Try.prog w = .ok (.float .f64 z) w := fun w => run_float_arith w .mul 25 .f64 _ _ _ z1
      have ru : ∀ w, (binOp .mul 25 (.float .f64 z) (.float .f64 z)).run Try.prog w = .ok (.float .f64 u) w := fun w => run_float_arith w .mul 25 .f64 _ _ _ u1
      have HZ := Lib.hid z3
      have HU := Lib.hid u3
      clear z1 u1 z3 u3
      go_enter Try.func40, Try.ntmps40
      go_wp2_with fail
      refine (partOf_any x HL.out _).mono ?_
      rintro e w' ⟨rfl, rfl⟩
      rw [HX.out]
      go_wp2_with fail
      go_loopg [7, 8] 8 (fun n v i wr => ∃ (j p : Nat), v = .float .f64 p ∧ i = .int .i64 (8 - (j : Int)) ∧ Hid (p = pC u j) ∧ LeP p ((11 * j : Nat) : Int) ∧ Hid (j + n = 8) ∧ w = wr)
      case atStart => exact ⟨0, 4607182418800017408, rfl, rfl, rfl, one_le, rfl, rfl⟩
      case round =>
        obtain ⟨j, p, rfl, rfl, hp, hl, hj, rfl⟩ := hrel
        have hj' := hj.out
        by_cases hlt : j ≤ 7
        · obtain ⟨m, d, r, m1, d1, r1, r2, r3⟩ := p_step u2 hl hlt hp.out
          obtain ⟨b1, b2⟩ := kk_bd j hlt
          have hk : (decide ((1 : Int) ≤ 8 - (j : Int))) = true := decide_eq_true (by omega)
          have HR : Hid (r = pC u (j + 1)) := r3
          have rm : ∀ w, (binOp .mul 25 (.float .f64 u) (.float .f64 p)).run Try.prog w = .ok (.float .f64 m) w := fun w => run_float_arith w .mul 25 .f64 _ _ _ m1
          have rd : ∀ w, (binOp .quo 25 (.float .f64 m) (.float .f64 (floatOfInt .f64 (2 * (8 - (j : Int)) * (2 * (8 - (j : Int)) + 1))))).run Try.prog w = .ok (.float .f64 d) w := fun w => run_float_arith w .quo 25 .f64 _ _ _ d1
          have rr : ∀ w, (binOp .sub 25 (.float .f64 4607182418800017408) (.float .f64 d)).run Try.prog w = .ok (.float .f64 r) w := fun w => run_float_arith w .sub 25 .f64 _ _ _ r1
          have HJ : Hid (j + 1 + (gk - 1) = 8) := by show _ = _; omega
          have hgk : 1 ≤ gk := by omega
          clear m1 d1 r1 r3 hj'
          go_wp2_with fail
          go_roundg (gk - 1)
          case measure => omega
          case rel => exact ⟨j + 1, r, rfl, by go_num, HR, r2, HJ, rfl⟩
        · have hj8 : j = 8 := by omega
          subst hj8
          obtain ⟨r, t1, t2, t3⟩ := t_step z2 hl
          have rt : ∀ w, (binOp .mul 25 (.float .f64 z) (.float .f64 p)).run Try.prog w = .ok (.float .f64 r) w := fun w => run_float_arith w .mul 25 .f64 _ _ _ t1
          have hsin : r = sinT f := by
            have h1 := HZ.out
            have h2 := HU.out
            have h3 := hp.out
            unfold sinT
            rw [← h2, ← h1, ← h3, t3]
          have HF : Hid (sineW x = r) := by show _ = _; unfold sineW; rw [HX.out, if_neg (of_decide_eq_false C1.out), E1.out, E2.out, hsin]
          clear t1 t2 t3 hsin hj' hlt
          go_wp2_with fail
          go_ret
          exact ⟨by rw [HF.out]; rfl, rfl⟩
set_option maxHeartbeats 1600000 in
theorem specSine_any (x : Nat) (hx : LeP x 52) (hr : x % 9223372036854775808 < 4841369599423283200) (w : World) :
    Calls Try.prog 59 #[.float .f64 x] w fun e w' => e = .returned (.float .f64 (sineW x)) ∧ w = w' := by
  have fle := partC_le hx
  obtain ⟨f, hfx⟩ : ∃ f, partC x = f := ⟨_, rfl⟩
  rw [hfx] at fle
  have HX := Lib.hid hfx
  obtain ⟨s1, s2⟩ := frac_step hx
  have ht := toInt64 x (truncI x) (trunc_spec hx).1
  have rs : ∀ w, (binOp .sub 25 (.float .f64 x) (.float .f64 (floatOfInt .f64 (truncI x)))).run Try.prog w = .ok (.float .f64 (fracC x)) w := fun w => run_float_arith w .sub 25 .f64 _ _ _ s1
  have ss : floatBits .sub .f64 x x = some 0 := by rw [sub_self .f64 x, hx.isFin]; rfl
  have r0 : ∀ w, (binOp .sub 25 (.float .f64 x) (.float .f64 x)).run Try.prog w = .ok (.float .f64 0) w := fun w => run_float_arith w .sub 25 .f64 _ _ _ ss
  have o0 : (FloatKind.f64.format.order 0 0 != some .eq) = false := by decide
  have o1 := geB .f64 x 4841369599423283200 hx.num (by decide)
  rw [S64 x hx.lt, S64 4841369599423283200 (by decide), if_pos (by decide : 4841369599423283200 < 9223372036854775808), decide_eq_false (by have := hx.lt; split <;> omega)] at o1
  have o2 := leB .f64 x 14064741636278059008 hx.num (by decide)
  rw [S64 x hx.lt, S64 14064741636278059008 (by decide), if_neg (by decide : ¬ 14064741636278059008 < 9223372036854775808), decide_eq_false (by have := hx.lt; split <;> omega)] at o2
  have hc := ltB .f64 (fracC x) 0 s2.num (by decide)
  have S0 : S .f64 0 = 0 := by decide
  rw [S0] at hc
  by_cases c : S .f64 (fracC x) < 0
  · rw [decide_eq_true c] at hc
    obtain ⟨r, r1, r2, r3⟩ := part_step s2
    have ra : ∀ w, (binOp .add 25 (.float .f64 (fracC x)) (.float .f64 4607182418800017408)).run Try.prog w = .ok (.float .f64 r) w := fun w => run_float_arith w .add 25 .f64 _ _ _ r1
    obtain rfl : f = r := by rw [← hfx]; unfold partC; rw [if_pos c, r3]
    generalize fracC x = f0 at *
    generalize truncI x = t at *
    clear s1 s2 c r1 r2 r3 hx S0 ss hfx hr
    have hf := fle.num
    have hge := geB .f64 f 4602678819172646912 hf (by decide)
    by_cases c1 : S .f64 halfW ≤ S .f64 f
    · rw [decide_eq_true c1] at hge
      obtain ⟨f2, f21, f2le, f23⟩ := low_step fle
      have rl : ∀ w, (binOp .sub 25 (.float .f64 f) (.float .f64 4602678819172646912)).run Try.prog w = .ok (.float .f64 f2) w := fun w => run_float_arith w .sub 25 .f64 _ _ _ f21
      have hgt := gtB .f64 f2 4598175219545276416 f2le.num (by decide)
      have E1 : Hid (lowC f = f2) := by show _ = _; unfold lowC; rw [if_pos c1, f23]
      have C1 := Lib.hid (decide_eq_true c1)
      by_cases c2 : S .f64 quartW < S .f64 f2
      · rw [decide_eq_true c2] at hgt
        obtain ⟨g, g1, gle, g3⟩ := fold_step f2le
        have rg : ∀ w, (binOp .sub 25 (.float .f64 4602678819172646912) (.float .f64 f2)).run Try.prog w = .ok (.float .f64 g) w := fun w => run_float_arith w .sub 25 .f64 _ _ _ g1
        have E2 : Hid (foldC f2 = g) := by show _ = _; unfold foldC; rw [if_pos c2, g3]
        clear c1 c2 f21 f23 g1 g3 hf
        obtain ⟨z, u, z1, u1, z2, u2, z3, u3⟩ := z_step gle
        have rz : ∀ w, (binOp .mul 25 (.float .f64 g) (.float .f64 4618760256179416344)).run Try.prog w = .ok (.float .f64 z) w := fun w => run_float_arith w .mul 25 .f64 _ _ _ z1
        have ru : ∀ w, (binOp .mul 25 (.float .f64 z) (.float .f64 z)).run Try.prog w = .ok (.float .f64 u) w := fun w => run_float_arith w .mul 25 .f64 _ _ _ u1
        have HZ := Lib.hid z3
        have HU := Lib.hid u3
        clear z1 u1 z3 u3
        go_enter Try.func59, Try.ntmps59
        go_wp2_with fail
        go_loopg [7, 8] 8 (fun n v i wr => ∃ (j p : Nat), v = .float .f64 p ∧ i = .int .i64 (8 - (j : Int)) ∧ Hid (p = pC u j) ∧ LeP p ((11 * j : Nat) : Int) ∧ Hid (j + n = 8) ∧ w = wr)
        case atStart => exact ⟨0, 4607182418800017408, rfl, rfl, rfl, one_le, rfl, rfl⟩
        case round =>
          obtain ⟨j, p, rfl, rfl, hp, hl, hj, rfl⟩ := hrel
          have hj' := hj.out
          by_cases hlt : j ≤ 7
          · obtain ⟨m, d, r, m1, d1, r1, r2, r3⟩ := p_step u2 hl hlt hp.out
            obtain ⟨b1, b2⟩ := kk_bd j hlt
            have hk : (decide ((1 : Int) ≤ 8 - (j : Int))) = true := decide_eq_true (by omega)
            have HR : Hid (r = pC u (j + 1)) := r3
            have rm : ∀ w, (binOp .mul 25 (.float .f64 u) (.float .f64 p)).run Try.prog w = .ok (.float .f64 m) w := fun w => run_float_arith w .mul 25 .f64 _ _ _ m1
            have rd : ∀ w, (binOp .quo 25 (.float .f64 m) (.float .f64 (floatOfInt .f64 (2 * (8 - (j : Int)) * (2 * (8 - (j : Int)) + 1))))).run Try.prog w = .ok (.float .f64 d) w := fun w => run_float_arith w .quo 25 .f64 _ _ _ d1
            have rr : ∀ w, (binOp .sub 25 (.float .f64 4607182418800017408) (.float .f64 d)).run Try.prog w = .ok (.float .f64 r) w := fun w => run_float_arith w .sub 25 .f64 _ _ _ r1
            have HJ : Hid (j + 1 + (gk - 1) = 8) := by show _ = _; omega
            have hgk : 1 ≤ gk := by omega
            clear m1 d1 r1 r3 hj'
            go_wp2_with fail
            go_roundg (gk - 1)
            case measure => omega
            case rel => exact ⟨j + 1, r, rfl, by go_num, HR, r2, HJ, rfl⟩
          · have hj8 : j = 8 := by omega
            subst hj8
            obtain ⟨r, t1, t2, t3⟩ := t_step z2 hl
            have rt : ∀ w, (binOp .mul 25 (.float .f64 z) (.float .f64 p)).run Try.prog w = .ok (.float .f64 r) w := fun w => run_float_arith w .mul 25 .f64 _ _ _ t1
            have hsin : r = sinT g := by
              have h1 := HZ.out
              have h2 := HU.out
              have h3 := hp.out
              unfold sinT
              rw [← h2, ← h1, ← h3, t3]
            have rn : ∀ w, (Op.unary .neg (.float .f64 r)).run Try.prog w = .ok (.float .f64 (negW r)) w := fun _ => rfl
            have HF : Hid (sineW x = negW r) := by show _ = _; unfold sineW; rw [HX.out, if_pos (of_decide_eq_true C1.out), E1.out, E2.out, hsin]
            generalize negW r = r' at *
            clear t1 t2 t3 hsin hj' hlt
            go_wp2_with fail
            go_ret
            exact ⟨by rw [HF.out]; rfl, rfl⟩
      · rw [decide_eq_false c2] at hgt
        have E2 : Hid (foldC f2 = f2) := by show _ = _; unfold foldC; rw [if_neg c2]
        have f2le := f2le.mono (show (2 : Int) ≤ 3 by omega) (by omega)
        clear c1 c2 f21 f23 hf
        obtain ⟨z, u, z1, u1, z2, u2, z3, u3⟩ := z_step f2le
        have rz : ∀ w, (binOp .mul 25 (.float .f64 f2) (.float .f64 4618760256179416344)).run Try.prog w = .ok (.float .f64 z) w := fun w => run_float_arith w .mul 25 .f64 _ _ _ z1
        have ru : ∀ w, (binOp .mul 25 (.float .f64 z) (.float .f64 z)).run Try.prog w = .ok (.float .f64 u) w := fun w => run_float_arith w .mul 25 .f64 _ _ _ u1
        have HZ := Lib.hid z3
        have HU := Lib.hid u3
        clear z1 u1 z3 u3
        go_enter Try.func59, Try.ntmps59
        go_wp2_with fail
        go_loopg [7, 8] 8 (fun n v i wr => ∃ (j p : Nat), v = .float .f64 p ∧ i = .int .i64 (8 - (j : Int)) ∧ Hid (p = pC u j) ∧ LeP p ((11 * j : Nat) : Int) ∧ Hid (j + n = 8) ∧ w = wr)
        case atStart => exact ⟨0, 4607182418800017408, rfl, rfl, rfl, one_le, rfl, rfl⟩
        case round =>
          obtain ⟨j, p, rfl, rfl, hp, hl, hj, rfl⟩ := hrel
          have hj' := hj.out
          by_cases hlt : j ≤ 7
          · obtain ⟨m, d, r, m1, d1, r1, r2, r3⟩ := p_step u2 hl hlt hp.out
            obtain ⟨b1, b2⟩ := kk_bd j hlt
            have hk : (decide ((1 : Int) ≤ 8 - (j : Int))) = true := decide_eq_true (by omega)
            have HR : Hid (r = pC u (j + 1)) := r3
            have rm : ∀ w, (binOp .mul 25 (.float .f64 u) (.float .f64 p)).run Try.prog w = .ok (.float .f64 m) w := fun w => run_float_arith w .mul 25 .f64 _ _ _ m1
            have rd : ∀ w, (binOp .quo 25 (.float .f64 m) (.float .f64 (floatOfInt .f64 (2 * (8 - (j : Int)) * (2 * (8 - (j : Int)) + 1))))).run Try.prog w = .ok (.float .f64 d) w := fun w => run_float_arith w .quo 25 .f64 _ _ _ d1
            have rr : ∀ w, (binOp .sub 25 (.float .f64 4607182418800017408) (.float .f64 d)).run Try.prog w = .ok (.float .f64 r) w := fun w => run_float_arith w .sub 25 .f64 _ _ _ r1
            have HJ : Hid (j + 1 + (gk - 1) = 8) := by show _ = _; omega
            have hgk : 1 ≤ gk := by omega
            clear m1 d1 r1 r3 hj'
            go_wp2_with fail
            go_roundg (gk - 1)
            case measure => omega
            case rel => exact ⟨j + 1, r, rfl, by go_num, HR, r2, HJ, rfl⟩
          · have hj8 : j = 8 := by omega
            subst hj8
            obtain ⟨r, t1, t2, t3⟩ := t_step z2 hl
            have rt : ∀ w, (binOp .mul 25 (.float .f64 z) (.float .f64 p)).run Try.prog w = .ok (.float .f64 r) w := fun w => run_float_arith w .mul 25 .f64 _ _ _ t1
            have hsin : r = sinT f2 := by
              have h1 := HZ.out
              have h2 := HU.out
              have h3 := hp.out
              unfold sinT
              rw [← h2, ← h1, ← h3, t3]
            have rn : ∀ w, (Op.unary .neg (.float .f64 r)).run Try.prog w = .ok (.float .f64 (negW r)) w := fun _ => rfl
            have HF : Hid (sineW x = negW r) := by show _ = _; unfold sineW; rw [HX.out, if_pos (of_decide_eq_true C1.out), E1.out, E2.out, hsin]
            generalize negW r = r' at *
            clear t1 t2 t3 hsin hj' hlt
            go_wp2_with fail
            go_ret
            exact ⟨by rw [HF.out]; rfl, rfl⟩
    · rw [decide_eq_false c1] at hge
      have hgt := gtB .f64 f 4598175219545276416 hf (by decide)
      have E1 : Hid (lowC f = f) := by show _ = _; unfold lowC; rw [if_neg c1]
      have C1 := Lib.hid (decide_eq_false c1)
      by_cases c2 : S .f64 quartW < S .f64 f
      · rw [decide_eq_true c2] at hgt
        obtain ⟨g, g1, gle, g3⟩ := fold_step (fle.mono (show (1 : Int) ≤ 2 by omega) (by omega))
        have rg : ∀ w, (binOp .sub 25 (.float .f64 4602678819172646912) (.float .f64 f)).run Try.prog w = .ok (.float .f64 g) w := fun w => run_float_arith w .sub 25 .f64 _ _ _ g1
        have E2 : Hid (foldC f = g) := by show _ = _; unfold foldC; rw [if_pos c2, g3]
        clear c1 c2 g1 g3 hf
        obtain ⟨z, u, z1, u1, z2, u2, z3, u3⟩ := z_step gle
        have rz : ∀ w, (binOp .mul 25 (.float .f64 g) (.float .f64 4618760256179416344)).run Try.prog w = .ok (.float .f64 z) w := fun w => run_float_arith w .mul 25 .f64 _ _ _ z1
        have ru : ∀ w, (binOp .mul 25 (.float .f64 z) (.float .f64 z)).run Try.prog w = .ok (.float .f64 u) w := fun w => run_float_arith w .mul 25 .f64 _ _ _ u1
        have HZ := Lib.hid z3
        have HU := Lib.hid u3
        clear z1 u1 z3 u3
        go_enter Try.func59, Try.ntmps59
        go_wp2_with fail
        go_loopg [7, 8] 8 (fun n v i wr => ∃ (j p : Nat), v = .float .f64 p ∧ i = .int .i64 (8 - (j : Int)) ∧ Hid (p = pC u j) ∧ LeP p ((11 * j : Nat) : Int) ∧ Hid (j + n = 8) ∧ w = wr)
        case atStart => exact ⟨0, 4607182418800017408, rfl, rfl, rfl, one_le, rfl, rfl⟩
        case round =>
          obtain ⟨j, p, rfl, rfl, hp, hl, hj, rfl⟩ := hrel
          have hj' := hj.out
          by_cases hlt : j ≤ 7
          · obtain ⟨m, d, r, m1, d1, r1, r2, r3⟩ := p_step u2 hl hlt hp.out
            obtain ⟨b1, b2⟩ := kk_bd j hlt
            have hk : (decide ((1 : Int) ≤ 8 - (j : Int))) = true := decide_eq_true (by omega)
            have HR : Hid (r = pC u (j + 1)) := r3
            have rm : ∀ w, (binOp .mul 25 (.float .f64 u) (.float .f64 p)).run Try.prog w = .ok (.float .f64 m) w := fun w => run_float_arith w .mul 25 .f64 _ _ _ m1
            have rd : ∀ w, (binOp .quo 25 (.float .f64 m) (.float .f64 (floatOfInt .f64 (2 * (8 - (j : Int)) * (2 * (8 - (j : Int)) + 1))))).run Try.prog w = .ok (.float .f64 d) w := fun w => run_float_arith w .quo 25 .f64 _ _ _ d1
            have rr : ∀ w, (binOp .sub 25 (.float .f64 4607182418800017408) (.float .f64 d)).run Try.prog w = .ok (.float .f64 r) w := fun w => run_float_arith w .sub 25 .f64 _ _ _ r1
            have HJ : Hid (j + 1 + (gk - 1) = 8) := by show _ = _; omega
            have hgk : 1 ≤ gk := by omega
            clear m1 d1 r1 r3 hj'
            go_wp2_with fail
            go_roundg (gk - 1)
            case measure => omega
            case rel => exact ⟨j + 1, r, rfl, by go_num, HR, r2, HJ, rfl⟩
          · have hj8 : j = 8 := by omega
            subst hj8
            obtain ⟨r, t1, t2, t3⟩ := t_step z2 hl
            have rt : ∀ w, (binOp .mul 25 (.float .f64 z) (.float .f64 p)).run Try.prog w = .ok (.float .f64 r) w := fun w => run_float_arith w .mul 25 .f64 _ _ _ t1
            have hsin : r = sinT g := by
              have h1 := HZ.out
              have h2 := HU.out
              have h3 := hp.out
              unfold sinT
              rw [← h2, ← h1, ← h3, t3]
            have HF : Hid (sineW x = r) := by show _ = _; unfold sineW; rw [HX.out, if_neg (of_decide_eq_false C1.out), E1.out, E2.out, hsin]
            clear t1 t2 t3 hsin hj' hlt
            go_wp2_with fail
            go_ret
            exact ⟨by rw [HF.out]; rfl, rfl⟩
      · rw [decide_eq_false c2] at hgt
        have E2 : Hid (foldC f = f) := by show _ = _; unfold foldC; rw [if_neg c2]
        have fle := fle.mono (show (1 : Int) ≤ 3 by omega) (by omega)
        clear c1 c2 hf
        obtain ⟨z, u, z1, u1, z2, u2, z3, u3⟩ := z_step fle
        have rz : ∀ w, (binOp .mul 25 (.float .f64 f) (.float .f64 4618760256179416344)).run Try.prog w = .ok (.float .f64 z) w := fun w => run_float_arith w .mul 25 .f64 _ _ _ z1
        have ru : ∀ w, (binOp .mul 25 (.float .f64 z) (.float .f64 z)).run Try.prog w = .ok (.float .f64 u) w := fun w => run_float_arith w .mul 25 .f64 _ _ _ u1
        have HZ := Lib.hid z3
        have HU := Lib.hid u3
        clear z1 u1 z3 u3
        go_enter Try.func59, Try.ntmps59
        go_wp2_with fail
        go_loopg [7, 8] 8 (fun n v i wr => ∃ (j p : Nat), v = .float .f64 p ∧ i = .int .i64 (8 - (j : Int)) ∧ Hid (p = pC u j) ∧ LeP p ((11 * j : Nat) : Int) ∧ Hid (j + n = 8) ∧ w = wr)
        case atStart => exact ⟨0, 4607182418800017408, rfl, rfl, rfl, one_le, rfl, rfl⟩
        case round =>
          obtain ⟨j, p, rfl, rfl, hp, hl, hj, rfl⟩ := hrel
          have hj' := hj.out
          by_cases hlt : j ≤ 7
          · obtain ⟨m, d, r, m1, d1, r1, r2, r3⟩ := p_step u2 hl hlt hp.out
            obtain ⟨b1, b2⟩ := kk_bd j hlt
            have hk : (decide ((1 : Int) ≤ 8 - (j : Int))) = true := decide_eq_true (by omega)
            have HR : Hid (r = pC u (j + 1)) := r3
            have rm : ∀ w, (binOp .mul 25 (.float .f64 u) (.float .f64 p)).run Try.prog w = .ok (.float .f64 m) w := fun w => run_float_arith w .mul 25 .f64 _ _ _ m1
            have rd : ∀ w, (binOp .quo 25 (.float .f64 m) (.float .f64 (floatOfInt .f64 (2 * (8 - (j : Int)) * (2 * (8 - (j : Int)) + 1))))).run Try.prog w = .ok (.float .f64 d) w := fun w => run_float_arith w .quo 25 .f64 _ _ _ d1
            have rr : ∀ w, (binOp .sub 25 (.float .f64 4607182418800017408) (.float .f64 d)).run Try.prog w = .ok (.float .f64 r) w := fun w => run_float_arith w .sub 25 .f64 _ _ _ r1
            have HJ : Hid (j + 1 + (gk - 1) = 8) := by show _ = _; omega
            have hgk : 1 ≤ gk := by omega
            clear m1 d1 r1 r3 hj'
            go_wp2_with fail
            go_roundg (gk - 1)
            case measure => omega
            case rel => exact ⟨j + 1, r, rfl, by go_num, HR, r2, HJ, rfl⟩
          · have hj8 : j = 8 := by omega
            subst hj8
            obtain ⟨r, t1, t2, t3⟩ := t_step z2 hl
            have rt : ∀ w, (binOp .mul 25 (.float .f64 z) (.float .f64 p)).run Try.prog w = .ok (.float .f64 r) w := fun w => run_float_arith w .mul 25 .f64 _ _ _ t1
            have hsin : r = sinT f := by
              have h1 := HZ.out
              have h2 := HU.out
              have h3 := hp.out
              unfold sinT
              rw [← h2, ← h1, ← h3, t3]
            have HF : Hid (sineW x = r) := by show _ = _; unfold sineW; rw [HX.out, if_neg (of_decide_eq_false C1.out), E1.out, E2.out, hsin]
            clear t1 t2 t3 hsin hj' hlt
            go_wp2_with fail
            go_ret
            exact ⟨by rw [HF.out]; rfl, rfl⟩
  · rw [decide_eq_false c] at hc
    have hrf : fracC x = f := by rw [← hfx]; unfold partC; rw [if_neg c]
    rw [hrf] at rs hc
    generalize truncI x = t at *
    clear s1 s2 c hx S0 ss hfx hr hrf
    have hf := fle.num
    have hge := geB .f64 f 4602678819172646912 hf (by decide)
    by_cases c1 : S .f64 halfW ≤ S .f64 f
    · rw [decide_eq_true c1] at hge
      obtain ⟨f2, f21, f2le, f23⟩ := low_step fle
      have rl : ∀ w, (binOp .sub 25 (.float .f64 f) (.float .f64 4602678819172646912)).run Try.prog w = .ok (.float .f64 f2) w := fun w => run_float_arith w .sub 25 .f64 _ _ _ f21
      have hgt := gtB .f64 f2 4598175219545276416 f2le.num (by decide)
      have E1 : Hid (lowC f = f2) := by show _ = _; unfold lowC; rw [if_pos c1, f23]
      have C1 := Lib.hid (decide_eq_true c1)
      by_cases c2 : S .f64 quartW < S .f64 f2
      · rw [decide_eq_true c2] at hgt
        obtain ⟨g, g1, gle, g3⟩ := fold_step f2le
        have rg : ∀ w, (binOp .sub 25 (.float .f64 4602678819172646912) (.float .f64 f2)).run Try.prog w = .ok (.float .f64 g) w := fun w => run_float_arith w .sub 25 .f64 _ _ _ g1
        have E2 : Hid (foldC f2 = g) := by show _ = _; unfold foldC; rw [if_pos c2, g3]
        clear c1 c2 f21 f23 g1 g3 hf
        obtain ⟨z, u, z1, u1, z2, u2, z3, u3⟩ := z_step gle
        have rz : ∀ w, (binOp .mul 25 (.float .f64 g) (.float .f64 4618760256179416344)).run Try.prog w = .ok (.float .f64 z) w := fun w => run_float_arith w .mul 25 .f64 _ _ _ z1
        have ru : ∀ w, (binOp .mul 25 (.float .f64 z) (.float .f64 z)).run Try.prog w = .ok (.float .f64 u) w := fun w => run_float_arith w .mul 25 .f64 _ _ _ u1
        have HZ := Lib.hid z3
        have HU := Lib.hid u3
        clear z1 u1 z3 u3
        go_enter Try.func59, Try.ntmps59
        go_wp2_with fail
        go_loopg [7, 8] 8 (fun n v i wr => ∃ (j p : Nat), v = .float .f64 p ∧ i = .int .i64 (8 - (j : Int)) ∧ Hid (p = pC u j) ∧ LeP p ((11 * j : Nat) : Int) ∧ Hid (j + n = 8) ∧ w = wr)
        case atStart => exact ⟨0, 4607182418800017408, rfl, rfl, rfl, one_le, rfl, rfl⟩
        case round =>
          obtain ⟨j, p, rfl, rfl, hp, hl, hj, rfl⟩ := hrel
          have hj' := hj.out
          by_cases hlt : j ≤ 7
          · obtain ⟨m, d, r, m1, d1, r1, r2, r3⟩ := p_step u2 hl hlt hp.out
            obtain ⟨b1, b2⟩ := kk_bd j hlt
            have hk : (decide ((1 : Int) ≤ 8 - (j : Int))) = true := decide_eq_true (by omega)
            have HR : Hid (r = pC u (j + 1)) := r3
            have rm : ∀ w, (binOp .mul 25 (.float .f64 u) (.float .f64 p)).run Try.prog w = .ok (.float .f64 m) w := fun w => run_float_arith w .mul 25 .f64 _ _ _ m1
            have rd : ∀ w, (binOp .quo 25 (.float .f64 m) (.float .f64 (floatOfInt .f64 (2 * (8 - (j : Int)) * (2 * (8 - (j : Int)) + 1))))).run Try.prog w = .ok (.float .f64 d) w := fun w => run_float_arith w .quo 25 .f64 _ _ _ d1
            have rr : ∀ w, (binOp .sub 25 (.float .f64 4607182418800017408) (.float .f64 d)).run Try.prog w = .ok (.float .f64 r) w := fun w => run_float_arith w .sub 25 .f64 _ _ _ r1
            have HJ : Hid (j + 1 + (gk - 1) = 8) := by show _ = _; omega
            have hgk : 1 ≤ gk := by omega
            clear m1 d1 r1 r3 hj'
            go_wp2_with fail
            go_roundg (gk - 1)
            case measure => omega
            case rel => exact ⟨j + 1, r, rfl, by go_num, HR, r2, HJ, rfl⟩
          · have hj8 : j = 8 := by omega
            subst hj8
            obtain ⟨r, t1, t2, t3⟩ := t_step z2 hl
            have rt : ∀ w, (binOp .mul 25 (.float .f64 z) (.float .f64 p)).run Try.prog w = .ok (.float .f64 r) w := fun w => run_float_arith w .mul 25 .f64 _ _ _ t1
            have hsin : r = sinT g := by
              have h1 := HZ.out
              have h2 := HU.out
              have h3 := hp.out
              unfold sinT
              rw [← h2, ← h1, ← h3, t3]
            have rn : ∀ w, (Op.unary .neg (.float .f64 r)).run Try.prog w = .ok (.float .f64 (negW r)) w := fun _ => rfl
            have HF : Hid (sineW x = negW r) := by show _ = _; unfold sineW; rw [HX.out, if_pos (of_decide_eq_true C1.out), E1.out, E2.out, hsin]
            generalize negW r = r' at *
            clear t1 t2 t3 hsin hj' hlt
            go_wp2_with fail
            go_ret
            exact ⟨by rw [HF.out]; rfl, rfl⟩
      · rw [decide_eq_false c2] at hgt
        have E2 : Hid (foldC f2 = f2) := by show _ = _; unfold foldC; rw [if_neg c2]
        have f2le := f2le.mono (show (2 : Int) ≤ 3 by omega) (by omega)
        clear c1 c2 f21 f23 hf
        obtain ⟨z, u, z1, u1, z2, u2, z3, u3⟩ := z_step f2le
        have rz : ∀ w, (binOp .mul 25 (.float .f64 f2) (.float .f64 4618760256179416344)).run Try.prog w = .ok (.float .f64 z) w := fun w => run_float_arith w .mul 25 .f64 _ _ _ z1
        have ru : ∀ w, (binOp .mul 25 (.float .f64 z) (.float .f64 z)).run Try.prog w = .ok (.float .f64 u) w := fun w => run_float_arith w .mul 25 .f64 _ _ _ u1
        have HZ := Lib.hid z3
        have HU := Lib.hid u3
        clear z1 u1 z3 u3
        go_enter Try.func59, Try.ntmps59
        go_wp2_with fail
        go_loopg [7, 8] 8 (fun n v i wr => ∃ (j p : Nat), v = .float .f64 p ∧ i = .int .i64 (8 - (j : Int)) ∧ Hid (p = pC u j) ∧ LeP p ((11 * j : Nat) : Int) ∧ Hid (j + n = 8) ∧ w = wr)
        case atStart => exact ⟨0, 4607182418800017408, rfl, rfl, rfl, one_le, rfl, rfl⟩
        case round =>
          obtain ⟨j, p, rfl, rfl, hp, hl, hj, rfl⟩ := hrel
          have hj' := hj.out
          by_cases hlt : j ≤ 7
          · obtain ⟨m, d, r, m1, d1, r1, r2, r3⟩ := p_step u2 hl hlt hp.out
            obtain ⟨b1, b2⟩ := kk_bd j hlt
            have hk : (decide ((1 : Int) ≤ 8 - (j : Int))) = true := decide_eq_true (by omega)
            have HR : Hid (r = pC u (j + 1)) := r3
            have rm : ∀ w, (binOp .mul 25 (.float .f64 u) (.float .f64 p)).run Try.prog w = .ok (.float .f64 m) w := fun w => run_float_arith w .mul 25 .f64 _ _ _ m1
            have rd : ∀ w, (binOp .quo 25 (.float .f64 m) (.float .f64 (floatOfInt .f64 (2 * (8 - (j : Int)) * (2 * (8 - (j : Int)) + 1))))).run Try.prog w = .ok (.float .f64 d) w := fun w => run_float_arith w .quo 25 .f64 _ _ _ d1
            have rr : ∀ w, (binOp .sub 25 (.float .f64 4607182418800017408) (.float .f64 d)).run Try.prog w = .ok (.float .f64 r) w := fun w => run_float_arith w .sub 25 .f64 _ _ _ r1
            have HJ : Hid (j + 1 + (gk - 1) = 8) := by show _ = _; omega
            have hgk : 1 ≤ gk := by omega
            clear m1 d1 r1 r3 hj'
            go_wp2_with fail
            go_roundg (gk - 1)
            case measure => omega
            case rel => exact ⟨j + 1, r, rfl, by go_num, HR, r2, HJ, rfl⟩
          · have hj8 : j = 8 := by omega
            subst hj8
            obtain ⟨r, t1, t2, t3⟩ := t_step z2 hl
            have rt : ∀ w, (binOp .mul 25 (.float .f64 z) (.float .f64 p)).run Try.prog w = .ok (.float .f64 r) w := fun w => run_float_arith w .mul 25 .f64 _ _ _ t1
            have hsin : r = sinT f2 := by
              have h1 := HZ.out
              have h2 := HU.out
              have h3 := hp.out
              unfold sinT
              rw [← h2, ← h1, ← h3, t3]
            have rn : ∀ w, (Op.unary .neg (.float .f64 r)).run Try.prog w = .ok (.float .f64 (negW r)) w := fun _ => rfl
            have HF : Hid (sineW x = negW r) := by show _ = _; unfold sineW; rw [HX.out, if_pos (of_decide_eq_true C1.out), E1.out, E2.out, hsin]
            generalize negW r = r' at *
            clear t1 t2 t3 hsin hj' hlt
            go_wp2_with fail
            go_ret
            exact ⟨by rw [HF.out]; rfl, rfl⟩
    · rw [decide_eq_false c1] at hge
      have hgt := gtB .f64 f 4598175219545276416 hf (by decide)
      have E1 : Hid (lowC f = f) := by show _ = _; unfold lowC; rw [if_neg c1]
      have C1 := Lib.hid (decide_eq_false c1)
      by_cases c2 : S .f64 quartW < S .f64 f
      · rw [decide_eq_true c2] at hgt
        obtain ⟨g, g1, gle, g3⟩ := fold_step (fle.mono (show (1 : Int) ≤ 2 by omega) (by omega))
        have rg : ∀ w, (binOp .sub 25 (.float .f64 4602678819172646912) (.float .f64 f)).run Try.prog w = .ok (.float .f64 g) w := fun w => run_float_arith w .sub 25 .f64 _ _ _ g1
        have E2 : Hid (foldC f = g) := by show _ = _; unfold foldC; rw [if_pos c2, g3]
        clear c1 c2 g1 g3 hf
        obtain ⟨z, u, z1, u1, z2, u2, z3, u3⟩ := z_step gle
        have rz : ∀ w, (binOp .mul 25 (.float .f64 g) (.float .f64 4618760256179416344)).run Try.prog w = .ok (.float .f64 z) w := fun w => run_float_arith w .mul 25 .f64 _ _ _ z1
        have ru : ∀ w, (binOp .mul 25 (.float .f64 z) (.float .f64 z)).run Try.prog w = .ok (.float .f64 u) w := fun w => run_float_arith w .mul 25 .f64 _ _ _ u1
        have HZ := Lib.hid z3
        have HU := Lib.hid u3
        clear z1 u1 z3 u3
        go_enter Try.func59, Try.ntmps59
        go_wp2_with fail
        go_loopg [7, 8] 8 (fun n v i wr => ∃ (j p : Nat), v = .float .f64 p ∧ i = .int .i64 (8 - (j : Int)) ∧ Hid (p = pC u j) ∧ LeP p ((11 * j : Nat) : Int) ∧ Hid (j + n = 8) ∧ w = wr)
        case atStart => exact ⟨0, 4607182418800017408, rfl, rfl, rfl, one_le, rfl, rfl⟩
        case round =>
          obtain ⟨j, p, rfl, rfl, hp, hl, hj, rfl⟩ := hrel
          have hj' := hj.out
          by_cases hlt : j ≤ 7
          · obtain ⟨m, d, r, m1, d1, r1, r2, r3⟩ := p_step u2 hl hlt hp.out
            obtain ⟨b1, b2⟩ := kk_bd j hlt
            have hk : (decide ((1 : Int) ≤ 8 - (j : Int))) = true := decide_eq_true (by omega)
            have HR : Hid (r = pC u (j + 1)) := r3
            have rm : ∀ w, (binOp .mul 25 (.float .f64 u) (.float .f64 p)).run Try.prog w = .ok (.float .f64 m) w := fun w => run_float_arith w .mul 25 .f64 _ _ _ m1
            have rd : ∀ w, (binOp .quo 25 (.float .f64 m) (.float .f64 (floatOfInt .f64 (2 * (8 - (j : Int)) * (2 * (8 - (j : Int)) + 1))))).run Try.prog w = .ok (.float .f64 d) w := fun w => run_float_arith w .quo 25 .f64 _ _ _ d1
            have rr : ∀ w, (binOp .sub 25 (.float .f64 4607182418800017408) (.float .f64 d)).run Try.prog w = .ok (.float .f64 r) w := fun w => run_float_arith w .sub 25 .f64 _ _ _ r1
            have HJ : Hid (j + 1 + (gk - 1) = 8) := by show _ = _; omega
            have hgk : 1 ≤ gk := by omega
            clear m1 d1 r1 r3 hj'
            go_wp2_with fail
            go_roundg (gk - 1)
            case measure => omega
            case rel => exact ⟨j + 1, r, rfl, by go_num, HR, r2, HJ, rfl⟩
          · have hj8 : j = 8 := by omega
            subst hj8
            obtain ⟨r, t1, t2, t3⟩ := t_step z2 hl
            have rt : ∀ w, (binOp .mul 25 (.float .f64 z) (.float .f64 p)).run Try.prog w = .ok (.float .f64 r) w := fun w => run_float_arith w .mul 25 .f64 _ _ _ t1
            have hsin : r = sinT g := by
              have h1 := HZ.out
              have h2 := HU.out
              have h3 := hp.out
              unfold sinT
              rw [← h2, ← h1, ← h3, t3]
            have HF : Hid (sineW x = r) := by show _ = _; unfold sineW; rw [HX.out, if_neg (of_decide_eq_false C1.out), E1.out, E2.out, hsin]
            clear t1 t2 t3 hsin hj' hlt
            go_wp2_with fail
            go_ret
            exact ⟨by rw [HF.out]; rfl, rfl⟩
      · rw [decide_eq_false c2] at hgt
        have E2 : Hid (foldC f = f) := by show _ = _; unfold foldC; rw [if_neg c2]
        have fle := fle.mono (show (1 : Int) ≤ 3 by omega) (by omega)
        clear c1 c2 hf
        obtain ⟨z, u, z1, u1, z2, u2, z3, u3⟩ := z_step fle
        have rz : ∀ w, (binOp .mul 25 (.float .f64 f) (.float .f64 4618760256179416344)).run Try.prog w = .ok (.float .f64 z) w := fun w => run_float_arith w .mul 25 .f64 _ _ _ z1
        have ru : ∀ w, (binOp .mul 25 (.float .f64 z) (.float .f64 z)).run Try.prog w = .ok (.float .f64 u) w := fun w => run_float_arith w .mul 25 .f64 _ _ _ u1
        have HZ := Lib.hid z3
        have HU := Lib.hid u3
        clear z1 u1 z3 u3
        go_enter Try.func59, Try.ntmps59
        go_wp2_with fail
        go_loopg [7, 8] 8 (fun n v i wr => ∃ (j p : Nat), v = .float .f64 p ∧ i = .int .i64 (8 - (j : Int)) ∧ Hid (p = pC u j) ∧ LeP p ((11 * j : Nat) : Int) ∧ Hid (j + n = 8) ∧ w = wr)
        case atStart => exact ⟨0, 4607182418800017408, rfl, rfl, rfl, one_le, rfl, rfl⟩
        case round =>
          obtain ⟨j, p, rfl, rfl, hp, hl, hj, rfl⟩ := hrel
          have hj' := hj.out
          by_cases hlt : j ≤ 7
          · obtain ⟨m, d, r, m1, d1, r1, r2, r3⟩ := p_step u2 hl hlt hp.out
            obtain ⟨b1, b2⟩ := kk_bd j hlt
            have hk : (decide ((1 : Int) ≤ 8 - (j : Int))) = true := decide_eq_true (by omega)
            have HR : Hid (r = pC u (j + 1)) := r3
            have rm : ∀ w, (binOp .mul 25 (.float .f64 u) (.float .f64 p)).run Try.prog w = .ok (.float .f64 m) w := fun w => run_float_arith w .mul 25 .f64 _ _ _ m1
            have rd : ∀ w, (binOp .quo 25 (.float .f64 m) (.float .f64 (floatOfInt .f64 (2 * (8 - (j : Int)) * (2 * (8 - (j : Int)) + 1))))).run Try.prog w = .ok (.float .f64 d) w := fun w => run_float_arith w .quo 25 .f64 _ _ _ d1
            have rr : ∀ w, (binOp .sub 25 (.float .f64 4607182418800017408) (.float .f64 d)).run Try.prog w = .ok (.float .f64 r) w := fun w => run_float_arith w .sub 25 .f64 _ _ _ r1
            have HJ : Hid (j + 1 + (gk - 1) = 8) := by show _ = _; omega
            have hgk : 1 ≤ gk := by omega
            clear m1 d1 r1 r3 hj'
            go_wp2_with fail
            go_roundg (gk - 1)
            case measure => omega
            case rel => exact ⟨j + 1, r, rfl, by go_num, HR, r2, HJ, rfl⟩
          · have hj8 : j = 8 := by omega
            subst hj8
            obtain ⟨r, t1, t2, t3⟩ := t_step z2 hl
            have rt : ∀ w, (binOp .mul 25 (.float .f64 z) (.float .f64 p)).run Try.prog w = .ok (.float .f64 r) w := fun w => run_float_arith w .mul 25 .f64 _ _ _ t1
            have hsin : r = sinT f := by
              have h1 := HZ.out
              have h2 := HU.out
              have h3 := hp.out
              unfold sinT
              rw [← h2, ← h1, ← h3, t3]
            have HF : Hid (sineW x = r) := by show _ = _; unfold sineW; rw [HX.out, if_neg (of_decide_eq_false C1.out), E1.out, E2.out, hsin]
            clear t1 t2 t3 hsin hj' hlt
            go_wp2_with fail
            go_ret
            exact ⟨by rw [HF.out]; rfl, rfl⟩
theorem specSine_none (x : Nat) (hf : fin .f64 x = false) (w : World) :
    Calls Try.prog 59 #[.float .f64 x] w fun e w' => e = .returned (.float .f64 9221120237041090561) ∧ Drawn w w' := by
  have ss : floatBits .sub .f64 x x = none := by rw [sub_self .f64 x, hf]; rfl
  have r0 : ∀ w, (binOp .sub 25 (.float .f64 x) (.float .f64 x)).run Try.prog w = .ok (.float .f64 (drawNan .f64 x x w)) w.drew := fun w => run_arith_nan w .sub rfl 25 .f64 x x ss
  have o0 : (FloatKind.f64.format.order (drawNan .f64 x x w) 0 != some .eq) = true := by rw [order_nan .f64 _ _ (.inl (drawNan_nan .f64 x x w))]; rfl
  clear ss hf
  go_enter Try.func59, Try.ntmps59
  go_wp2_with fail
  refine (mNaN_any _).mono ?_
  rintro e w' ⟨rfl, rfl⟩
  clear o0
  go_wp2_with fail
  go_ret
  exact ⟨rfl, Drawn.one _⟩

theorem specSine_big (x : Nat) (hf : fin .f64 x = true) (hl : x < 18446744073709551616) (hr : ¬ x % 9223372036854775808 < 4841369599423283200) (w : World) :
    Calls Try.prog 59 #[.float .f64 x] w fun e w' => e = .returned (.float .f64 0) ∧ w = w' := by
  have ss : floatBits .sub .f64 x x = some 0 := by rw [sub_self .f64 x, hf]; rfl
  have r0 : ∀ w, (binOp .sub 25 (.float .f64 x) (.float .f64 x)).run Try.prog w = .ok (.float .f64 0) w := fun w => run_float_arith w .sub 25 .f64 _ _ _ ss
  have o0 : (FloatKind.f64.format.order 0 0 != some .eq) = false := by decide
  have hn := fin_num hf
  have o1 := geB .f64 x 4841369599423283200 hn (by decide)
  have o2 := leB .f64 x 14064741636278059008 hn (by decide)
  rw [S64 x hl, S64 4841369599423283200 (by decide), if_pos (by decide : 4841369599423283200 < 9223372036854775808)] at o1
  rw [S64 x hl, S64 14064741636278059008 (by decide), if_neg (by decide : ¬ 14064741636278059008 < 9223372036854775808)] at o2
  by_cases hp : x < 9223372036854775808
  · rw [if_pos hp, decide_eq_true (by omega)] at o1
    clear ss hf hn o2 hp hr hl
    go_enter Try.func59, Try.ntmps59
    go_wp2_with fail
    go_ret
    exact ⟨rfl, rfl⟩
  · rw [if_neg hp, decide_eq_false (by omega)] at o1
    rw [if_neg hp, decide_eq_true (by omega)] at o2
    clear ss hf hn hp hr hl
    go_enter Try.func59, Try.ntmps59
    go_wp2_with fail
    go_ret
    exact ⟨rfl, rfl⟩
def sinOut (a : Nat) : Option Nat :=
  if fin .f32 a then (if W a % 9223372036854775808 < 4841369599423283200 then floatToFloatBits .f64 (sineW (W a)) .f32 else some 0) else none

/-- the three kinds of arguments -/
theorem sin_kinds (a : Nat) : (fin .f32 a = false ∧ sinOut a = none) ∨ (fin .f32 a = true ∧ ¬ W a % 9223372036854775808 < 4841369599423283200 ∧ sinOut a = some 0) ∨
    (fin .f32 a = true ∧ W a % 9223372036854775808 < 4841369599423283200 ∧ ∃ v, floatToFloatBits .f64 (sineW (W a)) .f32 = some v ∧ v < 4294967296 ∧ nan .f32 v = false ∧ sinOut a = some v) := by
  cases hf : fin .f32 a
  · exact .inl ⟨rfl, by unfold sinOut; rw [hf]; rfl⟩
  · right
    by_cases h : W a % 9223372036854775808 < 4841369599423283200
    · right
      obtain ⟨v, v1, v2, v3⟩ := narrow_ok (sineW_le (le52 (W_lt a) h)) (by omega)
      exact ⟨rfl, h, v, v1, v2, v3, by unfold sinOut; rw [hf, if_pos rfl, if_pos h, v1]⟩
    · left
      exact ⟨rfl, h, by unfold sinOut; rw [hf, if_pos rfl, if_neg h]⟩

theorem specSinN_any (a : Nat) (w : World) :
    Calls Try.prog 36 #[.float .f32 a] w fun e w' => ∃ v, e = .returned (.float .f32 v) ∧ Is (sinOut a) v ∧ Drawn w w' := by
  rcases sin_kinds a with ⟨hf, ho⟩ | ⟨hf, hb, ho⟩ | ⟨hf, hb, v, v1, v2, v3, ho⟩
  · rw [ho]
    cases hn : nan .f32 a
    · have hW := widen a hn
      have hx : fin .f64 (W a) = false := by rw [fin_W a hn, hf]
      generalize W a = x at *
      clear hf hn ho
      go_enter Try.func36, Try.ntmps36
      go_wp2_with fail
      refine (specSine_none x hx _).mono ?_
      rintro e w1 ⟨rfl, d1⟩
      clear hx
      go_wp2_with fail
      refine (specNarrow_nan _ (by decide) _).mono ?_
      rintro e w2 ⟨v, rfl, hv, d2⟩
      have HV : Hid (Is none v) := hv
      clear hv
      go_wp2_with fail
      go_ret
      exact ⟨_, rfl, HV.out, d1.trans d2⟩
    · have hW := narrowed a hn
      have hx := nan_fin (convNan_nan .f64 a w)
      clear hf hn ho
      go_enter Try.func36, Try.ntmps36
      go_wp2_with fail
      refine (specSine_none _ hx _).mono ?_
      rintro e w1 ⟨rfl, d1⟩
      clear hx
      go_wp2_with fail
      refine (specNarrow_nan _ (by decide) _).mono ?_
      rintro e w2 ⟨v, rfl, hv, d2⟩
      have HV : Hid (Is none v) := hv
      clear hv
      go_wp2_with fail
      go_ret
      exact ⟨_, rfl, HV.out, (Drawn.one w).trans (d1.trans d2)⟩
  · rw [ho]
    have hn := fin_num hf
    have hW := widen a hn
    have hx : fin .f64 (W a) = true := by rw [fin_W a hn, hf]
    have hl := W_lt a
    generalize W a = x at *
    clear hf hn ho
    go_enter Try.func36, Try.ntmps36
    go_wp2_with fail
    refine (specSine_big x hx hl hb _).mono ?_
    rintro e w1 ⟨rfl, rfl⟩
    clear hx hl hb
    go_wp2_with fail
    refine (specNarrow_some 0 0 (by decide +kernel) _).mono ?_
    rintro e w2 ⟨rfl, rfl⟩
    go_wp2_with fail
    go_ret
    exact ⟨_, rfl, ⟨rfl, by decide, by decide⟩, Drawn.refl _⟩
  · rw [ho]
    have hW := widen a (fin_num hf)
    have hx := le52 (W_lt a) hb
    have HI : Hid (Is (some v) v) := ⟨rfl, v3, v2⟩
    generalize W a = x at *
    clear hf ho v2 v3
    go_enter Try.func36, Try.ntmps36
    go_wp2_with fail
    refine (specSine_any x hx hb _).mono ?_
    rintro e w1 ⟨rfl, rfl⟩
    clear hx hb
    go_wp2_with fail
    refine (specNarrow_some _ v v1 _).mono ?_
    rintro e w2 ⟨rfl, rfl⟩
    clear v1
    go_wp2_with fail
    go_ret
    exact ⟨_, rfl, HI.out, Drawn.refl _⟩

theorem implSinN_any (a : Nat) (w : World) :
    Calls Try.prog 16 #[.float .f32 a] w fun e w' => ∃ v, e = .returned (.float .f32 v) ∧ Is (sinOut a) v ∧ Drawn w w' := by
  have hN := narrow_nan 9221120237041090561 (by decide)
  rcases sin_kinds a with ⟨hf, ho⟩ | ⟨hf, hb, ho⟩ | ⟨hf, hb, v, v1, v2, v3, ho⟩
  · rw [ho]
    cases hn : nan .f32 a
    · have hW := widen a hn
      have hx : fin .f64 (W a) = false := by rw [fin_W a hn, hf]
      have hl := W_lt a
      generalize W a = x at *
      have HX := Lib.hid hx
      clear hf hn ho hx
      go_enter Try.func16, Try.ntmps16
      go_wp2_with fail
      refine (isFinite64_any x hl _).mono ?_
      rintro e w1 ⟨rfl, rfl⟩
      rw [HX.out]
      go_wp2_with fail
      refine (mNaN_any _).mono ?_
      rintro e w1 ⟨rfl, rfl⟩
      have hk := Lib.hid (convNan_nan .f32 9221120237041090561 w)
      go_wp2_with fail
      go_ret
      exact ⟨_, rfl, hk.out, Drawn.one _⟩
    · have hW := narrowed a hn
      have hx := nan_fin (convNan_nan .f64 a w)
      have hl := convNan_lt .f64 a w
      generalize hd : convNan .f64 a w = d at *
      have HX := Lib.hid hx
      have HD := Lib.hid hd
      clear hf hn ho hx hd
      go_enter Try.func16, Try.ntmps16
      go_wp2_with fail
      rw [HD.out]
      refine (isFinite64_any d hl _).mono ?_
      rintro e w1 ⟨rfl, rfl⟩
      rw [HX.out]
      go_wp2_with fail
      refine (mNaN_any _).mono ?_
      rintro e w1 ⟨rfl, rfl⟩
      have hk := Lib.hid (convNan_nan .f32 9221120237041090561 w.drew)
      go_wp2_with fail
      go_ret
      exact ⟨_, rfl, hk.out, (Drawn.one w).trans (Drawn.one _)⟩
  · rw [ho]
    have hn := fin_num hf
    have hW := widen a hn
    have hx : fin .f64 (W a) = true := by rw [fin_W a hn, hf]
    have hl := W_lt a
    have hnx := fin_num hx
    have hny : nan .f64 (W a % 9223372036854775808) = false := by
      have e : nan .f64 (W a % 9223372036854775808) = nan .f64 (W a) := by
        show decide (_ < W a % 9223372036854775808 % 9223372036854775808) = decide (_ < W a % 9223372036854775808)
        rw [Nat.mod_mod]
      rw [e]; exact hnx
    have o1 := geB .f64 (W a % 9223372036854775808) 4841369599423283200 hny (by decide)
    have hm : W a % 9223372036854775808 < 9223372036854775808 := Nat.mod_lt _ (by decide)
    rw [S64 (W a % 9223372036854775808) (by omega), if_pos hm, S64 4841369599423283200 (by decide), if_pos (by decide : 4841369599423283200 < 9223372036854775808), decide_eq_true (by omega)] at o1
    generalize W a = x at *
    have HX := Lib.hid hx
    generalize hy : x % 9223372036854775808 = y at *
    have HY := Lib.hid hy
    clear hf hn ho hx hnx hny hm hb hy
    go_enter Try.func16, Try.ntmps16
    go_wp2_with fail
    refine (isFinite64_any x hl _).mono ?_
    rintro e w1 ⟨rfl, rfl⟩
    rw [HX.out]
    go_wp2_with fail
    refine (abs_any x hl _).mono ?_
    rintro e w1 ⟨rfl, rfl⟩
    rw [HY.out]
    go_wp2_with fail
    go_ret
    exact ⟨_, rfl, ⟨rfl, by decide, by decide⟩, Drawn.refl _⟩
  · rw [ho]
    have hn := fin_num hf
    have hW := widen a hn
    have hx : fin .f64 (W a) = true := by rw [fin_W a hn, hf]
    have hl := W_lt a
    have h52 := le52 hl hb
    have HI : Hid (Is (some v) v) := ⟨rfl, v3, v2⟩
    have hnx := fin_num hx
    have hny : nan .f64 (W a % 9223372036854775808) = false := by
      have e : nan .f64 (W a % 9223372036854775808) = nan .f64 (W a) := by
        show decide (_ < W a % 9223372036854775808 % 9223372036854775808) = decide (_ < W a % 9223372036854775808)
        rw [Nat.mod_mod]
      rw [e]; exact hnx
    have o1 := geB .f64 (W a % 9223372036854775808) 4841369599423283200 hny (by decide)
    have hm : W a % 9223372036854775808 < 9223372036854775808 := Nat.mod_lt _ (by decide)
    rw [S64 (W a % 9223372036854775808) (by omega), if_pos hm, S64 4841369599423283200 (by decide), if_pos (by decide : 4841369599423283200 < 9223372036854775808), decide_eq_false (by omega)] at o1
    have hM := narrow_some _ v v1
    generalize W a = x at *
    have HX := Lib.hid hx
    generalize hy : x % 9223372036854775808 = y at *
    have HY := Lib.hid hy
    clear hf hn ho hx hnx hny hm hb hy v1 v2 v3
    go_enter Try.func16, Try.ntmps16
    go_wp2_with fail
    refine (isFinite64_any x hl _).mono ?_
    rintro e w1 ⟨rfl, rfl⟩
    rw [HX.out]
    go_wp2_with fail
    refine (abs_any x hl _).mono ?_
    rintro e w1 ⟨rfl, rfl⟩
    rw [HY.out]
    go_wp2_with fail
    refine (implSine_any x h52 _).mono ?_
    rintro e w1 ⟨rfl, rfl⟩
    clear h52
    go_wp2_with fail
    go_ret
    exact ⟨_, rfl, HI.out, Drawn.refl _⟩
theorem fnExactSineTurns_walk (a : Nat) (_wa : (Lit.float .f32 a).wf = true) (w : World) :
    Calls Try.prog 4 #[.float .f32 a] w fun e w' => e = .returned (.bool true) ∧ Below w.heap.size w w' := by
  go_enter Try.func4, Try.ntmps4
  go_wp2_with fail
  go_enter Try.func15, Try.ntmps15
  go_wp2_with fail
  refine (specSinN_any a _).mono ?_
  rintro e w1 ⟨u, rfl, hu, d1⟩
  go_wp2_with fail
  refine (implSinN_any a _).mono ?_
  rintro e w2 ⟨v, rfl, hv, d2⟩
  rcases hu.two hv with ⟨rfl, hn⟩ | ⟨hnu, hnv⟩
  · have hW := widen u hn
    have hq := (W_spec u hn).2.1
    have hr := W_lt u
    clear hn hu hv
    go_wp2_with fail
    refine (sameFloat_eq (W u) hr hq _).mono ?_
    rintro e w3 ⟨rfl, rfl⟩
    go_wp2_with fail
    go_ret
    exact ⟨rfl, (d1.trans d2).below _⟩
  · have hW := narrowed u hnu
    have hW' := narrowed v hnv
    have hx := fun w => convNan_nan .f64 u w
    have hz := fun w => convNan_nan .f64 v w
    clear hnu hnv hu hv
    go_wp2_with fail
    refine (sameFloat_nan _ _ (hz _) (hx _) _).mono ?_
    rintro e w3 ⟨rfl, rfl⟩
    go_wp2_with fail
    go_ret
    exact ⟨rfl, ((d1.trans d2).trans ((Drawn.one _).trans (Drawn.one _))).below _⟩
end Go.Proofs.Ytmgmelbpggedkac
