/-
  Contracts of the sine of a float64 number of turns in the program and in its model, and of SineTurns with the walk of its exact law. Conditions: arguments are bits that fit their kind.
-/
import Derived.Test.YtfmicahibmpjmaaDoorLogW
import Derived.Test.YtfmicahibmpjmaaDoorSin
namespace Go.Proofs.YtfmicahibmpjmaaDoor
open Go.RowKit Flt

theorem partOf_any (x : Nat) (hx : LeP x 52) (w : World) :
    Calls Tryd.prog 85 #[.float .f64 x] w fun e w' => e = .returned (.float .f64 (partC x)) ∧ w = w' := by
  obtain ⟨s1, s2⟩ := frac_step hx
  have ht := toInt64 x (truncI x) (trunc_spec hx).1
  have rs : ∀ w, (binOp .sub 44 (.float .f64 x) (.float .f64 (floatOfInt .f64 (truncI x)))).run Tryd.prog w = .ok (.float .f64 (fracC x)) w := fun w => run_float_arith w .sub 44 .f64 _ _ _ s1
  have hc := ltB .f64 (fracC x) 0 s2.num (by decide)
  have S0 : S .f64 0 = 0 := by decide
  rw [S0] at hc
  by_cases c : S .f64 (fracC x) < 0
  · rw [decide_eq_true c] at hc
    obtain ⟨r, r1, r2, r3⟩ := part_step s2
    have ra : ∀ w, (binOp .add 44 (.float .f64 (fracC x)) (.float .f64 4607182418800017408)).run Tryd.prog w = .ok (.float .f64 r) w := fun w => run_float_arith w .add 44 .f64 _ _ _ r1
    have HP : Hid (partC x = r) := by show _ = _; unfold partC; rw [if_pos c, r3]
    generalize fracC x = f at *
    generalize truncI x = t at *
    clear s1 s2 c r1 r2 r3 hx S0
    go_enter Tryd.func85, Tryd.ntmps85
    go_wp2_with fail
    go_ret
    exact ⟨by rw [HP.out]; rfl, rfl⟩
  · rw [decide_eq_false c] at hc
    have HP : Hid (partC x = fracC x) := by show _ = _; unfold partC; rw [if_neg c]
    generalize fracC x = f at *
    generalize truncI x = t at *
    clear s1 s2 c hx S0
    go_enter Tryd.func85, Tryd.ntmps85
    go_wp2_with fail
    go_ret
    exact ⟨by rw [HP.out]; rfl, rfl⟩
set_option maxHeartbeats 1600000 in
theorem implSine_any (x : Nat) (hx : LeP x 52) (w : World) :
    Calls Tryd.prog 57 #[.float .f64 x] w fun e w' => e = .returned (.float .f64 (sineW x)) ∧ w = w' := by
  have fle := partC_le hx
  obtain ⟨f, hfx⟩ : ∃ f, partC x = f := ⟨_, rfl⟩
  rw [hfx] at fle
  have HX := Lib.hid hfx
  have HL := Lib.hid hx
  clear hfx hx
  have hf := fle.num
  have hge := geB .f64 f 4602678819172646912 hf (by decide)
  by_cases c1 : S .f64 halfW ≤ S .f64 f
  · rw [decide_eq_true c1] at hge
    obtain ⟨f2, f21, f2le, f23⟩ := low_step fle
    have rl : ∀ w, (binOp .sub 44 (.float .f64 f) (.float .f64 4602678819172646912)).run Tryd.prog w = .ok (.float .f64 f2) w := fun w => run_float_arith w .sub 44 .f64 _ _ _ f21
    have hgt := gtB .f64 f2 4598175219545276416 f2le.num (by decide)
    have E1 : Hid (lowC f = f2) := by show _ = _; unfold lowC; rw [if_pos c1, f23]
    have C1 := Lib.hid (decide_eq_true c1)
    by_cases c2 : S .f64 quartW < S .f64 f2
    · rw [decide_eq_true c2] at hgt
      obtain ⟨g, g1, gle, g3⟩ := fold_step f2le
      have rg : ∀ w, (binOp .sub 44 (.float .f64 4602678819172646912) (.float .f64 f2)).run Tryd.prog w = .ok (.float .f64 g) w := fun w => run_float_arith w .sub 44 .f64 _ _ _ g1
      have E2 : Hid (foldC f2 = g) := by show _ = _; unfold foldC; rw [if_pos c2, g3]
      clear c1 c2 f21 f23 g1 g3 hf
      obtain ⟨z, u, z1, u1, z2, u2, z3, u3⟩ := z_step gle
      have rz : ∀ w, (binOp .mul 44 (.float .f64 g) (.float .f64 4618760256179416344)).run Tryd.prog w = .ok (.float .f64 z) w := fun w => run_float_arith w .mul 44 .f64 _ _ _ z1
      have ru : ∀ w, (binOp .mul 44 (.float .f64 z) (.float .f64 z)).run Tryd.prog w = .ok (.float .f64 u) w := fun w => run_float_arith w .mul 44 .f64 _ _ _ u1
      have HZ := Lib.hid z3
      have HU := Lib.hid u3
      clear z1 u1 z3 u3
      go_enter Tryd.func57, Tryd.ntmps57
      go_wp2_with fail
      refine (partOf_any x HL.out _).mono ?_
      rintro e w' ⟨rfl, rfl⟩
      rw [HX.out]
      go_wp2_with fail
      go_loopg [7, 8] 8 (fun n v i wr => ∃ (j p : Nat), v = .float .f64 p ∧ i = .int .i64 (8 - (j : Int)) ∧ Hid (p = pC u j) ∧ LeP p ((11 * j : Nat) : Int) ∧ Hid (j + n = 8) ∧ w = wr)
      case atStart => exact ⟨0, 4607182418800017408, rfl, rfl, rfl, one_le, rfl, rfl⟩
      case round =>
        obtain ⟨j, p, rfl, rfl, hp, hl, hj, rfl⟩ := hrel
        have hj' := hj.out
        by_cases hlt : j ≤ 7
        · obtain ⟨m, d, r, m1, d1, r1, r2, r3⟩ := p_step u2 hl hlt hp.out
          obtain ⟨b1, b2⟩ := kk_bd j hlt
          have hk : (decide ((1 : Int) ≤ 8 - (j : Int))) = true := decide_eq_true (by omega)
          have HR : Hid (r = pC u (j + 1)) := r3
          have rm : ∀ w, (binOp .mul 44 (.float .f64 u) (.float .f64 p)).run Tryd.prog w = .ok (.float .f64 m) w := fun w => run_float_arith w .mul 44 .f64 _ _ _ m1
          have rd : ∀ w, (binOp .quo 44 (.float .f64 m) (.float .f64 (floatOfInt .f64 (2 * (8 - (j : Int)) * (2 * (8 - (j : Int)) + 1))))).run Tryd.prog w = .ok (.float .f64 d) w := fun w => run_float_arith w .quo 44 .f64 _ _ _ d1
          have rr : ∀ w, (binOp .sub 44 (.float .f64 4607182418800017408) (.float .f64 d)).run Tryd.prog w = .ok (.float .f64 r) w := fun w => run_float_arith w .sub 44 .f64 _ _ _ r1
          have HJ : Hid (j + 1 + (gk - 1) = 8) := by show _ = _; omega
          have hgk : 1 ≤ gk := by omega
          clear m1 d1 r1 r3 hj'
          go_wp2_with fail
          go_roundg (gk - 1)
          case measure => omega
          case rel => exact ⟨j + 1, r, rfl, by go_num, HR, r2, HJ, rfl⟩
        · have hj8 : j = 8 := by omega
          subst hj8
          obtain ⟨r, t1, t2, t3⟩ := t_step z2 hl
          have rt : ∀ w, (binOp .mul 44 (.float .f64 z) (.float .f64 p)).run Tryd.prog w = .ok (.float .f64 r) w := fun w => run_float_arith w .mul 44 .f64 _ _ _ t1
          have hsin : r = sinT g := by
            have h1 := HZ.out
            have h2 := HU.out
            have h3 := hp.out
            unfold sinT
            rw [← h2, ← h1, ← h3, t3]
          have rn : ∀ w, (Op.unary .neg (.float .f64 r)).run Tryd.prog w = .ok (.float .f64 (negW r)) w := fun _ => rfl
          have HF : Hid (sineW x = negW r) := by show _ = _; unfold sineW; rw [HX.out, if_pos (of_decide_eq_true C1.out), E1.out, E2.out, hsin]
          generalize negW r = r' at *
          clear t1 t2 t3 hsin hj' hlt
          go_wp2_with fail
          go_ret
          exact ⟨by rw [HF.out]; rfl, rfl⟩
    · rw [decide_eq_false c2] at hgt
      have E2 : Hid (foldC f2 = f2) := by show _ = _; unfold foldC; rw [if_neg c2]
      have f2le := f2le.mono (show (2 : Int) ≤ 3 by omega) (by omega)
      clear c1 c2 f21 f23 hf
      obtain ⟨z, u, z1, u1, z2, u2, z3, u3⟩ := z_step f2le
      have rz : ∀ w, (binOp .mul 44 (.float .f64 f2) (.float .f64 4618760256179416344)).run Tryd.prog w = .ok (.float .f64 z) w := fun w => run_float_arith w .mul 44 .f64 _ _ _ z1
      have ru : ∀ w, (binOp .mul 44 (.float .f64 z) (.float .f64 z)).run Tryd.prog w = .ok (.float .f64 u) w := fun w => run_float_arith w .mul 44 .f64 _ _ _ u1
      have HZ := Lib.hid z3
      have HU := Lib.hid u3
      clear z1 u1 z3 u3
      go_enter Tryd.func57, Tryd.ntmps57
      go_wp2_with fail
      refine (partOf_any x HL.out _).mono ?_
      rintro e w' ⟨rfl, rfl⟩
      rw [HX.out]
      go_wp2_with fail
      go_loopg [7, 8] 8 (fun n v i wr => ∃ (j p : Nat), v = .float .f64 p ∧ i = .int .i64 (8 - (j : Int)) ∧ Hid (p = pC u j) ∧ LeP p ((11 * j : Nat) : Int) ∧ Hid (j + n = 8) ∧ w = wr)
      case atStart => exact ⟨0, 4607182418800017408, rfl, rfl, rfl, one_le, rfl, rfl⟩
      case round =>
        obtain ⟨j, p, rfl, rfl, hp, hl, hj, rfl⟩ := hrel
        have hj' := hj.out
        by_cases hlt : j ≤ 7
        · obtain ⟨m, d, r, m1, d1, r1, r2, r3⟩ := p_step u2 hl hlt hp.out
          obtain ⟨b1, b2⟩ := kk_bd j hlt
          have hk : (decide ((1 : Int) ≤ 8 - (j : Int))) = true := decide_eq_true (by omega)
          have HR : Hid (r = pC u (j + 1)) := r3
          have rm : ∀ w, (binOp .mul 44 (.float .f64 u) (.float .f64 p)).run Tryd.prog w = .ok (.float .f64 m) w := fun w => run_float_arith w .mul 44 .f64 _ _ _ m1
          have rd : ∀ w, (binOp .quo 44 (.float .f64 m) (.float .f64 (floatOfInt .f64 (2 * (8 - (j : Int)) * (2 * (8 - (j : Int)) + 1))))).run Tryd.prog w = .ok (.float .f64 d) w := fun w => run_float_arith w .quo 44 .f64 _ _ _ d1
          have rr : ∀ w, (binOp .sub 44 (.float .f64 4607182418800017408) (.float .f64 d)).run Tryd.prog w = .ok (.float .f64 r) w := fun w => run_float_arith w .sub 44 .f64 _ _ _ r1
          have HJ : Hid (j + 1 + (gk - 1) = 8) := by show _ = _; omega
          have hgk : 1 ≤ gk := by omega
          clear m1 d1 r1 r3 hj'
          go_wp2_with fail
          go_roundg (gk - 1)
          case measure => omega
          case rel => exact ⟨j + 1, r, rfl, by go_num, HR, r2, HJ, rfl⟩
        · have hj8 : j = 8 := by omega
          subst hj8
          obtain ⟨r, t1, t2, t3⟩ := t_step z2 hl
          have rt : ∀ w, (binOp .mul 44 (.float .f64 z) (.float .f64 p)).run Tryd.prog w = .ok (.float .f64 r) w := fun w => run_float_arith w .mul 44 .f64 _ _ _ t1
          have hsin : r = sinT f2 := by
            have h1 := HZ.out
            have h2 := HU.out
            have h3 := hp.out
            unfold sinT
            rw [← h2, ← h1, ← h3, t3]
          have rn : ∀ w, (Op.unary .neg (.float .f64 r)).run Tryd.prog w = .ok (.float .f64 (negW r)) w := fun _ => rfl
          have HF : Hid (sineW x = negW r) := by show _ = _; unfold sineW; rw [HX.out, if_pos (of_decide_eq_true C1.out), E1.out, E2.out, hsin]
          generalize negW r = r' at *
          clear t1 t2 t3 hsin hj' hlt
          go_wp2_with fail
          go_ret
          exact ⟨by rw [HF.out]; rfl, rfl⟩
  · rw [decide_eq_false c1] at hge
    have hgt := gtB .f64 f 4598175219545276416 hf (by decide)
    have E1 : Hid (lowC f = f) := by show _ = _; unfold lowC; rw [if_neg c1]
    have C1 := Lib.hid (decide_eq_false c1)
    by_cases c2 : S .f64 quartW < S .f64 f
    · rw [decide_eq_true c2] at hgt
      obtain ⟨g, g1, gle, g3⟩ := fold_step (fle.mono (show (1 : Int) ≤ 2 by omega) (by omega))
      have rg : ∀ w, (binOp .sub 44 (.float .f64 4602678819172646912) (.float .f64 f)).run Tryd.prog w = .ok (.float .f64 g) w := fun w => run_float_arith w .sub 44 .f64 _ _ _ g1
      have E2 : Hid (foldC f = g) := by show _ = _; unfold foldC; rw [if_pos c2, g3]
      clear c1 c2 g1 g3 hf
      obtain ⟨z, u, z1, u1, z2, u2, z3, u3⟩ := z_step gle
      have rz : ∀ w, (binOp .mul 44 (.float .f64 g) (.float .f64 4618760256179416344)).run Tryd.prog w = .ok (.float .f64 z) w := fun w => run_float_arith w .mul 44 .f64 _ _ _ z1
      have ru : ∀ w, (binOp .mul 44 (.float .f64 z) (.float .f64 z)).run Tryd.prog w = .ok (.float .f64 u) w := fun w => run_float_arith w .mul 44 .f64 _ _ _ u1
      have HZ := Lib.hid z3
      have HU := Lib.hid u3
      clear z1 u1 z3 u3
      go_enter Tryd.func57, Tryd.ntmps57
      go_wp2_with fail
      refine (partOf_any x HL.out _).mono ?_
      rintro e w' ⟨rfl, rfl⟩
      rw [HX.out]
      go_wp2_with fail
      go_loopg [7, 8] 8 (fun n v i wr => ∃ (j p : Nat), v = .float .f64 p ∧ i = .int .i64 (8 - (j : Int)) ∧ Hid (p = pC u j) ∧ LeP p ((11 * j : Nat) : Int) ∧ Hid (j + n = 8) ∧ w = wr)
      case atStart => exact ⟨0, 4607182418800017408, rfl, rfl, rfl, one_le, rfl, rfl⟩
      case round =>
        obtain ⟨j, p, rfl, rfl, hp, hl, hj, rfl⟩ := hrel
        have hj' := hj.out
        by_cases hlt : j ≤ 7
        · obtain ⟨m, d, r, m1, d1, r1, r2, r3⟩ := p_step u2 hl hlt hp.out
          obtain ⟨b1, b2⟩ := kk_bd j hlt
          have hk : (decide ((1 : Int) ≤ 8 - (j : Int))) = true := decide_eq_true (by omega)
          have HR : Hid (r = pC u (j + 1)) := r3
          have rm : ∀ w, (binOp .mul 44 (.float .f64 u) (.float .f64 p)).run Tryd.prog w = .ok (.float .f64 m) w := fun w => run_float_arith w .mul 44 .f64 _ _ _ m1
          have rd : ∀ w, (binOp .quo 44 (.float .f64 m) (.float .f64 (floatOfInt .f64 (2 * (8 - (j : Int)) * (2 * (8 - (j : Int)) + 1))))).run Tryd.prog w = .ok (.float .f64 d) w := fun w => run_float_arith w .quo 44 .f64 _ _ _ d1
          have rr : ∀ w, (binOp .sub 44 (.float .f64 4607182418800017408) (.float .f64 d)).run Tryd.prog w = .ok (.float .f64 r) w := fun w => run_float_arith w .sub 44 .f64 _ _ _ r1
          have HJ : Hid (j + 1 + (gk - 1) = 8) := by show _ = _; omega
          have hgk : 1 ≤ gk := by omega
          clear m1 d1 r1 r3 hj'
          go_wp2_with fail
          go_roundg (gk - 1)
          case measure => omega
          case rel => exact ⟨j + 1, r, rfl, by go_num, HR, r2, HJ, rfl⟩
        · have hj8 : j = 8 := by omega
          subst hj8
          obtain ⟨r, t1, t2, t3⟩ := t_step z2 hl
          have rt : ∀ w, (binOp .mul 44 (.float .f64 z) (.float .f64 p)).run Tryd.prog w = .ok (.float .f64 r) w := fun w => run_float_arith w .mul 44 .f64 _ _ _ t1
          have hsin : r = sinT g := by
            have h1 := HZ.out
            have h2 := HU.out
            have h3 := hp.out
            unfold sinT
            rw [← h2, ← h1, ← h3, t3]
          have HF : Hid (sineW x = r) := by show _ = _; unfold sineW; rw [HX.out, if_neg (of_decide_eq_false C1.out), E1.out, E2.out, hsin]
          clear t1 t2 t3 hsin hj' hlt
          go_wp2_with fail
          go_ret
          exact ⟨by rw [HF.out]; rfl, rfl⟩
    · rw [decide_eq_false c2] at hgt
      have E2 : Hid (foldC f = f) := by show _ = _; unfold foldC; rw [if_neg c2]
      have fle := fle.mono (show (1 : Int) ≤ 3 by omega) (by omega)
      clear c1 c2 hf
      obtain ⟨z, u, z1, u1, z2, u2, z3, u3⟩ := z_step fle
      have rz : ∀ w, (binOp .mul 44 (.float .f64 f) (.float .f64 4618760256179416344)).run Tryd.prog w = .ok (.float .f64 z) w := fun w => run_float_arith w .mul 44 .f64 _ _ _ z1
      have ru : ∀ w, (binOp .mul 44 (.float .f64 z) (.float .f64 z)).run Tryd.prog w = .ok (.float .f64 u) w := fun w => run_float_arith w .mul 44 .f64 _ _ _ u1
      have HZ := Lib.hid z3
      have HU := Lib.hid u3
      clear z1 u1 z3 u3
      go_enter Tryd.func57, Tryd.ntmps57
      go_wp2_with fail
      refine (partOf_any x HL.out _).mono ?_
      rintro e w' ⟨rfl, rfl⟩
      rw [HX.out]
      go_wp2_with fail
      go_loopg [7, 8] 8 (fun n v i wr => ∃ (j p : Nat), v = .float .f64 p ∧ i = .int .i64 (8 - (j : Int)) ∧ Hid (p = pC u j) ∧ LeP p ((11 * j : Nat) : Int) ∧ Hid (j + n = 8) ∧ w = wr)
      case atStart => exact ⟨0, 4607182418800017408, rfl, rfl, rfl, one_le, rfl, rfl⟩
      case round =>
        obtain ⟨j, p, rfl, rfl, hp, hl, hj, rfl⟩ := hrel
        have hj' := hj.out
        by_cases hlt : j ≤ 7
        · obtain ⟨m, d, r, m1, d1, r1, r2, r3⟩ := p_step u2 hl hlt hp.out
          obtain ⟨b1, b2⟩ := kk_bd j hlt
          have hk : (decide ((1 : Int) ≤ 8 - (j : Int))) = true := decide_eq_true (by omega)
          have HR : Hid (r = pC u (j + 1)) := r3
          have rm : ∀ w, (binOp .mul 44 (.float .f64 u) (.float .f64 p)).run Tryd.prog w = .ok (.float .f64 m) w := fun w => run_float_arith w .mul 44 .f64 _ _ _ m1
          have rd : ∀ w, (binOp .quo 44 (.float .f64 m) (.float .f64 (floatOfInt .f64 (2 * (8 - (j : Int)) * (2 * (8 - (j : Int)) + 1))))).run Tryd.prog w = .ok (.float .f64 d) w := fun w => run_float_arith w .quo 44 .f64 _ _ _ d1
          have rr : ∀ w, (binOp .sub 44 (.float .f64 4607182418800017408) (.float .f64 d)).run Tryd.prog w = .ok (.float .f64 r) w := fun w => run_float_arith w .sub 44 .f64 _ _ _ r1
          have HJ : Hid (j + 1 + (gk - 1) = 8) := by show _ = _; omega
          have hgk : 1 ≤ gk := by omega
          clear m1 d1 r1 r3 hj'
          go_wp2_with fail
          go_roundg (gk - 1)
          case measure => omega
          case rel => exact ⟨j + 1, r, rfl, by go_num, HR, r2, HJ, rfl⟩
        · have hj8 : j = 8 := by omega
          subst hj8
          obtain ⟨r, t1, t2, t3⟩ := t_step z2 hl
          have rt : ∀ w, (binOp .mul 44 (.float .f64 z) (.float .f64 p)).run Tryd.prog w = .ok (.float .f64 r) w := fun w => run_float_arith w .mul 44 .f64 _ _ _ t1
          have hsin : r = sinT f := by
            have h1 := HZ.out
            have h2 := HU.out
            have h3 := hp.out
            unfold sinT
            rw [← h2, ← h1, ← h3, t3]
          have HF : Hid (sineW x = r) := by show _ = _; unfold sineW; rw [HX.out, if_neg (of_decide_eq_false C1.out), E1.out, E2.out, hsin]
          clear t1 t2 t3 hsin hj' hlt
          go_wp2_with fail
          go_ret
          exact ⟨by rw [HF.out]; rfl, rfl⟩
def sinOut (a : Nat) : Option Nat :=
  if fin .f32 a then (if W a % 9223372036854775808 < 4841369599423283200 then floatToFloatBits .f64 (sineW (W a)) .f32 else some 0) else none

/-- the three kinds of arguments -/
theorem sin_kinds (a : Nat) : (fin .f32 a = false ∧ sinOut a = none) ∨ (fin .f32 a = true ∧ ¬ W a % 9223372036854775808 < 4841369599423283200 ∧ sinOut a = some 0) ∨
    (fin .f32 a = true ∧ W a % 9223372036854775808 < 4841369599423283200 ∧ ∃ v, floatToFloatBits .f64 (sineW (W a)) .f32 = some v ∧ v < 4294967296 ∧ nan .f32 v = false ∧ sinOut a = some v) := by
  cases hf : fin .f32 a
  · exact .inl ⟨rfl, by unfold sinOut; rw [hf]; rfl⟩
  · right
    by_cases h : W a % 9223372036854775808 < 4841369599423283200
    · right
      obtain ⟨v, v1, v2, v3⟩ := narrow_ok (sineW_le (le52 (W_lt a) h)) (by omega)
      exact ⟨rfl, h, v, v1, v2, v3, by unfold sinOut; rw [hf, if_pos rfl, if_pos h, v1]⟩
    · left
      exact ⟨rfl, h, by unfold sinOut; rw [hf, if_pos rfl, if_neg h]⟩

theorem implSinN_any (a : Nat) (w : World) :
    Calls Tryd.prog 20 #[.float .f32 a] w fun e w' => ∃ v, e = .returned (.float .f32 v) ∧ Is (sinOut a) v ∧ Drawn w w' := by
  have hN := narrow_nan 9221120237041090561 (by decide)
  rcases sin_kinds a with ⟨hf, ho⟩ | ⟨hf, hb, ho⟩ | ⟨hf, hb, v, v1, v2, v3, ho⟩
  · rw [ho]
    cases hn : nan .f32 a
    · have hW := widen a hn
      have hx : fin .f64 (W a) = false := by rw [fin_W a hn, hf]
      have hl := W_lt a
      generalize W a = x at *
      have HX := Lib.hid hx
      clear hf hn ho hx
      go_enter Tryd.func20, Tryd.ntmps20
      go_wp2_with fail
      refine (isFinite64_any x hl _).mono ?_
      rintro e w1 ⟨rfl, rfl⟩
      rw [HX.out]
      go_wp2_with fail
      refine (mNaN_any _).mono ?_
      rintro e w1 ⟨rfl, rfl⟩
      have hk := Lib.hid (convNan_nan .f32 9221120237041090561 w)
      go_wp2_with fail
      go_ret
      exact ⟨_, rfl, hk.out, Drawn.one _⟩
    · have hW := narrowed a hn
      have hx := nan_fin (convNan_nan .f64 a w)
      have hl := convNan_lt .f64 a w
      generalize hd : convNan .f64 a w = d at *
      have HX := Lib.hid hx
      have HD := Lib.hid hd
      clear hf hn ho hx hd
      go_enter Tryd.func20, Tryd.ntmps20
      go_wp2_with fail
      rw [HD.out]
      refine (isFinite64_any d hl _).mono ?_
      rintro e w1 ⟨rfl, rfl⟩
      rw [HX.out]
      go_wp2_with fail
      refine (mNaN_any _).mono ?_
      rintro e w1 ⟨rfl, rfl⟩
      have hk := Lib.hid (convNan_nan .f32 9221120237041090561 w.drew)
      go_wp2_with fail
      go_ret
      exact ⟨_, rfl, hk.out, (Drawn.one w).trans (Drawn.one _)⟩
  · rw [ho]
    have hn := fin_num hf
    have hW := widen a hn
    have hx : fin .f64 (W a) = true := by rw [fin_W a hn, hf]
    have hl := W_lt a
    have hnx := fin_num hx
    have hny : nan .f64 (W a % 9223372036854775808) = false := by
      have e : nan .f64 (W a % 9223372036854775808) = nan .f64 (W a) := by
        show decide (_ < W a % 9223372036854775808 % 9223372036854775808) = decide (_ < W a % 9223372036854775808)
        rw [Nat.mod_mod]
      rw [e]; exact hnx
    have o1 := geB .f64 (W a % 9223372036854775808) 4841369599423283200 hny (by decide)
    have hm : W a % 9223372036854775808 < 9223372036854775808 := Nat.mod_lt _ (by decide)
    rw [S64 (W a % 9223372036854775808) (by omega), if_pos hm, S64 4841369599423283200 (by decide), if_pos (by decide : 4841369599423283200 < 9223372036854775808), decide_eq_true (by omega)] at o1
    generalize W a = x at *
    have HX := Lib.hid hx
    generalize hy : x % 9223372036854775808 = y at *
    have HY := Lib.hid hy
    clear hf hn ho hx hnx hny hm hb hy
    go_enter Tryd.func20, Tryd.ntmps20
    go_wp2_with fail
    refine (isFinite64_any x hl _).mono ?_
    rintro e w1 ⟨rfl, rfl⟩
    rw [HX.out]
    go_wp2_with fail
    refine (abs_any x hl _).mono ?_
    rintro e w1 ⟨rfl, rfl⟩
    rw [HY.out]
    go_wp2_with fail
    go_ret
    exact ⟨_, rfl, ⟨rfl, by decide, by decide⟩, Drawn.refl _⟩
  · rw [ho]
    have hn := fin_num hf
    have hW := widen a hn
    have hx : fin .f64 (W a) = true := by rw [fin_W a hn, hf]
    have hl := W_lt a
    have h52 := le52 hl hb
    have HI : Hid (Is (some v) v) := ⟨rfl, v3, v2⟩
    have hnx := fin_num hx
    have hny : nan .f64 (W a % 9223372036854775808) = false := by
      have e : nan .f64 (W a % 9223372036854775808) = nan .f64 (W a) := by
        show decide (_ < W a % 9223372036854775808 % 9223372036854775808) = decide (_ < W a % 9223372036854775808)
        rw [Nat.mod_mod]
      rw [e]; exact hnx
    have o1 := geB .f64 (W a % 9223372036854775808) 4841369599423283200 hny (by decide)
    have hm : W a % 9223372036854775808 < 9223372036854775808 := Nat.mod_lt _ (by decide)
    rw [S64 (W a % 9223372036854775808) (by omega), if_pos hm, S64 4841369599423283200 (by decide), if_pos (by decide : 4841369599423283200 < 9223372036854775808), decide_eq_false (by omega)] at o1
    have hM := narrow_some _ v v1
    generalize W a = x at *
    have HX := Lib.hid hx
    generalize hy : x % 9223372036854775808 = y at *
    have HY := Lib.hid hy
    clear hf hn ho hx hnx hny hm hb hy v1 v2 v3
    go_enter Tryd.func20, Tryd.ntmps20
    go_wp2_with fail
    refine (isFinite64_any x hl _).mono ?_
    rintro e w1 ⟨rfl, rfl⟩
    rw [HX.out]
    go_wp2_with fail
    refine (abs_any x hl _).mono ?_
    rintro e w1 ⟨rfl, rfl⟩
    rw [HY.out]
    go_wp2_with fail
    refine (implSine_any x h52 _).mono ?_
    rintro e w1 ⟨rfl, rfl⟩
    clear h52
    go_wp2_with fail
    go_ret
    exact ⟨_, rfl, HI.out, Drawn.refl _⟩
end Go.Proofs.YtfmicahibmpjmaaDoor
