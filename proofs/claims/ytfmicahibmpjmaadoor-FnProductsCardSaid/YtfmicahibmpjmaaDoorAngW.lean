/-
  Contracts of the angle of a point in the program and in its model, and of AngleTurns with the walk of its exact law. Conditions: arguments are bits that fit their kind.
-/
import Derived.Test.YtfmicahibmpjmaaDoorSinW
import Derived.Test.YtfmicahibmpjmaaDoorAng
namespace Go.Proofs.YtfmicahibmpjmaaDoor
open Go.RowKit Flt

set_option maxHeartbeats 800000 in
theorem flat_any (t : Nat) (tle : LeP t 1) (tpl : Plus t) (w : World) :
    Calls Tryd.prog 82 #[.float .f64 t] w fun e w' => e = .returned (.float .f64 (flatC t)) ∧ w = w' := by
  go_enter Tryd.func82, Tryd.ntmps82
  go_wp2_with fail
  go_loopg [0, 6] 3 (fun n v i wr => ∃ (j t' : Nat), v = .float .f64 t' ∧ i = .int .i64 j ∧ Hid (t' = shr j t) ∧ LeP t' 1 ∧ Plus t' ∧ Hid (j + n = 3) ∧ w = wr)
  case atStart => exact ⟨0, t, rfl, rfl, rfl, tle, tpl, rfl, rfl⟩
  case round =>
    obtain ⟨j, t', rfl, rfl, ht', hl, hp, hj, rfl⟩ := hrel
    have hj' := hj.out
    by_cases hlt : j ≤ 2
    · obtain ⟨m, a, s, b, r, m1, a1, s1, b1, r1, r2, r3, r4⟩ := shrink_step hl hp
      have rm : ∀ w, (binOp .mul 44 (.float .f64 t') (.float .f64 t')).run Tryd.prog w = .ok (.float .f64 m) w := fun w => run_float_arith w .mul 44 .f64 _ _ _ m1
      have ra : ∀ w, (binOp .add 44 (.float .f64 4607182418800017408) (.float .f64 m)).run Tryd.prog w = .ok (.float .f64 a) w := fun w => run_float_arith w .add 44 .f64 _ _ _ a1
      have rb : ∀ w, (binOp .add 44 (.float .f64 4607182418800017408) (.float .f64 s)).run Tryd.prog w = .ok (.float .f64 b) w := fun w => run_float_arith w .add 44 .f64 _ _ _ b1
      have rr : ∀ w, (binOp .quo 44 (.float .f64 t') (.float .f64 b)).run Tryd.prog w = .ok (.float .f64 r) w := fun w => run_float_arith w .quo 44 .f64 _ _ _ r1
      have HR : Hid (r = shr (j + 1) t) := by show r = shrink (shr j t); rw [← ht'.out, r4]
      have HJ : Hid (j + 1 + (gk - 1) = 3) := by show _ = _; omega
      have hgk : 1 ≤ gk := by omega
      have H1 := Lib.hid s1
      clear m1 a1 b1 r1 r4 hj' s1
      go_wp2_with fail
      refine (msqrt64_some a s H1.out _).mono ?_
      rintro e w' ⟨rfl, rfl⟩
      go_wp2_with fail
      go_roundg (gk - 1)
      case measure => omega
      case rel => exact ⟨j + 1, r, rfl, by go_num, HR, r2, r3, HJ, rfl⟩
    · have hj3 : j = 3 := by omega
      subst hj3
      obtain ⟨u, u1, u2, u3⟩ := u_step hl
      have ru : ∀ w, (binOp .mul 44 (.float .f64 t') (.float .f64 t')).run Tryd.prog w = .ok (.float .f64 u) w := fun w => run_float_arith w .mul 44 .f64 _ _ _ u1
      have HU := Lib.hid u3
      clear u1 u3 hj' hlt
      go_wp2_with fail
      go_loopg [4, 5] 8 (fun n v i wr => ∃ (j q : Nat), v = .float .f64 q ∧ i = .int .i64 (15 - 2 * (j : Int)) ∧ Hid (q = aC u j) ∧ LeP q ((3 * j : Nat) : Int) ∧ Hid (j + n = 8) ∧ w = wr)
      case atStart => exact ⟨0, 0, rfl, rfl, rfl, zero_le', rfl, rfl⟩
      case round =>
        obtain ⟨j, q, rfl, rfl, hq, hql, hj2, rfl⟩ := hrel
        have hj2' := hj2.out
        by_cases hlt : j ≤ 7
        · obtain ⟨d, m, r, d1, m1, r1, r2, r3⟩ := a_step u2 hql hlt hq.out
          have hk : (decide ((1 : Int) ≤ 15 - 2 * (j : Int))) = true := decide_eq_true (by omega)
          have HR : Hid (r = aC u (j + 1)) := r3
          have rd : ∀ w, (binOp .quo 44 (.float .f64 4607182418800017408) (.float .f64 (floatOfInt .f64 (15 - 2 * (j : Int))))).run Tryd.prog w = .ok (.float .f64 d) w := fun w => run_float_arith w .quo 44 .f64 _ _ _ d1
          have rm : ∀ w, (binOp .mul 44 (.float .f64 u) (.float .f64 q)).run Tryd.prog w = .ok (.float .f64 m) w := fun w => run_float_arith w .mul 44 .f64 _ _ _ m1
          have rr : ∀ w, (binOp .sub 44 (.float .f64 d) (.float .f64 m)).run Tryd.prog w = .ok (.float .f64 r) w := fun w => run_float_arith w .sub 44 .f64 _ _ _ r1
          have HJ : Hid (j + 1 + (gk - 1) = 8) := by show _ = _; omega
          have hgk : 1 ≤ gk := by omega
          clear d1 m1 r1 r3 hj2'
          go_wp2_with fail
          go_roundg (gk - 1)
          case measure => omega
          case rel => exact ⟨j + 1, r, rfl, by go_num, HR, r2, HJ, rfl⟩
        · have hj8 : j = 8 := by omega
          subst hj8
          obtain ⟨a, b, f, a1, b1, f1, fle, f3⟩ := e_step hl hql
          have ra : ∀ w, (binOp .mul 44 (.float .f64 t') (.float .f64 q)).run Tryd.prog w = .ok (.float .f64 a) w := fun w => run_float_arith w .mul 44 .f64 _ _ _ a1
          have rb : ∀ w, (binOp .mul 44 (.float .f64 4620693217682128896) (.float .f64 a)).run Tryd.prog w = .ok (.float .f64 b) w := fun w => run_float_arith w .mul 44 .f64 _ _ _ b1
          have rf : ∀ w, (binOp .quo 44 (.float .f64 b) (.float .f64 4618760256179416344)).run Tryd.prog w = .ok (.float .f64 f) w := fun w => run_float_arith w .quo 44 .f64 _ _ _ f1
          have HF0 : Hid (flatC t = f) := by
            have h1 := ht'.out
            have h2 := HU.out
            have h3 := hq.out
            show _ = _
            unfold flatC
            rw [← h1, ← h2, ← h3, f3]
          clear a1 b1 f1 f3 hj2' hlt
          go_wp2_with fail
          go_ret
          exact ⟨by rw [HF0.out]; rfl, rfl⟩

theorem gt_plus {a b : Nat} (ha : a < 9223372036854775808) (hb : b < 9223372036854775808) (na : nan .f64 a = false) (nb : nan .f64 b = false) : (FloatKind.f64.format.order a b == some .gt) = decide (b < a) := by
  rw [gtB .f64 a b na nb, S64 a (by omega), S64 b (by omega), if_pos ha, if_pos hb, Bool.eq_iff_iff, decide_eq_true_eq, decide_eq_true_eq]
  omega

/-- of the absolute values -/
theorem firstAngle_any (y x : Nat) (h : AngOk y x) (ny : nan .f64 (absW y) = false) (nx : nan .f64 (absW x) = false) (w : World) :
    Calls Tryd.prog 55 #[.float .f64 (absW y), .float .f64 (absW x)] w fun e w' => e = .returned (.float .f64 (ang1 y x)) ∧ w = w' := by
  have my : absW y < 9223372036854775808 := Nat.mod_lt _ (by decide)
  have mx : absW x < 9223372036854775808 := Nat.mod_lt _ (by decide)
  have hc := gt_plus my mx ny nx
  obtain ⟨t1, t2⟩ := tan_ok h
  by_cases c : absW x < absW y
  · rw [decide_eq_true c] at hc
    obtain ⟨h1, h2⟩ := h.1 c
    obtain ⟨t, r1, r2, r3, r4⟩ := ratio h1 h2 (Nat.le_of_lt c)
    obtain ⟨f, f1, f2, f3⟩ := q1_step (flatC_le r2 r3)
    have HA : Hid (ang1 y x = f) := by show _ = _; unfold ang1 tanC; rw [if_pos c, if_pos c, ← r4, f3]
    have rq : ∀ w, (binOp .quo 44 (.float .f64 (absW x)) (.float .f64 (absW y))).run Tryd.prog w = .ok (.float .f64 t) w := fun w => run_float_arith w .quo 44 .f64 _ _ _ r1
    have rs : ∀ w, (binOp .sub 44 (.float .f64 4598175219545276416) (.float .f64 (flatC t))).run Tryd.prog w = .ok (.float .f64 f) w := fun w => run_float_arith w .sub 44 .f64 _ _ _ f1
    generalize absW x = b at *
    generalize absW y = a at *
    clear c h1 h2 r1 r4 f1 f2 f3 t1 t2 ny nx my mx
    go_enter Tryd.func55, Tryd.ntmps55
    go_wp2_with fail
    refine (flat_any t r2 r3 _).mono ?_
    rintro e w' ⟨rfl, rfl⟩
    go_wp2_with fail
    go_ret
    exact ⟨by rw [HA.out]; rfl, rfl⟩
  · rw [decide_eq_false c] at hc
    obtain ⟨h1, h2⟩ := h.2 c
    obtain ⟨t, r1, r2, r3, r4⟩ := ratio h1 h2 (Nat.le_of_not_lt c)
    have HA : Hid (ang1 y x = flatC t) := by show _ = _; unfold ang1 tanC; rw [if_neg c, if_neg c, ← r4]
    have rq : ∀ w, (binOp .quo 44 (.float .f64 (absW y)) (.float .f64 (absW x))).run Tryd.prog w = .ok (.float .f64 t) w := fun w => run_float_arith w .quo 44 .f64 _ _ _ r1
    generalize absW x = b at *
    generalize absW y = a at *
    clear c h1 h2 r1 r4 t1 t2 ny nx my mx
    go_enter Tryd.func55, Tryd.ntmps55
    go_wp2_with fail
    refine (flat_any t r2 r3 _).mono ?_
    rintro e w' ⟨rfl, rfl⟩
    go_wp2_with fail
    go_ret
    exact ⟨by rw [HA.out]; rfl, rfl⟩

theorem gt_plus' {a b : Nat} (ha : a < 9223372036854775808) (hb : b < 9223372036854775808) (na : nan .f64 a = false) (nb : nan .f64 b = false) : (FloatKind.f64.format.order a b == some .gt) = decide (b < a) := by
  rw [gtB .f64 a b na nb, S64 a (by omega), S64 b (by omega), if_pos ha, if_pos hb, Bool.eq_iff_iff, decide_eq_true_eq, decide_eq_true_eq]
  omega
theorem nan_abs {x : Nat} (h : nan .f64 x = false) : nan .f64 (absW x) = false := by
  have e : nan .f64 (absW x) = nan .f64 x := by
    show decide (_ < x % 9223372036854775808 % 9223372036854775808) = decide (_ < x % 9223372036854775808)
    rw [Nat.mod_mod]
  rw [e]; exact h
theorem eq0 {x : Nat} (hl : x < 18446744073709551616) (h : nan .f64 x = false) : (FloatKind.f64.format.order x 0 == some .eq) = decide (absW x = 0) := by
  rw [eqB .f64 x 0 h (by decide), S64 x hl, S64 0 (by decide), if_pos (by decide : (0 : Nat) < 9223372036854775808), Bool.eq_iff_iff, decide_eq_true_eq, decide_eq_true_eq]
  unfold absW
  split <;> omega

/-- widened, whatever it is -/
def wid (b : Nat) (w : World) : Nat := if nan .f32 b then convNan .f64 b w else W b
def wd (b : Nat) (w : World) : World := if nan .f32 b then w.drew else w
theorem widen_all (b : Nat) (w : World) : (convert 24 44 (.float .f32 b)).run Tryd.prog w = .ok (.float .f64 (wid b w)) (wd b w) := by
  unfold wid wd
  cases hn : nan .f32 b
  · exact widen b hn w
  · exact narrowed b hn w
theorem wid_fin (b : Nat) (w : World) : fin .f64 (wid b w) = fin .f32 b := by
  unfold wid
  cases hn : nan .f32 b
  · exact fin_W b hn
  · rw [nan_fin hn]; exact nan_fin (convNan_nan .f64 b w)
theorem wd_drawn (b : Nat) (w : World) : Drawn w (wd b w) := by
  unfold wd
  cases nan .f32 b
  · exact Drawn.refl w
  · exact Drawn.one w

def angOut (b a : Nat) : Option Nat :=
  if fin .f32 b && fin .f32 a then (if b % 2147483648 = 0 ∧ a % 2147483648 = 0 then some 0 else floatToFloatBits .f64 (angleW (W b) (W a)) .f32) else none

theorem ang_kinds (b a : Nat) (hb : b < 4294967296) (ha : a < 4294967296) : ((fin .f32 b = false ∨ fin .f32 a = false) ∧ angOut b a = none) ∨ (fin .f32 b = true ∧ fin .f32 a = true ∧ b % 2147483648 = 0 ∧ a % 2147483648 = 0 ∧ angOut b a = some 0) ∨
    (fin .f32 b = true ∧ fin .f32 a = true ∧ (b % 2147483648 ≠ 0 ∨ a % 2147483648 ≠ 0) ∧ AngOk (W b) (W a) ∧ ∃ v, floatToFloatBits .f64 (angleW (W b) (W a)) .f32 = some v ∧ v < 4294967296 ∧ nan .f32 v = false ∧ angOut b a = some v) := by
  cases fb : fin .f32 b
  · exact .inl ⟨.inl rfl, by unfold angOut; rw [fb]; rfl⟩
  · cases fa : fin .f32 a
    · exact .inl ⟨.inr rfl, by unfold angOut; rw [fb, fa]; rfl⟩
    · right
      by_cases hz : b % 2147483648 = 0 ∧ a % 2147483648 = 0
      · left
        exact ⟨rfl, rfl, hz.1, hz.2, by unfold angOut; rw [fb, fa]; simp [hz]⟩
      · right
        have h0 : b % 2147483648 ≠ 0 ∨ a % 2147483648 ≠ 0 := by omega
        have hok := ang_ok fb fa hb ha h0
        obtain ⟨v, v1, v2, v3⟩ := narrow_ok (angleW_le hok) (by omega)
        exact ⟨rfl, rfl, h0, hok, v, v1, v2, v3, by unfold angOut; rw [fb, fa, if_neg hz, v1]; rfl⟩

theorem W_zero {a : Nat} (ha : a < 4294967296) (hf : fin .f32 a = true) (hz : a % 2147483648 = 0) : W a = 0 ∨ W a = 9223372036854775808 := by
  have : a = 0 ∨ a = 2147483648 := by omega
  rcases this with rfl | rfl <;> decide +kernel
theorem wid_W {b : Nat} (hb : fin .f32 b = true) (w : World) : wid b w = W b ∧ wd b w = w := by
  unfold wid wd; rw [fin_num hb]; exact ⟨rfl, rfl⟩

theorem eq032 {a : Nat} (ha : a < 4294967296) (hn : nan .f32 a = false) : (FloatKind.f32.format.order a 0 == some .eq) = decide (a % 2147483648 = 0) := by
  rw [eqB .f32 a 0 hn (by decide), S32 a ha, S32 0 (by decide), if_pos (by decide : (0 : Nat) < 2147483648), Bool.eq_iff_iff, decide_eq_true_eq, decide_eq_true_eq]
  split <;> omega
theorem lt032 {a : Nat} (hn : nan .f32 a = false) : (FloatKind.f32.format.order a 0 == some .lt) = decide (S .f64 (W a) < 0) := by
  have h0 : nan .f32 0 = false := by decide
  have hc := W_cmp a 0 hn h0
  have W0 : W 0 = 0 := by decide +kernel
  have S0 : S .f64 0 = 0 := by decide
  rw [order_eq .f32 a 0 hn h0, ← hc, cmp_lt, W0, S0]

set_option maxHeartbeats 800000 in
theorem implAngN_any (b a : Nat) (hb : b < 4294967296) (ha : a < 4294967296) (w : World) :
    Calls Tryd.prog 17 #[.float .f32 b, .float .f32 a] w fun e w' => ∃ v, e = .returned (.float .f32 v) ∧ Is (angOut b a) v ∧ Drawn w w' := by
  have hN := narrow_nan 9221120237041090561 (by decide)
  rcases ang_kinds b a hb ha with ⟨hf, ho⟩ | ⟨fb, fa, zb, za, ho⟩ | ⟨fb, fa, h0, hok, v, v1, v2, v3, ho⟩
  · rw [ho]
    cases fb : fin .f32 b
    · have FB := Lib.hid fb
      clear hf ho fb
      go_enter Tryd.func17, Tryd.ntmps17
      go_wp2_with fail
      refine (implIsFinite_any b _).mono ?_
      rintro e w1 ⟨rfl, d1⟩
      rw [FB.out]
      go_wp2_with fail
      refine (mNaN_any _).mono ?_
      rintro e w2 ⟨rfl, rfl⟩
      have hk := Lib.hid (convNan_nan .f32 9221120237041090561 w1)
      go_wp2_with fail
      go_ret
      exact ⟨_, rfl, hk.out, d1.drew⟩
    · have fa : fin .f32 a = false := by rcases hf with h | h; exact absurd (h.symm.trans fb) (by decide); exact h
      have FB := Lib.hid fb
      have FA := Lib.hid fa
      clear hf ho fb fa
      go_enter Tryd.func17, Tryd.ntmps17
      go_wp2_with fail
      refine (implIsFinite_any b _).mono ?_
      rintro e w1 ⟨rfl, d1⟩
      rw [FB.out]
      go_wp2_with fail
      refine (implIsFinite_any a _).mono ?_
      rintro e w2 ⟨rfl, d2⟩
      rw [FA.out]
      go_wp2_with fail
      refine (mNaN_any _).mono ?_
      rintro e w3 ⟨rfl, rfl⟩
      have hk := Lib.hid (convNan_nan .f32 9221120237041090561 w2)
      go_wp2_with fail
      go_ret
      exact ⟨_, rfl, hk.out, (d1.trans d2).drew⟩
  · rw [ho]
    have e1 := eq032 hb (fin_num fb)
    have e2 := eq032 ha (fin_num fa)
    rw [decide_eq_true zb] at e1
    rw [decide_eq_true za] at e2
    have FB := Lib.hid fb
    have FA := Lib.hid fa
    clear ho fb fa zb za
    go_enter Tryd.func17, Tryd.ntmps17
    go_wp2_with fail
    refine (implIsFinite_any b _).mono ?_
    rintro e w1 ⟨rfl, d1⟩
    rw [FB.out]
    go_wp2_with fail
    refine (implIsFinite_any a _).mono ?_
    rintro e w2 ⟨rfl, d2⟩
    rw [FA.out]
    go_wp2_with fail
    go_ret
    exact ⟨_, rfl, ⟨rfl, by decide, by decide⟩, d1.trans d2⟩
  · rw [ho]
    have e1 := eq032 hb (fin_num fb)
    have e2 := eq032 ha (fin_num fa)
    have hW := widen b (fin_num fb)
    have hW' := widen a (fin_num fa)
    have gy : nan .f64 (W b) = false := (W_spec b (fin_num fb)).2.1
    have gx : nan .f64 (W a) = false := (W_spec a (fin_num fa)).2.1
    have hx := lt032 (fin_num fa)
    have hy := lt032 (fin_num fb)
    have ly := W_lt b
    have lx := W_lt a
    have HI : Hid (Is (some v) v) := ⟨rfl, v3, v2⟩
    have hM := narrow_some _ v v1
    have a1 := ang1_le hok
    obtain ⟨h, h1, h2, h3⟩ := h1_step a1
    have rh : ∀ w, (binOp .sub 44 (.float .f64 4602678819172646912) (.float .f64 (ang1 (W b) (W a)))).run Tryd.prog w = .ok (.float .f64 h) w := fun w => run_float_arith w .sub 44 .f64 _ _ _ h1
    have rn : ∀ r w, (Op.unary .neg (.float .f64 r)).run Tryd.prog w = .ok (.float .f64 (negW r)) w := fun _ _ => rfl
    have HK := Lib.hid hok
    have GY := Lib.hid (nan_abs gy)
    have GX := Lib.hid (nan_abs gx)
    have FB := Lib.hid fb
    have FA := Lib.hid fa
    have hres : angleW (W b) (W a) = if S .f64 (W b) < 0 then negW (if S .f64 (W a) < 0 then h else ang1 (W b) (W a)) else (if S .f64 (W a) < 0 then h else ang1 (W b) (W a)) := by
      unfold angleW ang2; rw [← h3]
    obtain ⟨cy, hcy⟩ : ∃ c, c = decide (S .f64 (W b) < 0) := ⟨_, rfl⟩
    obtain ⟨cx, hcx⟩ : ∃ c, c = decide (S .f64 (W a) < 0) := ⟨_, rfl⟩
    rw [← hcx] at hx
    rw [← hcy] at hy
    have hres' : angleW (W b) (W a) = if cy then negW (if cx then h else ang1 (W b) (W a)) else (if cx then h else ang1 (W b) (W a)) := by rw [hres, hcy, hcx]; simp
    have e12 : (decide (b % 2147483648 = 0) && decide (a % 2147483648 = 0)) = false := by
      rw [Bool.and_eq_false_iff]; rcases h0 with h | h
      · exact .inl (decide_eq_false h)
      · exact .inr (decide_eq_false h)
    rw [← e1, ← e2] at e12
    rw [hres'] at hM
    generalize W b = y at *
    generalize W a = x at *
    clear ho fb fa h0 hok gy gx v1 v2 v3 e1 e2 h1 h2 h3 hres hres' hcy hcx a1
    cases q1 : (FloatKind.f32.format.order b 0 == some .eq)
    · clear e12
      cases cy <;> cases cx <;> simp only [if_true, if_false, Bool.false_eq_true] at hM
      all_goals
        go_enter Tryd.func17, Tryd.ntmps17
        go_wp2_with fail
        refine (implIsFinite_any b _).mono ?_
        rintro e w1 ⟨rfl, d1⟩
        rw [FB.out]
        go_wp2_with fail
        refine (implIsFinite_any a _).mono ?_
        rintro e w2 ⟨rfl, d2⟩
        rw [FA.out]
        go_wp2_with fail
        refine (abs_any y ly _).mono ?_
        rintro e w3 ⟨rfl, rfl⟩
        go_wp2_with fail
        refine (abs_any x lx _).mono ?_
        rintro e w3 ⟨rfl, rfl⟩
        go_wp2_with fail
        refine (firstAngle_any y x HK.out GY.out GX.out _).mono ?_
        rintro e w3 ⟨rfl, rfl⟩
        go_wp2_with fail
        go_ret
        exact ⟨_, rfl, HI.out, d1.trans d2⟩
    · rw [q1, Bool.true_and] at e12
      cases cy <;> cases cx <;> simp only [if_true, if_false, Bool.false_eq_true] at hM
      all_goals
        go_enter Tryd.func17, Tryd.ntmps17
        go_wp2_with fail
        refine (implIsFinite_any b _).mono ?_
        rintro e w1 ⟨rfl, d1⟩
        rw [FB.out]
        go_wp2_with fail
        refine (implIsFinite_any a _).mono ?_
        rintro e w2 ⟨rfl, d2⟩
        rw [FA.out]
        go_wp2_with fail
        refine (abs_any y ly _).mono ?_
        rintro e w3 ⟨rfl, rfl⟩
        go_wp2_with fail
        refine (abs_any x lx _).mono ?_
        rintro e w3 ⟨rfl, rfl⟩
        go_wp2_with fail
        refine (firstAngle_any y x HK.out GY.out GX.out _).mono ?_
        rintro e w3 ⟨rfl, rfl⟩
        go_wp2_with fail
        go_ret
        exact ⟨_, rfl, HI.out, d1.trans d2⟩
end Go.Proofs.YtfmicahibmpjmaaDoor
