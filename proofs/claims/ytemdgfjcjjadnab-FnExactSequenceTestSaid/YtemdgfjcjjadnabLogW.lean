/-
  Contracts of the logarithm of a float64 in the program and in its model, at positive finite numbers, and of LogNumber and TenthsOf with the walks of their exact laws. Conditions: arguments are bits that fit their kind.
-/
import Derived.Test.YtemdgfjcjjadnabRootW
import Derived.Test.YtemdgfjcjjadnabLog
import Derived.Deep.LoopGhost
import Derived.IntWalk
namespace Go.Proofs.Ytemdgfjcjjadnab
open Go.RowKit Flt

theorem isInf1_any (x : Nat) (hg : (FloatKind.f64.format.order x 9218868437227405311 == some .gt) = false) (w : World) :
    Calls Try.prog 104 #[.float .f64 x, .int .i64 1] w fun e w' => e = .returned (.bool false) ∧ w = w' := by
  go_enter Try.func104, Try.ntmps104
  go_wp2
  go_ret
  exact ⟨rfl, rfl⟩
set_option maxHeartbeats 800000 in
theorem implLog_any (x : Nat) (hx1 : 3603000000000000000 ≤ x) (hx2 : x ≤ 5700000000000000000) (w : World) :
    Calls Try.prog 90 #[.float .f64 x] w fun e w' => e = .returned (.float .f64 (logC x)) ∧ w = w' ∧ LeP (logC x) 15 := by
  go_enter Try.func90, Try.ntmps90
  go_wp2_with fail
  go_loopg [0, 3] 2000 (fun n v i wr => ∃ (y : Nat) (e : Int), v = .float .f64 y ∧ i = .int .i64 e ∧ HvI x n y e ∧ w = wr)
  case atStart => exact ⟨x, 0, rfl, rfl, hv_start hx1 hx2, rfl⟩
  case round =>
    obtain ⟨y, e, rfl, rfl, hh, rfl⟩ := hrel
    have hpy : Plus y := by have := hh.2.2.1; unfold Plus; omega
    have hn : nan .f64 y = false := by rw [nan64 y (by unfold Plus at hpy; omega)]; exact decide_eq_false (by have := hh.2.2.1; split <;> omega)
    have hc := geB .f64 y 4609434218613702656 hn (by decide)
    rw [S_plus hpy, S64 4609434218613702656 (by decide), if_pos (by decide)] at hc
    by_cases hlt : 4609434218613702656 ≤ y
    · rw [decide_eq_true (by omega)] at hc
      obtain ⟨r1, m, rfl, hh2, he1, he2⟩ := hv_more hh hlt
      have hq : ∀ w, (binOp .quo 30 (.float .f64 y) (.float .f64 4611686018427387904)).run Try.prog w = .ok (.float .f64 (y - 4503599627370496)) w := fun w => run_float_arith w .quo 30 .f64 _ _ _ r1
      generalize y - 4503599627370496 = y2 at *
      clear r1 hlt hn hpy hh
      go_wp2_with fail
      go_roundg m
      case measure => omega
      case rel => exact ⟨y2, e + 1, rfl, rfl, hh2, rfl⟩
    · rw [decide_eq_false (by omega)] at hc
      obtain ⟨hv1, hv2, hv3, hv4, hv5⟩ := hv_done hh hlt
      have HV := Lib.hid hv1
      clear hlt hn hpy hh hv1
      go_wp2_with fail
      go_loopg [0, 3] 2000 (fun n v i wr => ∃ (z : Nat) (f : Int), v = .float .f64 z ∧ i = .int .i64 f ∧ DbI y e n z f ∧ w = wr)
      case atStart => exact ⟨y, e, rfl, rfl, db_start hv2 hv3, rfl⟩
      case round =>
        obtain ⟨z, f, rfl, rfl, hd, rfl⟩ := hrel
        have hpz : Plus z := by have := hd.2.2.1; unfold Plus; omega
        have hn : nan .f64 z = false := by rw [nan64 z (by unfold Plus at hpz; omega)]; exact decide_eq_false (by have := hd.2.2.1; split <;> omega)
        have hc2 := ltB .f64 z 4604930618986332160 hn (by decide)
        rw [S_plus hpz, S64 4604930618986332160 (by decide), if_pos (by decide)] at hc2
        by_cases hlt : z < 4604930618986332160
        · rw [decide_eq_true (by omega)] at hc2
          obtain ⟨r1, m, rfl, hd2, hf1, hf2⟩ := db_more hd hlt ⟨hv4, hv5⟩
          have hq : ∀ w, (binOp .mul 30 (.float .f64 z) (.float .f64 4611686018427387904)).run Try.prog w = .ok (.float .f64 (z + 4503599627370496)) w := fun w => run_float_arith w .mul 30 .f64 _ _ _ r1
          generalize z + 4503599627370496 = z2 at *
          clear r1 hlt hn hpz hd
          go_wp2_with fail
          go_roundg m
          case measure => omega
          case rel => exact ⟨z2, f - 1, rfl, rfl, hd2, rfl⟩
        · rw [decide_eq_false (by omega)] at hc2
          obtain ⟨dv, hz1, hz2, hf⟩ := db_done hd hlt ⟨hv4, hv5⟩
          have HL := Lib.hid (logC_eq HV.out dv)
          obtain ⟨a, b, s, u, a1, b1, s1, v1, s2, v2, hs, hu⟩ := s_step hz1 hz2
          have ra : ∀ w, (binOp .sub 30 (.float .f64 z) (.float .f64 4607182418800017408)).run Try.prog w = .ok (.float .f64 a) w := fun w => run_float_arith w .sub 30 .f64 _ _ _ a1
          have rb : ∀ w, (binOp .add 30 (.float .f64 z) (.float .f64 4607182418800017408)).run Try.prog w = .ok (.float .f64 b) w := fun w => run_float_arith w .add 30 .f64 _ _ _ b1
          have rs : ∀ w, (binOp .quo 30 (.float .f64 a) (.float .f64 b)).run Try.prog w = .ok (.float .f64 s) w := fun w => run_float_arith w .quo 30 .f64 _ _ _ s1
          have ru : ∀ w, (binOp .mul 30 (.float .f64 s) (.float .f64 s)).run Try.prog w = .ok (.float .f64 u) w := fun w => run_float_arith w .mul 30 .f64 _ _ _ v1
          have HS := Lib.hid hs
          have HU := Lib.hid hu
          clear a1 b1 s1 v1 hs hu dv hz2 hd hlt hn hpz
          go_wp2_with fail
          go_loopg [6, 7] 13 (fun n v i wr => ∃ (j q : Nat), v = .float .f64 q ∧ i = .int .i64 (25 - 2 * (j : Int)) ∧ Hid (q = qC u j) ∧ LeP q j ∧ Hid (j + n = 13) ∧ w = wr)
          case atStart => exact ⟨0, 0, rfl, rfl, rfl, zero_le', rfl, rfl⟩
          case round =>
            obtain ⟨j, q, rfl, rfl, hq, hl, hj, rfl⟩ := hrel
            have hj' := hj.out
            by_cases hlt : j ≤ 12
            · obtain ⟨d, m, r, d1, m1, r1, r2, r3⟩ := q_step v2 hl hlt hq.out
              have hk : (decide ((1 : Int) ≤ 25 - 2 * (j : Int))) = true := decide_eq_true (by omega)
              have HR : Hid (r = qC u (j + 1)) := r3
              have rd : ∀ w, (binOp .quo 30 (.float .f64 4607182418800017408) (.float .f64 (floatOfInt .f64 (25 - 2 * (j : Int))))).run Try.prog w = .ok (.float .f64 d) w := fun w => run_float_arith w .quo 30 .f64 _ _ _ d1
              have rm : ∀ w, (binOp .mul 30 (.float .f64 u) (.float .f64 q)).run Try.prog w = .ok (.float .f64 m) w := fun w => run_float_arith w .mul 30 .f64 _ _ _ m1
              have rr : ∀ w, (binOp .add 30 (.float .f64 d) (.float .f64 m)).run Try.prog w = .ok (.float .f64 r) w := fun w => run_float_arith w .add 30 .f64 _ _ _ r1
              have HJ : Hid (j + 1 + (gk - 1) = 13) := by show _ = _; omega
              have hgk : 1 ≤ gk := by omega
              clear d1 m1 r1 r3 hj'
              go_wp2_with fail
              go_roundg (gk - 1)
              case measure => omega
              case rel => exact ⟨j + 1, r, rfl, by go_num, HR, r2, HJ, rfl⟩
            · have hj13 : j = 13 := by omega
              subst hj13
              have hs0 := HS.out
              have hu0 := HU.out
              obtain ⟨a', b', c', r, a1, b1, c1, r1, r2, r3⟩ := l_step (x := z) (s := s) (q := q) (e := f) s2 hl hf hs0 (by rw [← hu0]; exact hq.out)
              have ra' : ∀ w, (binOp .mul 30 (.float .f64 s) (.float .f64 q)).run Try.prog w = .ok (.float .f64 a') w := fun w => run_float_arith w .mul 30 .f64 _ _ _ a1
              have rb' : ∀ w, (binOp .mul 30 (.float .f64 4611686018427387904) (.float .f64 a')).run Try.prog w = .ok (.float .f64 b') w := fun w => run_float_arith w .mul 30 .f64 _ _ _ b1
              have rc' : ∀ w, (binOp .mul 30 (.float .f64 (floatOfInt .f64 f)) (.float .f64 4604418534313441775)).run Try.prog w = .ok (.float .f64 c') w := fun w => run_float_arith w .mul 30 .f64 _ _ _ c1
              have rr' : ∀ w, (binOp .add 30 (.float .f64 b') (.float .f64 c')).run Try.prog w = .ok (.float .f64 r) w := fun w => run_float_arith w .add 30 .f64 _ _ _ r1
              have HF : Hid (logC x = r) := by show _ = _; rw [HL.out, r3]
              clear a1 b1 c1 r1 r3 hs0 hu0 hj' hlt
              go_wp2_with fail
              go_ret
              exact ⟨by rw [HF.out]; rfl, rfl, by rw [HF.out]; exact r2⟩
set_option maxHeartbeats 800000 in
theorem specLog_any (x : Nat) (hx1 : 3603000000000000000 ≤ x) (hx2 : x ≤ 5700000000000000000) (w : World) :
    Calls Try.prog 95 #[.float .f64 x] w fun e w' => e = .returned (.float .f64 (logC x)) ∧ w = w' ∧ LeP (logC x) 15 := by
  have hp : Plus x := by unfold Plus; omega
  have hn : nan .f64 x = false := by rw [nan64 x (by omega)]; exact decide_eq_false (by split <;> omega)
  have o1 := order_self .f64 x
  rw [hn] at o1
  have o2 := ltB .f64 x 0 hn (by decide)
  rw [S_plus hp, S64 0 (by decide), if_pos (by decide : (0 : Nat) < 9223372036854775808), decide_eq_false (by omega)] at o2
  have o3 := eqB .f64 x 0 hn (by decide)
  rw [S_plus hp, S64 0 (by decide), if_pos (by decide : (0 : Nat) < 9223372036854775808), decide_eq_false (by omega)] at o3
  have hg := gtB .f64 x 9218868437227405311 hn (by decide)
  rw [S_plus hp, S64 _ (by decide), if_pos (by decide), decide_eq_false (by omega)] at hg
  clear hn hp
  go_enter Try.func95, Try.ntmps95
  go_wp2_with fail
  refine (isInf1_any x hg _).mono ?_
  rintro e w' ⟨rfl, rfl⟩
  clear hg o1 o2 o3
  go_wp2_with fail
  go_loopg [0, 3] 2000 (fun n v i wr => ∃ (y : Nat) (e : Int), v = .float .f64 y ∧ i = .int .i64 e ∧ HvI x n y e ∧ w = wr)
  case atStart => exact ⟨x, 0, rfl, rfl, hv_start hx1 hx2, rfl⟩
  case round =>
    obtain ⟨y, e, rfl, rfl, hh, rfl⟩ := hrel
    have hpy : Plus y := by have := hh.2.2.1; unfold Plus; omega
    have hn : nan .f64 y = false := by rw [nan64 y (by unfold Plus at hpy; omega)]; exact decide_eq_false (by have := hh.2.2.1; split <;> omega)
    have hc := geB .f64 y 4609434218613702656 hn (by decide)
    rw [S_plus hpy, S64 4609434218613702656 (by decide), if_pos (by decide)] at hc
    by_cases hlt : 4609434218613702656 ≤ y
    · rw [decide_eq_true (by omega)] at hc
      obtain ⟨r1, m, rfl, hh2, he1, he2⟩ := hv_more hh hlt
      have hq : ∀ w, (binOp .quo 30 (.float .f64 y) (.float .f64 4611686018427387904)).run Try.prog w = .ok (.float .f64 (y - 4503599627370496)) w := fun w => run_float_arith w .quo 30 .f64 _ _ _ r1
      generalize y - 4503599627370496 = y2 at *
      clear r1 hlt hn hpy hh
      go_wp2_with fail
      go_roundg m
      case measure => omega
      case rel => exact ⟨y2, e + 1, rfl, rfl, hh2, rfl⟩
    · rw [decide_eq_false (by omega)] at hc
      obtain ⟨hv1, hv2, hv3, hv4, hv5⟩ := hv_done hh hlt
      have HV := Lib.hid hv1
      clear hlt hn hpy hh hv1
      go_wp2_with fail
      go_loopg [0, 3] 2000 (fun n v i wr => ∃ (z : Nat) (f : Int), v = .float .f64 z ∧ i = .int .i64 f ∧ DbI y e n z f ∧ w = wr)
      case atStart => exact ⟨y, e, rfl, rfl, db_start hv2 hv3, rfl⟩
      case round =>
        obtain ⟨z, f, rfl, rfl, hd, rfl⟩ := hrel
        have hpz : Plus z := by have := hd.2.2.1; unfold Plus; omega
        have hn : nan .f64 z = false := by rw [nan64 z (by unfold Plus at hpz; omega)]; exact decide_eq_false (by have := hd.2.2.1; split <;> omega)
        have hc2 := ltB .f64 z 4604930618986332160 hn (by decide)
        rw [S_plus hpz, S64 4604930618986332160 (by decide), if_pos (by decide)] at hc2
        by_cases hlt : z < 4604930618986332160
        · rw [decide_eq_true (by omega)] at hc2
          obtain ⟨r1, m, rfl, hd2, hf1, hf2⟩ := db_more hd hlt ⟨hv4, hv5⟩
          have hq : ∀ w, (binOp .mul 30 (.float .f64 z) (.float .f64 4611686018427387904)).run Try.prog w = .ok (.float .f64 (z + 4503599627370496)) w := fun w => run_float_arith w .mul 30 .f64 _ _ _ r1
          generalize z + 4503599627370496 = z2 at *
          clear r1 hlt hn hpz hd
          go_wp2_with fail
          go_roundg m
          case measure => omega
          case rel => exact ⟨z2, f - 1, rfl, rfl, hd2, rfl⟩
        · rw [decide_eq_false (by omega)] at hc2
          obtain ⟨dv, hz1, hz2, hf⟩ := db_done hd hlt ⟨hv4, hv5⟩
          have HL := Lib.hid (logC_eq HV.out dv)
          obtain ⟨a, b, s, u, a1, b1, s1, v1, s2, v2, hs, hu⟩ := s_step hz1 hz2
          have ra : ∀ w, (binOp .sub 30 (.float .f64 z) (.float .f64 4607182418800017408)).run Try.prog w = .ok (.float .f64 a) w := fun w => run_float_arith w .sub 30 .f64 _ _ _ a1
          have rb : ∀ w, (binOp .add 30 (.float .f64 z) (.float .f64 4607182418800017408)).run Try.prog w = .ok (.float .f64 b) w := fun w => run_float_arith w .add 30 .f64 _ _ _ b1
          have rs : ∀ w, (binOp .quo 30 (.float .f64 a) (.float .f64 b)).run Try.prog w = .ok (.float .f64 s) w := fun w => run_float_arith w .quo 30 .f64 _ _ _ s1
          have ru : ∀ w, (binOp .mul 30 (.float .f64 s) (.float .f64 s)).run Try.prog w = .ok (.float .f64 u) w := fun w => run_float_arith w .mul 30 .f64 _ _ _ v1
          have HS := Lib.hid hs
          have HU := Lib.hid hu
          clear a1 b1 s1 v1 hs hu dv hz2 hd hlt hn hpz
          go_wp2_with fail
          go_loopg [6, 7] 13 (fun n v i wr => ∃ (j q : Nat), v = .float .f64 q ∧ i = .int .i64 (25 - 2 * (j : Int)) ∧ Hid (q = qC u j) ∧ LeP q j ∧ Hid (j + n = 13) ∧ w = wr)
          case atStart => exact ⟨0, 0, rfl, rfl, rfl, zero_le', rfl, rfl⟩
          case round =>
            obtain ⟨j, q, rfl, rfl, hq, hl, hj, rfl⟩ := hrel
            have hj' := hj.out
            by_cases hlt : j ≤ 12
            · obtain ⟨d, m, r, d1, m1, r1, r2, r3⟩ := q_step v2 hl hlt hq.out
              have hk : (decide ((1 : Int) ≤ 25 - 2 * (j : Int))) = true := decide_eq_true (by omega)
              have HR : Hid (r = qC u (j + 1)) := r3
              have rd : ∀ w, (binOp .quo 30 (.float .f64 4607182418800017408) (.float .f64 (floatOfInt .f64 (25 - 2 * (j : Int))))).run Try.prog w = .ok (.float .f64 d) w := fun w => run_float_arith w .quo 30 .f64 _ _ _ d1
              have rm : ∀ w, (binOp .mul 30 (.float .f64 u) (.float .f64 q)).run Try.prog w = .ok (.float .f64 m) w := fun w => run_float_arith w .mul 30 .f64 _ _ _ m1
              have rr : ∀ w, (binOp .add 30 (.float .f64 d) (.float .f64 m)).run Try.prog w = .ok (.float .f64 r) w := fun w => run_float_arith w .add 30 .f64 _ _ _ r1
              have HJ : Hid (j + 1 + (gk - 1) = 13) := by show _ = _; omega
              have hgk : 1 ≤ gk := by omega
              clear d1 m1 r1 r3 hj'
              go_wp2_with fail
              go_roundg (gk - 1)
              case measure => omega
              case rel => exact ⟨j + 1, r, rfl, by go_num, HR, r2, HJ, rfl⟩
            · have hj13 : j = 13 := by omega
              subst hj13
              have hs0 := HS.out
              have hu0 := HU.out
              obtain ⟨a', b', c', r, a1, b1, c1, r1, r2, r3⟩ := l_step (x := z) (s := s) (q := q) (e := f) s2 hl hf hs0 (by rw [← hu0]; exact hq.out)
              have ra' : ∀ w, (binOp .mul 30 (.float .f64 s) (.float .f64 q)).run Try.prog w = .ok (.float .f64 a') w := fun w => run_float_arith w .mul 30 .f64 _ _ _ a1
              have rb' : ∀ w, (binOp .mul 30 (.float .f64 4611686018427387904) (.float .f64 a')).run Try.prog w = .ok (.float .f64 b') w := fun w => run_float_arith w .mul 30 .f64 _ _ _ b1
              have rc' : ∀ w, (binOp .mul 30 (.float .f64 (floatOfInt .f64 f)) (.float .f64 4604418534313441775)).run Try.prog w = .ok (.float .f64 c') w := fun w => run_float_arith w .mul 30 .f64 _ _ _ c1
              have rr' : ∀ w, (binOp .add 30 (.float .f64 b') (.float .f64 c')).run Try.prog w = .ok (.float .f64 r) w := fun w => run_float_arith w .add 30 .f64 _ _ _ r1
              have HF : Hid (logC x = r) := by show _ = _; rw [HL.out, r3]
              clear a1 b1 c1 r1 r3 hs0 hu0 hj' hlt
              go_wp2_with fail
              go_ret
              exact ⟨by rw [HF.out]; rfl, rfl, by rw [HF.out]; exact r2⟩
theorem mNaN_any (w : World) : Calls Try.prog 91 #[] w fun e w' => e = .returned (.float .f64 9221120237041090561) ∧ w = w' := by
  have h : ∀ w, (callFunc 102 #[.int .u64 9221120237041090561]).run Try.prog w = .ok (.value (.float .f64 9221120237041090561)) w := fun w => f64from 9221120237041090561 w
  go_enter Try.func91, Try.ntmps91
  go_wp2
  go_ret
  exact ⟨rfl, rfl⟩
theorem mInf_any (w : World) : Calls Try.prog 89 #[.int .i64 (-1)] w fun e w' => e = .returned (.float .f64 18442240474082181120) ∧ w = w' := by
  have h : ∀ w, (callFunc 102 #[.int .u64 18442240474082181120]).run Try.prog w = .ok (.value (.float .f64 18442240474082181120)) w := fun w => f64from 18442240474082181120 w
  go_enter Try.func89, Try.ntmps89
  go_wp2
  go_ret
  exact ⟨rfl, rfl⟩
/-- the logarithm that the document tells -/
def logOut (a : Nat) : Option Nat :=
  if nan .f32 a then none else if a % 2147483648 = 0 then some 4286578688 else if 2147483648 ≤ a then none else if a = 2139095040 then some a else floatToFloatBits .f64 (logC (W a)) .f32

theorem specLogWide_nan (x : Nat) (hn : nan .f64 x = true) (w : World) :
    Calls Try.prog 95 #[.float .f64 x] w fun e w' => e = .returned (.float .f64 9221120237041090561) ∧ w = w' := by
  have o1 := order_self .f64 x
  rw [hn] at o1
  clear hn
  go_enter Try.func95, Try.ntmps95
  go_wp2_with fail
  refine (mNaN_any _).mono ?_
  rintro e w' ⟨rfl, rfl⟩
  go_wp2_with fail
  go_ret
  exact ⟨rfl, rfl⟩

theorem specLogWide_neg (x : Nat) (hn : nan .f64 x = false) (hl : x < 18446744073709551616) (hp : 9223372036854775808 < x) (w : World) :
    Calls Try.prog 95 #[.float .f64 x] w fun e w' => e = .returned (.float .f64 9221120237041090561) ∧ w = w' := by
  have o1 := order_self .f64 x
  rw [hn] at o1
  have o2 := ltB .f64 x 0 hn (by decide)
  rw [S64 x hl, if_neg (by omega), S64 0 (by decide), if_pos (by decide : (0 : Nat) < 9223372036854775808), decide_eq_true (by omega)] at o2
  clear hn hl hp
  go_enter Try.func95, Try.ntmps95
  go_wp2_with fail
  refine (mNaN_any _).mono ?_
  rintro e w' ⟨rfl, rfl⟩
  go_wp2_with fail
  go_ret
  exact ⟨rfl, rfl⟩

theorem specLogWide_zero (x : Nat) (hx : x = 0 ∨ x = 9223372036854775808) (w : World) :
    Calls Try.prog 95 #[.float .f64 x] w fun e w' => e = .returned (.float .f64 18442240474082181120) ∧ w = w' := by
  have o1 : (FloatKind.f64.format.order x x != some .eq) = false := by rcases hx with rfl | rfl <;> decide
  have o2 : (FloatKind.f64.format.order x 0 == some .lt) = false := by rcases hx with rfl | rfl <;> decide
  have o3 : (FloatKind.f64.format.order x 0 == some .eq) = true := by rcases hx with rfl | rfl <;> decide
  clear hx
  go_enter Try.func95, Try.ntmps95
  go_wp2_with fail
  refine (mInf_any _).mono ?_
  rintro e w' ⟨rfl, rfl⟩
  go_wp2_with fail
  go_ret
  exact ⟨rfl, rfl⟩

theorem isInf1_inf (w : World) :
    Calls Try.prog 104 #[.float .f64 9218868437227405312, .int .i64 1] w fun e w' => e = .returned (.bool true) ∧ w = w' := by
  have hg : (FloatKind.f64.format.order 9218868437227405312 9218868437227405311 == some .gt) = true := by decide
  go_enter Try.func104, Try.ntmps104
  go_wp2
  go_ret
  exact ⟨rfl, rfl⟩

theorem specLogWide_inf (w : World) :
    Calls Try.prog 95 #[.float .f64 9218868437227405312] w fun e w' => e = .returned (.float .f64 9218868437227405312) ∧ w = w' := by
  have o1 : (FloatKind.f64.format.order 9218868437227405312 9218868437227405312 != some .eq) = false := by decide
  have o2 : (FloatKind.f64.format.order 9218868437227405312 0 == some .lt) = false := by decide
  have o3 : (FloatKind.f64.format.order 9218868437227405312 0 == some .eq) = false := by decide
  go_enter Try.func95, Try.ntmps95
  go_wp2_with fail
  refine (isInf1_inf _).mono ?_
  rintro e w' ⟨rfl, rfl⟩
  go_wp2_with fail
  go_ret
  exact ⟨rfl, rfl⟩

theorem specNarrow_nan (x : Nat) (hn : nan .f64 x = true) (w : World) : Calls Try.prog 94 #[.float .f64 x] w fun e w' => ∃ v, e = .returned (.float .f32 v) ∧ nan .f32 v = true ∧ Drawn w w' := by
  have hN := narrow_nan x hn
  have HK := Lib.hid (convNan_nan .f32 x w)
  clear hn
  go_enter Try.func94, Try.ntmps94
  go_wp2_with fail
  go_ret
  exact ⟨_, rfl, HK.out, Drawn.one _⟩

theorem specNarrow_some (x v : Nat) (h : floatToFloatBits .f64 x .f32 = some v) (w : World) : Calls Try.prog 94 #[.float .f64 x] w fun e w' => e = .returned (.float .f32 v) ∧ w = w' := by
  have hN := narrow_some x v h
  clear h
  go_enter Try.func94, Try.ntmps94
  go_wp2_with fail
  go_ret
  exact ⟨rfl, rfl⟩

/-- the five kinds of arguments -/
theorem log_kinds (a : Nat) (ha : a < 4294967296) :
    (nan .f32 a = true ∧ logOut a = none) ∨ (nan .f32 a = false ∧ (a = 0 ∨ a = 2147483648) ∧ logOut a = some 4286578688) ∨ (nan .f32 a = false ∧ 2147483648 < a ∧ logOut a = none) ∨ (a = 2139095040 ∧ logOut a = some a) ∨
    (nan .f32 a = false ∧ fin .f32 a = true ∧ 0 < a ∧ a < 2139095040 ∧ ∃ v, floatToFloatBits .f64 (logC (W a)) .f32 = some v ∧ logOut a = floatToFloatBits .f64 (logC (W a)) .f32) := by
  cases hn : nan .f32 a
  · right
    have h1 := nan_le hn
    have h1' : a % 2147483648 ≤ 2139095040 := h1
    by_cases hz : a % 2147483648 = 0
    · left
      exact ⟨rfl, by omega, by unfold logOut; rw [hn]; simp [hz]⟩
    · right
      by_cases hs : 2147483648 ≤ a
      · left
        exact ⟨rfl, by omega, by unfold logOut; rw [hn]; simp [hz, hs]⟩
      · right
        by_cases hi : a = 2139095040
        · left
          exact ⟨hi, by unfold logOut; rw [hn]; simp [hi]⟩
        · right
          have hf : fin .f32 a = true := decide_eq_true (show a % 2147483648 < 2139095040 from by omega)
          obtain ⟨r1, r2⟩ := W_range hf hz (by omega)
          -- the bound of the logarithm comes from any of its walks' plain steps
          obtain ⟨v, hv⟩ := log_narrow (W a) r1 r2
          exact ⟨rfl, hf, by omega, by omega, v, hv, by unfold logOut; rw [hn]; simp [hz, hs, hi]⟩
  · left
    exact ⟨rfl, by unfold logOut; rw [hn]; rfl⟩

theorem specLogN_any (a : Nat) (ha : a < 4294967296) (w : World) :
    Calls Try.prog 65 #[.float .f32 a] w fun e w' => ∃ v, e = .returned (.float .f32 v) ∧ Is (logOut a) v ∧ Drawn w w' := by
  rcases log_kinds a ha with ⟨hn, ho⟩ | ⟨hn, hz, ho⟩ | ⟨hn, hs, ho⟩ | ⟨hi, ho⟩ | ⟨hn, hf, h1, h2, v, hv, ho⟩
  · rw [ho]
    have hW := narrowed a hn
    have hx := convNan_nan .f64 a w
    clear hn ho
    go_enter Try.func65, Try.ntmps65
    go_wp2_with fail
    refine (specLogWide_nan _ hx _).mono ?_
    rintro e w1 ⟨rfl, rfl⟩
    go_wp2_with fail
    refine (specNarrow_nan _ (by decide) _).mono ?_
    rintro e w1 ⟨v, rfl, hv, d1⟩
    have HV : Hid (Is none v) := hv
    clear hv
    go_wp2_with fail
    go_ret
    exact ⟨_, rfl, HV.out, (Drawn.one w).trans d1⟩
  · rw [ho]
    have hW := widen a hn
    have hz' : W a = 0 ∨ W a = 9223372036854775808 := by rcases hz with rfl | rfl <;> decide +kernel
    generalize W a = x at *
    clear hn ho
    go_enter Try.func65, Try.ntmps65
    go_wp2_with fail
    refine (specLogWide_zero _ hz' _).mono ?_
    rintro e w1 ⟨rfl, rfl⟩
    clear hz'
    go_wp2_with fail
    refine (specNarrow_some 18442240474082181120 4286578688 (by decide +kernel) _).mono ?_
    rintro e w1 ⟨rfl, rfl⟩
    go_wp2_with fail
    go_ret
    exact ⟨_, rfl, ⟨rfl, by decide, by decide⟩, Drawn.refl _⟩
  · rw [ho]
    have hW := widen a hn
    have hq := (W_spec a hn).2.1
    have hl := W_lt a
    have hsg := W_sign a ha hn
    have hne : W a ≠ 9223372036854775808 := by
      intro h
      have h0 : W a % Ieee.double.signWeight = 0 := by rw [h]; decide
      have := (W_rel a a hn hn).2.2.2 h0
      have h1 : a % 2147483648 = 0 := this
      have h2 : a % 2147483648 ≤ 2139095040 := nan_le hn
      omega
    have hgt : 9223372036854775808 < W a := by omega
    generalize W a = x at *
    clear hn ho hsg hne
    go_enter Try.func65, Try.ntmps65
    go_wp2_with fail
    refine (specLogWide_neg _ hq hl hgt _).mono ?_
    rintro e w1 ⟨rfl, rfl⟩
    go_wp2_with fail
    refine (specNarrow_nan _ (by decide) _).mono ?_
    rintro e w1 ⟨v, rfl, hv, d1⟩
    have HV : Hid (Is none v) := hv
    clear hv
    go_wp2_with fail
    go_ret
    exact ⟨_, rfl, HV.out, d1⟩
  · rw [ho]
    subst hi
    have hW := widen 2139095040 (by decide)
    have hx : W 2139095040 = 9218868437227405312 := by decide +kernel
    rw [hx] at hW
    clear ho hx
    go_enter Try.func65, Try.ntmps65
    go_wp2_with fail
    refine (specLogWide_inf _).mono ?_
    rintro e w1 ⟨rfl, rfl⟩
    go_wp2_with fail
    refine (specNarrow_some 9218868437227405312 2139095040 (by decide +kernel) _).mono ?_
    rintro e w1 ⟨rfl, rfl⟩
    go_wp2_with fail
    go_ret
    exact ⟨_, rfl, ⟨rfl, by decide, by decide⟩, Drawn.refl _⟩
  · obtain ⟨r1, r2⟩ := W_range hf (by omega) (by omega)
    rw [ho, hv]
    have hW := widen a hn
    obtain ⟨v', hv', g1, g2⟩ := narrow_ok (logC_le r1 r2) (by omega)
    obtain rfl : v' = v := by rw [hv'] at hv; exact Option.some.inj hv
    have HI : Hid (Is (some v') v') := ⟨rfl, g2, g1⟩
    clear hn ho hf h1 h2 hv g1 g2
    go_enter Try.func65, Try.ntmps65
    go_wp2_with fail
    refine (specLog_any _ r1 r2 _).mono ?_
    rintro e w1 ⟨rfl, rfl, _⟩
    clear r1 r2
    go_wp2_with fail
    refine (specNarrow_some _ v' hv' _).mono ?_
    rintro e w1 ⟨rfl, rfl⟩
    go_wp2_with fail
    go_ret
    exact ⟨_, rfl, HI.out, Drawn.refl _⟩

theorem cmp0 (a : Nat) (ha : a < 4294967296) (hn : nan .f32 a = false) :
    (FloatKind.f32.format.order a 0 == some .eq) = decide (a = 0 ∨ a = 2147483648) ∧ (FloatKind.f32.format.order a 2139095039 == some .gt) = decide (2139095039 < a ∧ a < 2147483648) ∧
    (FloatKind.f32.format.order a 0 == some .gt) = decide (0 < a ∧ a < 2147483648) := by
  rw [eqB .f32 a 0 hn (by decide), gtB .f32 a _ hn (by decide), gtB .f32 a _ hn (by decide), S32 a ha, S32 0 (by decide), S32 2139095039 (by decide)]
  refine ⟨?_, ?_, ?_⟩ <;> (rw [Bool.eq_iff_iff, decide_eq_true_eq, decide_eq_true_eq]; split <;> simp <;> omega)

theorem implLogN_any (a : Nat) (ha : a < 4294967296) (w : World) :
    Calls Try.prog 62 #[.float .f32 a] w fun e w' => ∃ v, e = .returned (.float .f32 v) ∧ Is (logOut a) v ∧ Drawn w w' := by
  have hN := narrow_nan 9221120237041090561 (by decide)
  rcases log_kinds a ha with ⟨hn, ho⟩ | ⟨hn, hz, ho⟩ | ⟨hn, hs, ho⟩ | ⟨hi, ho⟩ | ⟨hn, hf, h1, h2, v, hv, ho⟩
  · rw [ho]
    have c1 : (FloatKind.f32.format.order a 0 == some .eq) = false := by rw [order_nan .f32 a _ (.inl hn)]; rfl
    have c2 : (FloatKind.f32.format.order a 2139095039 == some .gt) = false := by rw [order_nan .f32 a _ (.inl hn)]; rfl
    have c3 : (FloatKind.f32.format.order a 0 == some .gt) = false := by rw [order_nan .f32 a _ (.inl hn)]; rfl
    have hx := Lib.hid (convNan_nan .f32 9221120237041090561 w)
    clear hn ho
    go_enter Try.func62, Try.ntmps62
    go_wp2_with fail
    refine (mNaN_any _).mono ?_
    rintro e w1 ⟨rfl, rfl⟩
    go_wp2_with fail
    go_ret
    exact ⟨_, rfl, hx.out, Drawn.one _⟩
  · rw [ho]
    obtain ⟨c1, _, _⟩ := cmp0 a ha hn
    rw [decide_eq_true hz] at c1
    have hM := narrow_some 18442240474082181120 4286578688 (by decide +kernel)
    clear hn ho hz
    go_enter Try.func62, Try.ntmps62
    go_wp2_with fail
    refine (mInf_any _).mono ?_
    rintro e w1 ⟨rfl, rfl⟩
    go_wp2_with fail
    go_ret
    exact ⟨_, rfl, ⟨rfl, by decide, by decide⟩, Drawn.refl _⟩
  · rw [ho]
    obtain ⟨c1, c2, c3⟩ := cmp0 a ha hn
    rw [decide_eq_false (by omega)] at c1 c2 c3
    have hx := Lib.hid (convNan_nan .f32 9221120237041090561 w)
    clear hn ho hs
    go_enter Try.func62, Try.ntmps62
    go_wp2_with fail
    refine (mNaN_any _).mono ?_
    rintro e w1 ⟨rfl, rfl⟩
    go_wp2_with fail
    go_ret
    exact ⟨_, rfl, hx.out, Drawn.one _⟩
  · rw [ho]
    subst hi
    obtain ⟨c1, c2, c3⟩ := cmp0 2139095040 ha (by decide)
    rw [decide_eq_false (by omega)] at c1
    rw [decide_eq_true (by omega)] at c2
    clear ho c3
    go_enter Try.func62, Try.ntmps62
    go_wp2_with fail
    go_ret
    exact ⟨_, rfl, ⟨rfl, by decide, by decide⟩, Drawn.refl _⟩
  · obtain ⟨r1, r2⟩ := W_range hf (by omega) (by omega)
    rw [ho, hv]
    obtain ⟨c1, c2, c3⟩ := cmp0 a ha hn
    rw [decide_eq_false (by omega)] at c1 c2
    rw [decide_eq_true (by omega)] at c3
    have hW := widen a hn
    obtain ⟨v', hv', g1, g2⟩ := narrow_ok (logC_le r1 r2) (by omega)
    obtain rfl : v' = v := by rw [hv'] at hv; exact Option.some.inj hv
    have HI : Hid (Is (some v') v') := ⟨rfl, g2, g1⟩
    have hM := narrow_some _ v' hv'
    clear hn ho hf h1 h2 hv hv' g1 g2
    go_enter Try.func62, Try.ntmps62
    go_wp2_with fail
    refine (implLog_any _ r1 r2 _).mono ?_
    rintro e w1 ⟨rfl, rfl, _⟩
    clear r1 r2
    go_wp2_with fail
    go_ret
    exact ⟨_, rfl, HI.out, Drawn.refl _⟩
end Go.Proofs.Ytemdgfjcjjadnab
