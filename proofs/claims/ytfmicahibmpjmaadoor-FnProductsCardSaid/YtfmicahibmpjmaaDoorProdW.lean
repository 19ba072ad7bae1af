/-
  Complex numbers whose parts are whole numbers: contracts of products, powers, conjugates, quotients and roots. Conditions: the parts are not too great.
-/
import Derived.Test.YtfmicahibmpjmaaDoorInt
import Derived.Test.YtfmicahibmpjmaaDoorRootW
import Derived.Test.YtfmicahibmpjmaaDoorSlW
import Derived.Laws.Cover2
import Derived.Laws.Cover3
import Derived.Laws.ComplexArith
namespace Flt
theorem prod_bd {i k : Int} {A B : Nat} (h : i.natAbs ≤ A) (g : k.natAbs ≤ B) : (i * k).natAbs ≤ A * B := by rw [Int.natAbs_mul]; exact Nat.mul_le_mul h g
theorem p53 : (2 : Nat) ^ (Go.FloatKind.f64.format.fractionBits + 1) = 9007199254740992 := by decide
theorem p24 : (2 : Nat) ^ (Go.FloatKind.f32.format.fractionBits + 1) = 16777216 := by decide
end Flt
namespace Go.Proofs.YtfmicahibmpjmaaDoor
open Go.RowKit Flt
set_option maxRecDepth 20000 in
theorem wideP_any (a b c d : Nat) {i j k l : Int} (ha : IV .f32 a i) (hb : IV .f32 b j) (hc : IV .f32 c k) (hd : IV .f32 d l) (bi : i.natAbs ≤ 80000) (bj : j.natAbs ≤ 80000) (bk : k.natAbs ≤ 200) (bl : l.natAbs ≤ 200) :
    ∃ r1 r2, IV .f64 r1 (i * k - j * l) ∧ IV .f64 r2 (i * l + j * k) ∧ ∀ w, Calls Tryd.prog 58 #[.complex .f32 a b, .complex .f32 c d] w fun e w' => e = .returned (.complex .f64 r1 r2) ∧ w = w' := by
  have b1 := prod_bd bi bk
  have b2 := prod_bd bj bl
  have b3 := prod_bd bi bl
  have b4 := prod_bd bj bk
  obtain ⟨p1, m1, v1⟩ := (ha.widen (by omega)).mul (hc.widen (by omega)) (by rw [p53]; omega)
  obtain ⟨p2, m2, v2⟩ := (hb.widen (by omega)).mul (hd.widen (by omega)) (by rw [p53]; omega)
  obtain ⟨p3, m3, v3⟩ := (ha.widen (by omega)).mul (hd.widen (by omega)) (by rw [p53]; omega)
  obtain ⟨p4, m4, v4⟩ := (hb.widen (by omega)).mul (hc.widen (by omega)) (by rw [p53]; omega)
  obtain ⟨r1, s1, u1⟩ := v1.sub v2 (by rw [p53]; omega)
  obtain ⟨r2, s2, u2⟩ := v3.add v4 (by rw [p53]; omega)
  refine ⟨r1, r2, u1, u2, fun w => ?_⟩
  have wa := widen a ha.num
  have wb := widen b hb.num
  have wc := widen c hc.num
  have wd := widen d hd.num
  have q1 : ∀ w, (binOp .mul 44 (.float .f64 (W a)) (.float .f64 (W c))).run Tryd.prog w = .ok (.float .f64 p1) w := fun w => run_float_arith w .mul 44 .f64 _ _ _ m1
  have q2 : ∀ w, (binOp .mul 44 (.float .f64 (W b)) (.float .f64 (W d))).run Tryd.prog w = .ok (.float .f64 p2) w := fun w => run_float_arith w .mul 44 .f64 _ _ _ m2
  have q3 : ∀ w, (binOp .mul 44 (.float .f64 (W a)) (.float .f64 (W d))).run Tryd.prog w = .ok (.float .f64 p3) w := fun w => run_float_arith w .mul 44 .f64 _ _ _ m3
  have q4 : ∀ w, (binOp .mul 44 (.float .f64 (W b)) (.float .f64 (W c))).run Tryd.prog w = .ok (.float .f64 p4) w := fun w => run_float_arith w .mul 44 .f64 _ _ _ m4
  have q5 : ∀ w, (binOp .sub 44 (.float .f64 p1) (.float .f64 p2)).run Tryd.prog w = .ok (.float .f64 r1) w := fun w => run_float_arith w .sub 44 .f64 _ _ _ s1
  have q6 : ∀ w, (binOp .add 44 (.float .f64 p3) (.float .f64 p4)).run Tryd.prog w = .ok (.float .f64 r2) w := fun w => run_float_arith w .add 44 .f64 _ _ _ s2
  clear b1 b2 b3 b4 m1 m2 m3 m4 s1 s2 v1 v2 v3 v4 u1 u2 ha hb hc hd bi bj bk bl
  generalize W a = A at *
  generalize W b = B at *
  generalize W c = C at *
  generalize W d = D at *
  go_enter Tryd.func58, Tryd.ntmps58
  go_wp2_with fail
  go_ret
  exact ⟨rfl, rfl⟩
theorem narrowC_any (r1 r2 v1 v2 : Nat) (h1 : floatToFloatBits .f64 r1 .f32 = some v1) (h2 : floatToFloatBits .f64 r2 .f32 = some v2) (w : World) :
    Calls Tryd.prog 35 #[.complex .f64 r1 r2] w fun e w' => e = .returned (.complex .f32 v1 v2) ∧ w = w' := by
  have hN1 : ∀ w, (convert 44 24 (.float .f64 r1)).run Tryd.prog w = .ok (.float .f32 v1) w := fun w => run_convert_float_float w 44 24 .f64 .f32 _ _ (by rw [Tryd.underlying44]; rfl) Tryd.underlying24 h1
  have hN2 : ∀ w, (convert 44 24 (.float .f64 r2)).run Tryd.prog w = .ok (.float .f32 v2) w := fun w => run_convert_float_float w 44 24 .f64 .f32 _ _ (by rw [Tryd.underlying44]; rfl) Tryd.underlying24 h2
  clear h1 h2
  go_enter Tryd.func35, Tryd.ntmps35
  go_wp2_with fail
  go_ret
  exact ⟨rfl, rfl⟩
theorem mulC_any (a b c d : Nat) {i j k l : Int} (ha : IV .f32 a i) (hb : IV .f32 b j) (hc : IV .f32 c k) (hd : IV .f32 d l) (bi : i.natAbs ≤ 200) (bj : j.natAbs ≤ 200) (bk : k.natAbs ≤ 200) (bl : l.natAbs ≤ 200) :
    ∃ v1 v2, IV .f32 v1 (i * k - j * l) ∧ IV .f32 v2 (i * l + j * k) ∧ ∀ w, Calls Tryd.prog 22 #[.complex .f32 a b, .complex .f32 c d] w fun e w' => e = .returned (.complex .f32 v1 v2) ∧ w = w' := by
  have b1 := prod_bd bi bk
  have b2 := prod_bd bj bl
  have b3 := prod_bd bi bl
  have b4 := prod_bd bj bk
  obtain ⟨r1, r2, u1, u2, hw⟩ := wideP_any a b c d ha hb hc hd (by omega) (by omega) bk bl
  obtain ⟨v1, n1, g1⟩ := u1.narrow (by omega)
  obtain ⟨v2, n2, g2⟩ := u2.narrow (by omega)
  refine ⟨v1, v2, g1, g2, fun w => ?_⟩
  have HW := Lib.hid hw
  have HN := Lib.hid (fun w => narrowC_any r1 r2 v1 v2 n1 n2 w)
  clear b1 b2 b3 b4 ha hb hc hd bi bj bk bl u1 u2 hw n1 n2 g1 g2
  go_enter Tryd.func22, Tryd.ntmps22
  go_wp2_with fail
  refine (HW.out _).mono ?_
  rintro e w1 ⟨rfl, rfl⟩
  go_wp2_with fail
  refine (HN.out _).mono ?_
  rintro e w1 ⟨rfl, rfl⟩
  go_wp2_with fail
  go_ret
  exact ⟨rfl, rfl⟩
/-- the power: the very word, and what becomes of it -/
theorem wideW_any (a b : Nat) {i j : Int} (ha : IV .f32 a i) (hb : IV .f32 b j) (bi : i.natAbs ≤ 200) (bj : j.natAbs ≤ 200) :
    ∃ r n : Nat, (n : Int) = i * i + j * j ∧ Rep .f64 false n r ∧ ∀ w, Calls Tryd.prog 59 #[.complex .f32 a b] w fun e w' => e = .returned (.float .f64 r) ∧ w = w' := by
  have wa := widen a ha.num
  have wb := widen b hb.num
  obtain ⟨s, m, ra, rfl⟩ := ha
  obtain ⟨t, n, rb, rfl⟩ := hb
  rw [vl_abs] at bi bj
  have b1 : m * m ≤ 200 * 200 := Nat.mul_le_mul bi bi
  have b2 : n * n ≤ 200 * 200 := Nat.mul_le_mul bj bj
  obtain ⟨p1, p2, r, m1, m2, s1, u⟩ := pow_rep (widen_rep ra (by omega)) (widen_rep rb (by omega)) (by rw [p53]; omega)
  refine ⟨r, m * m + n * n, ?_, u, fun w => ?_⟩
  · rw [← vl_mul, ← vl_mul, Bool.xor_self, Bool.xor_self]
    unfold vl; simp
  have q1 : ∀ w, (binOp .mul 44 (.float .f64 (W a)) (.float .f64 (W a))).run Tryd.prog w = .ok (.float .f64 p1) w := fun w => run_float_arith w .mul 44 .f64 _ _ _ m1
  have q2 : ∀ w, (binOp .mul 44 (.float .f64 (W b)) (.float .f64 (W b))).run Tryd.prog w = .ok (.float .f64 p2) w := fun w => run_float_arith w .mul 44 .f64 _ _ _ m2
  have q3 : ∀ w, (binOp .add 44 (.float .f64 p1) (.float .f64 p2)).run Tryd.prog w = .ok (.float .f64 r) w := fun w => run_float_arith w .add 44 .f64 _ _ _ s1
  clear b1 b2 m1 m2 s1 u ra rb bi bj
  generalize W a = A at *
  generalize W b = B at *
  go_enter Tryd.func59, Tryd.ntmps59
  go_wp2_with fail
  go_ret
  exact ⟨rfl, rfl⟩
theorem powerOf_any (a b : Nat) {i j : Int} (ha : IV .f32 a i) (hb : IV .f32 b j) (bi : i.natAbs ≤ 200) (bj : j.natAbs ≤ 200) :
    ∃ v, IV .f32 v (i * i + j * j) ∧ ∀ w, Calls Tryd.prog 23 #[.complex .f32 a b] w fun e w' => e = .returned (.float .f32 v) ∧ w = w' := by
  obtain ⟨r, n, hn, hr, hw⟩ := wideW_any a b ha hb bi bj
  have b1 := prod_bd bi bi
  have b2 := prod_bd bj bj
  obtain ⟨v, n1, g1⟩ := narrow_rep hr (by omega)
  refine ⟨v, ⟨false, n, g1, by rw [← hn]; unfold vl; simp⟩, fun w => ?_⟩
  have HW := Lib.hid hw
  have hN1 : ∀ w, (convert 44 24 (.float .f64 r)).run Tryd.prog w = .ok (.float .f32 v) w := fun w => run_convert_float_float w 44 24 .f64 .f32 _ _ (by rw [Tryd.underlying44]; rfl) Tryd.underlying24 n1
  clear hw hn hr b1 b2 n1 g1 ha hb bi bj
  go_enter Tryd.func23, Tryd.ntmps23
  go_wp2_with fail
  refine (HW.out _).mono ?_
  rintro e w1 ⟨rfl, rfl⟩
  go_wp2_with fail
  go_ret
  exact ⟨rfl, rfl⟩
theorem conj_any (a b : Nat) (w : World) : Calls Tryd.prog 24 #[.complex .f32 a b] w fun e w' => e = .returned (.complex .f32 a (negF b)) ∧ w = w' := by
  have rn : ∀ w, (Op.unary .neg (.float .f32 b)).run Tryd.prog w = .ok (.float .f32 (negF b)) w := fun _ => rfl
  generalize negF b = nb at *
  go_enter Tryd.func24, Tryd.ntmps24
  go_wp2_with fail
  go_ret
  exact ⟨rfl, rfl⟩
theorem quoC_any (a b c d : Nat) {i j k l : Int} (ha : IV .f32 a (i * k - j * l)) (hb : IV .f32 b (i * l + j * k)) (hc : IV .f32 c k) (hd : IV .f32 d l) (bi : i.natAbs ≤ 200) (bj : j.natAbs ≤ 200) (bk : k.natAbs ≤ 200) (bl : l.natAbs ≤ 200) (h0 : k ≠ 0 ∨ l ≠ 0) :
    ∃ v1 v2, IV .f32 v1 i ∧ IV .f32 v2 j ∧ ∀ w, Calls Tryd.prog 27 #[.complex .f32 a b, .complex .f32 c d] w fun e w' => e = .returned (.complex .f32 v1 v2) ∧ w = w' := by
  have b1 := prod_bd bi bk
  have b2 := prod_bd bj bl
  have b3 := prod_bd bi bl
  have b4 := prod_bd bj bk
  obtain ⟨r1, r2, u1, u2, hw⟩ := wideP_any a b c (negF d) ha hb hc hd.neg (by omega) (by omega) bk (by omega)
  obtain ⟨p, n, hn, hr, hp⟩ := wideW_any c d hc hd bk bl
  have hP : IV .f64 p (n : Int) := ⟨false, n, hr, by unfold vl; simp⟩
  have kk : 0 ≤ k * k := by
    rcases Int.le_total 0 k with h | h
    · exact Int.mul_nonneg h h
    · exact Int.mul_nonneg_of_nonpos_of_nonpos h h
  have ll : 0 ≤ l * l := by
    rcases Int.le_total 0 l with h | h
    · exact Int.mul_nonneg h h
    · exact Int.mul_nonneg_of_nonpos_of_nonpos h h
  have hn0 : (n : Int) ≠ 0 := by
    rw [hn]
    rcases h0 with h | h
    · have : k * k ≠ 0 := Int.mul_ne_zero h h
      omega
    · have : l * l ≠ 0 := Int.mul_ne_zero h h
      omega
  have e1 : (i * k - j * l) * k - (i * l + j * k) * -l = i * (n : Int) := by
    rw [hn]
    simp only [Int.mul_add, Int.add_mul, Int.sub_mul, Int.mul_neg]
    have x1 : j * l * k = j * k * l := by rw [Int.mul_assoc, Int.mul_comm l k, ← Int.mul_assoc]
    rw [x1, Int.mul_assoc i k k, Int.mul_assoc i l l]
    omega
  have e2 : (i * k - j * l) * -l + (i * l + j * k) * k = j * (n : Int) := by
    rw [hn]
    simp only [Int.mul_add, Int.add_mul, Int.sub_mul, Int.mul_neg]
    have x1 : i * l * k = i * k * l := by rw [Int.mul_assoc, Int.mul_comm l k, ← Int.mul_assoc]
    rw [x1, Int.mul_assoc j k k, Int.mul_assoc j l l]
    omega
  rw [e1] at u1
  rw [e2] at u2
  obtain ⟨q1, d1, y1⟩ := u1.quo hP hn0 (by rw [p53]; omega)
  obtain ⟨q2, d2, y2⟩ := u2.quo hP hn0 (by rw [p53]; omega)
  obtain ⟨v1, n1, g1⟩ := y1.narrow (by omega)
  obtain ⟨v2, n2, g2⟩ := y2.narrow (by omega)
  refine ⟨v1, v2, g1, g2, fun w => ?_⟩
  have HW := Lib.hid hw
  have HP := Lib.hid hp
  have HC := Lib.hid (fun w => conj_any c d w)
  have t1 : ∀ w, (binOp .quo 44 (.float .f64 r1) (.float .f64 p)).run Tryd.prog w = .ok (.float .f64 q1) w := fun w => run_float_arith w .quo 44 .f64 _ _ _ d1
  have t2 : ∀ w, (binOp .quo 44 (.float .f64 r2) (.float .f64 p)).run Tryd.prog w = .ok (.float .f64 q2) w := fun w => run_float_arith w .quo 44 .f64 _ _ _ d2
  have hN1 : ∀ w, (convert 44 24 (.float .f64 q1)).run Tryd.prog w = .ok (.float .f32 v1) w := fun w => run_convert_float_float w 44 24 .f64 .f32 _ _ (by rw [Tryd.underlying44]; rfl) Tryd.underlying24 n1
  have hN2 : ∀ w, (convert 44 24 (.float .f64 q2)).run Tryd.prog w = .ok (.float .f32 v2) w := fun w => run_convert_float_float w 44 24 .f64 .f32 _ _ (by rw [Tryd.underlying44]; rfl) Tryd.underlying24 n2
  clear b1 b2 b3 b4 u1 u2 hw hp hn hr hP kk ll hn0 e1 e2 d1 d2 y1 y2 n1 n2 g1 g2 ha hb hc hd bi bj bk bl h0
  go_enter Tryd.func27, Tryd.ntmps27
  go_wp2_with fail
  refine (HC.out _).mono ?_
  rintro e w1 ⟨rfl, rfl⟩
  go_wp2_with fail
  refine (HW.out _).mono ?_
  rintro e w1 ⟨rfl, rfl⟩
  go_wp2_with fail
  refine (HP.out _).mono ?_
  rintro e w1 ⟨rfl, rfl⟩
  go_wp2_with fail
  go_ret
  exact ⟨rfl, rfl⟩
theorem scaleC_any (a b : Nat) {i j : Int} (ha : IV .f32 a i) (hb : IV .f32 b j) (bi : i.natAbs ≤ 200) (bj : j.natAbs ≤ 200) :
    ∃ v1 v2, IV .f32 v1 (i * 2) ∧ IV .f32 v2 (j * 2) ∧ ∀ w, Calls Tryd.prog 28 #[.complex .f32 a b, .float .f32 1073741824] w fun e w' => e = .returned (.complex .f32 v1 v2) ∧ w = w' := by
  have h2 : IV .f32 1073741824 2 := by
    have := IV.ofInt .f32 2 (by rw [p24]; decide)
    have e : Go.floatOfInt .f32 2 = 1073741824 := by kernel_rfl
    rw [e] at this; exact this
  obtain ⟨v1, m1, g1⟩ := ha.mul h2 (by rw [p24]; omega)
  obtain ⟨v2, m2, g2⟩ := hb.mul h2 (by rw [p24]; omega)
  refine ⟨v1, v2, g1, g2, fun w => ?_⟩
  have q1 : ∀ w, (binOp .mul 24 (.float .f32 a) (.float .f32 1073741824)).run Tryd.prog w = .ok (.float .f32 v1) w := fun w => run_float_arith w .mul 24 .f32 _ _ _ m1
  have q2 : ∀ w, (binOp .mul 24 (.float .f32 b) (.float .f32 1073741824)).run Tryd.prog w = .ok (.float .f32 v2) w := fun w => run_float_arith w .mul 24 .f32 _ _ _ m2
  clear m1 m2 g1 g2 ha hb bi bj h2
  go_enter Tryd.func28, Tryd.ntmps28
  go_wp2_with fail
  go_ret
  exact ⟨rfl, rfl⟩
theorem twice_any (a b : Nat) {i j : Int} (ha : IV .f32 a i) (hb : IV .f32 b j) (bi : i.natAbs ≤ 200) (bj : j.natAbs ≤ 200) :
    ∃ v1 v2, IV .f32 v1 (i + i) ∧ IV .f32 v2 (j + j) ∧ ∀ w, (binOp .add 42 (.complex .f32 a b) (.complex .f32 a b)).run Tryd.prog w = .ok (.complex .f32 v1 v2) w := by
  obtain ⟨v1, m1, g1⟩ := ha.add ha (by rw [p24]; omega)
  obtain ⟨v2, m2, g2⟩ := hb.add hb (by rw [p24]; omega)
  exact ⟨v1, v2, g1, g2, fun w => run_complex_sum w .add (.inl rfl) 42 .f32 a b a b v1 v2 (by unfold cSumBits; rw [m1, m2]; rfl)⟩
end Go.Proofs.YtfmicahibmpjmaaDoor
