/-
  Contracts of sameFloat (two numbers that are one, or two that are none), of IsSubnormal and FlushNumber in the program and in its model, and the walks of their exact laws. Conditions: arguments are bits that fit their kind.
-/
import Derived.Test.YtmgmelbpggedkabMathW
namespace Go.Proofs.Ytmgmelbpggedkab
open Go.RowKit Flt

theorem sameFloat_nan (x y : Nat) (hx : nan .f64 x = true) (hy : nan .f64 y = true) (w : World) :
    Calls Try.prog 14 #[.float .f64 x, .float .f64 y] w fun e w' => e = .returned (.bool true) ∧ w = w' := by
  have ox := order_self .f64 x
  have oy := order_self .f64 y
  rw [hx] at ox
  rw [hy] at oy
  clear hx hy
  go_enter Try.func14, Try.ntmps14
  go_wp2
  go_ret
  exact ⟨rfl, rfl⟩

theorem quo_zero (x : Nat) (h : x = 0 ∨ x = 9223372036854775808) : ∃ r, floatBits .quo .f64 4607182418800017408 x = some r := by
  rcases h with rfl | rfl
  · exact ⟨9218868437227405312, by decide⟩
  · exact ⟨18442240474082181120, by decide⟩

theorem sameFloat_eq (x : Nat) (hl : x < 18446744073709551616) (hx : nan .f64 x = false) (w : World) :
    Calls Try.prog 14 #[.float .f64 x, .float .f64 x] w fun e w' => e = .returned (.bool true) ∧ w = w' := by
  have ox := order_self .f64 x
  rw [hx] at ox
  have h0 := eqB .f64 x 0 hx (by decide)
  have hs := Lib.hid (order_self' .f64 x)
  rw [S64 x hl, S64 0 (by decide), if_pos (by decide : (0 : Nat) < 9223372036854775808)] at h0
  by_cases hz : x = 0 ∨ x = 9223372036854775808
  · obtain ⟨r, hr⟩ := quo_zero x hz
    rw [decide_eq_true (by rcases hz with rfl | rfl <;> simp)] at h0
    have hq : ∀ w, (binOp .quo 25 (.float .f64 4607182418800017408) (.float .f64 x)).run Try.prog w = .ok (.float .f64 r) w := fun w => run_float_arith w .quo 25 .f64 _ x r hr
    have he : ∀ y : Bool, (y == y) = true := by simp
    clear hz hr hl hx
    go_enter Try.func14, Try.ntmps14
    go_wp2
    go_ret
    exact ⟨by simp, rfl⟩
  · rw [decide_eq_false (by simp only [not_or] at hz; split <;> omega)] at h0
    have hx' := Lib.hid hx
    clear hz hl hx
    go_enter Try.func14, Try.ntmps14
    go_wp2
    go_ret
    exact ⟨by have := hs.out; rw [hx'.out] at this; simp only [Bool.not_false] at this; simp [this], rfl⟩
def subB (a : Nat) : Bool := decide (0 < a % 2147483648 ∧ a % 2147483648 < 8388608)

theorem sub_mask (a : Nat) (ha : a < 4294967296) (h0 : a % 2147483648 ≠ 0) : (bits .and .i64 (bitsC a) 2139095040 == 0) = subB a := by
  unfold subB
  cases hn : nan .f32 a
  · rw [bitsC_num hn, exp_bits a ha, Bool.eq_iff_iff]
    simp
    omega
  · rw [bitsC_nan hn, show bits .and .i64 2143289344 2139095040 = 2139095040 from by decide]
    have := of_decide_eq_true (show decide (2139095040 < a % 2147483648) = true from hn)
    rw [Bool.eq_iff_iff]; simp; omega

theorem ne_zero (a : Nat) (ha : a < 4294967296) : (FloatKind.f32.format.order a 0 != some .eq) = !decide (a % 2147483648 = 0) := by
  cases hn : nan .f32 a
  · rw [neB .f32 a 0 hn (by decide), S32 a ha, S32 0 (by decide), if_pos (by decide : (0 : Nat) < 2147483648)]
    congr 1
    rw [Bool.eq_iff_iff]; simp; split <;> omega
  · rw [order_nan .f32 a 0 (.inl hn)]
    have := of_decide_eq_true (show decide (2139095040 < a % 2147483648) = true from hn)
    rw [decide_eq_false (by omega)]; rfl

theorem specSub_any (a : Nat) (ha : a < 4294967296) (w : World) :
    Calls Try.prog 15 #[.float .f32 a] w fun e w' => e = .returned (.bool (subB a)) ∧ w = w' := by
  have h0 := ne_zero a ha
  by_cases hz : a % 2147483648 = 0
  · rw [decide_eq_true hz] at h0
    have hb : Hid (subB a = false) := by unfold subB; exact decide_eq_false (by omega)
    clear hz
    go_enter Try.func15, Try.ntmps15
    go_wp2
    go_ret
    exact ⟨by rw [hb.out]; rfl, rfl⟩
  · rw [decide_eq_false hz] at h0
    have hm := Lib.hid (sub_mask a ha hz)
    clear hz
    go_enter Try.func15, Try.ntmps15
    go_wp2_with fail
    refine (l01Bits_any a _ ha).mono ?_
    rintro e w' ⟨rfl, rfl⟩
    go_wp2_with fail
    go_ret
    exact ⟨by rw [← hm.out]; rfl, rfl⟩

theorem implSub_any (a : Nat) (ha : a < 4294967296) (w : World) :
    Calls Try.prog 16 #[.float .f32 a] w fun e w' => e = .returned (.bool (subB a)) ∧ w = w' := by
  have h0 := ne_zero a ha
  by_cases hz : a % 2147483648 = 0
  · rw [decide_eq_true hz] at h0
    have hb : Hid (subB a = false) := by unfold subB; exact decide_eq_false (by omega)
    clear hz
    go_enter Try.func16, Try.ntmps16
    go_wp2
    go_ret
    exact ⟨by rw [hb.out]; rfl, rfl⟩
  · rw [decide_eq_false hz] at h0
    cases hn : nan .f32 a
    · have hg := gtB .f32 a 2155872256 hn (by decide)
      have hl := ltB .f32 a 8388608 hn (by decide)
      rw [S32 a ha, S32 _ (by decide), if_neg (by decide)] at hg
      rw [S32 a ha, S32 8388608 (by decide), if_pos (by decide : 8388608 < 2147483648)] at hl
      have hb : Hid (subB a = (FloatKind.f32.format.order a 2155872256 == some .gt && FloatKind.f32.format.order a 8388608 == some .lt)) := by
        unfold subB
        show _ = _
        rw [hg, hl, Bool.eq_iff_iff]
        simp
        split <;> omega
      cases hv : (FloatKind.f32.format.order a 2155872256 == some .gt)
      · have hb2 : Hid (subB a = false) := by show _ = _; rw [hb.out, hv]; rfl
        clear hz hn hg hl hb
        go_enter Try.func16, Try.ntmps16
        go_wp2
        go_ret
        exact ⟨by rw [hb2.out]; rfl, rfl⟩
      · have hb2 : Hid (subB a = (FloatKind.f32.format.order a 8388608 == some .lt)) := by show _ = _; rw [hb.out, hv]; rfl
        clear hz hn hg hl hb
        go_enter Try.func16, Try.ntmps16
        go_wp2
        go_ret
        exact ⟨by rw [hb2.out]; rfl, rfl⟩
    · have hg : (FloatKind.f32.format.order a 2155872256 == some .gt) = false := by rw [order_nan .f32 a _ (.inl hn)]; rfl
      have hb : Hid (subB a = false) := by
        unfold subB
        have := of_decide_eq_true (show decide (2139095040 < a % 2147483648) = true from hn)
        exact decide_eq_false (by omega)
      clear hz hn
      go_enter Try.func16, Try.ntmps16
      go_wp2
      go_ret
      exact ⟨by rw [hb.out]; rfl, rfl⟩
theorem fnExactIsSubnormal_walk (a : Nat) (wa : (Lit.float .f32 a).wf = true) (w : World) :
    Calls Try.prog 6 #[.float .f32 a] w fun e w' => e = .returned (.bool true) ∧ Below w.heap.size w w' := by
  have ha := lt32 wa
  have he : ∀ x : Bool, (x != x) = false := by simp
  clear wa
  go_enter Try.func6, Try.ntmps6
  go_wp2_with fail
  refine (specSub_any a ha _).mono ?_
  rintro e w1 ⟨rfl, rfl⟩
  go_wp2_with fail
  refine (implSub_any a ha _).mono ?_
  rintro e w2 ⟨rfl, rfl⟩
  go_wp2_with fail
  go_ret
  exact ⟨rfl, Below.refl _ _⟩
/-- flushed -/
def flush (a : Nat) : Nat := if subB a then a / 2147483648 * 2147483648 else a

theorem f32from (a : Nat) (w : World) : (callFunc 35 #[.int .u32 a]).run Try.prog w = .ok (.value (.float .f32 a)) w := by kernel_rfl

theorem l01From_any (n : Nat) (hn : n < 4294967296) (w : World) : Calls Try.prog 31 #[.int .i64 n] w fun e w' => e = .returned (.float .f32 n) ∧ w = w' := by
  have h := f32from n
  go_enter Try.func31, Try.ntmps31
  go_wp2
  go_ret
  exact ⟨rfl, rfl⟩

theorem specFlush_any (a : Nat) (ha : a < 4294967296) (w : World) :
    Calls Try.prog 25 #[.float .f32 a] w fun e w' => e = .returned (.float .f32 (flush a)) ∧ w = w' := by
  have hm : (bits .and .i64 (bitsC a) 2139095040 == 0) = (decide (a % 2147483648 = 0) || subB a) := by
    by_cases hz : a % 2147483648 = 0
    · rw [decide_eq_true hz]
      have hn : nan .f32 a = false := nan_false (by show a % 2147483648 ≤ _; omega)
      rw [bitsC_num hn, exp_bits a ha, show a / 8388608 % 256 = 0 from by omega]; rfl
    · rw [decide_eq_false hz, sub_mask a ha hz]; rfl
  cases hv : (decide (a % 2147483648 = 0) || subB a)
  · rw [hv] at hm
    have hf : Hid (flush a = a) := by
      simp only [Bool.or_eq_false_iff] at hv
      unfold flush; rw [hv.2]; rfl
    clear hv
    go_enter Try.func25, Try.ntmps25
    go_wp2_with fail
    refine (l01Bits_any a _ ha).mono ?_
    rintro e w' ⟨rfl, rfl⟩
    go_wp2_with fail
    go_ret
    exact ⟨by rw [hf.out]; rfl, rfl⟩
  · rw [hv] at hm
    have hn : nan .f32 a = false := by
      refine nan_false (show a % 2147483648 ≤ 2139095040 from ?_)
      unfold subB at hv
      simp at hv
      omega
    have hf : Hid (flush a = a / 2147483648 * 2147483648) := by
      simp only [Bool.or_eq_true, decide_eq_true_eq] at hv
      show _ = _
      unfold flush
      split
      · rfl
      · rcases hv with h | h
        · omega
        · contradiction
    have ht := top_bit a ha
    have hl : a / 2147483648 * 2147483648 < 4294967296 := by omega
    rw [bitsC_num hn] at hm
    have hB := Lib.hid (bitsC_num hn)
    generalize a / 2147483648 * 2147483648 = n at *
    have HT := Lib.hid ht
    clear hv hn ht
    go_enter Try.func25, Try.ntmps25
    go_wp2_with fail
    refine (l01Bits_any a _ ha).mono ?_
    rintro e w' ⟨rfl, rfl⟩
    rw [hB.out]
    go_wp2_with fail
    rw [HT.out]
    refine (l01From_any n hl _).mono ?_
    rintro e w' ⟨rfl, rfl⟩
    go_wp2_with fail
    go_ret
    exact ⟨by rw [hf.out]; rfl, rfl⟩

theorem copysign0_any (x : Nat) (hx : x < 18446744073709551616) (w : World) :
    Calls Try.prog 26 #[.float .f64 0, .float .f64 x] w fun e w' => e = .returned (.float .f64 (x / 9223372036854775808 * 9223372036854775808)) ∧ w = w' := by
  have h1 := f64bits x
  have h1' := f64bits 0
  have h2 := sign_bits x hx
  have hy : x / 9223372036854775808 * 9223372036854775808 < 18446744073709551616 := by omega
  have h3 : ∀ w, (callFunc 32 #[.int .u64 (bits .or .u64 (bits .andNot .u64 0 9223372036854775808) (bits .and .u64 (x : Int) 9223372036854775808))]).run Try.prog w = .ok (.value (.float .f64 (x / 9223372036854775808 * 9223372036854775808))) w := by
    rw [h2, show bits .andNot .u64 0 9223372036854775808 = ((0 : Nat) : Int) from by decide, u64_or_nat _ _ (by decide) hy, Nat.zero_or]
    exact f64from _
  clear h2
  generalize x / 9223372036854775808 * 9223372036854775808 = y at h3 hy ⊢
  clear hy hx
  go_enter Try.func26, Try.ntmps26
  go_wp2
  go_ret
  exact ⟨rfl, rfl⟩

theorem implFlush_any (a : Nat) (ha : a < 4294967296) (w : World) :
    Calls Try.prog 18 #[.float .f32 a] w fun e w' => e = .returned (.float .f32 (flush a)) ∧ w = w' := by
  cases hs : subB a
  · have hf : Hid (flush a = a) := by show _ = _; unfold flush; rw [hs]; rfl
    have HS := Lib.hid hs
    clear hs
    go_enter Try.func18, Try.ntmps18
    go_wp2_with fail
    refine (implSub_any a ha _).mono ?_
    rintro e w' ⟨rfl, rfl⟩
    rw [HS.out]
    go_wp2_with fail
    go_ret
    exact ⟨by rw [hf.out]; rfl, rfl⟩
  · have hf : Hid (flush a = a / 2147483648 * 2147483648) := by show _ = _; unfold flush; rw [hs]; rfl
    have hn : nan .f32 a = false := by
      refine nan_false (show a % 2147483648 ≤ 2139095040 from ?_)
      unfold subB at hs
      simp at hs
      omega
    have hW := widen a hn
    have hl := W_lt a
    have hsg := W_sign a ha hn
    have hc : ∀ w, (convert 25 22 (.float .f64 (W a / 9223372036854775808 * 9223372036854775808))).run Try.prog w = .ok (.float .f32 (a / 2147483648 * 2147483648)) w := by
      intro w
      refine run_convert_float_float w 25 22 .f64 .f32 _ _ (by rw [Try.underlying25]; rfl) Try.underlying22 ?_
      by_cases h : 2147483648 ≤ a
      · rw [show W a / 9223372036854775808 = 1 from by omega, show a / 2147483648 = 1 from by omega]; decide
      · rw [show W a / 9223372036854775808 = 0 from by omega, show a / 2147483648 = 0 from by omega]; decide
    have HS := Lib.hid hs
    clear hs hn hsg
    go_enter Try.func18, Try.ntmps18
    go_wp2_with fail
    refine (implSub_any a ha _).mono ?_
    rintro e w' ⟨rfl, rfl⟩
    rw [HS.out]
    go_wp2_with fail
    refine (copysign0_any (W a) hl _).mono ?_
    rintro e w' ⟨rfl, rfl⟩
    go_wp2_with fail
    go_ret
    exact ⟨by rw [hf.out]; rfl, rfl⟩

theorem flush_lt (a : Nat) (ha : a < 4294967296) : flush a < 4294967296 := by unfold flush; split <;> omega

theorem narrowed (a : Nat) (h : nan .f32 a = true) (w : World) : (convert 22 25 (.float .f32 a)).run Try.prog w = .ok (.float .f64 (convNan .f64 a w)) w.drew :=
  run_conv_nan w 22 25 .f32 .f64 a (by rw [Try.underlying22]; rfl) Try.underlying25 (by decide) h
theorem fnExactFlushNumber_walk (a : Nat) (wa : (Lit.float .f32 a).wf = true) (w : World) :
    Calls Try.prog 7 #[.float .f32 a] w fun e w' => e = .returned (.bool true) ∧ Below w.heap.size w w' := by
  have ha := lt32 wa
  have hl := flush_lt a ha
  generalize hy : flush a = y at hl
  have HY := Lib.hid hy
  clear wa hy
  cases hn : nan .f32 y
  · have hW := widen y hn
    have hq := (W_spec y hn).2.1
    have hr := W_lt y
    clear hn
    go_enter Try.func7, Try.ntmps7
    go_wp2_with fail
    go_enter Try.func17, Try.ntmps17
    go_wp2_with fail
    refine (specFlush_any a ha _).mono ?_
    rintro e w1 ⟨rfl, rfl⟩
    go_wp2_with fail
    refine (implFlush_any a ha _).mono ?_
    rintro e w2 ⟨rfl, rfl⟩
    rw [HY.out]
    go_wp2_with fail
    refine (sameFloat_eq (W y) hr hq _).mono ?_
    rintro e w2 ⟨rfl, rfl⟩
    go_wp2_with fail
    go_ret
    exact ⟨rfl, Below.refl _ _⟩
  · have hW := narrowed y hn
    have hx := convNan_nan .f64 y w
    have hz := convNan_nan .f64 y w.drew
    clear hn
    go_enter Try.func7, Try.ntmps7
    go_wp2_with fail
    go_enter Try.func17, Try.ntmps17
    go_wp2_with fail
    refine (specFlush_any a ha _).mono ?_
    rintro e w1 ⟨rfl, rfl⟩
    go_wp2_with fail
    refine (implFlush_any a ha _).mono ?_
    rintro e w2 ⟨rfl, rfl⟩
    rw [HY.out]
    go_wp2_with fail
    refine (sameFloat_nan _ _ hx hz _).mono ?_
    rintro e w2 ⟨rfl, rfl⟩
    go_wp2_with fail
    go_ret
    exact ⟨rfl, ((Drawn.one w).trans (Drawn.one _)).below _⟩
end Go.Proofs.Ytmgmelbpggedkab
