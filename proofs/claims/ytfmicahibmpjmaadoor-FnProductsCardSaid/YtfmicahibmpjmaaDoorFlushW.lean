/-
  Contracts of sameFloat (two numbers that are one, or two that are none), of IsSubnormal and FlushNumber in the program and in its model, and the walks of their exact laws. Conditions: arguments are bits that fit their kind.
-/
import Derived.Test.YtfmicahibmpjmaaDoorMathW
namespace Go.Proofs.YtfmicahibmpjmaaDoor
open Go.RowKit Flt

def subB (a : Nat) : Bool := decide (0 < a % 2147483648 ∧ a % 2147483648 < 8388608)

theorem sub_mask (a : Nat) (ha : a < 4294967296) (h0 : a % 2147483648 ≠ 0) : (bits .and .i64 (bitsC a) 2139095040 == 0) = subB a := by
  unfold subB
  cases hn : nan .f32 a
  · rw [bitsC_num hn, exp_bits a ha, Bool.eq_iff_iff]
    simp
    omega
  · rw [bitsC_nan hn, show bits .and .i64 2143289344 2139095040 = 2139095040 from by decide]
    have := of_decide_eq_true (show decide (2139095040 < a % 2147483648) = true from hn)
    rw [Bool.eq_iff_iff]; simp; omega

theorem ne_zero (a : Nat) (ha : a < 4294967296) : (FloatKind.f32.format.order a 0 != some .eq) = !decide (a % 2147483648 = 0) := by
  cases hn : nan .f32 a
  · rw [neB .f32 a 0 hn (by decide), S32 a ha, S32 0 (by decide), if_pos (by decide : (0 : Nat) < 2147483648)]
    congr 1
    rw [Bool.eq_iff_iff]; simp; split <;> omega
  · rw [order_nan .f32 a 0 (.inl hn)]
    have := of_decide_eq_true (show decide (2139095040 < a % 2147483648) = true from hn)
    rw [decide_eq_false (by omega)]; rfl

theorem implSub_any (a : Nat) (ha : a < 4294967296) (w : World) :
    Calls Tryd.prog 16 #[.float .f32 a] w fun e w' => e = .returned (.bool (subB a)) ∧ w = w' := by
  have h0 := ne_zero a ha
  by_cases hz : a % 2147483648 = 0
  · rw [decide_eq_true hz] at h0
    have hb : Hid (subB a = false) := by unfold subB; exact decide_eq_false (by omega)
    clear hz
    go_enter Tryd.func16, Tryd.ntmps16
    go_wp2
    go_ret
    exact ⟨by rw [hb.out]; rfl, rfl⟩
  · rw [decide_eq_false hz] at h0
    cases hn : nan .f32 a
    · have hg := gtB .f32 a 2155872256 hn (by decide)
      have hl := ltB .f32 a 8388608 hn (by decide)
      rw [S32 a ha, S32 _ (by decide), if_neg (by decide)] at hg
      rw [S32 a ha, S32 8388608 (by decide), if_pos (by decide : 8388608 < 2147483648)] at hl
      have hb : Hid (subB a = (FloatKind.f32.format.order a 2155872256 == some .gt && FloatKind.f32.format.order a 8388608 == some .lt)) := by
        unfold subB
        show _ = _
        rw [hg, hl, Bool.eq_iff_iff]
        simp
        split <;> omega
      cases hv : (FloatKind.f32.format.order a 2155872256 == some .gt)
      · have hb2 : Hid (subB a = false) := by show _ = _; rw [hb.out, hv]; rfl
        clear hz hn hg hl hb
        go_enter Tryd.func16, Tryd.ntmps16
        go_wp2
        go_ret
        exact ⟨by rw [hb2.out]; rfl, rfl⟩
      · have hb2 : Hid (subB a = (FloatKind.f32.format.order a 8388608 == some .lt)) := by show _ = _; rw [hb.out, hv]; rfl
        clear hz hn hg hl hb
        go_enter Tryd.func16, Tryd.ntmps16
        go_wp2
        go_ret
        exact ⟨by rw [hb2.out]; rfl, rfl⟩
    · have hg : (FloatKind.f32.format.order a 2155872256 == some .gt) = false := by rw [order_nan .f32 a _ (.inl hn)]; rfl
      have hb : Hid (subB a = false) := by
        unfold subB
        have := of_decide_eq_true (show decide (2139095040 < a % 2147483648) = true from hn)
        exact decide_eq_false (by omega)
      clear hz hn
      go_enter Tryd.func16, Tryd.ntmps16
      go_wp2
      go_ret
      exact ⟨by rw [hb.out]; rfl, rfl⟩
/-- flushed -/
def flush (a : Nat) : Nat := if subB a then a / 2147483648 * 2147483648 else a

theorem copysign0_any (x : Nat) (hx : x < 18446744073709551616) (w : World) :
    Calls Tryd.prog 45 #[.float .f64 0, .float .f64 x] w fun e w' => e = .returned (.float .f64 (x / 9223372036854775808 * 9223372036854775808)) ∧ w = w' := by
  have h1 := f64bits x
  have h1' := f64bits 0
  have h2 := sign_bits x hx
  have hy : x / 9223372036854775808 * 9223372036854775808 < 18446744073709551616 := by omega
  have h3 : ∀ w, (callFunc 75 #[.int .u64 (bits .or .u64 (bits .andNot .u64 0 9223372036854775808) (bits .and .u64 (x : Int) 9223372036854775808))]).run Tryd.prog w = .ok (.value (.float .f64 (x / 9223372036854775808 * 9223372036854775808))) w := by
    rw [h2, show bits .andNot .u64 0 9223372036854775808 = ((0 : Nat) : Int) from by decide, u64_or_nat _ _ (by decide) hy, Nat.zero_or]
    exact f64from _
  clear h2
  generalize x / 9223372036854775808 * 9223372036854775808 = y at h3 hy ⊢
  clear hy hx
  go_enter Tryd.func45, Tryd.ntmps45
  go_wp2
  go_ret
  exact ⟨rfl, rfl⟩

theorem implFlush_any (a : Nat) (ha : a < 4294967296) (w : World) :
    Calls Tryd.prog 9 #[.float .f32 a] w fun e w' => e = .returned (.float .f32 (flush a)) ∧ w = w' := by
  cases hs : subB a
  · have hf : Hid (flush a = a) := by show _ = _; unfold flush; rw [hs]; rfl
    have HS := Lib.hid hs
    clear hs
    go_enter Tryd.func9, Tryd.ntmps9
    go_wp2_with fail
    refine (implSub_any a ha _).mono ?_
    rintro e w' ⟨rfl, rfl⟩
    rw [HS.out]
    go_wp2_with fail
    go_ret
    exact ⟨by rw [hf.out]; rfl, rfl⟩
  · have hf : Hid (flush a = a / 2147483648 * 2147483648) := by show _ = _; unfold flush; rw [hs]; rfl
    have hn : nan .f32 a = false := by
      refine nan_false (show a % 2147483648 ≤ 2139095040 from ?_)
      unfold subB at hs
      simp at hs
      omega
    have hW := widen a hn
    have hl := W_lt a
    have hsg := W_sign a ha hn
    have hc : ∀ w, (convert 44 24 (.float .f64 (W a / 9223372036854775808 * 9223372036854775808))).run Tryd.prog w = .ok (.float .f32 (a / 2147483648 * 2147483648)) w := by
      intro w
      refine run_convert_float_float w 44 24 .f64 .f32 _ _ (by rw [Tryd.underlying44]; rfl) Tryd.underlying24 ?_
      by_cases h : 2147483648 ≤ a
      · rw [show W a / 9223372036854775808 = 1 from by omega, show a / 2147483648 = 1 from by omega]; decide
      · rw [show W a / 9223372036854775808 = 0 from by omega, show a / 2147483648 = 0 from by omega]; decide
    have HS := Lib.hid hs
    clear hs hn hsg
    go_enter Tryd.func9, Tryd.ntmps9
    go_wp2_with fail
    refine (implSub_any a ha _).mono ?_
    rintro e w' ⟨rfl, rfl⟩
    rw [HS.out]
    go_wp2_with fail
    refine (copysign0_any (W a) hl _).mono ?_
    rintro e w' ⟨rfl, rfl⟩
    go_wp2_with fail
    go_ret
    exact ⟨by rw [hf.out]; rfl, rfl⟩

theorem flush_lt (a : Nat) (ha : a < 4294967296) : flush a < 4294967296 := by unfold flush; split <;> omega
end Go.Proofs.YtfmicahibmpjmaaDoor
