/-
  The law's choice by a byte, its test of lengths, its difference. Conditions: those of each.
-/
import Derived.Test.YtiebbmgehhcdmaaSpG
import Derived.Test.YtiebbmgehhcdmaaByteW
import Derived.Test.YtiebbmgehhcdmaaSplW
import Derived.Test.YtiebbmgehhcdmaaEqfW
namespace Go.Proofs.Ytiebbmgehhcdmaa
open Go.RowKit Flt Sp
theorem run_max_double (ats : Array TypeId) (t : TypeId) (x y : Nat) (w : World) (hx : nan .f64 x = false) (hy : nan .f64 y = false) :
    (Builtin.max_ ats t #[.float .f64 x, .float .f64 y]).run Try.prog w = .ok (.float .f64 (maxD x y)) w := by
  have ho := order_eq .f64 x y hx hy
  unfold maxD
  simp only [Builtin.max_, List.foldlM, Builtin.max2]
  rw [ho]
  rcases Int.lt_trichotomy (S .f64 x) (S .f64 y) with h | h | h
  · rw [Int.compare_eq_lt.2 h]; rfl
  · rw [h, show compare (S .f64 y) (S .f64 y) = .eq from by simp]; rfl
  · rw [Int.compare_eq_gt.2 h]; rfl
/-- the choice by the byte at 'i' of the numbers below 'n' -/
theorem r8At_any (i n : Nat) (hn1 : 2 ≤ n) (hn : n ≤ 100000) (_hi : i ≤ 1000) (a : Option Addr) (len cap : Nat) (zs : List Nat) (w : World) (h : BRow w a len zs) :
    Calls Try.prog 32 #[.slice a len cap, .int .i64 i, .int .i64 n] w fun e w' => ∃ v : Nat, e = .returned (.int .i64 v) ∧ v < n ∧ w = w' := by
  have hmax : len ≤ 9223372036854775807 := by have := h.2.1; unfold maxLen at this; exact this
  by_cases hil : i < len
  · obtain ⟨b, off, rfl, _, hc⟩ := h.2.2.2 i hil
    have hz := h.bd hil
    generalize zs.getD i 0 = z at *
    have hm : (z : Int).tmod (n : Int) = ((z % n : Nat) : Int) := (Int.ofNat_tmod z n).symm
    have hlt : z % n < n := Nat.mod_lt _ (by omega)
    have hd : Hid (decide ((i : Int) ≥ (len : Int)) = false) := decide_eq_false (by omega)
    clear h
    generalize z % n = v at *
    go_enter Try.func32, Try.ntmps32
    go_wp2
    go_ret
    exact ⟨v, rfl, hlt, rfl⟩
  · clear h
    go_enter Try.func32, Try.ntmps32
    go_wp2
    go_ret
    exact ⟨0, rfl, by omega, rfl⟩
theorem r8Long_any (a b : Option Addr) (la lb ca cb : Nat) (ha : la ≤ 9223372036854775807) (hb : lb ≤ 9223372036854775807) (w : World) :
    Calls Try.prog 31 #[.slice a la ca, .slice b lb cb] w fun e w' => e = .returned (.bool (decide (48 < la) || decide (48 < lb))) ∧ w = w' := by
  by_cases h1 : 48 < la
  · have hr : Hid ((decide (48 < la) || decide (48 < lb)) = true) := by show _ = _; simp [h1]
    rw [hr.out]
    go_enter Try.func31, Try.ntmps31
    go_wp2
    go_ret
    exact ⟨rfl, rfl⟩
  · have d1 : Hid (decide ((48 : Int) < (la : Int)) = false) := decide_eq_false (by omega)
    by_cases h2 : 48 < lb
    · have hr : Hid ((decide (48 < la) || decide (48 < lb)) = true) := by show _ = _; simp [h2]
      have d2 : Hid (decide ((48 : Int) < (lb : Int)) = true) := decide_eq_true (by omega)
      rw [hr.out]
      go_enter Try.func31, Try.ntmps31
      go_wp2
      go_ret
      exact ⟨by show Ending.returned (Value.bool (decide ((48 : Int) < (la : Int)) || decide ((48 : Int) < (lb : Int)))) = _; rw [d1.out, d2.out]; rfl, rfl⟩
    · have hr : Hid ((decide (48 < la) || decide (48 < lb)) = false) := by show _ = _; simp [h1, h2]
      have d2 : Hid (decide ((48 : Int) < (lb : Int)) = false) := decide_eq_false (by omega)
      rw [hr.out]
      go_enter Try.func31, Try.ntmps31
      go_wp2
      go_ret
      exact ⟨by show Ending.returned (Value.bool (decide ((48 : Int) < (la : Int)) || decide ((48 : Int) < (lb : Int)))) = _; rw [d1.out, d2.out]; rfl, rfl⟩
set_option maxRecDepth 20000 in
set_option maxHeartbeats 800000 in
theorem r8Gap_any (p q : Nat) (h : Gap p q) (hp : nan .f32 p = false) (hq : nan .f32 q = false) (w : World) :
    Calls Try.prog 33 #[.float .f32 p, .float .f32 q] w fun e w' => e = .returned (.float .f64 (maxD (g1 p q) (g1 q p))) ∧ w = w' := by
  have hx : ∀ w, (binOp .sub 35 (.float .f64 (W p)) (.float .f64 (W q))).run Try.prog w = .ok (.float .f64 (g1 p q)) w := fun w => run_float_arith w .sub 35 .f64 _ _ _ h.x
  have hy : ∀ w, (binOp .sub 35 (.float .f64 (W q)) (.float .f64 (W p))).run Try.prog w = .ok (.float .f64 (g1 q p)) w := fun w => run_float_arith w .sub 35 .f64 _ _ _ h.y
  have hr := fun w => run_max_double #[35, 35] 35 _ _ w h.nx h.ny
  have hcp := conv_num p hp
  have hcq := conv_num q hq
  clear hp hq
  generalize g1 p q = x at *
  generalize g1 q p = y at *
  clear h
  go_enter Try.func33, Try.ntmps33
  go_wp2_with fail
  go_ret
  exact ⟨rfl, rfl⟩
end Go.Proofs.Ytiebbmgehhcdmaa
