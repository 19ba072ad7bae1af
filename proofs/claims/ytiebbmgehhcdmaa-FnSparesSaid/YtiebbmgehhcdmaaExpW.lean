/-
  ExpNumber in the program where each of its steps has a result. Condition: the argument is a number from -200 to 200.
-/
import Derived.Test.YtiebbmgehhcdmaaLogW
namespace Flt
open Ieee
def expL (t : Nat) : Nat → Nat → Option Nat
  | 0, v => some v
  | k + 1, v => (Go.floatBits .mul .f64 t v).bind fun m => (Go.floatBits .quo .f64 m (Go.floatOfInt .f64 ((k + 1 : Nat) : Int))).bind fun d => (Go.floatBits .add .f64 4607182418800017408 d).bind fun p => expL t k p
def sqL : Nat → Nat → Option Nat
  | 0, v => some v
  | k + 1, v => (Go.floatBits .mul .f64 v v).bind fun p => sqL k p
def expRun (x : Nat) : Option Nat :=
  (Go.floatBits .quo .f64 (W x) 4643211215818981376).bind fun t => (expL t 12 4607182418800017408).bind fun p => (sqL 8 p).bind fun q => Go.floatToFloatBits .f64 q .f32
end Flt
namespace Go.Proofs.Ytiebbmgehhcdmaa
open Go.RowKit Flt
set_option maxHeartbeats 800000 in
theorem implExp_some (x r : Nat) (hn : nan .f32 x = false) (c1 : (FloatKind.f32.format.order x 1128792064 == some .gt) = false) (c2 : (FloatKind.f32.format.order x 3276275712 == some .lt) = false) (h : expRun x = some r) (w : World) :
    Calls Try.prog 40 #[.float .f32 x] w fun e w' => e = .returned (.float .f32 r) ∧ w = w' := by
  unfold expRun at h
  obtain ⟨t, ht, h⟩ := Option.bind_eq_some_iff.1 h
  obtain ⟨p, hp, h⟩ := Option.bind_eq_some_iff.1 h
  obtain ⟨q, hq, hr⟩ := Option.bind_eq_some_iff.1 h
  have HP := Lib.hid hp
  have HQ := Lib.hid hq
  have hW := widen x hn
  have r1 : ∀ w, (binOp .quo 35 (.float .f64 (W x)) (.float .f64 4643211215818981376)).run Try.prog w = .ok (.float .f64 t) w := fun w => run_float_arith w .quo 35 .f64 _ _ _ ht
  have r2 := fun w => narrow_some q r hr w
  clear h hp hq ht hr hn
  generalize W x = wx at *
  go_enter Try.func40, Try.ntmps40
  go_wp2_with fail
  go_loopg [4, 5] 12 (fun n u k wr => ∃ v : Nat, u = .float .f64 v ∧ k = .int .i64 n ∧ n ≤ 12 ∧ Hid (expL t n v = some p) ∧ w = wr)
  case atStart => exact ⟨_, rfl, rfl, Nat.le_refl _, HP.out, rfl⟩
  case round =>
    obtain ⟨v, rfl, rfl, hk12, hE, rfl⟩ := hrel
    cases gk with
    | zero =>
      have hv : v = p := by have := hE.out; simp [expL] at this; exact this
      subst hv
      clear hE HP
      go_wp2_with fail
      go_loopg [4, 26] 8 (fun n u i wr => ∃ (v j : Nat), u = .float .f64 v ∧ i = .int .i64 j ∧ Hid (j + n = 8) ∧ Hid (sqL n v = some q) ∧ w = wr)
      case atStart => exact ⟨_, 0, rfl, rfl, rfl, HQ.out, rfl⟩
      case round =>
        obtain ⟨v, j, rfl, rfl, hj, hS, rfl⟩ := hrel
        cases gk with
        | zero =>
          have hv : v = q := by have := hS.out; simp [sqL] at this; exact this
          obtain rfl : j = 8 := by have := hj.out; omega
          subst hv
          clear hS HQ
          go_wp2_with fail
          go_ret
          exact ⟨rfl, rfl⟩
        | succ n =>
          have hS' := hS.out
          unfold sqL at hS'
          obtain ⟨y, hy, hS2⟩ := Option.bind_eq_some_iff.1 hS'
          have HS2 := Lib.hid hS2
          have ry : ∀ w, (binOp .mul 35 (.float .f64 v) (.float .f64 v)).run Try.prog w = .ok (.float .f64 y) w := fun w => run_float_arith w .mul 35 .f64 _ _ _ hy
          have hj8 : j < 8 := by have := hj.out; omega
          have HJ : Hid (j + 1 + n = 8) := by have := hj.out; show _ = _; omega
          clear hS hS' hS2 hy
          go_wp2_with fail
          go_roundg n
          case measure => omega
          case rel => exact ⟨y, j + 1, rfl, by go_num, HJ, HS2.out, rfl⟩
    | succ n =>
      have hE' := hE.out
      unfold expL at hE'
      obtain ⟨m, hm, hE2⟩ := Option.bind_eq_some_iff.1 hE'
      obtain ⟨d, hd, hE3⟩ := Option.bind_eq_some_iff.1 hE2
      obtain ⟨y, hy, hE4⟩ := Option.bind_eq_some_iff.1 hE3
      have HE4 := Lib.hid hE4
      have rm : ∀ w, (binOp .mul 35 (.float .f64 t) (.float .f64 v)).run Try.prog w = .ok (.float .f64 m) w := fun w => run_float_arith w .mul 35 .f64 _ _ _ hm
      have rd : ∀ w, (binOp .quo 35 (.float .f64 m) (.float .f64 (floatOfInt .f64 ((n : Int) + 1)))).run Try.prog w = .ok (.float .f64 d) w := fun w => run_float_arith w .quo 35 .f64 _ _ _ hd
      have ry : ∀ w, (binOp .add 35 (.float .f64 4607182418800017408) (.float .f64 d)).run Try.prog w = .ok (.float .f64 y) w := fun w => run_float_arith w .add 35 .f64 _ _ _ hy
      clear hE hE' hE2 hE3 hE4 hm hd hy
      go_wp2_with fail
      go_roundg n
      case measure => omega
      case rel => exact ⟨y, rfl, by go_num, by omega, HE4.out, rfl⟩
end Go.Proofs.Ytiebbmgehhcdmaa
