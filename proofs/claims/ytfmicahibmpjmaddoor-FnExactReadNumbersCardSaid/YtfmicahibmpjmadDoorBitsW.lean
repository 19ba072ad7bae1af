/-
  Contracts of BitsOf, FromBits, CheckOf and IsName in the program and in its model, and the walks of their exact laws. Conditions: arguments fit their kind.
-/
import Derived.Test.YtfmicahibmpjmadDoorFlushW
import Derived.IntWalk
namespace Go.Proofs.YtfmicahibmpjmadDoor
open Go.RowKit Flt

theorem implBits_any (a : Nat) (w : World) (ha : a < 4294967296) :
    Calls Tryd.prog 20 #[.float .f32 a] w fun e w' => e = .returned (.int .i64 (bitsC a)) ∧ w = w' := by
  have h := order_self .f32 a
  cases hn : nan .f32 a
  · rw [hn] at h
    rw [bitsC_num hn]
    have hc := f32bits a
    clear hn
    go_enter Tryd.func20, Tryd.ntmps20
    go_wp2
    go_ret
    exact ⟨rfl, rfl⟩
  · rw [hn] at h
    rw [bitsC_nan hn]
    clear hn
    go_enter Tryd.func20, Tryd.ntmps20
    go_wp2
    go_ret
    exact ⟨rfl, rfl⟩
theorem implFrom_yes (n : Nat) (hn : n < 4294967296) (w : World) :
    Calls Tryd.prog 19 #[.int .i64 n] w fun e w' => e = .returned (.tuple #[.float .f32 n, .bool true]) ∧ w = w' := by
  have h := f32from n
  go_enter Tryd.func19, Tryd.ntmps19
  go_wp2
  go_ret2
  exact ⟨rfl, rfl⟩
theorem implFrom_no (n : Int) (hn : n < 0 ∨ 4294967295 < n) (w : World) :
    Calls Tryd.prog 19 #[.int .i64 n] w fun e w' => e = .returned (.tuple #[.float .f32 0, .bool false]) ∧ w = w' := by
  rcases hn with hn | hn
  · go_enter Tryd.func19, Tryd.ntmps19
    go_wp2
    go_ret2
    exact ⟨rfl, rfl⟩
  · have h0 : ¬ n < 0 := by omega
    go_enter Tryd.func19, Tryd.ntmps19
    go_wp2
    go_ret2
    exact ⟨rfl, rfl⟩
end Go.Proofs.YtfmicahibmpjmadDoor
