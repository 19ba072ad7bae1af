/-
  Contracts of BitsOf, FromBits, CheckOf and IsName in the program and in its model, and the walks of their exact laws. Conditions: arguments fit their kind.
-/
import Derived.Test.YtfmicahibmpjmaaDoorFlushW
import Derived.IntWalk
namespace Go.Proofs.YtfmicahibmpjmaaDoor
open Go.RowKit Flt

theorem implBits_any (a : Nat) (w : World) (ha : a < 4294967296) :
    Calls Tryd.prog 8 #[.float .f32 a] w fun e w' => e = .returned (.int .i64 (bitsC a)) ∧ w = w' := by
  have h := order_self .f32 a
  cases hn : nan .f32 a
  · rw [hn] at h
    rw [bitsC_num hn]
    have hc := f32bits a
    clear hn
    go_enter Tryd.func8, Tryd.ntmps8
    go_wp2
    go_ret
    exact ⟨rfl, rfl⟩
  · rw [hn] at h
    rw [bitsC_nan hn]
    clear hn
    go_enter Tryd.func8, Tryd.ntmps8
    go_wp2
    go_ret
    exact ⟨rfl, rfl⟩
theorem implFrom_yes (n : Nat) (hn : n < 4294967296) (w : World) :
    Calls Tryd.prog 7 #[.int .i64 n] w fun e w' => e = .returned (.tuple #[.float .f32 n, .bool true]) ∧ w = w' := by
  have h := f32from n
  go_enter Tryd.func7, Tryd.ntmps7
  go_wp2
  go_ret2
  exact ⟨rfl, rfl⟩
theorem implFrom_no (n : Int) (hn : n < 0 ∨ 4294967295 < n) (w : World) :
    Calls Tryd.prog 7 #[.int .i64 n] w fun e w' => e = .returned (.tuple #[.float .f32 0, .bool false]) ∧ w = w' := by
  rcases hn with hn | hn
  · go_enter Tryd.func7, Tryd.ntmps7
    go_wp2
    go_ret2
    exact ⟨rfl, rfl⟩
  · have h0 : ¬ n < 0 := by omega
    go_enter Tryd.func7, Tryd.ntmps7
    go_wp2
    go_ret2
    exact ⟨rfl, rfl⟩
end Go.Proofs.YtfmicahibmpjmaaDoor
