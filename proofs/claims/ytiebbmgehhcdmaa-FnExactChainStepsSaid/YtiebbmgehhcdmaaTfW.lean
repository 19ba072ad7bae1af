/-
  Whether one of a list of 32-bit numbers meets a test that is handed on: contracts of the library's two functions there. Conditions: the test answers in every later world.
-/
import Derived.Test.YtiebbmgehhcdmaaKeep
import Derived.WalkKit
namespace Go.Proofs.Ytiebbmgehhcdmaa
open Go.RowKit Flt Liv
/-- what is asked of a test of numbers that is handed on -/
def TestsF (p : Nat → Bool) (g : Nat) (lb : Array Value) (w : World) : Prop :=
  ∀ (W : World) (t : Nat), Below w.heap.size w W → Calls Try.prog g (#[.float .f32 t] ++ lb) W fun e w' => e = .returned (.bool (p t)) ∧ Below W.heap.size W w'
set_option maxHeartbeats 1600000 in
theorem indexFl_any (p : Nat → Bool) (g : Nat) (lb : Array Value) (eg : ∀ args w, (callFunc g args).run Try.prog w = .ok (.enter g args) w) (a : Option Addr) (len cap : Nat) (zs : List Nat) (w : World) (h : FRow w a len zs) (hp : TestsF p g lb w) :
    Calls Try.prog 76 #[.slice a len cap, .func (.func g) #[] lb] w fun e w' => (∃ i : Int, e = .returned (.int .i64 i) ∧ decide (0 ≤ i) = zs.any p) ∧ Below w.heap.size w w' := by
  have H := Lib.hid h
  have HP := Lib.hid hp
  have hm : len ≤ 9223372036854775807 := by have := h.2.1; unfold maxLen at this; exact this
  clear h hp
  go_enter Try.func76, Try.ntmps76
  go_wp2_with fail
  go_loopg [5, 8] len (fun n i5 i8 wr => ∃ k : Nat, i8 = .int .i64 k ∧ Hid (k + n = len) ∧ k ≤ len ∧ Hid (Below w.heap.size w wr) ∧ Hid (∀ j, j < k → p (zs.getD j 0) = false))
  case atStart => exact ⟨0, rfl, by show _ = _; omega, Nat.zero_le _, Below.refl _ _, fun j hj => absurd hj (Nat.not_lt_zero _)⟩
  case round =>
    obtain ⟨k, rfl, hk, hkl, hB, hN⟩ := hrel
    by_cases hlt : k < len
    · obtain ⟨b, off, rfl, hbl, hc⟩ := (H.out.keep hB.out).2.2.2 k hlt
      have HJ : Hid (k + 1 + (gk - 1) = len) := by have := hk.out; show _ = _; omega
      have HG : Hid (gk - 1 < gk) := by have := hk.out; show _ < _; omega
      have hcall := HP.out wr (zs.getD k 0) hB.out
      have HZ : Hid (k < zs.length) := by show _ < _; rw [H.out.1]; exact hlt
      obtain ⟨t, ht⟩ : ∃ t, zs.getD k 0 = t := ⟨_, rfl⟩
      rw [ht] at hc hcall
      have HT := Lib.hid ht
      clear ht
      cases hq : p t with
      | true =>
        rw [hq] at hcall
        have HQ := Lib.hid hq
        clear hq
        go_wp2_with fail
        refine hcall.mono ?_
        rintro e w1 ⟨rfl, g1⟩
        have G := Lib.hid (hB.out.trans (g1.mono hB.out.size))
        clear g1
        go_wp2_with fail
        go_ret
        refine ⟨⟨k, rfl, ?_⟩, G.out⟩
        rw [decide_eq_true (by omega)]
        refine (List.any_eq_true.2 ⟨zs.getD k 0, ?_, by rw [HT.out]; exact HQ.out⟩).symm
        rw [show zs.getD k 0 = zs[k]'HZ.out from by simp [List.getD, HZ.out]]
        exact List.getElem_mem HZ.out
      | false =>
        rw [hq] at hcall
        have HQ := Lib.hid hq
        clear hq
        go_wp2_with fail
        refine hcall.mono ?_
        rintro e w1 ⟨rfl, g1⟩
        have G := Lib.hid (hB.out.trans (g1.mono hB.out.size))
        clear g1
        go_wp2_with fail
        go_roundg (gk - 1)
        case measure => exact HG.out
        case rel =>
          refine ⟨k + 1, by go_num, HJ, by omega, G.out, (show Hid _ from fun j hj => ?_)⟩
          by_cases e : j = k
          · subst e; rw [HT.out]; exact HQ.out
          · exact hN.out j (by omega)
    · obtain rfl : k = len := by have := hk.out; omega
      clear hlt
      go_wp2_with fail
      go_ret
      refine ⟨⟨-1, rfl, ?_⟩, hB.out⟩
      rw [decide_eq_false (by omega)]
      refine (List.any_eq_false.2 fun z hz => ?_).symm
      obtain ⟨j, hj, rfl⟩ := List.mem_iff_getElem.1 hz
      have := hN.out j (by rw [← H.out.1]; exact hj)
      rw [show zs.getD j 0 = zs[j] from by simp [List.getD, hj]] at this
      rw [this]; decide
theorem containsFl_any (p : Nat → Bool) (g : Nat) (lb : Array Value) (eg : ∀ args w, (callFunc g args).run Try.prog w = .ok (.enter g args) w) (a : Option Addr) (len cap : Nat) (zs : List Nat) (w : World) (h : FRow w a len zs) (hp : TestsF p g lb w) :
    Calls Try.prog 63 #[.slice a len cap, .func (.func g) #[] lb] w fun e w' => e = .returned (.bool (zs.any p)) ∧ Below w.heap.size w w' := by
  have H := Lib.hid h
  have HP := Lib.hid hp
  clear h hp
  go_enter Try.func63, Try.ntmps63
  go_wp2_with fail
  refine (indexFl_any p g lb eg a len cap zs _ H.out HP.out).mono ?_
  rintro e w1 ⟨⟨i, rfl, hi⟩, b1⟩
  have HI := Lib.hid hi
  clear hi
  go_wp2_with fail
  go_ret
  exact ⟨congrArg (fun b => Ending.returned (.bool b)) HI.out, b1⟩
end Go.Proofs.Ytiebbmgehhcdmaa
