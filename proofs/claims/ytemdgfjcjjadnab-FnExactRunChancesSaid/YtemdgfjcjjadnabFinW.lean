/-
  Whether all of a list of 32-bit numbers are finite: contracts of both, and of the library's ContainsFunc there. No conditions.
-/
import Derived.Test.YtemdgfjcjjadnabKeep
import Derived.Test.YtemdgfjcjjadnabFOwnW
namespace Go.Proofs.Ytemdgfjcjjadnab
open Go.RowKit Liv Flt Dec
set_option maxHeartbeats 1600000 in
theorem specFinAll_any (a : Option Addr) (len cap : Nat) (zs : List Nat) (w : World) (h : FRow w a len zs) (hn : len ≤ 1048576) :
    Calls Try.prog 87 #[.slice a len cap] w fun e w' => e = .returned (.bool (zs.all fun z => fin .f32 z)) ∧ Below w.heap.size w w' := by
  have H := Lib.hid h
  clear h
  go_enter Try.func87, Try.ntmps87
  go_wp2_with fail
  go_loopg [3] len (fun n i wr => ∃ k : Nat, i = .int .i64 k ∧ Hid (k + n = len) ∧ k ≤ len ∧ Hid (Below w.heap.size w wr) ∧ Hid (∀ j, j < k → fin .f32 (zs.getD j 0) = true))
  case atStart => exact ⟨0, rfl, by show _ = _; omega, Nat.zero_le _, Below.refl _ _, fun j hj => absurd hj (Nat.not_lt_zero _)⟩
  case round =>
    obtain ⟨k, rfl, hk, hkl, hB, hN⟩ := hrel
    by_cases hlt : k < len
    · obtain ⟨b, off, rfl, hbl, hc⟩ := (H.out.keep hB.out).2.2.2 k hlt
      have HJ : Hid (k + 1 + (gk - 1) = len) := by have := hk.out; show _ = _; omega
      have HG : Hid (gk - 1 < gk) := by have := hk.out; show _ < _; omega
      have HZ : Hid (k < zs.length) := by show _ < _; rw [H.out.1]; exact hlt
      obtain ⟨z, hz⟩ : ∃ z, zs.getD k 0 = z := ⟨_, rfl⟩
      rw [hz] at hc
      have HE := Lib.hid hz
      clear hz
      cases hq : fin .f32 z with
      | false =>
        have HQ := Lib.hid hq
        clear hq
        go_wp2_with fail
        refine (specFinite_any z _).mono ?_
        rintro e w1 ⟨rfl, d1⟩
        rw [HQ.out]
        have G := Lib.hid (hB.out.trans (d1.below _))
        clear d1
        go_wp2_with fail
        go_ret
        refine ⟨?_, G.out⟩
        have : (zs.all fun z => fin .f32 z) = false := by
          rw [List.all_eq_false]
          refine ⟨zs.getD k 0, by simp [List.getD, HZ.out], ?_⟩
          rw [HE.out, HQ.out]; decide
        rw [this]
        rfl
      | true =>
        have HQ := Lib.hid hq
        clear hq
        go_wp2_with fail
        refine (specFinite_any z _).mono ?_
        rintro e w1 ⟨rfl, d1⟩
        rw [HQ.out]
        have G := Lib.hid (hB.out.trans (d1.below _))
        clear d1
        go_wp2_with fail
        go_roundg (gk - 1)
        case measure => exact HG.out
        case rel =>
          refine ⟨k + 1, by go_num, HJ, by omega, G.out, (show Hid _ from fun j hj => ?_)⟩
          by_cases e : j = k
          · subst e; rw [HE.out]; exact HQ.out
          · exact hN.out j (by omega)
    · obtain rfl : k = len := by have := hk.out; omega
      clear hlt
      go_wp2_with fail
      go_ret
      refine ⟨?_, hB.out⟩
      have : (zs.all fun z => fin .f32 z) = true := by
        rw [List.all_eq_true]
        intro z hz
        obtain ⟨j, hj, rfl⟩ := List.mem_iff_getElem.1 hz
        have := hN.out j (by rw [← H.out.1]; exact hj)
        rw [show zs.getD j 0 = zs[j] from by simp [List.getD, hj]] at this
        exact this
      rw [this]
      rfl
theorem specList_any (a : Option Addr) (len cap : Nat) (zs : List Nat) (w : World) (h : FRow w a len zs) (hn : len ≤ 1048576) :
    Calls Try.prog 55 #[.slice a len cap] w fun e w' => e = .returned (if zs.all fun z => fin .f32 z then .tuple #[.slice a len cap, .bool true] else .tuple #[.slice none 0 0, .bool false]) ∧ Below w.heap.size w w' := by
  have H := Lib.hid h
  clear h
  cases hq : zs.all fun z => fin .f32 z with
  | false =>
    have HQ := Lib.hid hq
    clear hq
    go_enter Try.func55, Try.ntmps55
    go_wp2_with fail
    refine (specFinAll_any a len cap zs _ H.out hn).mono ?_
    rintro e w1 ⟨rfl, b1⟩
    rw [HQ.out]
    go_wp2_with fail
    go_ret2
    exact ⟨rfl, b1⟩
  | true =>
    have HQ := Lib.hid hq
    clear hq
    go_enter Try.func55, Try.ntmps55
    go_wp2_with fail
    refine (specFinAll_any a len cap zs _ H.out hn).mono ?_
    rintro e w1 ⟨rfl, b1⟩
    rw [HQ.out]
    go_wp2_with fail
    go_ret2
    exact ⟨rfl, b1⟩
theorem onlyFin1_any (z : Nat) (w : World) : Calls Try.prog 93 #[.float .f32 z] w fun e w' => e = .returned (.bool (!fin .f32 z)) ∧ Drawn w w' := by
  go_enter Try.func93, Try.ntmps93
  go_wp2_with fail
  refine (implIsFinite_any z _).mono ?_
  rintro e w1 ⟨rfl, d1⟩
  go_wp2_with fail
  go_ret
  exact ⟨rfl, d1⟩
set_option maxHeartbeats 1600000 in
theorem indexFin_any (a : Option Addr) (len cap : Nat) (zs : List Nat) (w : World) (h : FRow w a len zs) :
    Calls Try.prog 103 #[.slice a len cap, .func (.func 93) #[] #[]] w fun e w' => (∃ i : Int, e = .returned (.int .i64 i) ∧ decide (0 ≤ i) = !zs.all fun z => fin .f32 z) ∧ Below w.heap.size w w' := by
  have H := Lib.hid h
  have eg : ∀ args w, (callFunc 93 args).run Try.prog w = .ok (.enter 93 args) w := by intro args w; kernel_rfl
  have hm : len ≤ 9223372036854775807 := by have := h.2.1; unfold maxLen at this; exact this
  clear h
  go_enter Try.func103, Try.ntmps103
  go_wp2_with fail
  go_loopg [5, 8] len (fun n i5 i8 wr => ∃ k : Nat, i8 = .int .i64 k ∧ Hid (k + n = len) ∧ k ≤ len ∧ Hid (Below w.heap.size w wr) ∧ Hid (∀ j, j < k → fin .f32 (zs.getD j 0) = true))
  case atStart => exact ⟨0, rfl, by show _ = _; omega, Nat.zero_le _, Below.refl _ _, fun j hj => absurd hj (Nat.not_lt_zero _)⟩
  case round =>
    obtain ⟨k, rfl, hk, hkl, hB, hN⟩ := hrel
    by_cases hlt : k < len
    · obtain ⟨b, off, rfl, hbl, hc⟩ := (H.out.keep hB.out).2.2.2 k hlt
      have HJ : Hid (k + 1 + (gk - 1) = len) := by have := hk.out; show _ = _; omega
      have HG : Hid (gk - 1 < gk) := by have := hk.out; show _ < _; omega
      have HZ : Hid (k < zs.length) := by show _ < _; rw [H.out.1]; exact hlt
      obtain ⟨z, hz⟩ : ∃ z, zs.getD k 0 = z := ⟨_, rfl⟩
      rw [hz] at hc
      have HE := Lib.hid hz
      clear hz
      cases hq : fin .f32 z with
      | false =>
        have HQ := Lib.hid hq
        clear hq
        go_wp2_with fail
        refine (onlyFin1_any z _).mono ?_
        rintro e w1 ⟨rfl, d1⟩
        rw [HQ.out]
        have G := Lib.hid (hB.out.trans (d1.below _))
        clear d1
        go_wp2_with fail
        go_ret
        refine ⟨⟨k, rfl, ?_⟩, G.out⟩
        have : (zs.all fun z => fin .f32 z) = false := by
          rw [List.all_eq_false]
          refine ⟨zs.getD k 0, by simp [List.getD, HZ.out], ?_⟩
          rw [HE.out, HQ.out]; decide
        rw [this, decide_eq_true (by omega)]
        rfl
      | true =>
        have HQ := Lib.hid hq
        clear hq
        go_wp2_with fail
        refine (onlyFin1_any z _).mono ?_
        rintro e w1 ⟨rfl, d1⟩
        rw [HQ.out]
        have G := Lib.hid (hB.out.trans (d1.below _))
        clear d1
        go_wp2_with fail
        go_roundg (gk - 1)
        case measure => exact HG.out
        case rel =>
          refine ⟨k + 1, by go_num, HJ, by omega, G.out, (show Hid _ from fun j hj => ?_)⟩
          by_cases e : j = k
          · subst e; rw [HE.out]; exact HQ.out
          · exact hN.out j (by omega)
    · obtain rfl : k = len := by have := hk.out; omega
      clear hlt
      go_wp2_with fail
      go_ret
      refine ⟨⟨-1, rfl, ?_⟩, hB.out⟩
      have : (zs.all fun z => fin .f32 z) = true := by
        rw [List.all_eq_true]
        intro z hz
        obtain ⟨j, hj, rfl⟩ := List.mem_iff_getElem.1 hz
        have := hN.out j (by rw [← H.out.1]; exact hj)
        rw [show zs.getD j 0 = zs[j] from by simp [List.getD, hj]] at this
        exact this
      rw [this, decide_eq_false (by omega)]
      rfl
theorem containsFin_any (a : Option Addr) (len cap : Nat) (zs : List Nat) (w : World) (h : FRow w a len zs) :
    Calls Try.prog 92 #[.slice a len cap, .func (.func 93) #[] #[]] w fun e w' => e = .returned (.bool (!zs.all fun z => fin .f32 z)) ∧ Below w.heap.size w w' := by
  have H := Lib.hid h
  clear h
  go_enter Try.func92, Try.ntmps92
  go_wp2_with fail
  refine (indexFin_any a len cap zs _ H.out).mono ?_
  rintro e w1 ⟨⟨i, rfl, hi⟩, b1⟩
  have HI := Lib.hid hi
  clear hi
  go_wp2_with fail
  go_ret
  exact ⟨congrArg (fun b => Ending.returned (.bool b)) HI.out, b1⟩
theorem areFin_any (a : Option Addr) (len cap : Nat) (zs : List Nat) (w : World) (h : FRow w a len zs) :
    Calls Try.prog 63 #[.slice a len cap] w fun e w' => e = .returned (.bool (zs.all fun z => fin .f32 z)) ∧ Below w.heap.size w w' := by
  have H := Lib.hid h
  clear h
  go_enter Try.func63, Try.ntmps63
  go_wp2_with fail
  refine (containsFin_any a len cap zs _ H.out).mono ?_
  rintro e w1 ⟨rfl, b1⟩
  go_wp2_with fail
  go_ret
  exact ⟨rfl, b1⟩
theorem onlyFin_any (a : Option Addr) (len cap : Nat) (zs : List Nat) (w : World) (h : FRow w a len zs) :
    Calls Try.prog 57 #[.slice a len cap] w fun e w' => e = .returned (if zs.all fun z => fin .f32 z then .tuple #[.slice a len cap, .bool true] else .tuple #[.slice none 0 0, .bool false]) ∧ Below w.heap.size w w' := by
  have H := Lib.hid h
  clear h
  cases hq : zs.all fun z => fin .f32 z with
  | false =>
    have HQ := Lib.hid hq
    clear hq
    go_enter Try.func57, Try.ntmps57
    go_wp2_with fail
    refine (areFin_any a len cap zs _ H.out).mono ?_
    rintro e w1 ⟨rfl, b1⟩
    rw [HQ.out]
    go_wp2_with fail
    go_ret2
    exact ⟨rfl, b1⟩
  | true =>
    have HQ := Lib.hid hq
    clear hq
    go_enter Try.func57, Try.ntmps57
    go_wp2_with fail
    refine (areFin_any a len cap zs _ H.out).mono ?_
    rintro e w1 ⟨rfl, b1⟩
    rw [HQ.out]
    go_wp2_with fail
    go_ret2
    exact ⟨rfl, b1⟩
end Go.Proofs.Ytemdgfjcjjadnab
