/-
  The library's search in a list of 32-bit numbers, for a test that is handed on and only draws; whether all are finite, whether one is below 0. Conditions: numbers are words of 32 bits.
-/
import Derived.Test.YtemdgfjcjjadnabKeep
import Derived.Test.YtemdgfjcjjadnabFOwnW
import Derived.Test.YtemdgfjcjjadnabCmW
import Derived.Test.YtemdgfjcjjadnabF32
namespace We
open Go Flt F32 Cm
theorem frow_drawn {w w' : World} {a : Option Addr} {len : Nat} {zs : List Nat} (h : FRow w a len zs) (d : Drawn w w') : FRow w' a len zs := h.keep (d.below _)
/-- where the first one is -/
def At (p : Nat → Bool) (zs : List Nat) (i : Int) : Prop := (i = -1 ∧ zs.any p = false) ∨ (∃ k : Nat, k < zs.length ∧ i = k ∧ p (zs.getD k 0) = true ∧ (∀ j, j < k → p (zs.getD j 0) = false) ∧ zs.any p = true)
theorem At.any {p : Nat → Bool} {zs : List Nat} {i : Int} (h : At p zs i) : decide (0 ≤ i) = zs.any p := by
  rcases h with ⟨rfl, h⟩ | ⟨k, _, rfl, _, _, h⟩
  · rw [h]; rfl
  · rw [h]; exact decide_eq_true (by omega)
theorem at_none {p : Nat → Bool} {zs : List Nat} (h : ∀ j, j < zs.length → p (zs.getD j 0) = false) : At p zs (-1) := by
  refine .inl ⟨rfl, List.any_eq_false.2 fun z hz => ?_⟩
  obtain ⟨j, hj, rfl⟩ := List.mem_iff_getElem.1 hz
  have := h j hj
  rw [show zs.getD j 0 = zs[j] from by simp [List.getD, hj]] at this
  rw [this]; decide
theorem at_some {p : Nat → Bool} {zs : List Nat} {k : Nat} (hk : k < zs.length) (hp : p (zs.getD k 0) = true) (h : ∀ j, j < k → p (zs.getD j 0) = false) : At p zs (k : Int) := by
  refine .inr ⟨k, hk, rfl, hp, h, List.any_eq_true.2 ⟨zs.getD k 0, ?_, hp⟩⟩
  rw [show zs.getD k 0 = zs[k] from by simp [List.getD, hk]]
  exact List.getElem_mem hk
theorem any_not (p : Nat → Bool) (zs : List Nat) : (!zs.any fun z => !p z) = zs.all p := by
  rw [Bool.eq_iff_iff]; simp
theorem lt_at {w : World} {a : Option Addr} {len : Nat} {zs : List Nat} (h : FRow w a len zs) {k : Nat} (hk : k < len) : zs.getD k 0 < 4294967296 := by
  have hl : k < zs.length := by rw [h.1]; exact hk
  refine h.2.2.1 _ ?_
  rw [show zs.getD k 0 = zs[k] from by simp [List.getD, hl]]
  exact List.getElem_mem hl
theorem all_get {p : Nat → Bool} {zs : List Nat} (h : zs.all p = true) {k : Nat} (hk : k < zs.length) : p (zs.getD k 0) = true := by
  refine List.all_eq_true.1 h _ ?_
  rw [show zs.getD k 0 = zs[k] from by simp [List.getD, hk]]
  exact List.getElem_mem hk
theorem fin_isN {z : Nat} (h : fin .f32 z = true) (hz : z < 4294967296) : Is (some z) z := ⟨rfl, fin_num h, hz⟩
end We
namespace Go.Proofs.Ytemdgfjcjjadnab
open Go.RowKit Liv Flt Dec Cm We
/-- what is asked of a test of numbers that is handed on -/
def FTest (p : Nat → Bool) (g : Nat) (lb : Array Value) (w : World) : Prop :=
  ∀ (W : World) (z : Nat), z < 4294967296 → Drawn w W → Calls Try.prog g (#[.float .f32 z] ++ lb) W fun e w' => e = .returned (.bool (p z)) ∧ Drawn W w'
set_option maxHeartbeats 1600000 in
theorem indexF_any (p : Nat → Bool) (g : Nat) (lb : Array Value) (eg : ∀ args w, (callFunc g args).run Try.prog w = .ok (.enter g args) w) (a : Option Addr) (len cap : Nat) (zs : List Nat) (w : World) (h : FRow w a len zs) (hp : FTest p g lb w) :
    Calls Try.prog 103 #[.slice a len cap, .func (.func g) #[] lb] w fun e w' => (∃ i : Int, e = .returned (.int .i64 i) ∧ At p zs i) ∧ Drawn w w' := by
  have H := Lib.hid h
  have HP := Lib.hid hp
  have hm : len ≤ 9223372036854775807 := by have := h.2.1; unfold maxLen at this; exact this
  clear h hp
  go_enter Try.func103, Try.ntmps103
  go_wp2_with fail
  go_loopg [5, 8] len (fun n i5 i8 wr => ∃ k : Nat, i8 = .int .i64 k ∧ Hid (k + n = len) ∧ k ≤ len ∧ Hid (Drawn w wr) ∧ Hid (∀ j, j < k → p (zs.getD j 0) = false))
  case atStart => exact ⟨0, rfl, by show _ = _; omega, Nat.zero_le _, Drawn.refl _, fun j hj => absurd hj (Nat.not_lt_zero _)⟩
  case round =>
    obtain ⟨k, rfl, hk, hkl, hD, hN⟩ := hrel
    by_cases hlt : k < len
    · obtain ⟨b, off, rfl, hbl, hc⟩ := (frow_drawn H.out hD.out).2.2.2 k hlt
      have HJ : Hid (k + 1 + (gk - 1) = len) := by have := hk.out; show _ = _; omega
      have HG : Hid (gk - 1 < gk) := by have := hk.out; show _ < _; omega
      have hcall := HP.out wr (zs.getD k 0) (lt_at H.out hlt) hD.out
      have HZ : Hid (k < zs.length) := by show _ < _; rw [H.out.1]; exact hlt
      cases hq : p (zs.getD k 0) with
      | true =>
        rw [hq] at hcall
        have AT1 : Hid (At p zs (k : Int)) := Lib.hid (at_some HZ.out hq hN.out)
        clear hq
        generalize zs.getD k 0 = t at *
        go_wp2_with fail
        refine hcall.mono ?_
        rintro e w1 ⟨rfl, d1⟩
        have D := Lib.hid (hD.out.trans d1)
        clear d1
        go_wp2_with fail
        go_ret
        exact ⟨⟨k, rfl, AT1.out⟩, D.out⟩
      | false =>
        rw [hq] at hcall
        have HQ := Lib.hid hq
        clear hq
        have HN : Hid (∀ j, j < k + 1 → p (zs.getD j 0) = false) := Lib.hid fun j hj => by
          by_cases e : j = k
          · subst e; exact HQ.out
          · exact hN.out j (by omega)
        generalize zs.getD k 0 = t at *
        go_wp2_with fail
        refine hcall.mono ?_
        rintro e w1 ⟨rfl, d1⟩
        have D := Lib.hid (hD.out.trans d1)
        clear d1
        go_wp2_with fail
        go_roundg (gk - 1)
        case measure => exact HG.out
        case rel => exact ⟨k + 1, by go_num, HJ, by omega, D.out, HN.out⟩
    · obtain rfl : k = len := by have := hk.out; omega
      clear hlt
      go_wp2_with fail
      go_ret
      exact ⟨⟨-1, rfl, at_none fun j hj => hN.out j (by rw [← H.out.1]; exact hj)⟩, hD.out⟩
theorem containsF_any (p : Nat → Bool) (g : Nat) (lb : Array Value) (eg : ∀ args w, (callFunc g args).run Try.prog w = .ok (.enter g args) w) (a : Option Addr) (len cap : Nat) (zs : List Nat) (w : World) (h : FRow w a len zs) (hp : FTest p g lb w) :
    Calls Try.prog 92 #[.slice a len cap, .func (.func g) #[] lb] w fun e w' => e = .returned (.bool (zs.any p)) ∧ Drawn w w' := by
  have H := Lib.hid h
  have HP := Lib.hid hp
  clear h hp
  go_enter Try.func92, Try.ntmps92
  go_wp2_with fail
  refine (indexF_any p g lb eg a len cap zs _ H.out HP.out).mono ?_
  rintro e w1 ⟨⟨i, rfl, hi⟩, d1⟩
  have HI := Lib.hid hi.any
  have D := Lib.hid d1
  clear hi d1
  go_wp2_with fail
  go_ret
  exact ⟨congrArg (fun b => Ending.returned (.bool b)) HI.out, D.out⟩
theorem areFin1_any (z : Nat) (w : World) : Calls Try.prog 93 #[.float .f32 z] w fun e w' => e = .returned (.bool (!fin .f32 z)) ∧ Drawn w w' := by
  go_enter Try.func93, Try.ntmps93
  go_wp2_with fail
  refine (implIsFinite_any z _).mono ?_
  rintro e w1 ⟨rfl, d1⟩
  go_wp2_with fail
  go_ret
  exact ⟨rfl, d1⟩
theorem areFinD_any (a : Option Addr) (len cap : Nat) (zs : List Nat) (w : World) (h : FRow w a len zs) :
    Calls Try.prog 63 #[.slice a len cap] w fun e w' => e = .returned (.bool (zs.all fun z => fin .f32 z)) ∧ Drawn w w' := by
  have H := Lib.hid h
  have HB : Hid ((!(zs.any fun z => !fin .f32 z)) = zs.all fun z => fin .f32 z) := Lib.hid (any_not _ _)
  have HT : Hid (∀ w, FTest (fun z => !fin .f32 z) 93 #[] w) := Lib.hid fun w W z _ _ => areFin1_any z W
  have HE : Hid (∀ args w, (callFunc 93 args).run Try.prog w = .ok (.enter 93 args) w) := by show ∀ args, _; intro args w; kernel_rfl
  clear h
  go_enter Try.func63, Try.ntmps63
  go_wp2_with fail
  refine (containsF_any _ 93 #[] HE.out a len cap zs _ H.out (HT.out _)).mono ?_
  rintro e w1 ⟨rfl, d1⟩
  have D := Lib.hid d1
  clear d1
  go_wp2_with fail
  go_ret
  exact ⟨congrArg (fun b => Ending.returned (.bool b)) HB.out, D.out⟩
set_option maxHeartbeats 1600000 in
theorem specFinD_any (a : Option Addr) (len cap : Nat) (zs : List Nat) (w : World) (h : FRow w a len zs) (hn : len ≤ 1048576) :
    Calls Try.prog 87 #[.slice a len cap] w fun e w' => e = .returned (.bool (zs.all fun z => fin .f32 z)) ∧ Drawn w w' := by
  have H := Lib.hid h
  clear h
  go_enter Try.func87, Try.ntmps87
  go_wp2_with fail
  go_loopg [3] len (fun n i wr => ∃ k : Nat, i = .int .i64 k ∧ Hid (k + n = len) ∧ k ≤ len ∧ Hid (Drawn w wr) ∧ Hid (∀ j, j < k → fin .f32 (zs.getD j 0) = true))
  case atStart => exact ⟨0, rfl, by show _ = _; omega, Nat.zero_le _, Drawn.refl _, fun j hj => absurd hj (Nat.not_lt_zero _)⟩
  case round =>
    obtain ⟨k, rfl, hk, hkl, hB, hN⟩ := hrel
    by_cases hlt : k < len
    · obtain ⟨b, off, rfl, hbl, hc⟩ := (frow_drawn H.out hB.out).2.2.2 k hlt
      have HJ : Hid (k + 1 + (gk - 1) = len) := by have := hk.out; show _ = _; omega
      have HG : Hid (gk - 1 < gk) := by have := hk.out; show _ < _; omega
      have HZ : Hid (k < zs.length) := by show _ < _; rw [H.out.1]; exact hlt
      obtain ⟨z, hz⟩ : ∃ z, zs.getD k 0 = z := ⟨_, rfl⟩
      rw [hz] at hc
      have HE := Lib.hid hz
      clear hz
      cases hq : fin .f32 z with
      | false =>
        have HQ := Lib.hid hq
        clear hq
        go_wp2_with fail
        refine (specFinite_any z _).mono ?_
        rintro e w1 ⟨rfl, d1⟩
        rw [HQ.out]
        have G := Lib.hid (hB.out.trans d1)
        clear d1
        go_wp2_with fail
        go_ret
        refine ⟨?_, G.out⟩
        have : (zs.all fun z => fin .f32 z) = false := by
          rw [List.all_eq_false]
          refine ⟨zs.getD k 0, by simp [List.getD, HZ.out], ?_⟩
          rw [HE.out, HQ.out]; decide
        rw [this]
        rfl
      | true =>
        have HQ := Lib.hid hq
        clear hq
        go_wp2_with fail
        refine (specFinite_any z _).mono ?_
        rintro e w1 ⟨rfl, d1⟩
        rw [HQ.out]
        have G := Lib.hid (hB.out.trans d1)
        clear d1
        go_wp2_with fail
        go_roundg (gk - 1)
        case measure => exact HG.out
        case rel =>
          refine ⟨k + 1, by go_num, HJ, by omega, G.out, (show Hid _ from fun j hj => ?_)⟩
          by_cases e : j = k
          · subst e; rw [HE.out]; exact HQ.out
          · exact hN.out j (by omega)
    · obtain rfl : k = len := by have := hk.out; omega
      clear hlt
      go_wp2_with fail
      go_ret
      refine ⟨?_, hB.out⟩
      have : (zs.all fun z => fin .f32 z) = true := by
        rw [List.all_eq_true]
        intro z hz
        obtain ⟨j, hj, rfl⟩ := List.mem_iff_getElem.1 hz
        have := hN.out j (by rw [← H.out.1]; exact hj)
        rw [show zs.getD j 0 = zs[j] from by simp [List.getD, hj]] at this
        exact this
      rw [this]
      rfl
end Go.Proofs.Ytemdgfjcjjadnab
