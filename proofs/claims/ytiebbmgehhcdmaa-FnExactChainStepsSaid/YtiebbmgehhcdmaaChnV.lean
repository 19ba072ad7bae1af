/-
  Whether a chain is valid: contracts of both. Conditions: the list reads as a list of 32-bit numbers.
-/
import Derived.Test.YtiebbmgehhcdmaaChnS
namespace Go.Proofs.Ytiebbmgehhcdmaa
open Go.RowKit Dec Flt Syl Sep Cha Cm Liv
theorem rateB_eq {p : Int} {zs : List Nat} {k z : Nat} (hz : zs.getD k 0 = z) : rateB p zs k = (nng z && !(midB p k && (FloatKind.f32.format.order z 0 != some .eq))) := by unfold rateB; rw [hz]
set_option maxHeartbeats 4000000 in
theorem iValidChain_any (p : Int) (a : Option Addr) (len cap : Nat) (zs : List Nat) (w : World) (h : FRow w a len zs) (_ : len ≤ cap) :
    Calls Try.prog 58 #[.agg #[.int .i64 p, .slice a len cap]] w fun e w' => e = .returned (.bool (chB p zs)) ∧ Below w.heap.size w w' := by
  have H := Lib.hid h
  have hm : len ≤ 9223372036854775807 := by have := h.2.1; unfold maxLen at this; exact this
  clear h
  by_cases hp : 1 ≤ p ∧ p ≤ 8
  · have hsq := sq_bd hp
    obtain ⟨hp1, hp2⟩ := hp
    by_cases hl : (len : Int) = p * p
    · have hlb : len ≤ 64 := by omega
      have hne : ((len : Int) != p * p) = false := by simpa using hl
      have HL := Lib.hid hl
      have hl1 : ¬ p < 1 := by omega
      have hl2 : ¬ (8 : Int) < p := by omega
      clear hl
      go_enter Try.func58, Try.ntmps58
      go_wp2_with fail
      obtain ⟨W0, hW0⟩ : ∃ W0, W0 = w.alloc (.cells #[.int .i64 p, .slice a len cap] 44) := ⟨_, rfl⟩
      have K0 : Hid (CVar 44 W0 w.heap.size p a len cap) := by rw [hW0]; exact Blk.Blk.new _ _ _
      have B0 : Hid (Below w.heap.size w W0) := by rw [hW0]; exact (Below.refl _ _).alloc (Nat.le_refl _) _
      rw [← hW0]
      clear hW0 hl1 hl2 hne
      go_loopg [28] len (fun n i wr => ∃ k : Nat, i = .int .i64 k ∧ Hid (k + n = len) ∧ k ≤ len ∧ Hid (Below W0.heap.size W0 wr) ∧ Hid (∀ j, j < k → rateB p zs j = true))
      case atStart => exact ⟨0, rfl, by show _ = _; omega, Nat.zero_le _, Below.refl _ _, fun j hj => absurd hj (Nat.not_lt_zero _)⟩
      case round =>
        obtain ⟨k, rfl, hk, hkl, hB, hN⟩ := hrel
        by_cases hlt : k < len
        · obtain ⟨b, off, rfl, hbl, hc⟩ := ((H.out.keep B0.out).keep hB.out).2.2.2 k hlt
          have HJ : Hid (k + 1 + (gk - 1) = len) := by have := hk.out; show _ = _; omega
          have HG : Hid (gk - 1 < gk) := by have := hk.out; show _ < _; omega
          have HZ : Hid (k < zs.length) := by show _ < _; rw [H.out.1]; exact hlt
          obtain ⟨z, hz⟩ : ∃ z, zs.getD k 0 = z := ⟨_, rfl⟩
          rw [hz] at hc
          have HR := Lib.hid (rateB_eq (p := p) hz)
          have HBB := Lib.hid (B0.out.trans (hB.out.mono B0.out.size))
          obtain ⟨⟨v0, v1⟩, _, _⟩ := (K0.out.keep hB.out).two
          clear hz
          cases hq : nng z with
          | false =>
            have HQ := Lib.hid hq
            have HS := Lib.hid (chB_no (p := p) HZ.out (by rw [HR.out, hq]; rfl))
            clear hq
            go_wp2_with fail
            refine (c_implFrom z _).mono ?_
            rintro e w1 ⟨rfl, d1⟩
            rw [HQ.out]
            have G := Lib.hid (HBB.out.trans (d1.below _))
            clear d1
            go_wp2_with fail
            go_ret
            exact ⟨congrArg (fun b => Ending.returned (.bool b)) HS.out.symm, G.out⟩
          | true =>
            have HQ := Lib.hid hq
            cases hmi : midB p k with
            | false =>
              have HN2 : Hid (∀ j, j < k + 1 → rateB p zs j = true) := by
                show ∀ j : Nat, _
                intro j hj
                by_cases e : j = k
                · subst e; rw [HR.out, hq, hmi]; rfl
                · exact hN.out j (by omega)
              unfold midB at hmi
              clear hq
              go_wp2_with fail
              refine (c_implFrom z _).mono ?_
              rintro e w1 ⟨rfl, d1⟩
              rw [HQ.out]
              have G := Lib.hid (hB.out.trans (d1.below _))
              clear d1
              go_wp2_with fail
              go_roundg (gk - 1)
              case measure => exact HG.out
              case rel => exact ⟨k + 1, by go_num, HJ, by omega, G.out, HN2.out⟩
            | true =>
              cases ho : (FloatKind.f32.format.order z 0 != some .eq) with
              | false =>
                have HN2 : Hid (∀ j, j < k + 1 → rateB p zs j = true) := by
                  show ∀ j : Nat, _
                  intro j hj
                  by_cases e : j = k
                  · subst e; rw [HR.out, hq, hmi, ho]; rfl
                  · exact hN.out j (by omega)
                unfold midB at hmi
                clear hq
                go_wp2_with fail
                refine (c_implFrom z _).mono ?_
                rintro e w1 ⟨rfl, d1⟩
                rw [HQ.out]
                have G := Lib.hid (hB.out.trans (d1.below _))
                clear d1
                go_wp2_with fail
                go_roundg (gk - 1)
                case measure => exact HG.out
                case rel => exact ⟨k + 1, by go_num, HJ, by omega, G.out, HN2.out⟩
              | true =>
                have HS := Lib.hid (chB_no (p := p) HZ.out (by rw [HR.out, hq, hmi, ho]; rfl))
                unfold midB at hmi
                clear hq
                go_wp2_with fail
                refine (c_implFrom z _).mono ?_
                rintro e w1 ⟨rfl, d1⟩
                rw [HQ.out]
                have G := Lib.hid (HBB.out.trans (d1.below _))
                clear d1
                go_wp2_with fail
                go_ret
                exact ⟨congrArg (fun b => Ending.returned (.bool b)) HS.out.symm, G.out⟩
        · obtain rfl : k = len := by have := hk.out; omega
          have HS : Hid (chB p zs = true) := chB_yes ⟨hp1, hp2⟩ (by rw [H.out.1]; exact HL.out) (by rw [H.out.1]; exact hN.out)
          have HBB := Lib.hid (B0.out.trans (hB.out.mono B0.out.size))
          clear hlt
          go_wp2_with fail
          go_ret
          exact ⟨congrArg (fun b => Ending.returned (.bool b)) HS.out.symm, HBB.out⟩
    · have HS := Lib.hid (chB_len (p := p) (zs := zs) (by rw [H.out.1]; exact hl))
      have hne : ((len : Int) != p * p) = true := by simpa using hl
      have hl1 : ¬ p < 1 := by omega
      have hl2 : ¬ (8 : Int) < p := by omega
      clear hl
      go_enter Try.func58, Try.ntmps58
      go_wp2_with fail
      go_ret
      exact ⟨congrArg (fun b => Ending.returned (.bool b)) HS.out.symm, (Below.refl _ _).alloc (Nat.le_refl _) _⟩
  · have HS := Lib.hid (chB_p (zs := zs) hp)
    by_cases h1 : p < 1
    · clear hp
      go_enter Try.func58, Try.ntmps58
      go_wp2_with fail
      go_ret
      exact ⟨congrArg (fun b => Ending.returned (.bool b)) HS.out.symm, (Below.refl _ _).alloc (Nat.le_refl _) _⟩
    · have h2 : (8 : Int) < p := by omega
      clear hp
      go_enter Try.func58, Try.ntmps58
      go_wp2_with fail
      go_ret
      exact ⟨congrArg (fun b => Ending.returned (.bool b)) HS.out.symm, (Below.refl _ _).alloc (Nat.le_refl _) _⟩
set_option maxHeartbeats 4000000 in
theorem l04Is_any (g : Nat) (p : Int) (a : Option Addr) (len cap : Nat) (zs : List Nat) (w : World) (hv : CVar 44 w g p a len cap) (h : FRow w a len zs) :
    Calls Try.prog 55 #[.pointer (some ⟨g, 0, none⟩)] w fun e w' => e = .returned (.bool (chB p zs)) ∧ Drawn w w' := by
  have H := Lib.hid h
  have V := Lib.hid hv
  have hm : len ≤ 9223372036854775807 := by have := h.2.1; unfold maxLen at this; exact this
  have c1 : ∀ m, (w.drewN m).cell? ⟨g, 0, none⟩ = some (.int .i64 p) := fun m => (V.out.two).1.1
  have c2 : ∀ m, (w.drewN m).cell? ⟨g, 1, none⟩ = some (.slice a len cap) := fun m => (V.out.two).1.2
  clear h hv
  by_cases hp : 1 ≤ p ∧ p ≤ 8
  · have HD : Hid (decide (1 ≤ p ∧ p ≤ 8) = true) := decide_eq_true hp
    have hsq := sq_bd hp
    obtain ⟨hp1, hp2⟩ := hp
    have hw1 : IntKind.i64.wrap (p * p) = p * p := IntWalk.i64_in _ (by omega)
    by_cases hl : (len : Int) = p * p
    · have hlb : len ≤ 64 := by omega
      have hne : ((len : Int) != p * p) = false := by simpa using hl
      have HL := Lib.hid hl
      clear hl
      go_enter Try.func55, Try.ntmps55
      go_wp2_with fail
      go_quiet ((go_at_call 36; exact Calls.quiet_of_same ((c_In p 1 8 _).mono fun e w' ⟨h1, h2⟩ => ⟨h1.trans (by rw [HD.out]), h2.symm⟩)))
      go_wp2_with fail
      clear hne c1 c2
      go_loopg [3] len (fun n i wr => ∃ k : Nat, i = .int .i64 k ∧ Hid (k + n = len) ∧ k ≤ len ∧ Hid (Drawn w wr) ∧ Hid (∀ j, j < k → rateB p zs j = true))
      case atStart => exact ⟨0, rfl, by show _ = _; omega, Nat.zero_le _, ⟨_, rfl⟩, fun j hj => absurd hj (Nat.not_lt_zero _)⟩
      case round =>
        obtain ⟨k, rfl, hk, hkl, hB, hN⟩ := hrel
        have c1 := ((V.out.keep (hB.out.below _)).two).1.1
        have c2 := ((V.out.keep (hB.out.below _)).two).1.2
        by_cases hlt : k < len
        · obtain ⟨b, off, rfl, hbl, hc⟩ := (H.out.keep (hB.out.below _)).2.2.2 k hlt
          have HJ : Hid (k + 1 + (gk - 1) = len) := by have := hk.out; show _ = _; omega
          have HG : Hid (gk - 1 < gk) := by have := hk.out; show _ < _; omega
          have HZ : Hid (k < zs.length) := by show _ < _; rw [H.out.1]; exact hlt
          obtain ⟨z, hz⟩ : ∃ z, zs.getD k 0 = z := ⟨_, rfl⟩
          rw [hz] at hc
          have HR := Lib.hid (rateB_eq (p := p) hz)
          have hc0 : ∀ m, (wr.drewN m).cell? ⟨b, off + k, none⟩ = some (.float .f32 z) := fun _ => hc
          have d1 : ∀ m, (wr.drewN m).cell? ⟨g, 0, none⟩ = some (.int .i64 p) := fun m => c1
          have d2 : ∀ m, (wr.drewN m).cell? ⟨g, 1, none⟩ = some (.slice (some ⟨b, off, none⟩) len cap) := fun m => c2
          have hw2 : IntKind.i64.wrap (p + 1) = p + 1 := IntWalk.i64_in _ (by omega)
          have hw3 : (p + 1 == 0) = false := by simp; omega
          have hw4 : (k : Int).tmod (p + 1) = (k : Int) % (p + 1) := Int.tmod_eq_emod_of_nonneg (by omega)
          have hw5 : IntKind.i64.wrap ((k : Int) % (p + 1)) = (k : Int) % (p + 1) := IntWalk.i64_in _ (by
            have h1 := Int.emod_nonneg (k : Int) (show p + 1 ≠ 0 by omega)
            have h2 := Int.emod_lt_of_pos (k : Int) (show 0 < p + 1 by omega)
            omega)
          clear hz
          cases hq : nng z with
          | false =>
            have HQ := Lib.hid hq
            have HS := Lib.hid (chB_no (p := p) HZ.out (by rw [HR.out, hq]; rfl))
            clear hq
            go_wp2_with fail
            refine (c_specLeast z _).mono ?_
            rintro e w1 ⟨rfl, e1⟩
            rw [HQ.out]
            have HB1 := Lib.hid (hB.out.trans e1)
            have y3 : w1.cell? ⟨b, off + k, none⟩ = some (.float .f32 z) := (e1.cell _).trans hc
            have y1 := ((V.out.keep (HB1.out.below _)).two).1.1
            have y2 := ((V.out.keep (HB1.out.below _)).two).1.2
            clear e1
            go_wp2_with fail
            go_ret
            exact ⟨congrArg (fun b => Ending.returned (.bool b)) HS.out.symm, HB1.out⟩
          | true =>
            have HQ := Lib.hid hq
            cases hmi : midB p k with
            | false =>
              have HN2 : Hid (∀ j, j < k + 1 → rateB p zs j = true) := by
                show ∀ j : Nat, _
                intro j hj
                by_cases e : j = k
                · subst e; rw [HR.out, hq, hmi]; rfl
                · exact hN.out j (by omega)
              unfold midB at hmi
              clear hq
              go_wp2_with fail
              refine (c_specLeast z _).mono ?_
              rintro e w1 ⟨rfl, e1⟩
              rw [HQ.out]
              have HB1 := Lib.hid (hB.out.trans e1)
              have y3 : w1.cell? ⟨b, off + k, none⟩ = some (.float .f32 z) := (e1.cell _).trans hc
              have y1 := ((V.out.keep (HB1.out.below _)).two).1.1
              have y2 := ((V.out.keep (HB1.out.below _)).two).1.2
              clear e1
              go_wp2_with fail
              go_roundg (gk - 1)
              case measure => exact HG.out
              case rel => exact ⟨k + 1, by go_num, HJ, by omega, HB1.out, HN2.out⟩
            | true =>
              cases ho : (FloatKind.f32.format.order z 0 != some .eq) with
              | false =>
                have HN2 : Hid (∀ j, j < k + 1 → rateB p zs j = true) := by
                  show ∀ j : Nat, _
                  intro j hj
                  by_cases e : j = k
                  · subst e; rw [HR.out, hq, hmi, ho]; rfl
                  · exact hN.out j (by omega)
                unfold midB at hmi
                clear hq
                go_wp2_with fail
                refine (c_specLeast z _).mono ?_
                rintro e w1 ⟨rfl, e1⟩
                rw [HQ.out]
                have HB1 := Lib.hid (hB.out.trans e1)
                have y3 : w1.cell? ⟨b, off + k, none⟩ = some (.float .f32 z) := (e1.cell _).trans hc
                have y1 := ((V.out.keep (HB1.out.below _)).two).1.1
                have y2 := ((V.out.keep (HB1.out.below _)).two).1.2
                clear e1
                go_wp2_with fail
                go_roundg (gk - 1)
                case measure => exact HG.out
                case rel => exact ⟨k + 1, by go_num, HJ, by omega, HB1.out, HN2.out⟩
              | true =>
                have HS := Lib.hid (chB_no (p := p) HZ.out (by rw [HR.out, hq, hmi, ho]; rfl))
                unfold midB at hmi
                clear hq
                go_wp2_with fail
                refine (c_specLeast z _).mono ?_
                rintro e w1 ⟨rfl, e1⟩
                rw [HQ.out]
                have HB1 := Lib.hid (hB.out.trans e1)
                have y3 : w1.cell? ⟨b, off + k, none⟩ = some (.float .f32 z) := (e1.cell _).trans hc
                have y1 := ((V.out.keep (HB1.out.below _)).two).1.1
                have y2 := ((V.out.keep (HB1.out.below _)).two).1.2
                clear e1
                go_wp2_with fail
                go_ret
                exact ⟨congrArg (fun b => Ending.returned (.bool b)) HS.out.symm, HB1.out⟩
        · obtain rfl : k = len := by have := hk.out; omega
          have HS : Hid (chB p zs = true) := chB_yes ⟨hp1, hp2⟩ (by rw [H.out.1]; exact HL.out) (by rw [H.out.1]; exact hN.out)
          clear hlt
          go_wp2_with fail
          go_ret
          exact ⟨congrArg (fun b => Ending.returned (.bool b)) HS.out.symm, hB.out⟩
    · have HS := Lib.hid (chB_len (p := p) (zs := zs) (by rw [H.out.1]; exact hl))
      have hne : ((len : Int) != p * p) = true := by simpa using hl
      clear hl
      go_enter Try.func55, Try.ntmps55
      go_wp2_with fail
      go_quiet ((go_at_call 36; exact Calls.quiet_of_same ((c_In p 1 8 _).mono fun e w' ⟨h1, h2⟩ => ⟨h1.trans (by rw [HD.out]), h2.symm⟩)))
      go_wp2_with fail
      go_ret
      exact ⟨congrArg (fun b => Ending.returned (.bool b)) HS.out.symm, _, rfl⟩
  · have HS := Lib.hid (chB_p (zs := zs) hp)
    have HD : Hid (decide (1 ≤ p ∧ p ≤ 8) = false) := decide_eq_false hp
    clear hp
    go_enter Try.func55, Try.ntmps55
    go_wp2_with fail
    go_quiet ((go_at_call 36; exact Calls.quiet_of_same ((c_In p 1 8 _).mono fun e w' ⟨h1, h2⟩ => ⟨h1.trans (by rw [HD.out]), h2.symm⟩)))
    go_wp2_with fail
    go_ret
    exact ⟨congrArg (fun b => Ending.returned (.bool b)) HS.out.symm, _, rfl⟩
end Go.Proofs.Ytiebbmgehhcdmaa
