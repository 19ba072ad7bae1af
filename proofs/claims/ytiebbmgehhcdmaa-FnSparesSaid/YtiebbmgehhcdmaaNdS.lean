/-
  How many spares serve, and how parts in standby survive: contracts of both. Conditions: numbers are words of 32 bits.
-/
import Derived.Test.YtiebbmgehhcdmaaNdI
import Derived.Test.YtiebbmgehhcdmaaF32
namespace Flt.Nd
open Go Flt Cm Ieee
/-- the least number of spares that serves -/
def servB (m s : Nat) (k : Nat) : Bool := gq (srv m (k + 1)) s
def spB (m s : Nat) : Bool := mn m && (shr s && (List.range 33).any (servB m s))
def spK (m s : Nat) : Int := if spB m s then ((List.range 33).findIdx (servB m s) : Nat) else 0
theorem sp_found {m s k : Nat} (h1 : mn m = true) (h2 : shr s = true) (hk : k ≤ 32) (h : servB m s k = true) (hn : ∀ j, j < k → servB m s j = false) : spB m s = true ∧ spK m s = k := by
  have ha : (List.range 33).any (servB m s) = true := List.any_eq_true.2 ⟨k, List.mem_range.2 (by omega), h⟩
  have hb : spB m s = true := by unfold spB; rw [h1, h2, ha]; rfl
  refine ⟨hb, ?_⟩
  unfold spK
  rw [if_pos hb]
  have hl : k < (List.range 33).length := by rw [List.length_range]; omega
  have := (List.findIdx_eq (p := servB m s) hl).2 ⟨by rw [List.getElem_range]; exact h, fun j hj => by rw [List.getElem_range]; exact hn j hj⟩
  rw [this]
theorem sp_none {m s : Nat} (hn : ∀ j, j < 33 → servB m s j = false) : spB m s = false ∧ spK m s = 0 := by
  have ha : (List.range 33).any (servB m s) = false := by
    rw [List.any_eq_false]
    intro x hx
    rw [hn x (List.mem_range.1 hx)]
    decide
  have hb : spB m s = false := by unfold spB; rw [ha]; simp
  refine ⟨hb, ?_⟩
  unfold spK; rw [hb]; rfl
theorem sp_no {m s : Nat} (h : mn m = false ∨ shr s = false) : spB m s = false ∧ spK m s = 0 := by
  have hb : spB m s = false := by unfold spB; rcases h with h | h <;> rw [h] <;> simp
  refine ⟨hb, ?_⟩
  unfold spK; rw [hb]; rfl
/-- parts in standby -/
theorem fin_mul {a b : Nat} (ha : fin .f32 a = true) (hb : fin .f32 b = true) : ∃ r, Go.floatBits .mul .f32 a b = some r ∧ r < 4294967296 := by
  obtain ⟨m, e, a1, _⟩ := read_num Ieee.single a (of_decide_eq_true ha)
  obtain ⟨n, f, b1, _⟩ := read_num Ieee.single b (of_decide_eq_true hb)
  refine ⟨_, by show Ieee.single.mul a b = _; unfold Format.mul; rw [a1, b1]; rfl, ?_⟩
  exact Ieee.Format.write_lt Ieee.single _
def stM (r t : Nat) : Nat := opC .mul r t
def stB (r : Nat) (n : Int) (t : Nat) : Bool := nng r && (nng t && ndB (stM r t) n)
theorem nng_fin {r : Nat} (h : nng r = true) : fin .f32 r = true := by unfold nng at h; rw [Bool.and_eq_true] at h; exact h.1
theorem stM_ok {r t : Nat} (hr : nng r = true) (ht : nng t = true) : Go.floatBits .mul .f32 r t = some (stM r t) ∧ stM r t < 4294967296 := by
  obtain ⟨v, h1, h2⟩ := fin_mul (nng_fin hr) (nng_fin ht)
  have : stM r t = v := by unfold stM opC; rw [h1]; rfl
  rw [this]
  exact ⟨h1, h2⟩
end Flt.Nd
namespace Go.Proofs.Ytiebbmgehhcdmaa
open Go.RowKit Flt Dec Cm Nd Liv
def stA (r : Nat) (n : Int) (t : Nat) : Nat := if stB r n t then srA (stM r t) n else 0
theorem stA_num (r : Nat) (n : Int) (t : Nat) (_hr : r < 4294967296) (_ht : t < 4294967296) : nan .f32 (stA r n t) = false := by
  unfold stA
  cases h : stB r n t with
  | false => exact (show nan .f32 0 = false by decide)
  | true =>
    rw [if_pos rfl]
    unfold stB at h
    simp only [Bool.and_eq_true] at h
    obtain ⟨h1, h2, h3⟩ := h
    unfold srA
    rw [if_pos h3]
    unfold ndB at h3
    rw [Bool.and_eq_true, decide_eq_true_eq] at h3
    exact fin_num (srv_fin (mean_of (stM_ok h1 h2).2 h3.1) (by omega))
set_option maxHeartbeats 1600000 in
theorem sSparesFor_any (m s : Nat) (w : World) (hm : m < 4294967296) :
    Calls Try.prog 15 #[.float .f32 m, .float .f32 s] w fun e w' => e = .returned (.tuple #[.int .i64 (spK m s), .bool (spB m s)]) ∧ Below w.heap.size w w' := by
  cases hq : mn m with
  | false =>
    obtain ⟨h1, h2⟩ := sp_no (m := m) (s := s) (.inl hq)
    rw [h1, h2]
    have HQ := Lib.hid hq
    clear hq h1 h2
    go_enter Try.func15, Try.ntmps15
    go_wp2_with fail
    refine (c_specMean m _).mono ?_
    rintro e w1 ⟨rfl, rfl⟩
    rw [HQ.out]
    go_wp2_with fail
    go_ret2
    exact ⟨rfl, Below.refl _ _⟩
  | true =>
    have HQ := Lib.hid hq
    have HM := Lib.hid (mean_of hm hq)
    cases hs : shr s with
    | false =>
      obtain ⟨h1, h2⟩ := sp_no (m := m) (s := s) (.inr hs)
      rw [h1, h2]
      have HS := Lib.hid hs
      clear hq hs h1 h2
      go_enter Try.func15, Try.ntmps15
      go_wp2_with fail
      refine (c_specMean m _).mono ?_
      rintro e w1 ⟨rfl, rfl⟩
      rw [HQ.out]
      go_wp2_with fail
      refine (c_specShare s _).mono ?_
      rintro e w1 ⟨rfl, rfl⟩
      rw [HS.out]
      go_wp2_with fail
      go_ret2
      exact ⟨rfl, Below.refl _ _⟩
    | true =>
      have HS := Lib.hid hs
      clear hq hs
      go_enter Try.func15, Try.ntmps15
      go_wp2_with fail
      refine (c_specMean m _).mono ?_
      rintro e w1 ⟨rfl, rfl⟩
      rw [HQ.out]
      go_wp2_with fail
      refine (c_specShare s _).mono ?_
      rintro e w1 ⟨rfl, rfl⟩
      rw [HS.out]
      go_wp2_with fail
      go_loopg [6] 33 (fun q i wr => ∃ k : Nat, i = .int .i64 k ∧ Hid (k + q = 33) ∧ k ≤ 33 ∧ Hid (∀ j, j < k → servB m s j = false) ∧ Hid (Below w.heap.size w wr))
      case atStart => exact ⟨0, rfl, rfl, by omega, fun j hj => absurd hj (Nat.not_lt_zero _), Below.refl _ _⟩
      case round =>
        obtain ⟨k, rfl, hk, hkl, hN, hB⟩ := hrel
        by_cases hlt : k < 33
        · have hlz : (k : Int) ≤ 32 := by omega
          have HJ : Hid (k + 1 + (gk - 1) = 33) := by have := hk.out; show _ = _; omega
          have HG : Hid (gk - 1 < gk) := by have := hk.out; show _ < _; omega
          cases hv : servB m s k with
          | true =>
            have HV := Lib.hid hv
            obtain ⟨a1, a2⟩ := sp_found HQ.out HS.out (by omega) hv hN.out
            have A1 := Lib.hid a1
            have A2 := Lib.hid a2
            unfold servB gq at hv
            clear a1 a2
            go_wp2_with fail
            refine (specService_any m k HM.out (by omega) _).mono ?_
            rintro e w2 ⟨rfl, b2⟩
            have B2 := Lib.hid (hB.out.trans (b2.mono hB.out.size))
            clear b2
            go_wp2_with fail
            go_ret2
            rw [A1.out, A2.out]
            exact ⟨rfl, B2.out⟩
          | false =>
            have HN2 : Hid (∀ j, j < k + 1 → servB m s j = false) := by
              show ∀ j, _
              intro j hj
              by_cases e : j = k
              · subst e; exact hv
              · exact hN.out j (by omega)
            unfold servB gq at hv
            go_wp2_with fail
            refine (specService_any m k HM.out (by omega) _).mono ?_
            rintro e w2 ⟨rfl, b2⟩
            have B2 := Lib.hid (hB.out.trans (b2.mono hB.out.size))
            clear b2 hB hN
            go_wp2_with fail
            go_roundg (gk - 1)
            case measure => exact HG.out
            case rel => exact ⟨k + 1, by go_num, HJ, by omega, HN2.out, B2.out⟩
        · obtain rfl : k = 33 := by have := hk.out; omega
          obtain ⟨a1, a2⟩ := sp_none hN.out
          have A1 := Lib.hid a1
          have A2 := Lib.hid a2
          clear hlt a1 a2 hN
          go_wp2_with fail
          go_ret2
          rw [A1.out, A2.out]
          exact ⟨rfl, hB.out⟩
set_option maxHeartbeats 1600000 in
theorem iSparesFor_any (m s : Nat) (w : World) (hm : m < 4294967296) :
    Calls Try.prog 16 #[.float .f32 m, .float .f32 s] w fun e w' => e = .returned (.tuple #[.int .i64 (spK m s), .bool (spB m s)]) ∧ Below w.heap.size w w' := by
  cases hq : mn m with
  | false =>
    obtain ⟨h1, h2⟩ := sp_no (m := m) (s := s) (.inl hq)
    rw [h1, h2]
    have HQ := Lib.hid hq
    clear hq h1 h2
    go_enter Try.func16, Try.ntmps16
    go_wp2_with fail
    refine (c_implMean m _).mono ?_
    rintro e w1 ⟨rfl, rfl⟩
    rw [HQ.out]
    go_wp2_with fail
    go_ret2
    exact ⟨rfl, Below.refl _ _⟩
  | true =>
    have HQ := Lib.hid hq
    have HM := Lib.hid hm
    cases hs : shr s with
    | false =>
      obtain ⟨h1, h2⟩ := sp_no (m := m) (s := s) (.inr hs)
      rw [h1, h2]
      have HS := Lib.hid hs
      clear hq hs h1 h2 hm
      go_enter Try.func16, Try.ntmps16
      go_wp2_with fail
      refine (c_implMean m _).mono ?_
      rintro e w1 ⟨rfl, rfl⟩
      rw [HQ.out]
      go_wp2_with fail
      refine (c_implChance s _).mono ?_
      rintro e w1 ⟨rfl, rfl⟩
      rw [HS.out]
      go_wp2_with fail
      go_ret2
      exact ⟨rfl, Below.refl _ _⟩
    | true =>
      have HS := Lib.hid hs
      have HYES : Hid (∀ k : Nat, k ≤ 32 → ndB m (k : Int) = true ∧ srA m (k : Int) = srv m (k + 1)) := by
        show ∀ k : Nat, _
        intro k hk
        have h1 : ndB m ((k : Nat) : Int) = true := by unfold ndB; rw [hq, decide_eq_true (by omega)]; rfl
        refine ⟨h1, ?_⟩
        unfold srA; rw [h1, Int.toNat_natCast]; rfl
      clear hq hs hm
      go_enter Try.func16, Try.ntmps16
      go_wp2_with fail
      refine (c_implMean m _).mono ?_
      rintro e w1 ⟨rfl, rfl⟩
      rw [HQ.out]
      go_wp2_with fail
      refine (c_implChance s _).mono ?_
      rintro e w1 ⟨rfl, rfl⟩
      rw [HS.out]
      go_wp2_with fail
      go_loopg [17] 33 (fun q i wr => ∃ k : Nat, i = .int .i64 k ∧ Hid (k + q = 33) ∧ k ≤ 33 ∧ Hid (∀ j, j < k → servB m s j = false) ∧ Hid (Below w.heap.size w wr))
      case atStart => exact ⟨0, rfl, rfl, by omega, fun j hj => absurd hj (Nat.not_lt_zero _), Below.refl _ _⟩
      case round =>
        obtain ⟨k, rfl, hk, hkl, hN, hB⟩ := hrel
        by_cases hlt : k < 33
        · have hlz : (k : Int) < 33 := by omega
          have HJ : Hid (k + 1 + (gk - 1) = 33) := by have := hk.out; show _ = _; omega
          have HG : Hid (gk - 1 < gk) := by have := hk.out; show _ < _; omega
          cases hv : servB m s k with
          | true =>
            obtain ⟨a1, a2⟩ := sp_found HQ.out HS.out (by omega) hv hN.out
            have A1 := Lib.hid a1
            have A2 := Lib.hid a2
            unfold servB gq at hv
            clear a1 a2
            go_wp2_with fail
            refine (shareNeeds_any m k _ HM.out).mono ?_
            rintro e w2 ⟨rfl, b2⟩
            rw [(HYES.out k (by omega)).1, (HYES.out k (by omega)).2]
            have B2 := Lib.hid (hB.out.trans (b2.mono hB.out.size))
            clear b2
            go_wp2_with fail
            go_ret2
            rw [A1.out, A2.out]
            exact ⟨rfl, B2.out⟩
          | false =>
            have HN2 : Hid (∀ j, j < k + 1 → servB m s j = false) := by
              show ∀ j, _
              intro j hj
              by_cases e : j = k
              · subst e; exact hv
              · exact hN.out j (by omega)
            unfold servB gq at hv
            go_wp2_with fail
            refine (shareNeeds_any m k _ HM.out).mono ?_
            rintro e w2 ⟨rfl, b2⟩
            rw [(HYES.out k (by omega)).1, (HYES.out k (by omega)).2]
            have B2 := Lib.hid (hB.out.trans (b2.mono hB.out.size))
            clear b2 hB hN
            go_wp2_with fail
            go_roundg (gk - 1)
            case measure => exact HG.out
            case rel => exact ⟨k + 1, by go_num, HJ, by omega, HN2.out, B2.out⟩
        · obtain rfl : k = 33 := by have := hk.out; omega
          obtain ⟨a1, a2⟩ := sp_none hN.out
          have A1 := Lib.hid a1
          have A2 := Lib.hid a2
          clear hlt a1 a2 hN
          go_wp2_with fail
          go_ret2
          rw [A1.out, A2.out]
          exact ⟨rfl, hB.out⟩
set_option maxHeartbeats 1600000 in
theorem iStandbySurvives_any (r : Nat) (n : Int) (t : Nat) (w : World) :
    Calls Try.prog 18 #[.float .f32 r, .int .i64 n, .float .f32 t] w fun e w' => e = .returned (.tuple #[.float .f32 (stA r n t), .bool (stB r n t)]) ∧ Below w.heap.size w w' := by
  cases hr : nng r with
  | false =>
    have hb : stB r n t = false := by unfold stB; rw [hr]; rfl
    have ha : stA r n t = 0 := by unfold stA; rw [hb]; rfl
    rw [ha, hb]
    have HR := Lib.hid hr
    clear hr ha hb
    go_enter Try.func18, Try.ntmps18
    go_wp2_with fail
    refine (c_implFrom r _).mono ?_
    rintro e w1 ⟨rfl, d1⟩
    rw [HR.out]
    go_wp2_with fail
    go_ret2
    exact ⟨rfl, d1.below _⟩
  | true =>
    cases ht : nng t with
    | false =>
      have hb : stB r n t = false := by unfold stB; rw [ht]; simp
      have ha : stA r n t = 0 := by unfold stA; rw [hb]; rfl
      rw [ha, hb]
      have HR := Lib.hid hr
      have HT := Lib.hid ht
      clear hr ht ha hb
      go_enter Try.func18, Try.ntmps18
      go_wp2_with fail
      refine (c_implFrom r _).mono ?_
      rintro e w1 ⟨rfl, d1⟩
      have D1 := Lib.hid d1
      rw [HR.out]
      clear d1
      go_wp2_with fail
      refine (c_implFrom t _).mono ?_
      rintro e w2 ⟨rfl, d2⟩
      rw [HT.out]
      go_wp2_with fail
      go_ret2
      exact ⟨rfl, (D1.out.trans d2).below _⟩
    | true =>
      have hb : stB r n t = ndB (stM r t) n := by unfold stB; rw [hr, ht]; rfl
      have ha : stA r n t = srA (stM r t) n := by
        unfold stA
        rw [hb]
        cases h : ndB (stM r t) n with
        | true => rfl
        | false => unfold srA; rw [h]; rfl
      rw [ha, hb]
      obtain ⟨m1, m2⟩ := stM_ok hr ht
      have HL := Lib.hid m2
      have hr1 : ∀ w, (binOp .mul 22 (.float .f32 r) (.float .f32 t)).run Try.prog w = .ok (.float .f32 (stM r t)) w := fun w => run_float_arith w .mul 22 .f32 _ _ _ m1
      have HR := Lib.hid hr
      have HT := Lib.hid ht
      clear hr ht ha hb m1 m2
      generalize stM r t = m at *
      go_enter Try.func18, Try.ntmps18
      go_wp2_with fail
      refine (c_implFrom r _).mono ?_
      rintro e w1 ⟨rfl, d1⟩
      have D1 := Lib.hid d1
      rw [HR.out]
      clear d1
      go_wp2_with fail
      refine (c_implFrom t _).mono ?_
      rintro e w2 ⟨rfl, d2⟩
      have B2 := Lib.hid ((D1.out.trans d2).below w.heap.size)
      rw [HT.out]
      clear d2
      go_wp2_with fail
      refine (shareNeeds_any m n _ HL.out).mono ?_
      rintro e w3 ⟨rfl, b3⟩
      have B3 := Lib.hid (B2.out.trans (b3.mono B2.out.size))
      clear b3
      go_wp2_with fail
      go_ret2
      exact ⟨rfl, B3.out⟩
set_option maxHeartbeats 1600000 in
theorem sStandbySurvives_any (r : Nat) (n : Int) (t : Nat) (w : World) :
    Calls Try.prog 17 #[.float .f32 r, .int .i64 n, .float .f32 t] w fun e w' => e = .returned (.tuple #[.float .f32 (stA r n t), .bool (stB r n t)]) ∧ Below w.heap.size w w' := by
  cases hr : nng r with
  | false =>
    have hb : stB r n t = false := by unfold stB; rw [hr]; rfl
    have ha : stA r n t = 0 := by unfold stA; rw [hb]; rfl
    rw [ha, hb]
    have HR := Lib.hid hr
    clear hr ha hb
    go_enter Try.func17, Try.ntmps17
    go_wp2_with fail
    refine (c_specLeast r _).mono ?_
    rintro e w1 ⟨rfl, d1⟩
    rw [HR.out]
    go_wp2_with fail
    go_ret2
    exact ⟨rfl, d1.below _⟩
  | true =>
    cases ht : nng t with
    | false =>
      have hb : stB r n t = false := by unfold stB; rw [ht]; simp
      have ha : stA r n t = 0 := by unfold stA; rw [hb]; rfl
      rw [ha, hb]
      have HR := Lib.hid hr
      have HT := Lib.hid ht
      clear hr ht ha hb
      go_enter Try.func17, Try.ntmps17
      go_wp2_with fail
      refine (c_specLeast r _).mono ?_
      rintro e w1 ⟨rfl, d1⟩
      have D1 := Lib.hid d1
      rw [HR.out]
      clear d1
      go_wp2_with fail
      refine (c_specLeast t _).mono ?_
      rintro e w2 ⟨rfl, d2⟩
      rw [HT.out]
      go_wp2_with fail
      go_ret2
      exact ⟨rfl, (D1.out.trans d2).below _⟩
    | true =>
      have hb : stB r n t = ndB (stM r t) n := by unfold stB; rw [hr, ht]; rfl
      have ha : stA r n t = srA (stM r t) n := by
        unfold stA
        rw [hb]
        cases h : ndB (stM r t) n with
        | true => rfl
        | false => unfold srA; rw [h]; rfl
      rw [ha, hb]
      obtain ⟨m1, m2⟩ := stM_ok hr ht
      have HL := Lib.hid m2
      have hr1 : ∀ w, (binOp .mul 22 (.float .f32 r) (.float .f32 t)).run Try.prog w = .ok (.float .f32 (stM r t)) w := fun w => run_float_arith w .mul 22 .f32 _ _ _ m1
      have HR := Lib.hid hr
      have HT := Lib.hid ht
      clear hr ht ha hb m1 m2
      generalize stM r t = m at *
      cases hq : mn m with
      | false =>
        have hb : ndB m n = false := by unfold ndB; rw [hq]; rfl
        have ha : srA m n = 0 := by unfold srA; rw [hb]; rfl
        rw [ha, hb]
        have HQ := Lib.hid hq
        clear hq ha hb
        go_enter Try.func17, Try.ntmps17
        go_wp2_with fail
        refine (c_specLeast r _).mono ?_
        rintro e w1 ⟨rfl, d1⟩
        have D1 := Lib.hid d1
        rw [HR.out]
        clear d1
        go_wp2_with fail
        refine (c_specLeast t _).mono ?_
        rintro e w2 ⟨rfl, d2⟩
        have B2 := Lib.hid ((D1.out.trans d2).below w.heap.size)
        rw [HT.out]
        clear d2
        go_wp2_with fail
        refine (c_specMean m _).mono ?_
        rintro e w3 ⟨rfl, rfl⟩
        rw [HQ.out]
        go_wp2_with fail
        go_ret2
        exact ⟨rfl, B2.out⟩
      | true =>
        have HQ := Lib.hid hq
        have HM := Lib.hid (mean_of HL.out hq)
        by_cases hn : 0 ≤ n ∧ n ≤ 32
        · obtain ⟨j, rfl⟩ : ∃ j : Nat, n = j := ⟨n.toNat, by omega⟩
          have hj : j ≤ 32 := by omega
          have hb : ndB m j = true := by unfold ndB; rw [hq, decide_eq_true hn]; rfl
          have ha : srA m j = srv m (j + 1) := by unfold srA; rw [hb, Int.toNat_natCast]; rfl
          rw [ha, hb]
          have HD : Hid (decide ((0 : Int) ≤ (j : Int) ∧ (j : Int) ≤ 32) = true) := decide_eq_true hn
          have HFN := Lib.hid (srv_fin HM.out (show j + 1 ≤ 33 by omega))
          clear hq ha hb hn
          go_enter Try.func17, Try.ntmps17
          go_wp2_with fail
          refine (c_specLeast r _).mono ?_
          rintro e w1 ⟨rfl, d1⟩
          have D1 := Lib.hid d1
          rw [HR.out]
          clear d1
          go_wp2_with fail
          refine (c_specLeast t _).mono ?_
          rintro e w2 ⟨rfl, d2⟩
          have B2 := Lib.hid ((D1.out.trans d2).below w.heap.size)
          rw [HT.out]
          clear d2
          go_wp2_with fail
          refine (c_specMean m _).mono ?_
          rintro e w3 ⟨rfl, rfl⟩
          rw [HQ.out]
          go_wp2_with fail
          refine (c_In _ _ _ _).mono ?_
          rintro e w3 ⟨rfl, rfl⟩
          rw [HD.out]
          go_wp2_with fail
          refine (specService_any m j HM.out hj _).mono ?_
          rintro e w3 ⟨rfl, b3⟩
          have B3 := Lib.hid (B2.out.trans (b3.mono B2.out.size))
          clear b3
          go_wp2_with fail
          refine (c_Number _ _).mono ?_
          rintro e w4 ⟨rfl, d4⟩
          rw [HFN.out, if_pos rfl]
          have B4 := Lib.hid (B3.out.trans (d4.below _))
          clear d4
          go_wp2_with fail
          go_ret2
          exact ⟨rfl, B4.out⟩
        · have hb : ndB m n = false := by unfold ndB; rw [decide_eq_false hn]; exact Bool.and_false _
          have ha : srA m n = 0 := by unfold srA; rw [hb]; rfl
          rw [ha, hb]
          have HD : Hid (decide ((0 : Int) ≤ n ∧ n ≤ 32) = false) := decide_eq_false hn
          clear hq ha hb hn
          go_enter Try.func17, Try.ntmps17
          go_wp2_with fail
          refine (c_specLeast r _).mono ?_
          rintro e w1 ⟨rfl, d1⟩
          have D1 := Lib.hid d1
          rw [HR.out]
          clear d1
          go_wp2_with fail
          refine (c_specLeast t _).mono ?_
          rintro e w2 ⟨rfl, d2⟩
          have B2 := Lib.hid ((D1.out.trans d2).below w.heap.size)
          rw [HT.out]
          clear d2
          go_wp2_with fail
          refine (c_specMean m _).mono ?_
          rintro e w3 ⟨rfl, rfl⟩
          rw [HQ.out]
          go_wp2_with fail
          refine (c_In _ _ _ _).mono ?_
          rintro e w3 ⟨rfl, rfl⟩
          rw [HD.out]
          go_wp2_with fail
          go_ret2
          exact ⟨rfl, B2.out⟩
end Go.Proofs.Ytiebbmgehhcdmaa
