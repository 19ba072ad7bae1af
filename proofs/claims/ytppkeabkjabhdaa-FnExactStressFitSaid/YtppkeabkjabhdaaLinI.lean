/-
  The line of a path, and what is left, in the program; the model's at whatever lists. Conditions: the lists read as lists of numbers.
-/
import Derived.Test.YtppkeabkjabhdaaLinS
import Derived.Test.YtppkeabkjabhdaaCrI0
namespace We
open Go Flt Dec F32 Cm
theorem plv_no {T V : List Nat} (h : plC T V = false) (o : Option Nat) : plV T V o = 0 := by unfold plV; rw [h]; rfl
theorem plv_yes {T V : List Nat} (h : plC T V = true) {o : Option Nat} : plV T V o = o.getD 0 := by unfold plV; rw [h]; rfl
end We
namespace Go.Proofs.Ytppkeabkjabhdaa
open Go.RowKit Flt Dec Cm We Cr
set_option maxRecDepth 100000 in
set_option maxHeartbeats 3200000 in
theorem sLine_any (a : Option Addr) (la ca : Nat) (T : List Nat) (b : Option Addr) (lb cb : Nat) (V : List Nat) (w : World) (h : FRow w a la T) (g : FRow w b lb V) :
    Calls Try.prog 71 #[.slice a la ca, .slice b lb cb] w fun e w' => (∃ x y z : Nat, e = .returned (.tuple #[.float .f32 x, .float .f32 y, .float .f32 z, .bool (plC T V)]) ∧ (plC T V = true → x = (plB T V).getD 0 ∧ y = (plS T V).getD 0 ∧ z = (plL T V).getD 0)) ∧ Drawn w w' := by
  have hTL : T.length = la := h.1
  have hVL : V.length = lb := g.1
  have HT := Lib.hid h
  have HV := Lib.hid g
  by_cases hl : 2 ≤ la ∧ la ≤ 48
  · by_cases hv : lb = la
    · subst hv
      cases h1 : T.all fun z => fin .f32 z with
      | false =>
        have HN := Lib.hid (plC_0 (pl_t (V := V) h1))
        have H1 := Lib.hid h1
        have q1 : ¬ ((lb : Int) < 2) := by omega
        have q2 : ¬ ((lb : Int) > 48) := by omega
        have q3 : ((lb : Int) != (lb : Int)) = false := by simp
        clear h g hl h1 hTL hVL
        go_enter Try.func71, Try.ntmps71
        go_wp2_with fail
        refine (specFinD_any a lb ca T _ HT.out (by omega)).mono ?_
        rintro e w1 ⟨rfl, d1⟩
        rw [H1.out]
        have D1 := Lib.hid d1
        clear d1
        go_wp2_with fail
        go_returns
        rw [HN.out]
        exact ⟨⟨_, _, _, rfl, fun h => absurd h (by decide)⟩, D1.out⟩
      | true =>
        cases h2 : V.all fun z => fin .f32 z with
        | false =>
          have HN := Lib.hid (plC_0 (pl_v (T := T) h2))
          have H1 := Lib.hid h1
          have H2 := Lib.hid h2
          have q1 : ¬ ((lb : Int) < 2) := by omega
          have q2 : ¬ ((lb : Int) > 48) := by omega
          have q3 : ((lb : Int) != (lb : Int)) = false := by simp
          clear h g hl h1 h2 hTL hVL
          go_enter Try.func71, Try.ntmps71
          go_wp2_with fail
          refine (specFinD_any a lb ca T _ HT.out (by omega)).mono ?_
          rintro e w1 ⟨rfl, d1⟩
          rw [H1.out]
          have D1 := Lib.hid d1
          clear d1
          go_wp2_with fail
          refine (specFinD_any b lb cb V _ (frow_drawn HV.out D1.out) (by omega)).mono ?_
          rintro e w2 ⟨rfl, d2⟩
          rw [H2.out]
          have D2 := Lib.hid (D1.out.trans d2)
          clear d2
          go_wp2_with fail
          go_returns
          rw [HN.out]
          exact ⟨⟨_, _, _, rfl, fun h => absurd h (by decide)⟩, D2.out⟩
        | true => exact sLineYes_any lb a b ca cb T V w h g (pl_yes (by rw [hTL]; exact hl) (by rw [hTL, hVL]) h1 h2)
    · have HN := Lib.hid (plC_0 (pl_same (T := T) (V := V) (by rw [hTL, hVL]; exact hv)))
      have q1 : ¬ ((la : Int) < 2) := by omega
      have q2 : ¬ ((la : Int) > 48) := by omega
      have q3 : ((lb : Int) != (la : Int)) = true := by simp; omega
      clear h g hl hv hTL hVL
      go_enter Try.func71, Try.ntmps71
      go_wp2_with fail
      go_returns
      rw [HN.out]
      exact ⟨⟨_, _, _, rfl, fun h => absurd h (by decide)⟩, Drawn.refl _⟩
  · have HN := Lib.hid (plC_0 (pl_len (T := T) (V := V) (by rw [hTL]; exact hl)))
    clear h g hTL hVL
    by_cases q1 : (la : Int) < 2
    all_goals
      go_enter Try.func71, Try.ntmps71
      go_wp2_with fail
      go_returns
      rw [HN.out]
      exact ⟨⟨_, _, _, rfl, fun h => absurd h (by decide)⟩, Drawn.refl _⟩
theorem sPathLine_any (a : Option Addr) (la ca : Nat) (T : List Nat) (b : Option Addr) (lb cb : Nat) (V : List Nat) (w : World) (h : FRow w a la T) (g : FRow w b lb V) :
    Calls Try.prog 27 #[.slice a la ca, .slice b lb cb] w fun e w' => e = .returned (.tuple #[.float .f32 (plV T V (plB T V)), .float .f32 (plV T V (plS T V)), .float .f32 (plV T V (plL T V)), .bool (plC T V)]) ∧ Below w.heap.size w w' := by
  have HT := Lib.hid h
  have HV := Lib.hid g
  clear h g
  cases hc : plC T V with
  | false =>
    have HC := Lib.hid hc
    rw [plv_no hc, plv_no hc, plv_no hc]
    clear hc
    go_enter Try.func27, Try.ntmps27
    go_wp2_with fail
    refine (sLine_any a la ca T b lb cb V _ HT.out HV.out).mono ?_
    rintro e w1 ⟨⟨x, y, z, rfl, -⟩, d1⟩
    rw [HC.out]
    have D := Lib.hid d1
    clear d1
    go_wp2_with fail
    go_returns
    exact ⟨rfl, D.out.below _⟩
  | true =>
    have HC := Lib.hid hc
    rw [plv_yes hc, plv_yes hc, plv_yes hc]
    obtain ⟨y1, hy1⟩ : ∃ y, (plB T V).getD 0 = y := ⟨_, rfl⟩
    obtain ⟨y2, hy2⟩ : ∃ y, (plS T V).getD 0 = y := ⟨_, rfl⟩
    obtain ⟨y3, hy3⟩ : ∃ y, (plL T V).getD 0 = y := ⟨_, rfl⟩
    have HY : Hid ((plB T V).getD 0 = y1 ∧ (plS T V).getD 0 = y2 ∧ (plL T V).getD 0 = y3) := ⟨hy1, hy2, hy3⟩
    rw [hy1, hy2, hy3]
    clear hc hy1 hy2 hy3
    go_enter Try.func27, Try.ntmps27
    go_wp2_with fail
    refine (sLine_any a la ca T b lb cb V _ HT.out HV.out).mono ?_
    rintro e w1 ⟨⟨x, y, z, rfl, hx⟩, d1⟩
    rw [HC.out]
    obtain ⟨hx1, hx2, hx3⟩ := hx HC.out
    rw [HY.out.1] at hx1
    rw [HY.out.2.1] at hx2
    rw [HY.out.2.2] at hx3
    subst hx1 hx2 hx3
    have D := Lib.hid d1
    clear d1 hx
    go_wp2_with fail
    go_returns
    exact ⟨rfl, D.out.below _⟩
set_option maxRecDepth 100000 in
set_option maxHeartbeats 3200000 in
theorem isPath_any (a : Option Addr) (la ca : Nat) (T : List Nat) (b : Option Addr) (lb cb : Nat) (V : List Nat) (w : World) (h : FRow w a la T) (g : FRow w b lb V) :
    Calls Try.prog 72 #[.slice a la ca, .slice b lb cb] w fun e w' => e = .returned (.bool (pl0 T V)) ∧ Drawn w w' := by
  have hTL : T.length = la := h.1
  have hVL : V.length = lb := g.1
  have HT := Lib.hid h
  have HV := Lib.hid g
  by_cases hl : 2 ≤ la ∧ la ≤ 48
  · by_cases hv : lb = la
    · subst hv
      have q1 : ¬ ((lb : Int) < 2) := by omega
      have q2 : ¬ ((lb : Int) > 48) := by omega
      have q3 : ((lb : Int) != (lb : Int)) = false := by simp
      cases h1 : T.all fun z => fin .f32 z with
      | false =>
        have HN := Lib.hid (pl_t (V := V) h1)
        have H1 := Lib.hid h1
        clear h g hl h1 hTL hVL
        go_enter Try.func72, Try.ntmps72
        go_wp2_with fail
        refine (areFinD_any a lb ca T _ HT.out).mono ?_
        rintro e w1 ⟨rfl, d1⟩
        rw [H1.out]
        have D1 := Lib.hid d1
        clear d1
        go_wp2_with fail
        go_ret
        exact ⟨congrArg (fun b => Ending.returned (.bool b)) HN.out.symm, D1.out⟩
      | true =>
        have HN : Hid (pl0 T V = V.all fun z => fin .f32 z) := by
          show _ = _
          unfold pl0
          rw [decide_eq_true (show 2 ≤ T.length ∧ T.length ≤ 48 by rw [hTL]; exact hl), decide_eq_true (show V.length = T.length by rw [hTL, hVL]), show finL T = true from h1]
          rfl
        have H1 := Lib.hid h1
        clear h g hl h1 hTL hVL
        go_enter Try.func72, Try.ntmps72
        go_wp2_with fail
        refine (areFinD_any a lb ca T _ HT.out).mono ?_
        rintro e w1 ⟨rfl, d1⟩
        rw [H1.out]
        have D1 := Lib.hid d1
        clear d1
        go_wp2_with fail
        refine (areFinD_any b lb cb V _ (frow_drawn HV.out D1.out)).mono ?_
        rintro e w2 ⟨rfl, d2⟩
        rw [← HN.out]
        have D2 := Lib.hid (D1.out.trans d2)
        clear d2
        go_wp2_with fail
        go_ret
        exact ⟨rfl, D2.out⟩
    · have HN := Lib.hid (pl_same (T := T) (V := V) (by rw [hTL, hVL]; exact hv))
      have q1 : ¬ ((la : Int) < 2) := by omega
      have q2 : ¬ ((la : Int) > 48) := by omega
      have q3 : ((lb : Int) != (la : Int)) = true := by simp; omega
      clear h g hl hv hTL hVL
      go_enter Try.func72, Try.ntmps72
      go_wp2_with fail
      go_ret
      exact ⟨congrArg (fun b => Ending.returned (.bool b)) HN.out.symm, Drawn.refl _⟩
  · have HN := Lib.hid (pl_len (T := T) (V := V) (by rw [hTL]; exact hl))
    clear h g hTL hVL
    by_cases q1 : (la : Int) < 2
    all_goals
      go_enter Try.func72, Try.ntmps72
      go_wp2_with fail
      go_ret
      exact ⟨congrArg (fun b => Ending.returned (.bool b)) HN.out.symm, Drawn.refl _⟩
set_option maxHeartbeats 3200000 in
theorem leftOf_any (ba sl : Nat) (B S : Option Nat) (len : Nat) (a b : Option Addr) (ca cb : Nat) (T V : List Nat) (w : World) (h : FRow w a len T) (g : FRow w b len V) (hl : 1 ≤ len ∧ len ≤ 48) (h1 : (T.all fun z => fin .f32 z) = true) (h2 : (V.all fun z => fin .f32 z) = true) (hB : F32.Is B ba) (hS : F32.Is S sl) :
    Calls Try.prog 74 #[.slice a len ca, .slice b len cb, .float .f32 ba, .float .f32 sl] w fun e w' => (∃ x, e = .returned (.float .f32 x) ∧ F32.Is (plE T V B S len) x ∧ x < 4294967296) ∧ Drawn w w' := by
  have HT := Lib.hid h
  have HV := Lib.hid g
  have HTI : Hid (∀ k, k < len → F32.Is (at_ T k) (T.getD k 0)) := Lib.hid fun k hk => at_is h1 h hk
  have HVI : Hid (∀ k, k < len → F32.Is (at_ V k) (V.getD k 0)) := Lib.hid fun k hk => at_is h2 g hk
  have HN : Hid (F32.Is (fi len) (Go.floatOfInt .f32 (len : Int))) := Lib.hid (whole_is len (by omega))
  have JB := Lib.hid hB
  have JS := Lib.hid hS
  clear h g h1 h2 hB hS
  go_enter Try.func74, Try.ntmps74
  go_wp2_with fail
  go_loopg [9, 15] len (fun n s i wr => ∃ t p : Nat, s = .float .f32 p ∧ i = .int .i64 (t : Int) ∧ Hid (t + n = len) ∧ t ≤ len ∧ Hid (F32.Is (sm (plFL T V B S) t) p) ∧ Hid (Drawn w wr))
  case atStart => exact ⟨0, 0, rfl, rfl, by show _ = _; omega, Nat.zero_le _, zero_is, Drawn.refl _⟩
  case round =>
    obtain ⟨t, p, rfl, rfl, ht, htl, hP, hD⟩ := hrel
    by_cases hlt : t < len
    · have HJ : Hid (t + 1 + (gk - 1) = len) := by have := ht.out; show _ = _; omega
      have HG : Hid (gk - 1 < gk) := by have := ht.out; show _ < _; omega
      obtain ⟨bt, ot, rfl, hbl1, hc1⟩ := (frow_drawn HT.out hD.out).2.2.2 t hlt
      obtain ⟨bv, ov, rfl, hbl2, hc2⟩ := (frow_drawn HV.out hD.out).2.2.2 t hlt
      have I1 := HTI.out t hlt
      have I2 := HVI.out t hlt
      generalize T.getD t 0 = z1 at *
      generalize V.getD t 0 = z2 at *
      obtain ⟨x1, v1, r1, j1, l1, e1⟩ := F32.arith_ex (P := Try.prog) (op := .sub) (.inr (.inl rfl)) 31 I2 JB.out wr
      obtain ⟨x2, v2, r2, j2, l2, e2⟩ := F32.arith_ex (P := Try.prog) (op := .mul) (.inr (.inr (.inl rfl))) 31 JS.out I1 v1
      obtain ⟨x3, v3, r3, j3, l3, e3⟩ := F32.arith_ex (P := Try.prog) (op := .sub) (.inr (.inl rfl)) 31 j1 j2 v2
      obtain ⟨x4, v4, r4, j4, l4, e4⟩ := F32.arith_ex (P := Try.prog) (op := .mul) (.inr (.inr (.inl rfl))) 31 j3 j3 v3
      obtain ⟨x5, v5, r5, j5, l5, e5⟩ := F32.arith_ex (P := Try.prog) (op := .add) (.inl rfl) 31 hP.out j4 v4
      have DD := Lib.hid ((((e1.trans e2).trans e3).trans e4).trans e5)
      have J2 : Hid (F32.Is (sm (plFL T V B S) (t + 1)) x5) := j5
      have DR := Lib.hid (hD.out.trans DD.out)
      clear j1 l1 e1 j2 l2 e2 j3 l3 e3 j4 l4 e4 j5 l5 e5
      clear hP hD DD I1 I2 hbl1 hbl2
      go_wp2_with fail
      go_roundg (gk - 1)
      case measure => exact HG.out
      case rel => exact ⟨t + 1, x5, rfl, by go_num, HJ, by omega, J2.out, DR.out⟩
    · obtain rfl : t = len := by omega
      clear hlt ht
      generalize wr = w7 at *
      obtain ⟨x1, v1, r1, j1, l1, e1⟩ := F32.arith_ex (P := Try.prog) (op := .quo) (.inr (.inr (.inr rfl))) 31 hP.out HN.out w7
      have DD := Lib.hid e1
      have JL : Hid (F32.Is (plE T V B S t) x1 ∧ x1 < 4294967296) := ⟨j1, l1⟩
      have DR := Lib.hid (hD.out.trans DD.out)
      clear j1 l1 e1
      clear hP hD DD
      go_wp2_with fail
      go_ret
      exact ⟨⟨x1, rfl, JL.out.1, JL.out.2⟩, DR.out⟩
set_option maxRecDepth 100000 in
set_option maxHeartbeats 8000000 in
theorem iPathLine_any (a : Option Addr) (la ca : Nat) (T : List Nat) (b : Option Addr) (lb cb : Nat) (V : List Nat) (w : World) (h : FRow w a la T) (g : FRow w b lb V) (_hc : la ≤ ca) (_hc2 : lb ≤ cb) :
    Calls Try.prog 28 #[.slice a la ca, .slice b lb cb] w fun e w' => e = .returned (.tuple #[.float .f32 (plV T V (plB T V)), .float .f32 (plV T V (plS T V)), .float .f32 (plV T V (plL T V)), .bool (plC T V)]) ∧ Below w.heap.size w w' := by
  have HT := Lib.hid h
  have HV := Lib.hid g
  cases h0 : pl0 T V with
  | false =>
    have H0 := Lib.hid h0
    have hn := plC_0 h0
    rw [plv_no hn, plv_no hn, plv_no hn, hn]
    clear h g h0 hn
    go_enter Try.func28, Try.ntmps28
    go_wp2_with fail
    refine (isPath_any a la ca T b lb cb V _ HT.out HV.out).mono ?_
    rintro e w1 ⟨rfl, d1⟩
    rw [H0.out]
    have D := Lib.hid d1
    clear d1
    go_wp2_with fail
    go_returns
    exact ⟨rfl, D.out.below _⟩
  | true =>
    have H0 := Lib.hid h0
    obtain ⟨p1, p2, p3, p4⟩ := pl0_parts h0
    have hTL : T.length = la := h.1
    have hVL : V.length = lb := g.1
    obtain rfl : lb = la := by omega
    rw [hTL] at p1
    have HTI : Hid (∀ k, k < lb → F32.Is (at_ T k) (T.getD k 0)) := Lib.hid fun k hk => at_is p3 h hk
    have HVI : Hid (∀ k, k < lb → F32.Is (at_ V k) (V.getD k 0)) := Lib.hid fun k hk => at_is p4 g hk
    have HFT : Hid ((T.all fun z => fin .f32 z) = true) := p3
    have HFV : Hid ((V.all fun z => fin .f32 z) = true) := p4
    have HST : Hid (Flt.sumO T = sm (at_ T) lb) := by show _ = _; rw [sumO_sm p3, hTL]
    have HSV : Hid (Flt.sumO V = sm (at_ V) lb) := by show _ = _; rw [sumO_sm p4, hVL]
    have HMT : Hid (F32.opO .quo (sm (at_ T) lb) (fi lb) = plM T) := by show _ = _; unfold plM; rw [hTL]
    have HMV : Hid (F32.opO .quo (sm (at_ V) lb) (fi lb) = plM V) := by show _ = _; unfold plM; rw [hVL]
    have HN : Hid (F32.Is (fi lb) (Go.floatOfInt .f32 (lb : Int)) ∧ Go.floatOfInt .f32 (lb : Int) < 4294967296) := ⟨whole_is lb (by omega), (whole_num lb (by omega)).2⟩
    have HSL : Hid (F32.opO .quo (sm (plFP T V) lb) (sm (plFW T) lb) = plS T V) := by show _ = _; unfold plS plP plW; rw [hTL]
    have HLE : Hid (plE T V (plB T V) (plS T V) lb = plL T V) := by show _ = _; unfold plL; rw [hTL]
    have HC0 : Hid (cmpO .eq (sm (plFW T) lb) (some 0) = true → plC T V = false) := by show _ → _; rw [← hTL]; exact plC_w
    have HC1 : Hid (cmpO .eq (sm (plFW T) lb) (some 0) = false → plC T V = (F32.finO (plB T V) && (F32.finO (plS T V) && F32.finO (plL T V)))) := by show _ → _; rw [← hTL]; exact plC_at h0
    have HV0 : Hid (plC T V = false → ∀ o, plV T V o = 0) := Lib.hid plv_no
    have HV1 : Hid (plC T V = true → ∀ o, plV T V o = o.getD 0) := Lib.hid fun h o => plv_yes h
    obtain ⟨C, hC⟩ : ∃ c, plC T V = c := ⟨_, rfl⟩
    obtain ⟨y1, hy1⟩ : ∃ y, plV T V (plB T V) = y := ⟨_, rfl⟩
    obtain ⟨y2, hy2⟩ : ∃ y, plV T V (plS T V) = y := ⟨_, rfl⟩
    obtain ⟨y3, hy3⟩ : ∃ y, plV T V (plL T V) = y := ⟨_, rfl⟩
    have HY : Hid (y1 = plV T V (plB T V) ∧ y2 = plV T V (plS T V) ∧ y3 = plV T V (plL T V)) := ⟨hy1.symm, hy2.symm, hy3.symm⟩
    rw [hC] at HC0 HC1 HV0 HV1
    rw [hC, hy1, hy2, hy3]
    clear h g h0 p2 p3 p4 hTL hVL hC hy1 hy2 hy3
    go_enter Try.func28, Try.ntmps28
    go_wp2_with fail
    refine (isPath_any a lb ca T b lb cb V _ HT.out HV.out).mono ?_
    rintro e w1 ⟨rfl, d1⟩
    rw [H0.out]
    have D1 := Lib.hid d1
    clear d1
    go_wp2_with fail
    refine (sumOf_is a lb ca T _ _ (frow_drawn HT.out D1.out) (by omega) HST.out).mono ?_
    rintro e w2 ⟨⟨s1, rfl, g1⟩, d2⟩
    have D2 := Lib.hid (D1.out.trans d2)
    obtain ⟨x1, v1, r1, j1, l1, e1⟩ := F32.arith_ex (P := Try.prog) (op := .quo) (.inr (.inr (.inr rfl))) 31 g1 HN.out.1 w2
    have DD := Lib.hid e1
    have JM : Hid (F32.Is (plM T) x1) := by show F32.Is _ _; rw [← HMT.out]; exact j1
    have D3 := Lib.hid (D2.out.trans DD.out)
    clear j1 l1 e1
    clear d2 g1 DD
    generalize x1 = mt at *
    go_wp2_with fail
    refine (sumOf_is b lb cb V _ _ (frow_drawn HV.out D3.out) (by omega) HSV.out).mono ?_
    rintro e w4 ⟨⟨s2, rfl, g2⟩, d4⟩
    have D4 := Lib.hid (D3.out.trans d4)
    clear r1
    obtain ⟨x1, v1, r1, j1, l1, e1⟩ := F32.arith_ex (P := Try.prog) (op := .quo) (.inr (.inr (.inr rfl))) 31 g2 HN.out.1 w4
    have DD := Lib.hid e1
    have JV : Hid (F32.Is (plM V) x1) := by show F32.Is _ _; rw [← HMV.out]; exact j1
    have DR := Lib.hid (D4.out.trans DD.out)
    clear j1 l1 e1
    clear d4 g2 DD
    generalize x1 = mv at *
    go_wp2_with fail
    generalize v1 = w5 at *
    clear r1 D1 D2 D3 D4
    go_loopg [11, 12, 36] lb (fun n s t i wr => ∃ m p q : Nat, s = .float .f32 p ∧ t = .float .f32 q ∧ i = .int .i64 (m : Int) ∧ Hid (m + n = lb) ∧ m ≤ lb ∧ Hid (F32.Is (sm (plFP T V) m) p) ∧ Hid (F32.Is (sm (plFW T) m) q) ∧ Hid (Drawn w wr))
    case atStart => exact ⟨0, 0, 0, rfl, rfl, rfl, by show _ = _; omega, Nat.zero_le _, zero_is, zero_is, DR.out⟩
    case round =>
      clear DR
      obtain ⟨m, p, q, rfl, rfl, rfl, hm, hml, hP, hQ, hD⟩ := hrel
      by_cases hlt : m < lb
      · have HJ : Hid (m + 1 + (gk - 1) = lb) := by have := hm.out; show _ = _; omega
        have HG : Hid (gk - 1 < gk) := by have := hm.out; show _ < _; omega
        obtain ⟨b1, o1, rfl, hbl1, hc1⟩ := (frow_drawn HT.out hD.out).2.2.2 m hlt
        obtain ⟨b2, o2, rfl, hbl2, hc2⟩ := (frow_drawn HV.out hD.out).2.2.2 m hlt
        have i1 := HTI.out m hlt
        have i2 := HVI.out m hlt
        generalize T.getD m 0 = z1 at *
        generalize V.getD m 0 = z2 at *
        obtain ⟨x1, v1, r1, j1, l1, e1⟩ := F32.arith_ex (P := Try.prog) (op := .sub) (.inr (.inl rfl)) 31 i1 JM.out wr
        obtain ⟨x2, v2, r2, j2, l2, e2⟩ := F32.arith_ex (P := Try.prog) (op := .sub) (.inr (.inl rfl)) 31 i2 JV.out v1
        obtain ⟨x3, v3, r3, j3, l3, e3⟩ := F32.arith_ex (P := Try.prog) (op := .mul) (.inr (.inr (.inl rfl))) 31 j1 j2 v2
        obtain ⟨x4, v4, r4, j4, l4, e4⟩ := F32.arith_ex (P := Try.prog) (op := .add) (.inl rfl) 31 hP.out j3 v3
        obtain ⟨x5, v5, r5, j5, l5, e5⟩ := F32.arith_ex (P := Try.prog) (op := .mul) (.inr (.inr (.inl rfl))) 31 j1 j1 v4
        obtain ⟨x6, v6, r6, j6, l6, e6⟩ := F32.arith_ex (P := Try.prog) (op := .add) (.inl rfl) 31 hQ.out j5 v5
        have DD := Lib.hid (((((e1.trans e2).trans e3).trans e4).trans e5).trans e6)
        have J1 : Hid (F32.Is (sm (plFP T V) (m + 1)) x4) := j4
        have J2 : Hid (F32.Is (sm (plFW T) (m + 1)) x6) := j6
        have hc2' : v1.cell? ⟨b2, o2 + m, none⟩ = some (.float .f32 z2) := by rw [e1.cell]; exact hc2
        have DR := Lib.hid (hD.out.trans DD.out)
        clear j1 l1 e1 j2 l2 e2 j3 l3 e3 j4 l4 e4 j5 l5 e5 j6 l6 e6
        clear hP hQ hD DD i1 i2 hbl1 hbl2
        go_wp2_with fail
        go_roundg (gk - 1)
        case measure => exact HG.out
        case rel => exact ⟨m + 1, x4, x6, rfl, rfl, by go_num, HJ, by omega, J1.out, J2.out, DR.out⟩
      · obtain rfl : m = lb := by omega
        clear hlt hm
        generalize wr = w5 at *
        have hz := cmp_is .eq hQ.out zero_is
        cases hw : cmpO .eq (sm (plFW T) m) (some 0) with
        | true =>
          rw [hw] at hz
          have HN0 := Lib.hid (HC0.out hw)
          clear hw
          go_wp2_with fail
          go_returns
          rw [HN0.out, HY.out.1, HY.out.2.1, HY.out.2.2, HV0.out HN0.out, HV0.out HN0.out, HV0.out HN0.out]
          exact ⟨rfl, hD.out.below _⟩
        | false =>
          rw [hw] at hz
          have HC := Lib.hid (HC1.out hw)
          clear hw
          obtain ⟨x1, v1, r1, j1, l1, e1⟩ := F32.arith_ex (P := Try.prog) (op := .quo) (.inr (.inr (.inr rfl))) 31 hP.out hQ.out w5
          obtain ⟨x2, v2, r2, j2, l2, e2⟩ := F32.arith_ex (P := Try.prog) (op := .mul) (.inr (.inr (.inl rfl))) 31 j1 JM.out v1
          obtain ⟨x3, v3, r3, j3, l3, e3⟩ := F32.arith_ex (P := Try.prog) (op := .sub) (.inr (.inl rfl)) 31 JV.out j2 v2
          have DD := Lib.hid ((e1.trans e2).trans e3)
          have JS : Hid (F32.Is (plS T V) x1) := by show F32.Is _ _; rw [← HSL.out]; exact j1
          have JB : Hid (F32.Is (plB T V) x3) := by show F32.Is _ _; unfold plB; rw [← HSL.out]; exact j3
          have DR := Lib.hid (hD.out.trans DD.out)
          have LB := Lib.hid l3
          have LS := Lib.hid l1
          clear j1 l1 e1 j2 l2 e2 j3 l3 e3
          clear hP hQ hD DD
          generalize x1 = sl at *
          generalize x3 = ba at *
          go_wp2_with fail
          refine (leftOf_any ba sl _ _ m a b ca cb T V _ (frow_drawn HT.out DR.out) (frow_drawn HV.out DR.out) (by omega) HFT.out HFV.out JB.out JS.out).mono ?_
          rintro e w6 ⟨⟨le, rfl, g6, l6⟩, d6⟩
          have JL : Hid (F32.Is (plL T V) le) := by show F32.Is _ _; rw [← HLE.out]; exact g6
          have D6 := Lib.hid ((DR.out.trans d6).below w.heap.size)
          have HR3 := Lib.hid (row_three w6 31 LB.out LS.out l6)
          have HB3 : Hid (Below w.heap.size w (w6.alloc (.cells #[.float .f32 ba, .float .f32 sl, .float .f32 le] 31))) := Lib.hid (D6.out.alloc D6.out.size _)
          have HAL : Hid (([ba, sl, le].all fun z => fin .f32 z) = (F32.finO (plB T V) && (F32.finO (plS T V) && F32.finO (plL T V)))) := by
            show _ = _
            rw [all_three, (F32.fin_is JB.out).1, (F32.fin_is JS.out).1, (F32.fin_is JL.out).1]
          clear g6 l6 d6 r1 r2 r3 hz DR
          go_wp2_with fail
          refine (areFinD_any _ 3 3 [ba, sl, le] _ HR3.out).mono ?_
          rintro e w7 ⟨rfl, d7⟩
          rw [HAL.out]
          have D7 := Lib.hid (HB3.out.trans (d7.below _))
          clear d7
          cases hcc : (F32.finO (plB T V) && (F32.finO (plS T V) && F32.finO (plL T V))) with
          | false =>
            have HCC := Lib.hid (HC.out.trans hcc)
            clear hcc
            go_wp2_with fail
            go_returns
            rw [HY.out.1, HY.out.2.1, HY.out.2.2, HV0.out HCC.out, HV0.out HCC.out, HV0.out HCC.out, HCC.out]
            exact ⟨rfl, D7.out⟩
          | true =>
            have HCC := Lib.hid (HC.out.trans hcc)
            have hh := hcc
            rw [Bool.and_eq_true, Bool.and_eq_true] at hh
            have HH := Lib.hid hh
            clear hcc hh
            go_wp2_with fail
            go_returns
            rw [HY.out.1, HY.out.2.1, HY.out.2.2, HV1.out HCC.out, HV1.out HCC.out, HV1.out HCC.out, ← fin_get JB.out HH.out.1, ← fin_get JS.out HH.out.2.1, ← fin_get JL.out HH.out.2.2, HCC.out]
            exact ⟨rfl, D7.out⟩
end Go.Proofs.Ytppkeabkjabhdaa
