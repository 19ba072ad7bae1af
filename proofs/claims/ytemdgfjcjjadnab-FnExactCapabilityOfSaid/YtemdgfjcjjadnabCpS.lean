/-
  How well a process keeps its bounds: the model's contract. Conditions: the list reads as a list of numbers; numbers are words.
-/
import Derived.Test.YtemdgfjcjjadnabCpW
namespace Go.Proofs.Ytemdgfjcjjadnab
open Go.RowKit Flt Dec Cm We Cp
set_option maxRecDepth 20000 in
set_option maxHeartbeats 6400000 in
theorem sCap_any (a : Option Addr) (len cap : Nat) (T : List Nat) (l h : Nat) (w : World) (hT : FRow w a len T) (hm : len ≤ 1048576) (hl : l < 4294967296) (hh : h < 4294967296) :
    Calls Try.prog 32 #[.slice a len cap, .float .f32 l, .float .f32 h] w fun e w' => e = .returned (.tuple #[.float .f32 (cpX T l h (cpA T l h)), .float .f32 (cpX T l h (cpE T l h)), .bool (cpB T l h)]) ∧ Drawn w w' := by
  have H := Lib.hid hT
  have HL : Hid (T.length = len) := Lib.hid hT.1
  go_enter Try.func32, Try.ntmps32
  go_wp2_with fail
  refine (sTold_any a len cap T _ H.out hm).mono ?_
  rintro e w1 ⟨rfl, d1⟩
  have D1 := Lib.hid d1
  clear d1 hT
  cases h1 : tol T with
  | false =>
    have HN := Lib.hid (cap_t (l := l) (h := h) h1)
    clear h1
    go_wp2_with fail
    go_ret3
    rw [HN.out.1, HN.out.2, HN.out.2]
    exact ⟨rfl, D1.out⟩
  | true =>
    have H1 := Lib.hid h1
    clear h1
    by_cases h2 : 2 ≤ len
    case neg =>
      have HN := Lib.hid (cap_2 (T := T) (l := l) (h := h) (by rw [HL.out]; exact h2))
      have q2 : (len : Int) < 2 := by omega
      clear h2
      go_wp2_with fail
      go_ret3
      rw [HN.out.1, HN.out.2, HN.out.2]
      exact ⟨rfl, D1.out⟩
    case pos =>
      have q2 : ¬ (len : Int) < 2 := by omega
      go_wp2_with fail
      refine (specFinite_any l _).mono ?_
      rintro e w2 ⟨rfl, d2⟩
      have D2 := Lib.hid (D1.out.trans d2)
      clear d2
      cases h3 : fin .f32 l with
      | false =>
        have HN := Lib.hid (cap_l (T := T) (h := h) h3)
        clear h3
        go_wp2_with fail
        go_ret3
        rw [HN.out.1, HN.out.2, HN.out.2]
        exact ⟨rfl, D2.out⟩
      | true =>
        have H3 := Lib.hid h3
        clear h3
        go_wp2_with fail
        refine (specFinite_any h _).mono ?_
        rintro e w3 ⟨rfl, d3⟩
        have D3 := Lib.hid (D2.out.trans d3)
        clear d3
        cases h4 : fin .f32 h with
        | false =>
          have HN := Lib.hid (cap_h (T := T) (l := l) h4)
          clear h4
          go_wp2_with fail
          go_ret3
          rw [HN.out.1, HN.out.2, HN.out.2]
          exact ⟨rfl, D3.out⟩
        | true =>
          have H4 := Lib.hid h4
          clear h4
          cases h5 : geB h l with
          | true =>
            have HN := Lib.hid (cap_g (T := T) h5)
            have q5 := h5
            unfold geB at q5
            clear h5
            go_wp2_with fail
            go_ret3
            rw [HN.out.1, HN.out.2, HN.out.2]
            exact ⟨rfl, D3.out⟩
          | false =>
            have H0 := Lib.hid (cap_yes H1.out (by rw [HL.out]; exact h2) H3.out H4.out h5)
            have q5 := h5
            unfold geB at q5
            have HFT : Hid (finL T = true) := Lib.hid (cp0_parts H0.out).2.1
            have hl256 : len ≤ 256 := by have := (cp0_parts H0.out).1; rw [HL.out] at this; omega
            have HTI : Hid (∀ k, k < len → F32.Is (at_ T k) (T.getD k 0)) := Lib.hid fun k hk => at_is HFT.out H.out hk
            have HMT : Hid (F32.opO .quo (sm (at_ T) len) (fi len) = plM T) := by show _ = _; unfold plM; rw [HL.out]
            have HWT : Hid (sm (plFW T) len = plW T) := by show _ = _; unfold plW; rw [HL.out]
            have HVT : Hid (F32.opO .quo (plW T) (fi (len - 1)) = cpV T) := by show _ = _; unfold cpV; rw [HL.out]
            have HIL := Lib.hid (fin_isN H3.out hl)
            have HIH := Lib.hid (fin_isN H4.out hh)
            have HI1 := Lib.hid (whole_i len hl256)
            have HI2 : Hid (F32.Is (fi (len - 1)) (Go.floatOfInt .f32 ((len : Int) - 1))) := by
              have := whole_i (len - 1) (by omega)
              rw [show ((len - 1 : Nat) : Int) = (len : Int) - 1 from by omega] at this
              exact this
            have hlen0 : len ≤ 1048576 := by omega
            clear h5 h2
            go_wp2_with fail
            refine (sTotal_any a len cap T _ (frow_drawn H.out D3.out) HFT.out hm).mono ?_
            rintro e w4 ⟨⟨u, rfl, hu⟩, d4⟩
            obtain ⟨xm, vm, rm, jm, lm, em⟩ := F32.arith_ex (P := Try.prog) (op := .quo) (.inr (.inr (.inr rfl))) 24 hu HI1.out w4
            have D5 := Lib.hid em
            rw [HMT.out] at jm
            have HM := Lib.hid jm
            have D6 := Lib.hid ((D3.out.trans d4).trans D5.out)
            clear jm lm em hu d4 D5
            go_wp2_with fail
            go_loopg [10, 11] len (fun n s i wr => ∃ t p : Nat, s = .float .f32 p ∧ i = .int .i64 (t : Int) ∧ Hid (t + n = len) ∧ t ≤ len ∧ Hid (F32.Is (sm (plFW T) t) p) ∧ Hid (Drawn w wr))
            case atStart => exact ⟨0, 0, rfl, rfl, by show _ = _; omega, Nat.zero_le _, zero_is, D6.out⟩
            case round =>
              obtain ⟨t, p, rfl, rfl, ht, htl, hP, hD⟩ := hrel
              by_cases hlt : t < len
              · have HJ : Hid (t + 1 + (gk - 1) = len) := by have := ht.out; show _ = _; omega
                have HG : Hid (gk - 1 < gk) := by have := ht.out; show _ < _; omega
                obtain ⟨bt, ot, rfl, hbl1, hc1⟩ := (frow_drawn H.out hD.out).2.2.2 t hlt
                have I1 := HTI.out t hlt
                generalize T.getD t 0 = z1 at *
                obtain ⟨x1, v1, r1, j1, l1, e1⟩ := F32.arith_ex (P := Try.prog) (op := .sub) (.inr (.inl rfl)) 24 I1 HM.out wr
                obtain ⟨x2, v2, r2, j2, l2, e2⟩ := F32.arith_ex (P := Try.prog) (op := .mul) (.inr (.inr (.inl rfl))) 24 j1 j1 v1
                obtain ⟨x3, v3, r3, j3, l3, e3⟩ := F32.arith_ex (P := Try.prog) (op := .add) (.inl rfl) 24 hP.out j2 v2
                have DD := Lib.hid ((e1.trans e2).trans e3)
                have J2 : Hid (F32.Is (sm (plFW T) (t + 1)) x3) := j3
                have DR := Lib.hid (hD.out.trans DD.out)
                clear j1 l1 e1 j2 l2 e2 j3 l3 e3
                clear hP hD DD I1 hbl1
                go_wp2_with fail
                go_roundg (gk - 1)
                case measure => exact HG.out
                case rel => exact ⟨t + 1, x3, rfl, by go_num, HJ, by omega, J2.out, DR.out⟩
              · obtain rfl : t = len := by omega
                have HP : Hid (F32.Is (plW T) p) := by have := hP.out; rw [HWT.out] at this; exact this
                obtain ⟨xv, vv, rv, jv, lv, ev⟩ := F32.arith_ex (P := Try.prog) (op := .quo) (.inr (.inr (.inr rfl))) 24 HP.out HI2.out wr
                have DD := Lib.hid ev
                rw [HVT.out] at jv
                have HV := Lib.hid jv
                have DV := Lib.hid (hD.out.trans DD.out)
                have hxv := lv
                clear jv lv ev hP hD DD hlt ht
                go_wp2_with fail
                refine (specSqrt_any xv hxv _).mono ?_
                rintro e w7 ⟨s, rfl, hs, d7⟩
                have HS : Hid (F32.Is (cpS T) s) := Lib.hid (root_is HV.out hs)
                have D7 := Lib.hid (DV.out.trans d7)
                clear hs d7 hxv rv
                go_wp2_with fail
                refine (c_specAbove s _).mono ?_
                rintro e w8 ⟨rfl, d8⟩
                have D8 := Lib.hid (D7.out.trans d8)
                clear d8
                rw [posO_is HS.out]
                cases h6 : posO (cpS T) with
                | false =>
                  have HN := Lib.hid (cap_s (T := T) (l := l) (h := h) h6)
                  clear h6
                  go_wp2_with fail
                  go_ret3
                  rw [HN.out.1, HN.out.2, HN.out.2]
                  exact ⟨rfl, D8.out⟩
                | true =>
                  have HBB := Lib.hid (cap_b H0.out h6)
                  clear h6
                  obtain ⟨xg, vg, rg, jg, lg, eg⟩ := F32.arith_ex (P := Try.prog) (op := .sub) (.inr (.inl rfl)) 24 HIH.out HM.out w8
                  obtain ⟨xf, vf, rf, jf, lf, ef⟩ := F32.arith_ex (P := Try.prog) (op := .sub) (.inr (.inl rfl)) 24 HM.out HIL.out vg
                  have DG := Lib.hid (eg.trans ef)
                  have JG : Hid (F32.Is (cpG T h) xg) := jg
                  have JF : Hid (F32.Is (cpF T l) xf) := jf
                  have hc0 := cmp_is .lt JF.out JG.out
                  have D9 := Lib.hid (D8.out.trans DG.out)
                  clear jg lg eg jf lf ef
                  cases h7 : cmpO .lt (cpF T l) (cpG T h) with
                  | true =>
                    rw [h7] at hc0
                    have HDD : Hid (cpD T l h = cpF T l) := by show _ = _; unfold cpD; rw [h7]; rfl
                    obtain ⟨xb, vb, rb, jb, lb, eb⟩ := F32.arith_ex (P := Try.prog) (op := .sub) (.inr (.inl rfl)) 24 HM.out HIL.out vf
                    obtain ⟨xc, vc, rc, jc, lc, ec⟩ := F32.arith_ex (P := Try.prog) (op := .sub) (.inr (.inl rfl)) 24 HIH.out HIL.out vb
                    obtain ⟨xd, vd, rd, jd, ld, ed⟩ := F32.arith_ex (P := Try.prog) (op := .mul) (.inr (.inr (.inl rfl))) 24 six_is HS.out vc
                    obtain ⟨xq, vq, rq, jq, lq, eq⟩ := F32.arith_ex (P := Try.prog) (op := .quo) (.inr (.inr (.inr rfl))) 24 jc jd vd
                    obtain ⟨xi, vi, ri, ji, li, ei⟩ := F32.arith_ex (P := Try.prog) (op := .mul) (.inr (.inr (.inl rfl))) 24 three_is HS.out vq
                    obtain ⟨xj, vj, rj, jj, lj, ej⟩ := F32.arith_ex (P := Try.prog) (op := .quo) (.inr (.inr (.inr rfl))) 24 jb ji vi
                    have DA := Lib.hid (((((eb.trans ec).trans ed).trans eq).trans ei).trans ej)
                    have JA : Hid (F32.Is (cpA T l h) xq) := jq
                    have JE : Hid (F32.Is (cpE T l h) xj) := by show F32.Is _ _; unfold cpE; rw [HDD.out]; exact jj
                    have DT := Lib.hid (D9.out.trans DA.out)
                    clear jb lb eb jc lc ec jd ld ed jq lq eq ji li ei jj lj ej
                    clear h7 DA
                    go_wp2_with fail
                    refine (specFinite_any xq _).mono ?_
                    rintro e w9 ⟨rfl, d9⟩
                    have E9 := Lib.hid (DT.out.trans d9)
                    clear d9
                    rw [(F32.fin_is JA.out).1]
                    cases h8 : F32.finO (cpA T l h) with
                    | false =>
                      have HN := Lib.hid (show cpB T l h = false by rw [HBB.out, h8]; rfl)
                      have HX := Lib.hid (cap_n HN.out)
                      clear h8
                      go_wp2_with fail
                      go_ret3
                      rw [HN.out, HX.out, HX.out]
                      exact ⟨rfl, E9.out⟩
                    | true =>
                      go_wp2_with fail
                      refine (specFinite_any xj _).mono ?_
                      rintro e w10 ⟨rfl, d10⟩
                      have E10 := Lib.hid (E9.out.trans d10)
                      clear d10
                      rw [(F32.fin_is JE.out).1]
                      cases h9 : F32.finO (cpE T l h) with
                      | false =>
                        have HN := Lib.hid (show cpB T l h = false by rw [HBB.out, h8, h9]; rfl)
                        have HX := Lib.hid (cap_n HN.out)
                        clear h8 h9
                        go_wp2_with fail
                        go_ret3
                        rw [HN.out, HX.out, HX.out]
                        exact ⟨rfl, E10.out⟩
                      | true =>
                        have HN := Lib.hid (show cpB T l h = true by rw [HBB.out, h8, h9]; rfl)
                        have HX := Lib.hid (cap_o HN.out h8 JA.out)
                        have HY := Lib.hid (cap_o HN.out h9 JE.out)
                        clear h8 h9
                        go_wp2_with fail
                        go_ret3
                        rw [HN.out, HX.out, HY.out]
                        exact ⟨rfl, E10.out⟩
                  | false =>
                    rw [h7] at hc0
                    have HDD : Hid (cpD T l h = cpG T h) := by show _ = _; unfold cpD; rw [h7]; rfl
                    obtain ⟨xc, vc, rc, jc, lc, ec⟩ := F32.arith_ex (P := Try.prog) (op := .sub) (.inr (.inl rfl)) 24 HIH.out HIL.out vf
                    obtain ⟨xd, vd, rd, jd, ld, ed⟩ := F32.arith_ex (P := Try.prog) (op := .mul) (.inr (.inr (.inl rfl))) 24 six_is HS.out vc
                    obtain ⟨xq, vq, rq, jq, lq, eq⟩ := F32.arith_ex (P := Try.prog) (op := .quo) (.inr (.inr (.inr rfl))) 24 jc jd vd
                    obtain ⟨xi, vi, ri, ji, li, ei⟩ := F32.arith_ex (P := Try.prog) (op := .mul) (.inr (.inr (.inl rfl))) 24 three_is HS.out vq
                    obtain ⟨xj, vj, rj, jj, lj, ej⟩ := F32.arith_ex (P := Try.prog) (op := .quo) (.inr (.inr (.inr rfl))) 24 JG.out ji vi
                    have DA := Lib.hid ((((ec.trans ed).trans eq).trans ei).trans ej)
                    have JA : Hid (F32.Is (cpA T l h) xq) := jq
                    have JE : Hid (F32.Is (cpE T l h) xj) := by show F32.Is _ _; unfold cpE; rw [HDD.out]; exact jj
                    have DT := Lib.hid (D9.out.trans DA.out)
                    clear jc lc ec jd ld ed jq lq eq ji li ei jj lj ej
                    clear h7 DA
                    go_wp2_with fail
                    refine (specFinite_any xq _).mono ?_
                    rintro e w9 ⟨rfl, d9⟩
                    have E9 := Lib.hid (DT.out.trans d9)
                    clear d9
                    rw [(F32.fin_is JA.out).1]
                    cases h8 : F32.finO (cpA T l h) with
                    | false =>
                      have HN := Lib.hid (show cpB T l h = false by rw [HBB.out, h8]; rfl)
                      have HX := Lib.hid (cap_n HN.out)
                      clear h8
                      go_wp2_with fail
                      go_ret3
                      rw [HN.out, HX.out, HX.out]
                      exact ⟨rfl, E9.out⟩
                    | true =>
                      go_wp2_with fail
                      refine (specFinite_any xj _).mono ?_
                      rintro e w10 ⟨rfl, d10⟩
                      have E10 := Lib.hid (E9.out.trans d10)
                      clear d10
                      rw [(F32.fin_is JE.out).1]
                      cases h9 : F32.finO (cpE T l h) with
                      | false =>
                        have HN := Lib.hid (show cpB T l h = false by rw [HBB.out, h8, h9]; rfl)
                        have HX := Lib.hid (cap_n HN.out)
                        clear h8 h9
                        go_wp2_with fail
                        go_ret3
                        rw [HN.out, HX.out, HX.out]
                        exact ⟨rfl, E10.out⟩
                      | true =>
                        have HN := Lib.hid (show cpB T l h = true by rw [HBB.out, h8, h9]; rfl)
                        have HX := Lib.hid (cap_o HN.out h8 JA.out)
                        have HY := Lib.hid (cap_o HN.out h9 JE.out)
                        clear h8 h9
                        go_wp2_with fail
                        go_ret3
                        rw [HN.out, HX.out, HY.out]
                        exact ⟨rfl, E10.out⟩
end Go.Proofs.Ytemdgfjcjjadnab
