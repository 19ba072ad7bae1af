/-
  How well a process keeps its bounds: the program's contract. Conditions: the list reads as a list of numbers; numbers are words.
-/
import Derived.Test.YtemdgfjcjjadnabCpW
import Derived.Test.YtemdgfjcjjadnabCrI0
namespace Go.Proofs.Ytemdgfjcjjadnab
open Go.RowKit Flt Dec Cm We Cp
theorem row2 (w : World) (t : TypeId) (x y : Nat) (hx : x < 4294967296) (hy : y < 4294967296) : FRow (w.alloc (.cells #[.float .f32 x, .float .f32 y] t)) (some ⟨w.heap.size, 0, none⟩) 2 [x, y] := by
  refine ⟨rfl, by decide, by simp; exact ⟨hx, hy⟩, fun i hi => ⟨w.heap.size, 0, rfl, by simp, ?_⟩⟩
  match i, hi with
  | 0, _ => rw [World.cell?_alloc_mark]; rfl
  | 1, _ => rw [World.cell?_alloc_mark]; rfl
theorem all2 (x y : Nat) : ([x, y].all fun z => fin .f32 z) = (fin .f32 x && fin .f32 y) := by simp
set_option maxRecDepth 20000 in
set_option maxHeartbeats 6400000 in
theorem iCap_any (a : Option Addr) (len cap : Nat) (T : List Nat) (l h : Nat) (w : World) (hT : FRow w a len T) (hm : len ≤ 1048576) (hl : l < 4294967296) (hh : h < 4294967296) :
    Calls Try.prog 34 #[.slice a len cap, .float .f32 l, .float .f32 h] w fun e w' => e = .returned (.tuple #[.float .f32 (cpX T l h (cpA T l h)), .float .f32 (cpX T l h (cpE T l h)), .bool (cpB T l h)]) ∧ Below w.heap.size w w' := by
  have H := Lib.hid hT
  have HL : Hid (T.length = len) := Lib.hid hT.1
  go_enter Try.func34, Try.ntmps34
  go_wp2_with fail
  refine (iTold_any a len cap T _ H.out).mono ?_
  rintro e w1 ⟨rfl, d1⟩
  have D1 := Lib.hid d1
  clear d1 hT
  cases h1 : tol T with
  | false =>
    have HN := Lib.hid (cap_t (l := l) (h := h) h1)
    clear h1
    go_wp2_with fail
    go_ret3
    rw [HN.out.1, HN.out.2, HN.out.2]
    exact ⟨rfl, D1.out.below _⟩
  | true =>
    have H1 := Lib.hid h1
    clear h1
    by_cases h2 : 2 ≤ len
    case neg =>
      have HN := Lib.hid (cap_2 (T := T) (l := l) (h := h) (by rw [HL.out]; exact h2))
      have q2 : (len : Int) < 2 := by omega
      clear h2
      go_wp2_with fail
      go_ret3
      rw [HN.out.1, HN.out.2, HN.out.2]
      exact ⟨rfl, D1.out.below _⟩
    case pos =>
      have q2 : ¬ (len : Int) < 2 := by omega
      go_wp2_with fail
      have HRW := Lib.hid (row2 w1 24 l h hl hh)
      have B2 : Hid (Below w.heap.size w (w1.alloc (.cells #[.float .f32 l, .float .f32 h] 24))) := Lib.hid ((D1.out.below w.heap.size).alloc (D1.out.below w.heap.size).size _)
      refine (areFinD_any _ 2 _ [l, h] _ HRW.out).mono ?_
      rintro e w3 ⟨rfl, d3⟩
      have B3 := Lib.hid (B2.out.trans ((d3.below _).mono B2.out.size))
      clear d3 HRW B2
      rw [all2]
      have HR := Lib.hid (H.out.keep B3.out)
      cases h3 : (fin .f32 l && fin .f32 h) with
      | false =>
        have HN : Hid (cpB T l h = false ∧ ∀ o, cpX T l h o = 0) := by
          cases g : fin .f32 l with
          | false => exact cap_l g
          | true => rw [g] at h3; exact cap_h h3
        clear h3
        go_wp2_with fail
        go_ret3
        rw [HN.out.1, HN.out.2, HN.out.2]
        exact ⟨rfl, B3.out⟩
      | true =>
          rw [Bool.and_eq_true] at h3
          have H3 := Lib.hid h3.1
          have H4 := Lib.hid h3.2
          clear h3
          cases h5 : geB h l with
          | true =>
            have HN := Lib.hid (cap_g (T := T) h5)
            have q5 := h5
            unfold geB at q5
            clear h5
            go_wp2_with fail
            go_ret3
            rw [HN.out.1, HN.out.2, HN.out.2]
            exact ⟨rfl, B3.out⟩
          | false =>
            have H0 := Lib.hid (cap_yes H1.out (by rw [HL.out]; exact h2) H3.out H4.out h5)
            have q5 := h5
            unfold geB at q5
            have HFT : Hid (finL T = true) := Lib.hid (cp0_parts H0.out).2.1
            have hl256 : len ≤ 256 := by have := (cp0_parts H0.out).1; rw [HL.out] at this; omega
            have HTI : Hid (∀ k, k < len → F32.Is (at_ T k) (T.getD k 0)) := Lib.hid fun k hk => at_is HFT.out H.out hk
            have HST : Hid (Flt.sumO T = sm (at_ T) len) := by show _ = _; rw [sumO_sm HFT.out, HL.out]
            have HMT : Hid (F32.opO .quo (sm (at_ T) len) (fi len) = plM T) := by show _ = _; unfold plM; rw [HL.out]
            have HWT : Hid (sm (plFW T) len = plW T) := by show _ = _; unfold plW; rw [HL.out]
            have HVT : Hid (F32.opO .quo (plW T) (fi (len - 1)) = cpV T) := by show _ = _; unfold cpV; rw [HL.out]
            have HIL := Lib.hid (fin_isN H3.out hl)
            have HIH := Lib.hid (fin_isN H4.out hh)
            have HI1 := Lib.hid (whole_i len hl256)
            have HI2 : Hid (F32.Is (fi (len - 1)) (Go.floatOfInt .f32 ((len : Int) - 1))) := by
              have := whole_i (len - 1) (by omega)
              rw [show ((len - 1 : Nat) : Int) = (len : Int) - 1 from by omega] at this
              exact this
            have hlen0 : len ≤ 1048576 := by omega
            clear h5 h2
            go_wp2_with fail
            refine (sumOf_is a len cap T _ _ HR.out hl256 HST.out).mono ?_
            rintro e w4 ⟨⟨u, rfl, hu⟩, d4⟩
            obtain ⟨xm, vm, rm, jm, lm, em⟩ := F32.arith_ex (P := Try.prog) (op := .quo) (.inr (.inr (.inr rfl))) 24 hu HI1.out w4
            have D5 := Lib.hid em
            rw [HMT.out] at jm
            have HM := Lib.hid jm
            have D6 := Lib.hid (d4.trans D5.out)
            clear jm lm em hu d4 D5
            go_wp2_with fail
            go_loopg [10, 44] len (fun n s i wr => ∃ t p : Nat, s = .float .f32 p ∧ i = .int .i64 (t : Int) ∧ Hid (t + n = len) ∧ t ≤ len ∧ Hid (F32.Is (sm (plFW T) t) p) ∧ Hid (Drawn w3 wr))
            case atStart => exact ⟨0, 0, rfl, rfl, by show _ = _; omega, Nat.zero_le _, zero_is, D6.out⟩
            case round =>
              obtain ⟨t, p, rfl, rfl, ht, htl, hP, hD⟩ := hrel
              by_cases hlt : t < len
              · have HJ : Hid (t + 1 + (gk - 1) = len) := by have := ht.out; show _ = _; omega
                have HG : Hid (gk - 1 < gk) := by have := ht.out; show _ < _; omega
                obtain ⟨bt, ot, rfl, hbl1, hc1⟩ := (frow_drawn HR.out hD.out).2.2.2 t hlt
                have I1 := HTI.out t hlt
                generalize T.getD t 0 = z1 at *
                obtain ⟨x1, v1, r1, j1, l1, e1⟩ := F32.arith_ex (P := Try.prog) (op := .sub) (.inr (.inl rfl)) 24 I1 HM.out wr
                obtain ⟨x2, v2, r2, j2, l2, e2⟩ := F32.arith_ex (P := Try.prog) (op := .sub) (.inr (.inl rfl)) 24 I1 HM.out v1
                obtain ⟨x3, v3, r3, j3, l3, e3⟩ := F32.arith_ex (P := Try.prog) (op := .mul) (.inr (.inr (.inl rfl))) 24 j1 j2 v2
                obtain ⟨x4, v4, r4, j4, l4, e4⟩ := F32.arith_ex (P := Try.prog) (op := .add) (.inl rfl) 24 hP.out j3 v3
                have DD := Lib.hid (((e1.trans e2).trans e3).trans e4)
                have J2 : Hid (F32.Is (sm (plFW T) (t + 1)) x4) := j4
                have DR := Lib.hid (hD.out.trans DD.out)
                clear j1 l1 e1 j2 l2 e2 j3 l3 e3 j4 l4 e4
                clear hP hD DD I1 hbl1
                go_wp2_with fail
                go_roundg (gk - 1)
                case measure => exact HG.out
                case rel => exact ⟨t + 1, x4, rfl, by go_num, HJ, by omega, J2.out, DR.out⟩
              · obtain rfl : t = len := by omega
                have HP : Hid (F32.Is (plW T) p) := by have := hP.out; rw [HWT.out] at this; exact this
                obtain ⟨xv, vv, rv, jv, lv, ev⟩ := F32.arith_ex (P := Try.prog) (op := .quo) (.inr (.inr (.inr rfl))) 24 HP.out HI2.out wr
                have DD := Lib.hid ev
                rw [HVT.out] at jv
                have HV := Lib.hid jv
                have DV := Lib.hid (hD.out.trans DD.out)
                have hxv := lv
                clear jv lv ev hP hD DD hlt ht
                go_wp2_with fail
                refine (implRoot_any xv hxv _).mono ?_
                rintro e w7 ⟨s, rfl, hs, d7⟩
                have HS : Hid (F32.Is (cpS T) s) := Lib.hid (root_is HV.out hs)
                have D7 := Lib.hid (DV.out.trans d7)
                clear hs d7 hxv rv
                go_wp2_with fail
                refine (c_implAbove s _).mono ?_
                rintro e w8 ⟨rfl, d8⟩
                have D8 := Lib.hid (D7.out.trans d8)
                have B8 : Hid (Below w.heap.size w w8) := Lib.hid (B3.out.trans ((D8.out.below _).mono B3.out.size))
                clear d8
                rw [posO_is HS.out]
                cases h6 : posO (cpS T) with
                | false =>
                  have HN := Lib.hid (cap_s (T := T) (l := l) (h := h) h6)
                  clear h6
                  go_wp2_with fail
                  go_ret3
                  rw [HN.out.1, HN.out.2, HN.out.2]
                  exact ⟨rfl, B8.out⟩
                | true =>
                  have HBB := Lib.hid (cap_b H0.out h6)
                  obtain ⟨gx, gy, kx, ky, nx, ny, bx, by_, hz⟩ := cp_key H0.out h6
                  have HMN := Lib.hid (cpD_is kx ky nx ny bx by_ hz)
                  have HKX := Lib.hid kx
                  have HKY := Lib.hid ky
                  have HNN : Hid (nan .f32 gx = false ∧ nan .f32 gy = false) := Lib.hid ⟨nx, ny⟩
                  clear h6 kx ky nx ny bx by_ hz
                  obtain ⟨xc, vc, rc, jc, lc, ec⟩ := F32.arith_ex (P := Try.prog) (op := .sub) (.inr (.inl rfl)) 24 HIH.out HIL.out w8
                  obtain ⟨xd, vd, rd, jd, ld, ed⟩ := F32.arith_ex (P := Try.prog) (op := .mul) (.inr (.inr (.inl rfl))) 24 six_is HS.out vc
                  obtain ⟨xq, vq, rq, jq, lq, eq⟩ := F32.arith_ex (P := Try.prog) (op := .quo) (.inr (.inr (.inr rfl))) 24 jc jd vd
                  obtain ⟨xg, vg, rg, jg, lg, eg⟩ := F32.arith_ex (P := Try.prog) (op := .sub) (.inr (.inl rfl)) 24 HIH.out HM.out vq
                  obtain ⟨xf, vf, rf, jf, lf, ef⟩ := F32.arith_ex (P := Try.prog) (op := .sub) (.inr (.inl rfl)) 24 HM.out HIL.out vg
                  obtain ⟨xi, vi, ri, ji, li, ei⟩ := F32.arith_ex (P := Try.prog) (op := .mul) (.inr (.inr (.inl rfl))) 24 three_is HS.out vf
                  have DG := Lib.hid (((((ec.trans ed).trans eq).trans eg).trans ef).trans ei)
                  have JG : F32.Is (cpG T h) xg := jg
                  have JF : F32.Is (cpF T l) xf := jf
                  rw [HKX.out] at JG
                  rw [HKY.out] at JF
                  obtain ⟨rfl, _, _⟩ := JG
                  obtain ⟨rfl, _, _⟩ := JF
                  have hmin := fun w => run_min_float #[24, 24] 24 xg xf w HNN.out.1 HNN.out.2
                  generalize minF xg xf = mv at *
                  obtain ⟨xj, vj, rj, jj, lj, ej⟩ := F32.arith_ex (P := Try.prog) (op := .quo) (.inr (.inr (.inr rfl))) 24 HMN.out ji vi
                  have DH := Lib.hid ej
                  have JA : Hid (F32.Is (cpA T l h) xq) := jq
                  have JE : Hid (F32.Is (cpE T l h) xj) := jj
                  have DT := Lib.hid ((D8.out.trans DG.out).trans DH.out)
                  have BT : Hid (Below w.heap.size w vj) := Lib.hid (B3.out.trans ((DT.out.below _).mono B3.out.size))
                  have HLL : Hid (xq < 4294967296 ∧ xj < 4294967296) := Lib.hid ⟨lq, lj⟩
                  clear jc lc ec jd ld ed jq lq eq jg lg eg jf lf ef ji li ei jj lj ej
                  clear DG DH
                  go_wp2_with fail
                  have HRX := Lib.hid (row2 vj 24 xq xj HLL.out.1 HLL.out.2)
                  have BX : Hid (Below w.heap.size w (vj.alloc (.cells #[.float .f32 xq, .float .f32 xj] 24))) := Lib.hid (BT.out.alloc BT.out.size _)
                  refine (areFinD_any _ 2 _ [xq, xj] _ HRX.out).mono ?_
                  rintro e w9 ⟨rfl, d9⟩
                  have B9 := Lib.hid (BX.out.trans ((d9.below _).mono BX.out.size))
                  clear d9
                  rw [all2, (F32.fin_is JA.out).1, (F32.fin_is JE.out).1]
                  cases h8 : (F32.finO (cpA T l h) && F32.finO (cpE T l h)) with
                  | false =>
                    have HN := Lib.hid (show cpB T l h = false by rw [HBB.out, h8])
                    have HX := Lib.hid (cap_n HN.out)
                    clear h8
                    go_wp2_with fail
                    go_ret3
                    rw [HN.out, HX.out, HX.out]
                    exact ⟨rfl, B9.out⟩
                  | true =>
                    have HN := Lib.hid (show cpB T l h = true by rw [HBB.out, h8])
                    rw [Bool.and_eq_true] at h8
                    have HX := Lib.hid (cap_o HN.out h8.1 JA.out)
                    have HY := Lib.hid (cap_o HN.out h8.2 JE.out)
                    clear h8
                    go_wp2_with fail
                    go_ret3
                    rw [HN.out, HX.out, HY.out]
                    exact ⟨rfl, B9.out⟩
end Go.Proofs.Ytemdgfjcjjadnab
