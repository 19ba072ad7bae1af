/-
  How old a unit is, in the program. Conditions: the lists read as lists of numbers.
-/
import Derived.Test.YtppkeabkjabhdaaStA
namespace We
open Go Flt Dec F32 Cm
theorem saT_min {T : List Nat} {t i : Nat} (h : i + 1 < T.length) (ht : nan .f32 t = false) (htl : t < 4294967296) (hn : nan .f32 (T.getD (i + 1) 0) = false) (hl : T.getD (i + 1) 0 < 4294967296) (hp : (FloatKind.f32.format.order (T.getD (i + 1) 0) 0 == some .gt) = true) : saT T t i = minF t (T.getD (i + 1) 0) := by
  rw [saT_in h, minF_lt ht hn htl hl hp]
theorem saT_is {T : List Nat} {t i : Nat} (hf : finL T = true) (hl : ∀ z ∈ T, z < 4294967296) (ht : Is (some t) t) : Is (some (saT T t i)) (saT T t i) := by
  unfold saT
  by_cases h : i + 1 < T.length ∧ (FloatKind.f32.format.order (T.getD (i + 1) 0) t == some .lt) = true
  · rw [if_pos h]
    refine fin_isN (all_get hf h.1) (hl _ ?_)
    rw [show T.getD (i + 1) 0 = T[i + 1] from by simp [List.getD, h.1]]
    exact List.getElem_mem h.1
  · rw [if_neg h]; exact ht
end We
namespace Go.Proofs.Ytppkeabkjabhdaa
open Go.RowKit Flt Dec Cm We Cr
set_option maxRecDepth 100000 in
set_option maxHeartbeats 8000000 in
theorem iStepAge_any (a : Option Addr) (la ca : Nat) (F : List Nat) (b : Option Addr) (lb cb : Nat) (T : List Nat) (t : Nat) (w : World) (h : FRow w a la F) (g : FRow w b lb T) (_hc : la ≤ ca) (_hc2 : lb ≤ cb) (ht : t < 4294967296) :
    Calls Try.prog 24 #[.slice a la ca, .slice b lb cb, .float .f32 t] w fun e w' => e = .returned (.tuple #[.float .f32 (okV (sa0 F T t) (saE F T t)), .bool (okB (sa0 F T t) (saE F T t))]) ∧ Below w.heap.size w w' := by
  have hFL : F.length = la := h.1
  have hTL : T.length = lb := g.1
  have HF := Lib.hid h
  have HT := Lib.hid g
  by_cases hl : 1 ≤ la ∧ la ≤ 16
  · have q1 : ¬ ((la : Int) < 1) := by omega
    have q2 : ¬ ((la : Int) > 16) := by omega
    cases h1 : F.all nng with
    | false =>
      have H1 : Hid ((!F.all nng) = true) := by show _ = _; rw [h1]; rfl
      have HCC : Hid (∀ w', Drawn w w' → True) := Lib.hid fun _ _ => trivial
      have HM := Lib.hid (ok_no (sa_f (T := T) (t := t) h1) (saE F T t))
      clear h g hl h1 hFL hTL
      go_enter Try.func24, Try.ntmps24
      go_wp2_with fail
      refine (someBelow_any _ la ca F _ HF.out).mono ?_
      rintro e w1 ⟨rfl, d1⟩
      rw [H1.out]
      have D1 := Lib.hid d1
      have hcw := HCC.out w1 d1
      clear d1
      go_wp2_with fail
      go_ret2
      rw [HM.out.1, HM.out.2]
      exact ⟨rfl, D1.out.below _⟩
    | true =>
      have H1 : Hid ((!F.all nng) = false) := by show _ = _; rw [h1]; rfl
      by_cases hs : lb = la
      · subst hs
        have q3 : ((lb : Int) != (lb : Int)) = false := by simp
        obtain ⟨b1, o1, rfl, hbl1, hc1⟩ := g.2.2.2 0 (by omega)
        rw [Nat.add_zero] at hc1
        have HCC : Hid (∀ w', Drawn w w' → w'.cell? ⟨b1, o1, none⟩ = some (.float .f32 (T.getD 0 0))) := Lib.hid fun w' d => by rw [d.cell]; exact hc1
        cases h2 : eqz (T.getD 0 0) with
        | false =>
          have hq : (FloatKind.f32.format.order (T.getD 0 0) 0 != some .eq) = true := by unfold eqz at h2; rw [bne, h2]; rfl
          have HM := Lib.hid (ok_no (sa_z (F := F) (t := t) h2) (saE F T t))
          generalize T.getD 0 0 = z0 at *
          clear h g hl h1 h2 hFL hTL hbl1 hc1
          go_enter Try.func24, Try.ntmps24
          go_wp2_with fail
          refine (someBelow_any _ lb ca F _ HF.out).mono ?_
          rintro e w1 ⟨rfl, d1⟩
          rw [H1.out]
          have D1 := Lib.hid d1
          have hcw := HCC.out w1 d1
          clear d1
          go_wp2_with fail
          go_ret2
          rw [HM.out.1, HM.out.2]
          exact ⟨rfl, D1.out.below _⟩
        | true =>
          have hq : (FloatKind.f32.format.order (T.getD 0 0) 0 != some .eq) = false := by have h3 := h2; unfold eqz at h3; rw [bne, h3]; rfl
          cases h3 : (ascW T && finL T) with
          | false =>
            have H2 := Lib.hid h3
            have HM := Lib.hid (ok_no (sa_a (F := F) (t := t) h3) (saE F T t))
            generalize T.getD 0 0 = z0 at *
            clear h g hl h1 h2 h3 hFL hTL hbl1 hc1
            go_enter Try.func24, Try.ntmps24
            go_wp2_with fail
            refine (someBelow_any _ lb ca F _ HF.out).mono ?_
            rintro e w1 ⟨rfl, d1⟩
            rw [H1.out]
            have D1 := Lib.hid d1
            have hcw := HCC.out w1 d1
            clear d1
            go_wp2_with fail
            refine (areAsc_any _ lb cb T _ (frow_drawn HT.out D1.out) (by omega)).mono ?_
            rintro e w2 ⟨rfl, d2⟩
            rw [H2.out]
            have D2 := Lib.hid (D1.out.trans d2)
            clear d2
            go_wp2_with fail
            go_ret2
            rw [HM.out.1, HM.out.2]
            exact ⟨rfl, D2.out.below _⟩
          | true =>
            have H2 := Lib.hid h3
            cases h4 : nng t with
            | false =>
              have H3 := Lib.hid h4
              have HM := Lib.hid (ok_no (sa_t (F := F) (T := T) h4) (saE F T t))
              generalize T.getD 0 0 = z0 at *
              clear h g hl h1 h2 h3 h4 hFL hTL hbl1 hc1
              go_enter Try.func24, Try.ntmps24
              go_wp2_with fail
              refine (someBelow_any _ lb ca F _ HF.out).mono ?_
              rintro e w1 ⟨rfl, d1⟩
              rw [H1.out]
              have D1 := Lib.hid d1
              have hcw := HCC.out w1 d1
              clear d1
              go_wp2_with fail
              refine (areAsc_any _ lb cb T _ (frow_drawn HT.out D1.out) (by omega)).mono ?_
              rintro e w2 ⟨rfl, d2⟩
              rw [H2.out]
              have D2 := Lib.hid (D1.out.trans d2)
              clear d2
              go_wp2_with fail
              refine (c_implFrom t _).mono ?_
              rintro e w3 ⟨rfl, d3⟩
              rw [H3.out]
              have D3 := Lib.hid (D2.out.trans d3)
              clear d3
              go_wp2_with fail
              go_ret2
              rw [HM.out.1, HM.out.2]
              exact ⟨rfl, D3.out.below _⟩
            | true =>
              have H3 := Lib.hid h4
              have hy := sa_yes (F := F) (T := T) (t := t) (by rw [hFL]; exact hl) (by rw [hFL, hTL]) h1 h2 h3 h4
              rw [Bool.and_eq_true] at h3
              have HTI := Lib.hid (nng_is h4 ht)
              have HFI0 : Hid (∀ k, k < lb → F32.Is (at_ F k) (F.getD k 0)) := Lib.hid fun k hk => nng_is (all_get h1 (by rw [hFL]; exact hk)) (lt_at h hk)
              have HTV : Hid (∀ k, k < lb → F32.Is (at_ T k) (T.getD k 0)) := Lib.hid fun k hk => at_is h3.2 g hk
              have HTO : Hid (∀ k, k + 1 < lb → saT T t k = minF t (T.getD (k + 1) 0) ∧ nan .f32 (T.getD (k + 1) 0) = false) := Lib.hid fun k hk => ⟨saT_min (by rw [hTL]; exact hk) (nng_is h4 ht).2.1 ht (fin_num (all_get h3.2 (by rw [hTL]; exact hk))) (lt_at g hk) (asc_pos h3.1 h3.2 h2 k (by rw [hTL]; exact hk)), fin_num (all_get h3.2 (by rw [hTL]; exact hk))⟩
              have HTN : Hid (∀ k, ¬ k + 1 < lb → saT T t k = t) := Lib.hid fun k hk => saT_out (by rw [hTL]; exact hk)
              have HTS1 : Hid (∀ k, F32.Is (some (saT T t k)) (saT T t k)) := Lib.hid fun k => saT_is h3.2 g.2.2.1 (nng_is h4 ht)
              have HDD : Hid (∀ k, saD T t k = F32.opO .sub (some (saT T t k)) (at_ T k)) := Lib.hid fun _ => rfl
              have HOK : Hid (okB (sa0 F T t) (saE F T t) = F32.finO (saS F T t lb) ∧ okV (sa0 F T t) (saE F T t) = if F32.finO (saS F T t lb) then (saS F T t lb).getD 0 else 0) := by
                have := ok_yes hy (saE F T t)
                unfold saE at this ⊢
                rw [hFL] at this ⊢
                exact this
              have HTN0 : Hid (nan .f32 t = false) := Lib.hid (nng_is h4 ht).2.1
              obtain ⟨y1, hy1⟩ : ∃ y, okV (sa0 F T t) (saE F T t) = y := ⟨_, rfl⟩
              obtain ⟨y2, hy2⟩ : ∃ y, okB (sa0 F T t) (saE F T t) = y := ⟨_, rfl⟩
              rw [hy1, hy2] at HOK
              rw [hy1, hy2]
              obtain ⟨z0, hz0⟩ : ∃ z, T.getD 0 0 = z := ⟨_, rfl⟩
              rw [hz0] at hq HCC
              clear h g h1 h2 h3 h4 hFL hTL hbl1 hc1 hy1 hy2 hz0 hl hy
              go_enter Try.func24, Try.ntmps24
              go_wp2_with fail
              refine (someBelow_any _ lb ca F _ HF.out).mono ?_
              rintro e w1 ⟨rfl, d1⟩
              rw [H1.out]
              have D1 := Lib.hid d1
              have hcw := HCC.out w1 d1
              clear d1
              go_wp2_with fail
              refine (areAsc_any _ lb cb T _ (frow_drawn HT.out D1.out) (by omega)).mono ?_
              rintro e w2 ⟨rfl, d2⟩
              rw [H2.out]
              have D2 := Lib.hid (D1.out.trans d2)
              clear d2
              go_wp2_with fail
              refine (c_implFrom t _).mono ?_
              rintro e w3 ⟨rfl, d3⟩
              rw [H3.out]
              have D3 := Lib.hid (D2.out.trans d3)
              clear d3
              go_wp2_with fail
              clear hcw hq HCC
              go_loopg [8, 48] lb (fun n s i wr => ∃ k x : Nat, s = .float .f32 x ∧ i = .int .i64 (k : Int) ∧ Hid (k + n = lb) ∧ k ≤ lb ∧ Hid (F32.Is (saS F T t k) x) ∧ Hid (Drawn w wr))
              case atStart => exact ⟨0, 0, rfl, rfl, by show _ = _; omega, Nat.zero_le _, zero_is, D3.out⟩
              case round =>
                clear D1 D2 D3
                obtain ⟨k, x, rfl, rfl, hk, hkl, hX, hD⟩ := hrel
                by_cases hlt : k < lb
                · have HJ : Hid (k + 1 + (gk - 1) = lb) := by have := hk.out; show _ = _; omega
                  have HG : Hid (gk - 1 < gk) := by have := hk.out; show _ < _; omega
                  obtain ⟨b2, o2, rfl, hbl2, hc2⟩ := (frow_drawn HF.out hD.out).2.2.2 k hlt
                  obtain ⟨b3, o3, he3, hbl3, hc3⟩ := (frow_drawn HT.out hD.out).2.2.2 k hlt
                  cases he3
                  have HTK := Lib.hid (HTV.out k hlt)
                  have HFI := Lib.hid (HFI0.out k hlt)
                  have HDK := Lib.hid (HDD.out k)
                  have HTS0 := Lib.hid (HTS1.out k)
                  have HSY := Lib.hid (fun h => saS_yes (F := F) (T := T) (t := t) (k := k) h)
                  have HSN := Lib.hid (fun h => saS_no (F := F) (T := T) (t := t) (k := k) h)
                  generalize F.getD k 0 = zf at *
                  generalize T.getD k 0 = zt at *
                  clear hbl2 hbl3
                  by_cases hnx : k + 1 < lb
                  · have hz5 : (k : Int) + 1 < (lb : Int) := by omega
                    obtain ⟨b5, o5, he5, hbl5, hc5⟩ := (frow_drawn HT.out hD.out).2.2.2 (k + 1) hnx
                    cases he5
                    obtain ⟨hm1, hm2⟩ := HTO.out k hnx
                    have HTT := Lib.hid hm1
                    generalize T.getD (k + 1) 0 = z5 at *
                    have hmin := fun w => run_min_float #[31, 31] 31 t z5 w HTN0.out hm2
                    generalize minF t z5 = tv at *
                    clear hbl5 hm1
                    have HTS : Hid (F32.Is (some (saT T t k)) (saT T t k)) := Lib.hid HTS0.out
                    obtain ⟨x1, v1, r1, j1, l1, e1⟩ := F32.arith_ex (P := Try.prog) (op := .sub) (.inr (.inl rfl)) 31 HTS.out HTK.out wr
                    have DD := Lib.hid e1
                    have J1 : Hid (F32.Is (saD T t k) x1) := by show F32.Is _ _; rw [HDK.out]; exact j1
                    rw [HTT.out] at r1
                    have hg := cmp_is .gt J1.out zero_is
                    cases hc : cmpO .gt (saD T t k) (some 0) with
                    | true =>
                      rw [hc] at hg
                      have HSS := Lib.hid (HSY.out hc)
                      obtain ⟨x2, v2, r2, j2, l2, e2⟩ := F32.arith_ex (P := Try.prog) (op := .mul) (.inr (.inr (.inl rfl))) 31 HFI.out J1.out v1
                      obtain ⟨x3, v3, r3, j3, l3, e3⟩ := F32.arith_ex (P := Try.prog) (op := .add) (.inl rfl) 31 hX.out j2 v2
                      have DE := Lib.hid (e2.trans e3)
                      have JX : Hid (F32.Is (saS F T t (k + 1)) x3) := by show F32.Is _ _; rw [HSS.out]; exact j3
                      have DR := Lib.hid ((hD.out.trans DD.out).trans DE.out)
                      clear j1 l1 e1 j2 l2 e2 j3 l3 e3
                      clear hc DD DE hX hD
                      go_wp2_with fail
                      go_roundg (gk - 1)
                      case measure => exact HG.out
                      case rel => exact ⟨k + 1, x3, rfl, by go_num, HJ, by omega, JX.out, DR.out⟩
                    | false =>
                      rw [hc] at hg
                      have HSS := Lib.hid (HSN.out hc)
                      have JX : Hid (F32.Is (saS F T t (k + 1)) x) := by show F32.Is _ _; rw [HSS.out]; exact hX.out
                      have DR := Lib.hid (hD.out.trans DD.out)
                      clear j1 l1 e1
                      clear hc DD hX hD
                      go_wp2_with fail
                      go_roundg (gk - 1)
                      case measure => exact HG.out
                      case rel => exact ⟨k + 1, x, rfl, by go_num, HJ, by omega, JX.out, DR.out⟩
                  · have hz5 : ¬ ((k : Int) + 1 < (lb : Int)) := by omega
                    have HTT := Lib.hid (HTN.out k hnx)
                    have HTS : Hid (F32.Is (some (saT T t k)) (saT T t k)) := Lib.hid HTS0.out
                    obtain ⟨x1, v1, r1, j1, l1, e1⟩ := F32.arith_ex (P := Try.prog) (op := .sub) (.inr (.inl rfl)) 31 HTS.out HTK.out wr
                    have DD := Lib.hid e1
                    have J1 : Hid (F32.Is (saD T t k) x1) := by show F32.Is _ _; rw [HDK.out]; exact j1
                    rw [HTT.out] at r1
                    have hg := cmp_is .gt J1.out zero_is
                    cases hc : cmpO .gt (saD T t k) (some 0) with
                    | true =>
                      rw [hc] at hg
                      have HSS := Lib.hid (HSY.out hc)
                      obtain ⟨x2, v2, r2, j2, l2, e2⟩ := F32.arith_ex (P := Try.prog) (op := .mul) (.inr (.inr (.inl rfl))) 31 HFI.out J1.out v1
                      obtain ⟨x3, v3, r3, j3, l3, e3⟩ := F32.arith_ex (P := Try.prog) (op := .add) (.inl rfl) 31 hX.out j2 v2
                      have DE := Lib.hid (e2.trans e3)
                      have JX : Hid (F32.Is (saS F T t (k + 1)) x3) := by show F32.Is _ _; rw [HSS.out]; exact j3
                      have DR := Lib.hid ((hD.out.trans DD.out).trans DE.out)
                      clear j1 l1 e1 j2 l2 e2 j3 l3 e3
                      clear hc DD DE hX hD
                      go_wp2_with fail
                      go_roundg (gk - 1)
                      case measure => exact HG.out
                      case rel => exact ⟨k + 1, x3, rfl, by go_num, HJ, by omega, JX.out, DR.out⟩
                    | false =>
                      rw [hc] at hg
                      have HSS := Lib.hid (HSN.out hc)
                      have JX : Hid (F32.Is (saS F T t (k + 1)) x) := by show F32.Is _ _; rw [HSS.out]; exact hX.out
                      have DR := Lib.hid (hD.out.trans DD.out)
                      clear j1 l1 e1
                      clear hc DD hX hD
                      go_wp2_with fail
                      go_roundg (gk - 1)
                      case measure => exact HG.out
                      case rel => exact ⟨k + 1, x, rfl, by go_num, HJ, by omega, JX.out, DR.out⟩
                · obtain rfl : k = lb := by omega
                  clear hlt hk
                  have E := Lib.hid (F32.fin_is hX.out)
                  generalize wr = w5 at *
                  go_wp2_with fail
                  refine (c_onlyFinite x _).mono ?_
                  rintro e w6 ⟨rfl, d6⟩
                  rw [E.out.2, E.out.1, ← HOK.out.2, ← HOK.out.1]
                  have D6 := Lib.hid ((hD.out.trans d6).below w.heap.size)
                  clear d6
                  go_wp2_with fail
                  go_ret2
                  exact ⟨rfl, D6.out⟩
      · have q3 : ((lb : Int) != (la : Int)) = true := by simp; omega
        have HCC : Hid (∀ w', Drawn w w' → True) := Lib.hid fun _ _ => trivial
        have HM := Lib.hid (ok_no (sa_same (F := F) (T := T) (t := t) (by rw [hFL, hTL]; exact hs)) (saE F T t))
        clear h g hl hs hFL hTL
        go_enter Try.func24, Try.ntmps24
        go_wp2_with fail
        refine (someBelow_any _ la ca F _ HF.out).mono ?_
        rintro e w1 ⟨rfl, d1⟩
        rw [H1.out]
        have D1 := Lib.hid d1
        have hcw := HCC.out w1 d1
        clear d1
        go_wp2_with fail
        go_ret2
        rw [HM.out.1, HM.out.2]
        exact ⟨rfl, D1.out.below _⟩
  · have HM := Lib.hid (ok_no (sa_len (F := F) (T := T) (t := t) (by rw [hFL]; exact hl)) (saE F T t))
    clear h g hFL hTL
    by_cases q1 : (la : Int) < 1
    all_goals
      go_enter Try.func24, Try.ntmps24
      go_wp2_with fail
      go_ret2
      rw [HM.out.1, HM.out.2]
      exact ⟨rfl, Below.refl _ _⟩
end Go.Proofs.Ytppkeabkjabhdaa