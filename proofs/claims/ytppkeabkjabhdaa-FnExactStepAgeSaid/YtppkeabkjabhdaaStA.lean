/-
  How old a unit is, in both. Conditions: the lists read as lists of numbers.
-/
import Derived.Test.YtppkeabkjabhdaaAsc
import Derived.Deep.RegionHeld3
namespace We
open Go Flt Dec F32 Cm
theorem saT_in {T : List Nat} {t i : Nat} (h : i + 1 < T.length) : saT T t i = if FloatKind.f32.format.order (T.getD (i + 1) 0) t == some .lt then T.getD (i + 1) 0 else t := by
  unfold saT
  by_cases hq : (FloatKind.f32.format.order (T.getD (i + 1) 0) t == some .lt) = true
  · rw [if_pos ⟨h, hq⟩, if_pos hq]
  · rw [if_neg (fun g => hq g.2), if_neg hq]
theorem saT_out {T : List Nat} {t i : Nat} (h : ¬ i + 1 < T.length) : saT T t i = t := by unfold saT; rw [if_neg (fun g => h g.1)]
theorem saS_yes {F T : List Nat} {t k : Nat} (h : cmpO .gt (saD T t k) (some 0) = true) : saS F T t (k + 1) = F32.opO .add (saS F T t k) (F32.opO .mul (at_ F k) (saD T t k)) := by
  show (if _ then _ else _) = _
  rw [if_pos h]
theorem saS_no {F T : List Nat} {t k : Nat} (h : cmpO .gt (saD T t k) (some 0) = false) : saS F T t (k + 1) = saS F T t k := by
  show (if _ then _ else _) = _
  rw [if_neg (by rw [h]; decide)]
end We
namespace Go.Proofs.Ytppkeabkjabhdaa
open Go.RowKit Flt Dec Cm We Cr
set_option maxRecDepth 100000 in
set_option maxHeartbeats 8000000 in
theorem sStepAge_any (a : Option Addr) (la ca : Nat) (F : List Nat) (b : Option Addr) (lb cb : Nat) (T : List Nat) (t : Nat) (w : World) (h : FRow w a la F) (g : FRow w b lb T) (ht : t < 4294967296) :
    Calls Try.prog 22 #[.slice a la ca, .slice b lb cb, .float .f32 t] w fun e w' => e = .returned (.tuple #[.float .f32 (okV (sa0 F T t) (saE F T t)), .bool (okB (sa0 F T t) (saE F T t))]) ∧ Below w.heap.size w w' := by
  have hFL : F.length = la := h.1
  have hTL : T.length = lb := g.1
  have HF := Lib.hid h
  have HT := Lib.hid g
  by_cases hl : 1 ≤ la ∧ la ≤ 16
  · have q1 : ¬ ((la : Int) < 1) := by omega
    have q2 : ¬ ((la : Int) > 16) := by omega
    by_cases hs : lb = la
    · subst hs
      have q3 : ((lb : Int) != (lb : Int)) = false := by simp
      obtain ⟨b1, o1, rfl, hbl1, hc1⟩ := g.2.2.2 0 (by omega)
      rw [Nat.add_zero] at hc1
      cases h1 : T.all fun z => fin .f32 z with
      | false =>
        have H1 := Lib.hid h1
        have HM := Lib.hid (ok_no (sa_a2 (F := F) (t := t) h1) (saE F T t))
        clear h g hl h1 hFL hTL hbl1 hc1
        go_enter Try.func22, Try.ntmps22
        go_wp2_with fail
        refine (specFinD_any _ lb cb T _ HT.out (by omega)).mono ?_
        rintro e w1 ⟨rfl, d1⟩
        rw [H1.out]
        have D1 := Lib.hid d1
        clear d1
        go_wp2_with fail
        go_ret2
        rw [HM.out.1, HM.out.2]
        exact ⟨rfl, D1.out.below _⟩
      | true =>
        have H1 := Lib.hid h1
        have HCC : Hid (∀ w', Drawn w w' → w'.cell? ⟨b1, o1, none⟩ = some (.float .f32 (T.getD 0 0))) := Lib.hid fun w' d => by rw [d.cell]; exact hc1
        cases h2 : eqz (T.getD 0 0) with
        | false =>
          have hq : (FloatKind.f32.format.order (T.getD 0 0) 0 != some .eq) = true := by unfold eqz at h2; rw [bne, h2]; rfl
          have HM := Lib.hid (ok_no (sa_z (F := F) (t := t) h2) (saE F T t))
          generalize T.getD 0 0 = z0 at *
          clear h g hl h1 h2 hFL hTL hbl1 hc1
          go_enter Try.func22, Try.ntmps22
          go_wp2_with fail
          refine (specFinD_any _ lb cb T _ HT.out (by omega)).mono ?_
          rintro e w1 ⟨rfl, d1⟩
          rw [H1.out]
          have D1 := Lib.hid d1
          have hcw := HCC.out w1 d1
          clear d1
          go_wp2_with fail
          go_ret2
          rw [HM.out.1, HM.out.2]
          exact ⟨rfl, D1.out.below _⟩
        | true =>
          have hq : (FloatKind.f32.format.order (T.getD 0 0) 0 != some .eq) = false := by have h3 := h2; unfold eqz at h3; rw [bne, h3]; rfl
          cases h3 : nng t with
          | false =>
            have H3 := Lib.hid h3
            have HM := Lib.hid (ok_no (sa_t (F := F) (T := T) h3) (saE F T t))
            generalize T.getD 0 0 = z0 at *
            clear h g hl h1 h2 h3 hFL hTL hbl1 hc1
            go_enter Try.func22, Try.ntmps22
            go_wp2_with fail
            refine (specFinD_any _ lb cb T _ HT.out (by omega)).mono ?_
            rintro e w1 ⟨rfl, d1⟩
            rw [H1.out]
            have D1 := Lib.hid d1
            have hcw := HCC.out w1 d1
            clear d1
            go_wp2_with fail
            refine (c_specLeast t _).mono ?_
            rintro e w2 ⟨rfl, d2⟩
            rw [H3.out]
            have D2 := Lib.hid (D1.out.trans d2)
            clear d2
            go_wp2_with fail
            go_ret2
            rw [HM.out.1, HM.out.2]
            exact ⟨rfl, D2.out.below _⟩
          | true =>
            have H3 := Lib.hid h3
            have HTI : Hid (F32.Is (some t) t) := Lib.hid (nng_is h3 ht)
            have HNF : Hid (∀ k, k < lb → nng (F.getD k 0) = false → okB (sa0 F T t) (saE F T t) = false ∧ okV (sa0 F T t) (saE F T t) = 0) := Lib.hid fun k hk hq => ok_no (sa_f (all_false (by rw [hFL]; exact hk) hq)) _
            have HNA : Hid (∀ k, k + 1 < lb → gtW (T.getD (k + 1) 0) (T.getD k 0) = false → okB (sa0 F T t) (saE F T t) = false ∧ okV (sa0 F T t) (saE F T t) = 0) := Lib.hid fun k hk hq => ok_no (sa_a1 (ascW_no (i := k + 1) (by omega) (by rw [hTL]; exact hk) hq)) _
            have HOK : Hid ((∀ k, k < lb → nng (F.getD k 0) = true) → (∀ i, 1 ≤ i → i < lb → gtW (T.getD i 0) (T.getD (i - 1) 0) = true) → okB (sa0 F T t) (saE F T t) = F32.finO (saS F T t lb) ∧ okV (sa0 F T t) (saE F T t) = if F32.finO (saS F T t lb) then (saS F T t lb).getD 0 else 0) := Lib.hid fun k1 k2 => by
              have := ok_yes (sa_yes (F := F) (T := T) (t := t) (by rw [hFL]; exact hl) (by rw [hFL, hTL]) (all_from (by rw [hFL]; exact k1)) h2 (by rw [ascW_yes (by rw [hTL]; exact k2)]; exact h1) h3) (saE F T t)
              unfold saE at this ⊢
              rw [hFL] at this ⊢
              exact this
            have HTV : Hid (∀ k, k < lb → F32.Is (at_ T k) (T.getD k 0)) := Lib.hid fun k hk => at_is h1 g hk
            have HTO : Hid (∀ k, k + 1 < lb → saT T t k = if FloatKind.f32.format.order (T.getD (k + 1) 0) t == some .lt then T.getD (k + 1) 0 else t) := Lib.hid fun k hk => saT_in (by rw [hTL]; exact hk)
            have HTN : Hid (∀ k, ¬ k + 1 < lb → saT T t k = t) := Lib.hid fun k hk => saT_out (by rw [hTL]; exact hk)
            have HDD : Hid (∀ k, saD T t k = F32.opO .sub (some (saT T t k)) (at_ T k)) := Lib.hid fun _ => rfl
            obtain ⟨y1, hy1⟩ : ∃ y, okV (sa0 F T t) (saE F T t) = y := ⟨_, rfl⟩
            obtain ⟨y2, hy2⟩ : ∃ y, okB (sa0 F T t) (saE F T t) = y := ⟨_, rfl⟩
            rw [hy1, hy2] at HNF HNA HOK
            rw [hy1, hy2]
            obtain ⟨z0, hz0⟩ : ∃ z, T.getD 0 0 = z := ⟨_, rfl⟩
            rw [hz0] at hq HCC
            clear h g h1 h2 h3 hFL hTL hbl1 hc1 hy1 hy2 hz0 hl
            go_enter Try.func22, Try.ntmps22
            go_wp2_with fail
            refine (specFinD_any _ lb cb T _ HT.out (by omega)).mono ?_
            rintro e w1 ⟨rfl, d1⟩
            rw [H1.out]
            have D1 := Lib.hid d1
            have hcw := HCC.out w1 d1
            clear d1
            go_wp2_with fail
            refine (c_specLeast t _).mono ?_
            rintro e w2 ⟨rfl, d2⟩
            rw [H3.out]
            have D2 := Lib.hid (D1.out.trans d2)
            clear d2
            clear hcw hq
            go_wp2_with fail
            clear HCC
            go_loopg [9, 45] lb (fun n s i wr => ∃ k x : Nat, s = .float .f32 x ∧ i = .int .i64 (k : Int) ∧ Hid (k + n = lb) ∧ k ≤ lb ∧ Hid (∀ j, j < k → nng (F.getD j 0) = true) ∧ Hid (∀ i, 1 ≤ i → i < k → gtW (T.getD i 0) (T.getD (i - 1) 0) = true) ∧ Hid (F32.Is (saS F T t k) x) ∧ Hid (Drawn w wr))
            case atStart => exact ⟨0, 0, rfl, rfl, by show _ = _; omega, Nat.zero_le _, (show Hid _ from fun j hj => absurd hj (Nat.not_lt_zero _)), (show Hid _ from fun i h1 h2 => absurd h2 (Nat.not_lt_zero _)), zero_is, D2.out⟩
            case round =>
              clear D1 D2
              obtain ⟨k, x, rfl, rfl, hk, hkl, hN, hA, hX, hD⟩ := hrel
              by_cases hlt : k < lb
              · have HJ : Hid (k + 1 + (gk - 1) = lb) := by have := hk.out; show _ = _; omega
                have HG : Hid (gk - 1 < gk) := by have := hk.out; show _ < _; omega
                obtain ⟨b2, o2, rfl, hbl2, hc2⟩ := (frow_drawn HF.out hD.out).2.2.2 k hlt
                obtain ⟨b3, o3, he3, hbl3, hc3⟩ := (frow_drawn HT.out hD.out).2.2.2 k hlt
                cases he3
                have HC2 : Hid (∀ m, (wr.drewN m).cell? ⟨b2, o2 + k, none⟩ = some (.float .f32 (F.getD k 0))) := Lib.hid fun m => hc2
                have HC3 : Hid (∀ m, (wr.drewN m).cell? ⟨b1, o1 + k, none⟩ = some (.float .f32 (T.getD k 0))) := Lib.hid fun m => hc3
                have HFL := Lib.hid (lt_at HF.out hlt)
                have HTK := Lib.hid (HTV.out k hlt)
                have HNK := Lib.hid (HNF.out k hlt)
                have HDK := Lib.hid (HDD.out k)
                have HSY := Lib.hid (fun h => saS_yes (F := F) (T := T) (t := t) (k := k) h)
                have HSN := Lib.hid (fun h => saS_no (F := F) (T := T) (t := t) (k := k) h)
                have HAF : Hid (at_ F k = some (F.getD k 0)) := Lib.hid rfl
                have HNN : Hid (nng (F.getD k 0) = true → ∀ j, j < k + 1 → nng (F.getD j 0) = true) := Lib.hid fun hq j hj => by
                  by_cases e : j = k
                  · subst e; exact hq
                  · exact hN.out j (by omega)
                by_cases h0 : k = 0
                · subst h0
                  have HAX : Hid (∀ i, 1 ≤ i → i < 0 + 1 → gtW (T.getD i 0) (T.getD (i - 1) 0) = true) := Lib.hid fun i h1 h2 => absurd h2 (by omega)
                  generalize F.getD 0 0 = zf at *
                  generalize T.getD 0 0 = zt at *
                  have hcf : ∀ m, (wr.drewN m).cell? ⟨b2, o2, none⟩ = some (.float .f32 zf) := by simpa using HC2.out
                  have hct : ∀ m, (wr.drewN m).cell? ⟨b1, o1, none⟩ = some (.float .f32 zt) := by simpa using HC3.out
                  clear hbl2 hbl3 hc2 hc3
                  cases hq : nng zf with
                  | false =>
                    have HQ := Lib.hid hq
                    have HM := Lib.hid (HNK.out hq)
                    have hcf0 := hcf 0
                    clear hq hct
                    go_wp2_with fail
                    go_quiet ((go_at_call 64; exact (c_specLeast zf _).mono fun e w' ⟨h1, ⟨n, h2⟩⟩ => ⟨h1.trans (by rw [HQ.out]), ⟨_, h2.trans (Flt.drewN_drewN _ _ _)⟩⟩))
                    go_wp2_with fail
                    go_ret2
                    rw [HM.out.1, HM.out.2]
                    exact ⟨rfl, (hD.out.trans ⟨_, rfl⟩).below _⟩
                  | true =>
                    have HQ := Lib.hid hq
                    have HNX := Lib.hid (HNN.out hq)
                    have HFI : Hid (F32.Is (at_ F 0) zf) := by show F32.Is _ _; rw [HAF.out]; exact nng_is hq HFL.out
                    have hcf0 := hcf 0
                    clear hq
                    go_wp2_with fail
                    go_quiet ((go_at_call 64; exact (c_specLeast zf _).mono fun e w' ⟨h1, ⟨n, h2⟩⟩ => ⟨h1.trans (by rw [HQ.out]), ⟨_, h2.trans (Flt.drewN_drewN _ _ _)⟩⟩))
                    clear hcf0
                    have hcv2 := hcf nq
                    have hcv3 := hct nq
                    have hDv : Hid (Drawn w (wr.drewN nq)) := Lib.hid (hD.out.trans ⟨_, rfl⟩)
                    clear HC2 HC3 hcf hct hD
                    generalize wr.drewN nq = wv at *
                    by_cases hnx : 0 + 1 < lb
                    · have hz5 : (0 : Int) + 1 < (lb : Int) := by omega
                      obtain ⟨b5, o5, he5, hbl5, hc5⟩ := (frow_drawn HT.out hDv.out).2.2.2 (0 + 1) hnx
                      cases he5
                      have HT5 := Lib.hid (HTO.out 0 hnx)
                      have HI5 := Lib.hid (HTV.out (0 + 1) hnx)
                      unfold at_ at HI5
                      generalize T.getD (0 + 1) 0 = z5 at *
                      have hc6 : wv.cell? ⟨b1, o1 + 1, none⟩ = some (.float .f32 z5) := by exact hc5
                      clear hbl5
                      cases h5 : (FloatKind.f32.format.order z5 t == some .lt) with
                      | true =>
                        have HTT : Hid (saT T t 0 = z5) := by show _ = _; rw [HT5.out, h5]; rfl
                        have HTS := Lib.hid HI5.out
                        obtain ⟨x1, v1, r1, j1, l1, e1⟩ := F32.arith_ex (P := Try.prog) (op := .sub) (.inr (.inl rfl)) 31 HTS.out HTK.out wv
                        have DD := Lib.hid e1
                        have J1 : Hid (F32.Is (saD T t 0) x1) := by show F32.Is _ _; rw [HDK.out, HTT.out]; exact j1
                        have hg := cmp_is .gt J1.out zero_is
                        cases hc : cmpO .gt (saD T t 0) (some 0) with
                        | true =>
                          rw [hc] at hg
                          have HSS := Lib.hid (HSY.out hc)
                          have hcv4 : v1.cell? ⟨b2, o2, none⟩ = some (.float .f32 zf) := by rw [e1.cell]; exact hcv2
                          obtain ⟨x2, v2, r2, j2, l2, e2⟩ := F32.arith_ex (P := Try.prog) (op := .mul) (.inr (.inr (.inl rfl))) 31 HFI.out J1.out v1
                          obtain ⟨x3, v3, r3, j3, l3, e3⟩ := F32.arith_ex (P := Try.prog) (op := .add) (.inl rfl) 31 hX.out j2 v2
                          have DE := Lib.hid (e2.trans e3)
                          have JX : Hid (F32.Is (saS F T t (0 + 1)) x3) := by show F32.Is _ _; rw [HSS.out]; exact j3
                          have DR := Lib.hid ((hDv.out.trans DD.out).trans DE.out)
                          clear j1 l1 e1 j2 l2 e2 j3 l3 e3
                          clear hc DD DE hX
                          go_wp2_with fail
                          go_roundg (gk - 1)
                          case measure => exact HG.out
                          case rel => exact ⟨0 + 1, x3, rfl, by go_num, HJ, by omega, HNX.out, HAX.out, JX.out, DR.out⟩
                        | false =>
                          rw [hc] at hg
                          have HSS := Lib.hid (HSN.out hc)
                          have JX : Hid (F32.Is (saS F T t (0 + 1)) x) := by show F32.Is _ _; rw [HSS.out]; exact hX.out
                          have DR := Lib.hid (hDv.out.trans DD.out)
                          clear j1 l1 e1
                          clear hc DD hX
                          go_wp2_with fail
                          go_roundg (gk - 1)
                          case measure => exact HG.out
                          case rel => exact ⟨0 + 1, x, rfl, by go_num, HJ, by omega, HNX.out, HAX.out, JX.out, DR.out⟩
                      | false =>
                        have HTT : Hid (saT T t 0 = t) := by show _ = _; rw [HT5.out, h5]; rfl
                        have HTS := Lib.hid HTI.out
                        obtain ⟨x1, v1, r1, j1, l1, e1⟩ := F32.arith_ex (P := Try.prog) (op := .sub) (.inr (.inl rfl)) 31 HTS.out HTK.out wv
                        have DD := Lib.hid e1
                        have J1 : Hid (F32.Is (saD T t 0) x1) := by show F32.Is _ _; rw [HDK.out, HTT.out]; exact j1
                        have hg := cmp_is .gt J1.out zero_is
                        cases hc : cmpO .gt (saD T t 0) (some 0) with
                        | true =>
                          rw [hc] at hg
                          have HSS := Lib.hid (HSY.out hc)
                          have hcv4 : v1.cell? ⟨b2, o2, none⟩ = some (.float .f32 zf) := by rw [e1.cell]; exact hcv2
                          obtain ⟨x2, v2, r2, j2, l2, e2⟩ := F32.arith_ex (P := Try.prog) (op := .mul) (.inr (.inr (.inl rfl))) 31 HFI.out J1.out v1
                          obtain ⟨x3, v3, r3, j3, l3, e3⟩ := F32.arith_ex (P := Try.prog) (op := .add) (.inl rfl) 31 hX.out j2 v2
                          have DE := Lib.hid (e2.trans e3)
                          have JX : Hid (F32.Is (saS F T t (0 + 1)) x3) := by show F32.Is _ _; rw [HSS.out]; exact j3
                          have DR := Lib.hid ((hDv.out.trans DD.out).trans DE.out)
                          clear j1 l1 e1 j2 l2 e2 j3 l3 e3
                          clear hc DD DE hX
                          go_wp2_with fail
                          go_roundg (gk - 1)
                          case measure => exact HG.out
                          case rel => exact ⟨0 + 1, x3, rfl, by go_num, HJ, by omega, HNX.out, HAX.out, JX.out, DR.out⟩
                        | false =>
                          rw [hc] at hg
                          have HSS := Lib.hid (HSN.out hc)
                          have JX : Hid (F32.Is (saS F T t (0 + 1)) x) := by show F32.Is _ _; rw [HSS.out]; exact hX.out
                          have DR := Lib.hid (hDv.out.trans DD.out)
                          clear j1 l1 e1
                          clear hc DD hX
                          go_wp2_with fail
                          go_roundg (gk - 1)
                          case measure => exact HG.out
                          case rel => exact ⟨0 + 1, x, rfl, by go_num, HJ, by omega, HNX.out, HAX.out, JX.out, DR.out⟩
                    · have hz5 : ¬ ((0 : Int) + 1 < (lb : Int)) := by omega
                      have HTT := Lib.hid (HTN.out 0 hnx)
                      have HTS := Lib.hid HTI.out
                      obtain ⟨x1, v1, r1, j1, l1, e1⟩ := F32.arith_ex (P := Try.prog) (op := .sub) (.inr (.inl rfl)) 31 HTS.out HTK.out wv
                      have DD := Lib.hid e1
                      have J1 : Hid (F32.Is (saD T t 0) x1) := by show F32.Is _ _; rw [HDK.out, HTT.out]; exact j1
                      have hg := cmp_is .gt J1.out zero_is
                      cases hc : cmpO .gt (saD T t 0) (some 0) with
                      | true =>
                        rw [hc] at hg
                        have HSS := Lib.hid (HSY.out hc)
                        have hcv4 : v1.cell? ⟨b2, o2, none⟩ = some (.float .f32 zf) := by rw [e1.cell]; exact hcv2
                        obtain ⟨x2, v2, r2, j2, l2, e2⟩ := F32.arith_ex (P := Try.prog) (op := .mul) (.inr (.inr (.inl rfl))) 31 HFI.out J1.out v1
                        obtain ⟨x3, v3, r3, j3, l3, e3⟩ := F32.arith_ex (P := Try.prog) (op := .add) (.inl rfl) 31 hX.out j2 v2
                        have DE := Lib.hid (e2.trans e3)
                        have JX : Hid (F32.Is (saS F T t (0 + 1)) x3) := by show F32.Is _ _; rw [HSS.out]; exact j3
                        have DR := Lib.hid ((hDv.out.trans DD.out).trans DE.out)
                        clear j1 l1 e1 j2 l2 e2 j3 l3 e3
                        clear hc DD DE hX
                        go_wp2_with fail
                        go_roundg (gk - 1)
                        case measure => exact HG.out
                        case rel => exact ⟨0 + 1, x3, rfl, by go_num, HJ, by omega, HNX.out, HAX.out, JX.out, DR.out⟩
                      | false =>
                        rw [hc] at hg
                        have HSS := Lib.hid (HSN.out hc)
                        have JX : Hid (F32.Is (saS F T t (0 + 1)) x) := by show F32.Is _ _; rw [HSS.out]; exact hX.out
                        have DR := Lib.hid (hDv.out.trans DD.out)
                        clear j1 l1 e1
                        clear hc DD hX
                        go_wp2_with fail
                        go_roundg (gk - 1)
                        case measure => exact HG.out
                        case rel => exact ⟨0 + 1, x, rfl, by go_num, HJ, by omega, HNX.out, HAX.out, JX.out, DR.out⟩
                · obtain ⟨m, rfl⟩ : ∃ m, k = m + 1 := ⟨k - 1, by omega⟩
                  have hz0 : ((m : Int) + 1) > 0 := by omega
                  obtain ⟨b6, o6, he6, hbl6, hc6⟩ := (frow_drawn HT.out hD.out).2.2.2 m (by omega)
                  cases he6
                  have HC6 : Hid (∀ q, (wr.drewN q).cell? ⟨b1, o1 + m, none⟩ = some (.float .f32 (T.getD m 0))) := Lib.hid fun q => hc6
                  have HNB := Lib.hid (HNA.out m (by omega))
                  have HAY : Hid (gtW (T.getD (m + 1) 0) (T.getD m 0) = true → ∀ i, 1 ≤ i → i < m + 1 + 1 → gtW (T.getD i 0) (T.getD (i - 1) 0) = true) := Lib.hid fun hq i h1 h2 => by
                    by_cases e : i = m + 1
                    · subst e; exact hq
                    · exact hA.out i h1 (by omega)
                  clear h0 hbl2 hbl3 hbl6 hc2 hc3 hc6
                  generalize F.getD (m + 1) 0 = zf at *
                  generalize T.getD (m + 1) 0 = zt at *
                  generalize T.getD m 0 = zp at *
                  have hcf := HC2.out
                  have hct := HC3.out
                  have hcp := HC6.out
                  have hcf0 := hcf 0
                  have hct0 := hct 0
                  have hcp0 := hcp 0
                  cases hq : nng zf with
                  | false =>
                    have HQ := Lib.hid hq
                    have HM := Lib.hid (HNK.out hq)
                    clear hq hct hct0 hcp hcp0
                    go_wp2_with fail
                    go_quiet ((go_at_call 64; exact (c_specLeast zf _).mono fun e w' ⟨h1, ⟨n, h2⟩⟩ => ⟨h1.trans (by rw [HQ.out]), ⟨_, h2.trans (Flt.drewN_drewN _ _ _)⟩⟩))
                    go_wp2_with fail
                    go_ret2
                    rw [HM.out.1, HM.out.2]
                    exact ⟨rfl, (hD.out.trans ⟨_, rfl⟩).below _⟩
                  | true =>
                    have HQ := Lib.hid hq
                    have HNX := Lib.hid (HNN.out hq)
                    have HFI : Hid (F32.Is (at_ F (m + 1)) zf) := by show F32.Is _ _; rw [HAF.out]; exact nng_is hq HFL.out
                    clear hq
                    cases hq2 : gtW zt zp with
                    | false =>
                      have HM := Lib.hid (HNB.out hq2)
                      unfold gtW at hq2
                      go_wp2_with fail
                      go_quiet ((go_at_call 64; exact (c_specLeast zf _).mono fun e w' ⟨h1, ⟨n, h2⟩⟩ => ⟨h1.trans (by rw [HQ.out]), ⟨_, h2.trans (Flt.drewN_drewN _ _ _)⟩⟩))
                      go_wp2_with fail
                      go_ret2
                      rw [HM.out.1, HM.out.2]
                      exact ⟨rfl, (hD.out.trans ⟨_, rfl⟩).below _⟩
                    | true =>
                      have HAX := Lib.hid (HAY.out hq2)
                      unfold gtW at hq2
                      go_wp2_with fail
                      go_quiet ((go_at_call 64; exact (c_specLeast zf _).mono fun e w' ⟨h1, ⟨n, h2⟩⟩ => ⟨h1.trans (by rw [HQ.out]), ⟨_, h2.trans (Flt.drewN_drewN _ _ _)⟩⟩))
                      clear hcf0 hct0 hcp0 hcp HC6 hq2
                      have hcv2 := HC2.out nq
                      have hcv3 := HC3.out nq
                      have hDv : Hid (Drawn w (wr.drewN nq)) := Lib.hid (hD.out.trans ⟨_, rfl⟩)
                      clear HC2 HC3 hcf hct hD
                      generalize wr.drewN nq = wv at *
                      by_cases hnx : (m + 1) + 1 < lb
                      · have hz5 : ((m : Int) + 1) + 1 < (lb : Int) := by omega
                        obtain ⟨b5, o5, he5, hbl5, hc5⟩ := (frow_drawn HT.out hDv.out).2.2.2 ((m + 1) + 1) hnx
                        cases he5
                        have HT5 := Lib.hid (HTO.out (m + 1) hnx)
                        have HI5 := Lib.hid (HTV.out ((m + 1) + 1) hnx)
                        unfold at_ at HI5
                        generalize T.getD ((m + 1) + 1) 0 = z5 at *
                        have hc6 : wv.cell? ⟨b1, o1 + (m + 2), none⟩ = some (.float .f32 z5) := by exact hc5
                        clear hbl5
                        cases h5 : (FloatKind.f32.format.order z5 t == some .lt) with
                        | true =>
                          have HTT : Hid (saT T t (m + 1) = z5) := by show _ = _; rw [HT5.out, h5]; rfl
                          have HTS := Lib.hid HI5.out
                          obtain ⟨x1, v1, r1, j1, l1, e1⟩ := F32.arith_ex (P := Try.prog) (op := .sub) (.inr (.inl rfl)) 31 HTS.out HTK.out wv
                          have DD := Lib.hid e1
                          have J1 : Hid (F32.Is (saD T t (m + 1)) x1) := by show F32.Is _ _; rw [HDK.out, HTT.out]; exact j1
                          have hg := cmp_is .gt J1.out zero_is
                          cases hc : cmpO .gt (saD T t (m + 1)) (some 0) with
                          | true =>
                            rw [hc] at hg
                            have HSS := Lib.hid (HSY.out hc)
                            have hcv4 : v1.cell? ⟨b2, o2 + (m + 1), none⟩ = some (.float .f32 zf) := by rw [e1.cell]; exact hcv2
                            obtain ⟨x2, v2, r2, j2, l2, e2⟩ := F32.arith_ex (P := Try.prog) (op := .mul) (.inr (.inr (.inl rfl))) 31 HFI.out J1.out v1
                            obtain ⟨x3, v3, r3, j3, l3, e3⟩ := F32.arith_ex (P := Try.prog) (op := .add) (.inl rfl) 31 hX.out j2 v2
                            have DE := Lib.hid (e2.trans e3)
                            have JX : Hid (F32.Is (saS F T t ((m + 1) + 1)) x3) := by show F32.Is _ _; rw [HSS.out]; exact j3
                            have DR := Lib.hid ((hDv.out.trans DD.out).trans DE.out)
                            clear j1 l1 e1 j2 l2 e2 j3 l3 e3
                            clear hc DD DE hX
                            go_wp2_with fail
                            go_roundg (gk - 1)
                            case measure => exact HG.out
                            case rel => exact ⟨(m + 1) + 1, x3, rfl, by go_num, HJ, by omega, HNX.out, HAX.out, JX.out, DR.out⟩
                          | false =>
                            rw [hc] at hg
                            have HSS := Lib.hid (HSN.out hc)
                            have JX : Hid (F32.Is (saS F T t ((m + 1) + 1)) x) := by show F32.Is _ _; rw [HSS.out]; exact hX.out
                            have DR := Lib.hid (hDv.out.trans DD.out)
                            clear j1 l1 e1
                            clear hc DD hX
                            go_wp2_with fail
                            go_roundg (gk - 1)
                            case measure => exact HG.out
                            case rel => exact ⟨(m + 1) + 1, x, rfl, by go_num, HJ, by omega, HNX.out, HAX.out, JX.out, DR.out⟩
                        | false =>
                          have HTT : Hid (saT T t (m + 1) = t) := by show _ = _; rw [HT5.out, h5]; rfl
                          have HTS := Lib.hid HTI.out
                          obtain ⟨x1, v1, r1, j1, l1, e1⟩ := F32.arith_ex (P := Try.prog) (op := .sub) (.inr (.inl rfl)) 31 HTS.out HTK.out wv
                          have DD := Lib.hid e1
                          have J1 : Hid (F32.Is (saD T t (m + 1)) x1) := by show F32.Is _ _; rw [HDK.out, HTT.out]; exact j1
                          have hg := cmp_is .gt J1.out zero_is
                          cases hc : cmpO .gt (saD T t (m + 1)) (some 0) with
                          | true =>
                            rw [hc] at hg
                            have HSS := Lib.hid (HSY.out hc)
                            have hcv4 : v1.cell? ⟨b2, o2 + (m + 1), none⟩ = some (.float .f32 zf) := by rw [e1.cell]; exact hcv2
                            obtain ⟨x2, v2, r2, j2, l2, e2⟩ := F32.arith_ex (P := Try.prog) (op := .mul) (.inr (.inr (.inl rfl))) 31 HFI.out J1.out v1
                            obtain ⟨x3, v3, r3, j3, l3, e3⟩ := F32.arith_ex (P := Try.prog) (op := .add) (.inl rfl) 31 hX.out j2 v2
                            have DE := Lib.hid (e2.trans e3)
                            have JX : Hid (F32.Is (saS F T t ((m + 1) + 1)) x3) := by show F32.Is _ _; rw [HSS.out]; exact j3
                            have DR := Lib.hid ((hDv.out.trans DD.out).trans DE.out)
                            clear j1 l1 e1 j2 l2 e2 j3 l3 e3
                            clear hc DD DE hX
                            go_wp2_with fail
                            go_roundg (gk - 1)
                            case measure => exact HG.out
                            case rel => exact ⟨(m + 1) + 1, x3, rfl, by go_num, HJ, by omega, HNX.out, HAX.out, JX.out, DR.out⟩
                          | false =>
                            rw [hc] at hg
                            have HSS := Lib.hid (HSN.out hc)
                            have JX : Hid (F32.Is (saS F T t ((m + 1) + 1)) x) := by show F32.Is _ _; rw [HSS.out]; exact hX.out
                            have DR := Lib.hid (hDv.out.trans DD.out)
                            clear j1 l1 e1
                            clear hc DD hX
                            go_wp2_with fail
                            go_roundg (gk - 1)
                            case measure => exact HG.out
                            case rel => exact ⟨(m + 1) + 1, x, rfl, by go_num, HJ, by omega, HNX.out, HAX.out, JX.out, DR.out⟩
                      · have hz5 : ¬ (((m : Int) + 1) + 1 < (lb : Int)) := by omega
                        have HTT := Lib.hid (HTN.out (m + 1) hnx)
                        have HTS := Lib.hid HTI.out
                        obtain ⟨x1, v1, r1, j1, l1, e1⟩ := F32.arith_ex (P := Try.prog) (op := .sub) (.inr (.inl rfl)) 31 HTS.out HTK.out wv
                        have DD := Lib.hid e1
                        have J1 : Hid (F32.Is (saD T t (m + 1)) x1) := by show F32.Is _ _; rw [HDK.out, HTT.out]; exact j1
                        have hg := cmp_is .gt J1.out zero_is
                        cases hc : cmpO .gt (saD T t (m + 1)) (some 0) with
                        | true =>
                          rw [hc] at hg
                          have HSS := Lib.hid (HSY.out hc)
                          have hcv4 : v1.cell? ⟨b2, o2 + (m + 1), none⟩ = some (.float .f32 zf) := by rw [e1.cell]; exact hcv2
                          obtain ⟨x2, v2, r2, j2, l2, e2⟩ := F32.arith_ex (P := Try.prog) (op := .mul) (.inr (.inr (.inl rfl))) 31 HFI.out J1.out v1
                          obtain ⟨x3, v3, r3, j3, l3, e3⟩ := F32.arith_ex (P := Try.prog) (op := .add) (.inl rfl) 31 hX.out j2 v2
                          have DE := Lib.hid (e2.trans e3)
                          have JX : Hid (F32.Is (saS F T t ((m + 1) + 1)) x3) := by show F32.Is _ _; rw [HSS.out]; exact j3
                          have DR := Lib.hid ((hDv.out.trans DD.out).trans DE.out)
                          clear j1 l1 e1 j2 l2 e2 j3 l3 e3
                          clear hc DD DE hX
                          go_wp2_with fail
                          go_roundg (gk - 1)
                          case measure => exact HG.out
                          case rel => exact ⟨(m + 1) + 1, x3, rfl, by go_num, HJ, by omega, HNX.out, HAX.out, JX.out, DR.out⟩
                        | false =>
                          rw [hc] at hg
                          have HSS := Lib.hid (HSN.out hc)
                          have JX : Hid (F32.Is (saS F T t ((m + 1) + 1)) x) := by show F32.Is _ _; rw [HSS.out]; exact hX.out
                          have DR := Lib.hid (hDv.out.trans DD.out)
                          clear j1 l1 e1
                          clear hc DD hX
                          go_wp2_with fail
                          go_roundg (gk - 1)
                          case measure => exact HG.out
                          case rel => exact ⟨(m + 1) + 1, x, rfl, by go_num, HJ, by omega, HNX.out, HAX.out, JX.out, DR.out⟩
              · obtain rfl : k = lb := by omega
                clear hlt hk
                have E := Lib.hid (F32.fin_is hX.out)
                have HO := Lib.hid (HOK.out hN.out hA.out)
                generalize wr = w3 at *
                go_wp2_with fail
                refine (c_Number x _).mono ?_
                rintro e w4 ⟨rfl, d4⟩
                rw [E.out.2, E.out.1, ← HO.out.2, ← HO.out.1]
                have D4 := Lib.hid ((hD.out.trans d4).below w.heap.size)
                clear d4
                go_wp2_with fail
                go_ret2
                exact ⟨rfl, D4.out⟩
    · have q3 : ((lb : Int) != (la : Int)) = true := by simp; omega
      have HM := Lib.hid (ok_no (sa_same (F := F) (T := T) (t := t) (by rw [hFL, hTL]; exact hs)) (saE F T t))
      clear h g hl hs hFL hTL
      go_enter Try.func22, Try.ntmps22
      go_wp2_with fail
      go_ret2
      rw [HM.out.1, HM.out.2]
      exact ⟨rfl, Below.refl _ _⟩
  · have HM := Lib.hid (ok_no (sa_len (F := F) (T := T) (t := t) (by rw [hFL]; exact hl)) (saE F T t))
    clear h g hFL hTL
    by_cases q1 : (la : Int) < 1
    all_goals
      go_enter Try.func22, Try.ntmps22
      go_wp2_with fail
      go_ret2
      rw [HM.out.1, HM.out.2]
      exact ⟨rfl, Below.refl _ _⟩
end Go.Proofs.Ytppkeabkjabhdaa