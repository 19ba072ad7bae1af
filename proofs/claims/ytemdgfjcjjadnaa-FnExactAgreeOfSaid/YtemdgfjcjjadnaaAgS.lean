/-
  How far two agree: the model's contract. Conditions: the list reads as a list of integers.
-/
import Derived.Test.YtemdgfjcjjadnaaAgP
namespace Go.Proofs.Ytemdgfjcjjadnaa
open Go.RowKit Flt Dec Cm We F32 Ag
theorem ag_c {Z : List Int} {n : Int} (h : agC Z n = false) : ag0 Z n = false := by unfold ag0; rw [h]; rfl
theorem agC_len {Z : List Int} {n : Int} {len : Nat} (hl : Z.length = len) (h1 : 1 ≤ n ∧ n ≤ 8) (h2 : (len : Int) = n * n) : agC Z n = okZ Z := by
  unfold agC; rw [decide_eq_true h1, hl, decide_eq_true h2]; rfl
theorem agC_no1 {Z : List Int} {n : Int} (h1 : ¬ (1 ≤ n ∧ n ≤ 8)) : agC Z n = false := by unfold agC; rw [decide_eq_false h1]; rfl
theorem agC_no2 {Z : List Int} {n : Int} {len : Nat} (hl : Z.length = len) (h2 : ¬ (len : Int) = n * n) : agC Z n = false := by unfold agC; rw [hl, decide_eq_false h2]; simp
theorem ok_bad_at {Z : List Int} {k : Nat} (hk : k < Z.length) (h : ¬ (0 ≤ g Z k ∧ g Z k ≤ 1000)) : okZ Z = false := by
  refine List.all_eq_false.2 ⟨Z[k], List.getElem_mem hk, ?_⟩
  unfold g at h
  rw [show Z.getD k 0 = Z[k] from by simp [List.getD, hk]] at h
  rw [decide_eq_false h]; decide
theorem ok_all {Z : List Int} (h : ∀ j, j < Z.length → 0 ≤ g Z j ∧ g Z j ≤ 1000) : okZ Z = true := by
  refine List.all_eq_true.2 fun z hz => ?_
  obtain ⟨j, hj, rfl⟩ := List.mem_iff_getElem.1 hz
  have := h j hj
  unfold g at this
  rw [show Z.getD j 0 = Z[j] from by simp [List.getD, hj]] at this
  exact decide_eq_true this
theorem ag_t {Z : List Int} {n : Int} (h : agT Z = 0) : ag0 Z n = false := by unfold ag0; rw [decide_eq_true h]; simp
theorem ag_b {Z : List Int} {n : Int} (h : cmpO .eq (bS Z n.toNat n.toNat) (some 1065353216) = true) : ag0 Z n = false := by unfold ag0; rw [h]; simp
theorem ag_yes {Z : List Int} {n : Int} (h1 : agC Z n = true) (h2 : ¬ agT Z = 0) (h3 : cmpO .eq (bS Z n.toNat n.toNat) (some 1065353216) = false) : ag0 Z n = true := by unfold ag0; rw [h1, decide_eq_false h2, h3]; rfl
set_option maxRecDepth 20000 in
set_option maxHeartbeats 3200000 in
theorem sAgree_any (a : Option Addr) (len cap : Nat) (Z : List Int) (n0 : Int) (w : World) (h : IRow w a len Z) :
    Calls Try.prog 32 #[.slice a len cap, .int .i64 n0] w fun e w' => e = .returned (.tuple #[.float .f32 (okV (ag0 Z n0) (agE Z n0.toNat)), .bool (okB (ag0 Z n0) (agE Z n0.toNat))]) ∧ Drawn w w' := by
  have H := Lib.hid h
  have HL : Hid (Z.length = len) := Lib.hid h.1
  clear h
  by_cases h1 : 1 ≤ n0 ∧ n0 ≤ 8
  case neg =>
    have HN := Lib.hid (ok_no (ag_c (agC_no1 (Z := Z) h1)) (agE Z n0.toNat))
    have HD : Hid (decide (1 ≤ n0 ∧ n0 ≤ 8) = false) := Lib.hid (decide_eq_false h1)
    clear h1
    go_enter Try.func32, Try.ntmps32
    go_wp2_with fail
    refine (c_In n0 1 8 _).mono ?_
    rintro e w1 ⟨rfl, rfl⟩
    rw [HD.out]
    go_wp2_with fail
    go_ret2
    rw [HN.out.1, HN.out.2]
    exact ⟨rfl, Drawn.refl _⟩
  case pos =>
    obtain ⟨n, rfl⟩ : ∃ n : Nat, n0 = n := ⟨n0.toNat, by omega⟩
    have HD : Hid (decide (1 ≤ (n : Int) ∧ (n : Int) ≤ 8) = true) := Lib.hid (decide_eq_true h1)
    have hn1 : 1 ≤ n := by omega
    have hn8 : n ≤ 8 := by omega
    obtain ⟨m, hm⟩ : ∃ m : Nat, n * n = m := ⟨_, rfl⟩
    have hm64 : m ≤ 64 := by rw [← hm]; exact Nat.le_trans (Nat.mul_le_mul hn8 hn8) (by decide)
    have hmi : (n : Int) * (n : Int) = (m : Int) := by rw [← hm, Int.natCast_mul]
    by_cases h2 : (len : Int) = (m : Int)
    case neg =>
      have HN := Lib.hid (ok_no (ag_c (agC_no2 (n := (n : Int)) HL.out (by rw [hmi]; exact h2))) (agE Z (n : Int).toNat))
      have hq : ((len : Int) != (m : Int)) = true := by simp; omega
      clear h1
      go_enter Try.func32, Try.ntmps32
      go_wp2_with fail
      refine (c_In n 1 8 _).mono ?_
      rintro e w1 ⟨rfl, rfl⟩
      rw [HD.out]
      go_wp2_with fail
      go_ret2
      rw [HN.out.1, HN.out.2]
      exact ⟨rfl, Drawn.refl _⟩
    case pos =>
      obtain rfl : len = m := by omega
      have hq : ((len : Int) != (len : Int)) = false := by simp
      have HC : Hid (agC Z (n : Int) = okZ Z) := Lib.hid (agC_len HL.out h1 (by rw [hmi]))
      have HT : Hid (n * n = len) := hm
      clear h1 h2
      rw [Int.toNat_natCast]
      go_enter Try.func32, Try.ntmps32
      go_wp2_with fail
      refine (c_In n 1 8 _).mono ?_
      rintro e w1 ⟨rfl, rfl⟩
      rw [HD.out]
      clear hm
      go_wp2_with fail
      go_loopg [6, 7, 8] len (fun q s6 s7 s8 wr => ∃ k : Nat, s6 = .int .i64 (tS Z k) ∧ s7 = .int .i64 (sS Z n k) ∧ s8 = .int .i64 (k : Int) ∧ Hid (k + q = len) ∧ k ≤ len ∧ Hid (w = wr) ∧ Hid (∀ j, j < k → 0 ≤ g Z j ∧ g Z j ≤ 1000) ∧ (0 ≤ tS Z k ∧ tS Z k ≤ 1000 * (k : Int)) ∧ (0 ≤ sS Z n k ∧ sS Z n k ≤ 1000 * (k : Int)))
      case atStart => exact ⟨0, rfl, rfl, rfl, by show _ = _; omega, Nat.zero_le _, rfl, fun j hj => absurd hj (Nat.not_lt_zero _), ⟨Int.le_refl _, Int.le_refl _⟩, Int.le_refl _, Int.le_refl _⟩
      case round =>
        obtain ⟨k, rfl, rfl, rfl, hk, hkl, hw, hOK, hts, hss⟩ := hrel
        obtain rfl : w = wr := hw.out
        clear hw
        by_cases hlt : k < len
        · obtain ⟨b, off, rfl, hbl, hc⟩ := H.out.2.2.2 k hlt
          have HJ : Hid (k + 1 + (gk - 1) = len) := by have := hk.out; show _ = _; omega
          have HG : Hid (gk - 1 < gk) := by have := hk.out; show _ < _; omega
          have HTS : Hid (tS Z (k + 1) = tS Z k + g Z k) := Lib.hid rfl
          have HSS : Hid (sS Z n (k + 1) = if k % (n + 1) = 0 then sS Z n k + g Z k else sS Z n k) := Lib.hid rfl
          have HBAD : Hid (¬ (0 ≤ g Z k ∧ g Z k ≤ 1000) → okZ Z = false) := Lib.hid fun h => ok_bad_at (by rw [HL.out]; exact hlt) h
          have HOK1 : Hid (0 ≤ g Z k ∧ g Z k ≤ 1000 → ∀ j, j < k + 1 → 0 ≤ g Z j ∧ g Z j ≤ 1000) := Lib.hid fun h j hj => by
            by_cases e : j = k
            · subst e; exact h
            · exact hOK.out j (by omega)
          have hc1 : w.cell? ⟨b, off + k, none⟩ = some (.int .i64 (g Z k)) := hc
          obtain ⟨z, hz⟩ : ∃ z, g Z k = z := ⟨_, rfl⟩
          rw [hz] at hc1 HTS HSS HBAD HOK1
          clear hc hOK hz
          by_cases hb : 0 ≤ z ∧ z ≤ 1000
          case neg =>
            have HDB : Hid (decide (0 ≤ z ∧ z ≤ 1000) = false) := Lib.hid (decide_eq_false hb)
            have HN := Lib.hid (ok_no (ag_c (HC.out.trans (HBAD.out hb))) (agE Z n))
            clear hb
            go_wp2_with fail
            refine (c_In z 0 1000 _).mono ?_
            rintro e w1 ⟨rfl, rfl⟩
            rw [HDB.out]
            go_wp2_with fail
            go_ret2
            rw [HN.out.1, HN.out.2]
            exact ⟨rfl, Drawn.refl _⟩
          case pos =>
            have HDB : Hid (decide (0 ≤ z ∧ z ≤ 1000) = true) := Lib.hid (decide_eq_true hb)
            have HOK2 := Lib.hid (HOK1.out hb)
            clear HOK1 HBAD
            have hmodI : Int.tmod (k : Int) ((n : Int) + 1) = ((k % (n + 1) : Nat) : Int) := by
              rw [show (n : Int) + 1 = ((n + 1 : Nat) : Int) from by omega]; exact (Int.ofNat_tmod k (n + 1)).symm
            by_cases hd : k % (n + 1) = 0
            · rw [if_pos hd] at HSS
              rw [hd] at hmodI
              have hne : ¬ ((n : Int) + 1 = 0) := by omega
              go_wp2_with fail
              refine (c_In z 0 1000 _).mono ?_
              rintro e w1 ⟨rfl, rfl⟩
              rw [HDB.out]
              go_wp2_with fail
              go_roundg (gk - 1)
              case measure => exact HG.out
              case rel => exact ⟨k + 1, by rw [HTS.out], by rw [HSS.out], by go_num, HJ, by omega, rfl, HOK2.out, by rw [HTS.out]; omega, by rw [HSS.out]; omega⟩
            · rw [if_neg hd] at HSS
              have hne : ¬ ((n : Int) + 1 = 0) := by omega
              obtain ⟨rm, hrm⟩ : ∃ rm : Int, ((k % (n + 1) : Nat) : Int) = rm := ⟨_, rfl⟩
              have hdz : ¬ rm = 0 := by rw [← hrm]; exact fun h => hd (Int.ofNat_eq_zero.1 h)
              rw [hrm] at hmodI
              clear hrm hd
              go_wp2_with fail
              refine (c_In z 0 1000 _).mono ?_
              rintro e w1 ⟨rfl, rfl⟩
              rw [HDB.out]
              go_wp2_with fail
              go_roundg (gk - 1)
              case measure => exact HG.out
              case rel => exact ⟨k + 1, by rw [HTS.out], by rw [HSS.out], by go_num, HJ, by omega, rfl, HOK2.out, by rw [HTS.out]; omega, by rw [HSS.out]; omega⟩
        · obtain rfl : k = len := by omega
          have HOKZ : Hid (okZ Z = true) := Lib.hid (ok_all fun j hj => hOK.out j (by rw [← HL.out]; exact hj))
          have HAC : Hid (agC Z (n : Int) = true) := Lib.hid (HC.out.trans HOKZ.out)
          have HSD : Hid (sS Z n k = dS Z n n) := by show _ = _; rw [← HT.out]; exact diag_all Z hn8
          have HTT : Hid (tS Z k = agT Z) := by show _ = _; unfold agT; rw [HL.out]
          generalize sS Z n k = sv at *
          generalize tS Z k = tv at *
          clear hlt hOK
          by_cases ht0 : tv = 0
          case pos =>
            have HN := Lib.hid (ok_no (ag_t (n := (n : Int)) (HTT.out.symm.trans ht0)) (agE Z n))
            go_wp2_with fail
            go_ret2
            rw [HN.out.1, HN.out.2]
            exact ⟨rfl, Drawn.refl _⟩
          case neg =>
            have HT0 : Hid (¬ agT Z = 0) := by show ¬ _; rw [← HTT.out]; exact ht0
            obtain ⟨xa, va, ra, ja, la, ea⟩ := F32.arith_ex (P := Try.prog) (op := .quo) (.inr (.inr (.inr rfl))) 44 (fl_is sv) (fl_is tv) w
            have DA := Lib.hid ea
            have JA := Lib.hid ja
            clear ja la ea
            obtain ⟨qv, hqv⟩ : ∃ qv, tv * tv = qv := ⟨_, rfl⟩
            have hqb : 0 ≤ qv ∧ qv ≤ 64000 * 64000 := by
              rw [← hqv]; exact ⟨Int.mul_nonneg hts.1 hts.1, Int.mul_le_mul (by omega) (by omega) hts.1 (by omega)⟩
            have HQV : Hid (qv = agT Z * agT Z) := by show _ = _; rw [← hqv, HTT.out]
            go_wp2_with fail
            go_loopg [10, 11] n (fun q s10 s11 wr => ∃ t p : Nat, s10 = .float .f32 p ∧ s11 = .int .i64 (t : Int) ∧ Hid (t + q = n) ∧ t ≤ n ∧ Hid (F32.Is (bS Z n t) p) ∧ Hid (Drawn w wr))
            case atStart => exact ⟨0, 0, rfl, rfl, by show _ = _; omega, Nat.zero_le _, zero_is, DA.out⟩
            case round =>
              obtain ⟨t, p, rfl, rfl, ht, htl, hP, hDr⟩ := hrel
              by_cases hlt : t < n
              · obtain ⟨go, hgo⟩ : ∃ go, go = gk := ⟨_, rfl⟩
                have HJ : Hid (t + 1 + (go - 1) = n) := by have := ht.out; show _ = _; omega
                have HG : Hid (go - 1 < gk) := by have := ht.out; show _ < _; omega
                clear hgo
                have HBS : Hid (bS Z n (t + 1) = F32.opO .add (bS Z n t) (F32.opO .quo (fl (rS Z n t n * cS Z n t n)) (fl qv))) := by show _ = _; rw [HQV.out]; rfl
                obtain ⟨m1, hm1⟩ : ∃ m1 : Nat, (t : Int) * (n : Int) = (m1 : Int) := ⟨t * n, by rw [Int.natCast_mul]⟩
                have hm1e : t * n = m1 := by have := hm1; rw [← Int.natCast_mul] at this; exact Int.ofNat_inj.1 this
                have hm1n : m1 + n ≤ k := by rw [← hm1e, ← HT.out, ← Nat.succ_mul]; exact Nat.mul_le_mul_right _ (by omega)
                have HM1 := Lib.hid hm1e
                clear hm1e
                go_wp2_with fail
                go_loopg [12, 13, 14] n (fun q s12 s13 s14 wq => ∃ j : Nat, s12 = .int .i64 (rS Z n t j) ∧ s13 = .int .i64 (cS Z n t j) ∧ s14 = .int .i64 (j : Int) ∧ Hid (j + q = n) ∧ j ≤ n ∧ Hid (wr = wq) ∧ (0 ≤ rS Z n t j ∧ rS Z n t j ≤ 1000 * (j : Int)) ∧ (0 ≤ cS Z n t j ∧ cS Z n t j ≤ 1000 * (j : Int)))
                case atStart => exact ⟨0, rfl, rfl, rfl, by show _ = _; omega, Nat.zero_le _, rfl, ⟨Int.le_refl _, Int.le_refl _⟩, Int.le_refl _, Int.le_refl _⟩
                case round =>
                  obtain ⟨j, rfl, rfl, rfl, hj, hjl, hw, hr, hc⟩ := hrel
                  obtain rfl := hw.out
                  clear hw
                  by_cases hjt : j < n
                  · have HJ2 : Hid (j + 1 + (gk - 1) = n) := by have := hj.out; show _ = _; omega
                    have HG2 : Hid (gk - 1 < gk) := by have := hj.out; show _ < _; omega
                    obtain ⟨m2, hm2⟩ : ∃ m2 : Nat, (j : Int) * (n : Int) = (m2 : Int) := ⟨j * n, by rw [Int.natCast_mul]⟩
                    have hm2e : j * n = m2 := by have := hm2; rw [← Int.natCast_mul] at this; exact Int.ofNat_inj.1 this
                    have hm2n : m2 + n ≤ k := by rw [← hm2e, ← HT.out, ← Nat.succ_mul]; exact Nat.mul_le_mul_right _ (by omega)
                    have hRW := (H.out.keep (hDr.out.below _)).2.2.2
                    obtain ⟨b, off, hae, hbl, hc1⟩ := hRW (m1 + j) (by omega)
                    obtain ⟨b2, off2, hae2, hbl2, hc2⟩ := hRW (m2 + t) (by omega)
                    subst hae
                    cases hae2
                    have HR1 : Hid (rS Z n t (j + 1) = rS Z n t j + g Z (m1 + j)) := by show _ = _; rw [← HM1.out]; rfl
                    have HC1 : Hid (cS Z n t (j + 1) = cS Z n t j + g Z (m2 + t)) := by show _ = _; rw [← hm2e]; rfl
                    have hz1 := g_bd HOKZ.out (m1 + j)
                    have hz2 := g_bd HOKZ.out (m2 + t)
                    have hc1' : wr.cell? ⟨b, off + (m1 + j), none⟩ = some (.int .i64 (g Z (m1 + j))) := hc1
                    have hc2' : wr.cell? ⟨b, off + (m2 + t), none⟩ = some (.int .i64 (g Z (m2 + t))) := hc2
                    generalize g Z (m1 + j) = z1 at *
                    generalize g Z (m2 + t) = z2 at *
                    clear hc1 hc2 hm2e hRW hbl hbl2
                    go_wp2_with fail
                    go_roundg (gk - 1)
                    case measure => exact HG2.out
                    case rel => exact ⟨j + 1, by rw [HR1.out], by rw [HC1.out], by go_num, HJ2, by omega, rfl, by rw [HR1.out]; omega, by rw [HC1.out]; omega⟩
                  · obtain rfl : j = n := by omega
                    clear hjt hj
                    generalize rS Z j t j = rv at *
                    generalize cS Z j t j = cv at *
                    obtain ⟨pv, hpv⟩ : ∃ pv, rv * cv = pv := ⟨_, rfl⟩
                    have hpb : 0 ≤ pv ∧ pv ≤ 8000 * 8000 := by
                      rw [← hpv]; exact ⟨Int.mul_nonneg hr.1 hc.1, Int.mul_le_mul (by omega) (by omega) hc.1 (by omega)⟩
                    obtain ⟨xq, vq, rq, jq, lq, eq⟩ := F32.arith_ex (P := Try.prog) (op := .quo) (.inr (.inr (.inr rfl))) 44 (fl_is pv) (fl_is qv) wr
                    obtain ⟨xs, vs, rs, js, ls, es⟩ := F32.arith_ex (P := Try.prog) (op := .add) (.inl rfl) 44 hP.out jq vq
                    have DX := Lib.hid (eq.trans es)
                    have JS : Hid (F32.Is (bS Z j (t + 1)) xs) := by show F32.Is _ _; rw [HBS.out, hpv]; exact js
                    have DR := Lib.hid (hDr.out.trans DX.out)
                    clear jq lq eq js ls es
                    clear hP hDr DX
                    go_wp2_with fail
                    go_roundg (go - 1)
                    case measure => exact HG.out
                    case rel => exact ⟨t + 1, xs, rfl, by go_num, HJ, by omega, JS.out, DR.out⟩
              · obtain rfl : t = n := by omega
                have HP := Lib.hid hP.out
                have DR := Lib.hid hDr.out
                clear hlt ht hP hDr
                obtain ⟨xq, vq, rq, jq, lq, eq⟩ := F32.arith_ex (P := Try.prog) (op := .sub) (.inr (.inl rfl)) 44 one_is HP.out wr
                have DX := Lib.hid eq
                have JQ : Hid (F32.Is (F32.opO .sub (some 1065353216) (bS Z t t)) xq) := jq
                have D2 := Lib.hid (DR.out.trans DX.out)
                have hcmp := one_less HP.out JQ.out rfl
                clear jq lq eq
                clear DX
                cases hb1 : cmpO .eq (bS Z t t) (some 1065353216) with
                | true =>
                  rw [hb1] at hcmp
                  have HN := Lib.hid (ok_no (ag_b (n := (t : Int)) (by rw [Int.toNat_natCast]; exact hb1)) (agE Z t))
                  clear hb1
                  go_wp2_with fail
                  go_ret2
                  rw [HN.out.1, HN.out.2]
                  exact ⟨rfl, D2.out⟩
                | false =>
                  rw [hb1] at hcmp
                  have HY := Lib.hid (ok_yes (ag_yes (n := (t : Int)) HAC.out HT0.out (by rw [Int.toNat_natCast]; exact hb1)) (agE Z t))
                  clear hb1
                  obtain ⟨xr, vr, rr, jr, lr, er⟩ := F32.arith_ex (P := Try.prog) (op := .sub) (.inr (.inl rfl)) 44 JA.out HP.out vq
                  obtain ⟨xs, vs, rs, js, ls, es⟩ := F32.arith_ex (P := Try.prog) (op := .sub) (.inr (.inl rfl)) 44 one_is HP.out vr
                  obtain ⟨xf, vf, rf, jf, lf, ef⟩ := F32.arith_ex (P := Try.prog) (op := .quo) (.inr (.inr (.inr rfl))) 44 jr js vs
                  have DY := Lib.hid ((er.trans es).trans ef)
                  have JF : F32.Is (agE Z t) xf := by unfold agE; rw [← HSD.out, ← HTT.out]; exact jf
                  obtain ⟨e1, e2⟩ := F32.fin_is JF
                  have E1 := Lib.hid e1
                  have E2 := Lib.hid e2
                  have D3 := Lib.hid (D2.out.trans DY.out)
                  clear jr lr er js ls es jf lf ef
                  clear e1 e2 JF DY
                  go_wp2_with fail
                  refine (c_Number xf _).mono ?_
                  rintro e w3 ⟨rfl, d3⟩
                  have D4 := Lib.hid (D3.out.trans d3)
                  rw [E2.out, E1.out, ← HY.out.2, ← HY.out.1]
                  clear d3
                  go_wp2_with fail
                  go_ret2
                  exact ⟨rfl, D4.out⟩
end Go.Proofs.Ytemdgfjcjjadnaa
