/-
  The line of a path, and what is left, in the model. Conditions: the lists read as lists of numbers.
-/
import Derived.Test.YtppkeabkjabhdaaWeP
import Derived.Test.YtppkeabkjabhdaaRgt
import Derived.Test.YtppkeabkjabhdaaTtl
import Derived.Handy
namespace We
open Go Flt Dec F32 Cm
def linV (T V : List Nat) (bt ot bv ov ca cb m t ba sl z1 z2 : Nat) : Nat → Value → Prop
  | 0, v => v = .slice (some ⟨bv, ov, none⟩) m cb
  | 1, v => v = .int .i64 (t : Int)
  | 2, v => v = .pointer (some ⟨bv, ov + t, none⟩)
  | 3, v => v = .float .f32 z2
  | 4, v => v = .float .f32 ba
  | 5, v => ∃ zz, v = .float .f32 zz ∧ F32.Is (F32.opO .sub (at_ V t) (plB T V)) zz ∧ zz < 4294967296
  | 6, v => v = .float .f32 sl
  | 7, v => v = .slice (some ⟨bt, ot, none⟩) m ca
  | 8, v => v = .int .i64 (t : Int)
  | 9, v => v = .pointer (some ⟨bt, ot + t, none⟩)
  | 10, v => v = .float .f32 z1
  | 11, v => ∃ zz, v = .float .f32 zz ∧ F32.Is (F32.opO .mul (plS T V) (at_ T t)) zz ∧ zz < 4294967296
  | 12, v => ∃ zz, v = .float .f32 zz ∧ F32.Is (F32.opO .sub (F32.opO .sub (at_ V t) (plB T V)) (F32.opO .mul (plS T V) (at_ T t))) zz ∧ zz < 4294967296
  | 13, v => ∃ zz, v = .float .f32 zz ∧ F32.Is (F32.opO .sub (F32.opO .sub (at_ V t) (plB T V)) (F32.opO .mul (plS T V) (at_ T t))) zz ∧ zz < 4294967296
  | _, _ => True
theorem pl_len {T V : List Nat} (h : ¬ (2 ≤ T.length ∧ T.length ≤ 48)) : pl0 T V = false := by unfold pl0; rw [decide_eq_false h]; rfl
theorem pl_same {T V : List Nat} (h : ¬ V.length = T.length) : pl0 T V = false := by unfold pl0; rw [decide_eq_false h]; simp
theorem pl_t {T V : List Nat} (h : finL T = false) : pl0 T V = false := by unfold pl0; rw [h]; simp
theorem pl_v {T V : List Nat} (h : finL V = false) : pl0 T V = false := by unfold pl0; rw [h]; simp
theorem pl_yes {T V : List Nat} (h1 : 2 ≤ T.length ∧ T.length ≤ 48) (h2 : V.length = T.length) (h3 : finL T = true) (h4 : finL V = true) : pl0 T V = true := by unfold pl0; rw [decide_eq_true h1, decide_eq_true h2, h3, h4]; rfl
theorem plC_0 {T V : List Nat} (h : pl0 T V = false) : plC T V = false := by unfold plC; rw [h]; rfl
theorem plC_w {T V : List Nat} (h : cmpO .eq (plW T) (some 0) = true) : plC T V = false := by unfold plC; rw [h]; simp
theorem plC_at {T V : List Nat} (h : pl0 T V = true) (g : cmpO .eq (plW T) (some 0) = false) : plC T V = (finO (plB T V) && (finO (plS T V) && finO (plL T V))) := by unfold plC; rw [h, g]; rfl
theorem and_no (a b : Bool) : (a && (false && b)) = false := by simp
theorem fin_get {o : Option Nat} {v : Nat} (h : Is o v) (g : finO o = true) : v = o.getD 0 := by
  cases o with
  | none => cases g
  | some u => exact h.1
end We
namespace Go.Proofs.Ytppkeabkjabhdaa
open Go.RowKit Flt Dec Cm We Cr
set_option maxRecDepth 100000 in
set_option maxHeartbeats 8000000 in
theorem sLineYes_any (len : Nat) (a b : Option Addr) (ca cb : Nat) (T V : List Nat) (w : World) (h : FRow w a len T) (g : FRow w b len V) (h0 : pl0 T V = true) :
    Calls Try.prog 71 #[.slice a len ca, .slice b len cb] w fun e w' => (∃ x y z : Nat, e = .returned (.tuple #[.float .f32 x, .float .f32 y, .float .f32 z, .bool (plC T V)]) ∧ (plC T V = true → x = (plB T V).getD 0 ∧ y = (plS T V).getD 0 ∧ z = (plL T V).getD 0)) ∧ Drawn w w' := by
  obtain ⟨p1, p2, p3, p4⟩ := pl0_parts h0
  have hTL : T.length = len := h.1
  have hVL : V.length = len := g.1
  rw [hTL] at p1
  have q1 : ¬ ((len : Int) < 2) := by omega
  have q2 : ¬ ((len : Int) > 48) := by omega
  have q3 : ((len : Int) != (len : Int)) = false := by simp
  have HT := Lib.hid h
  have HV := Lib.hid g
  have HFT : Hid ((T.all fun z => fin .f32 z) = true) := p3
  have HFV : Hid ((V.all fun z => fin .f32 z) = true) := p4
  have HTI : Hid (∀ k, k < len → F32.Is (at_ T k) (T.getD k 0)) := Lib.hid fun k hk => at_is p3 h hk
  have HVI : Hid (∀ k, k < len → F32.Is (at_ V k) (V.getD k 0)) := Lib.hid fun k hk => at_is p4 g hk
  have HMT : Hid (F32.opO .quo (sm (at_ T) len) (fi len) = plM T) := by show _ = _; unfold plM; rw [hTL]
  have HMV : Hid (F32.opO .quo (sm (at_ V) len) (fi len) = plM V) := by show _ = _; unfold plM; rw [hVL]
  have HN : Hid (F32.Is (fi len) (Go.floatOfInt .f32 (len : Int))) := Lib.hid (whole_is len (by omega))
  have HSL : Hid (F32.opO .quo (sm (plFP T V) len) (sm (plFW T) len) = plS T V) := by show _ = _; unfold plS plP plW; rw [hTL]
  have HLE : Hid (F32.opO .quo (sm (plFL T V (plB T V) (plS T V)) len) (fi len) = plL T V) := by show _ = _; unfold plL plE; rw [hTL]
  have HC0 : Hid (cmpO .eq (sm (plFW T) len) (some 0) = true → plC T V = false) := by show _ → _; rw [← hTL]; exact plC_w
  have HC1 : Hid (cmpO .eq (sm (plFW T) len) (some 0) = false → plC T V = (F32.finO (plB T V) && (F32.finO (plS T V) && F32.finO (plL T V)))) := by show _ → _; rw [← hTL]; exact plC_at h0
  clear h g h0 p2 p3 p4 hTL hVL
  go_enter Try.func71, Try.ntmps71
  go_wp2_with fail
  refine (specFinD_any a len ca T _ HT.out (by omega)).mono ?_
  rintro e w1 ⟨rfl, d1⟩
  rw [HFT.out]
  have D1 := Lib.hid d1
  clear d1
  go_wp2_with fail
  refine (specFinD_any b len cb V _ (frow_drawn HV.out D1.out) (by omega)).mono ?_
  rintro e w2 ⟨rfl, d2⟩
  rw [HFV.out]
  have D2 := Lib.hid (D1.out.trans d2)
  clear d2 D1
  go_wp2_with fail
  go_loopg [9, 10, 47] len (fun n s t i wr => ∃ k x y : Nat, s = .float .f32 x ∧ t = .float .f32 y ∧ i = .int .i64 (k : Int) ∧ Hid (k + n = len) ∧ k ≤ len ∧ Hid (F32.Is (sm (at_ T) k) x) ∧ Hid (F32.Is (sm (at_ V) k) y) ∧ Hid (Drawn w wr))
  case atStart => exact ⟨0, 0, 0, rfl, rfl, rfl, by show _ = _; omega, Nat.zero_le _, zero_is, zero_is, D2.out⟩
  case round =>
    clear D2
    obtain ⟨k, x, y, rfl, rfl, rfl, hk, hkl, hX, hY, hD⟩ := hrel
    by_cases hlt : k < len
    · have HJ : Hid (k + 1 + (gk - 1) = len) := by have := hk.out; show _ = _; omega
      have HG : Hid (gk - 1 < gk) := by have := hk.out; show _ < _; omega
      obtain ⟨b1, o1, rfl, hbl1, hc1⟩ := (frow_drawn HT.out hD.out).2.2.2 k hlt
      obtain ⟨b2, o2, rfl, hbl2, hc2⟩ := (frow_drawn HV.out hD.out).2.2.2 k hlt
      have i1 := HTI.out k hlt
      have i2 := HVI.out k hlt
      generalize T.getD k 0 = z1 at *
      generalize V.getD k 0 = z2 at *
      obtain ⟨x1, v1, r1, j1, l1, e1⟩ := F32.arith_ex (P := Try.prog) (op := .add) (.inl rfl) 31 hX.out i1 wr
      obtain ⟨x2, v2, r2, j2, l2, e2⟩ := F32.arith_ex (P := Try.prog) (op := .add) (.inl rfl) 31 hY.out i2 v1
      have DD := Lib.hid (e1.trans e2)
      have J1 : Hid (F32.Is (sm (at_ T) (k + 1)) x1) := j1
      have J2 : Hid (F32.Is (sm (at_ V) (k + 1)) x2) := j2
      have hc2' : v1.cell? ⟨b2, o2 + k, none⟩ = some (.float .f32 z2) := by rw [e1.cell]; exact hc2
      have DR := Lib.hid (hD.out.trans DD.out)
      clear j1 l1 e1 j2 l2 e2
      clear hX hY hD DD i1 i2 hbl1 hbl2
      go_wp2_with fail
      go_roundg (gk - 1)
      case measure => exact HG.out
      case rel => exact ⟨k + 1, x1, x2, rfl, rfl, by go_num, HJ, by omega, J1.out, J2.out, DR.out⟩
    · obtain rfl : k = len := by omega
      clear hlt hk
      generalize wr = w3 at *
      obtain ⟨x1, v1, r1, j1, l1, e1⟩ := F32.arith_ex (P := Try.prog) (op := .quo) (.inr (.inr (.inr rfl))) 31 hX.out HN.out w3
      obtain ⟨x2, v2, r2, j2, l2, e2⟩ := F32.arith_ex (P := Try.prog) (op := .quo) (.inr (.inr (.inr rfl))) 31 hY.out HN.out v1
      have DD := Lib.hid (e1.trans e2)
      have JM : Hid (F32.Is (plM T) x1) := by show F32.Is _ _; rw [← HMT.out]; exact j1
      have JV : Hid (F32.Is (plM V) x2) := by show F32.Is _ _; rw [← HMV.out]; exact j2
      have DR := Lib.hid (hD.out.trans DD.out)
      clear j1 l1 e1 j2 l2 e2
      clear hX hY hD DD
      generalize x1 = mt at *
      generalize x2 = mv at *
      go_wp2_with fail
      generalize v2 = w4 at *
      clear r1 r2
      go_loopg [12, 13, 73] k (fun n s t i wr => ∃ m p q : Nat, s = .float .f32 p ∧ t = .float .f32 q ∧ i = .int .i64 (m : Int) ∧ Hid (m + n = k) ∧ m ≤ k ∧ Hid (F32.Is (sm (plFP T V) m) p) ∧ Hid (F32.Is (sm (plFW T) m) q) ∧ Hid (Drawn w wr))
      case atStart => exact ⟨0, 0, 0, rfl, rfl, rfl, by show _ = _; omega, Nat.zero_le _, zero_is, zero_is, DR.out⟩
      case round =>
        clear DR
        obtain ⟨m, p, q, rfl, rfl, rfl, hm, hml, hP, hQ, hD⟩ := hrel
        by_cases hlt : m < k
        · have HJ : Hid (m + 1 + (gk - 1) = k) := by have := hm.out; show _ = _; omega
          have HG : Hid (gk - 1 < gk) := by have := hm.out; show _ < _; omega
          obtain ⟨b1, o1, rfl, hbl1, hc1⟩ := (frow_drawn HT.out hD.out).2.2.2 m hlt
          obtain ⟨b2, o2, rfl, hbl2, hc2⟩ := (frow_drawn HV.out hD.out).2.2.2 m hlt
          have i1 := HTI.out m hlt
          have i2 := HVI.out m hlt
          generalize T.getD m 0 = z1 at *
          generalize V.getD m 0 = z2 at *
          obtain ⟨x1, v1, r1, j1, l1, e1⟩ := F32.arith_ex (P := Try.prog) (op := .sub) (.inr (.inl rfl)) 31 i1 JM.out wr
          obtain ⟨x2, v2, r2, j2, l2, e2⟩ := F32.arith_ex (P := Try.prog) (op := .sub) (.inr (.inl rfl)) 31 i2 JV.out v1
          obtain ⟨x3, v3, r3, j3, l3, e3⟩ := F32.arith_ex (P := Try.prog) (op := .mul) (.inr (.inr (.inl rfl))) 31 j1 j2 v2
          obtain ⟨x4, v4, r4, j4, l4, e4⟩ := F32.arith_ex (P := Try.prog) (op := .add) (.inl rfl) 31 hP.out j3 v3
          obtain ⟨x5, v5, r5, j5, l5, e5⟩ := F32.arith_ex (P := Try.prog) (op := .mul) (.inr (.inr (.inl rfl))) 31 j1 j1 v4
          obtain ⟨x6, v6, r6, j6, l6, e6⟩ := F32.arith_ex (P := Try.prog) (op := .add) (.inl rfl) 31 hQ.out j5 v5
          have DD := Lib.hid (((((e1.trans e2).trans e3).trans e4).trans e5).trans e6)
          have J1 : Hid (F32.Is (sm (plFP T V) (m + 1)) x4) := j4
          have J2 : Hid (F32.Is (sm (plFW T) (m + 1)) x6) := j6
          have hc2' : v1.cell? ⟨b2, o2 + m, none⟩ = some (.float .f32 z2) := by rw [e1.cell]; exact hc2
          have DR := Lib.hid (hD.out.trans DD.out)
          clear j1 l1 e1 j2 l2 e2 j3 l3 e3 j4 l4 e4 j5 l5 e5 j6 l6 e6
          clear hP hQ hD DD i1 i2 hbl1 hbl2
          go_wp2_with fail
          go_roundg (gk - 1)
          case measure => exact HG.out
          case rel => exact ⟨m + 1, x4, x6, rfl, rfl, by go_num, HJ, by omega, J1.out, J2.out, DR.out⟩
        · obtain rfl : m = k := by omega
          clear hlt hm
          generalize wr = w5 at *
          have hz := cmp_is .eq hQ.out zero_is
          cases hw : cmpO .eq (sm (plFW T) m) (some 0) with
          | true =>
            rw [hw] at hz
            have HN0 := Lib.hid (HC0.out hw)
            clear hw
            go_wp2_with fail
            go_returns
            rw [HN0.out]
            exact ⟨⟨_, _, _, rfl, fun h => absurd h (by decide)⟩, hD.out⟩
          | false =>
            rw [hw] at hz
            have HC := Lib.hid (HC1.out hw)
            clear hw
            obtain ⟨x1, v1, r1, j1, l1, e1⟩ := F32.arith_ex (P := Try.prog) (op := .quo) (.inr (.inr (.inr rfl))) 31 hP.out hQ.out w5
            obtain ⟨x2, v2, r2, j2, l2, e2⟩ := F32.arith_ex (P := Try.prog) (op := .mul) (.inr (.inr (.inl rfl))) 31 j1 JM.out v1
            obtain ⟨x3, v3, r3, j3, l3, e3⟩ := F32.arith_ex (P := Try.prog) (op := .sub) (.inr (.inl rfl)) 31 JV.out j2 v2
            have DD := Lib.hid ((e1.trans e2).trans e3)
            have JS : Hid (F32.Is (plS T V) x1) := by show F32.Is _ _; rw [← HSL.out]; exact j1
            have JB : Hid (F32.Is (plB T V) x3) := by show F32.Is _ _; unfold plB; rw [← HSL.out]; exact j3
            have DR := Lib.hid (hD.out.trans DD.out)
            have LB := Lib.hid l3
            clear j1 l1 e1 j2 l2 e2 j3 l3 e3
            clear hP hQ hD DD
            generalize x1 = sl at *
            generalize x3 = ba at *
            go_wp2_with fail
            generalize v3 = w6 at *
            clear r1 r2 r3 hz
            go_loopg [18, 110] m (fun n s i wr => ∃ t p : Nat, s = .float .f32 p ∧ i = .int .i64 (t : Int) ∧ Hid (t + n = m) ∧ t ≤ m ∧ Hid (F32.Is (sm (plFL T V (plB T V) (plS T V)) t) p) ∧ Hid (Drawn w wr))
            case atStart => exact ⟨0, 0, rfl, rfl, by show _ = _; omega, Nat.zero_le _, zero_is, DR.out⟩
            case round =>
              clear DR
              obtain ⟨t, p, rfl, rfl, ht, htl, hP, hD⟩ := hrel
              by_cases hlt : t < m
              · have HJ : Hid (t + 1 + (gk - 1) = m) := by have := ht.out; show _ = _; omega
                have HG : Hid (gk - 1 < gk) := by have := ht.out; show _ < _; omega
                obtain ⟨bt, ot, rfl, hbl1, hc1⟩ := (frow_drawn HT.out hD.out).2.2.2 t hlt
                obtain ⟨bv, ov, rfl, hbl2, hc2⟩ := (frow_drawn HV.out hD.out).2.2.2 t hlt
                have I1 := Lib.hid (HTI.out t hlt)
                have I2 := Lib.hid (HVI.out t hlt)
                generalize T.getD t 0 = z1 at *
                generalize V.getD t 0 = z2 at *
                have hDd : Drawn wr wr.drew := Drawn.one wr
                clear hbl1 hbl2
                go_wp2_with fail
                refine wp_region_vals (C := fun w' => Drawn wr w') (V := linV T V bt ot bv ov ca cb m t ba sl z1 z2) (by kernel_rfl) hDd (by kernel_rfl) ?_ ?_
                · intro i o ho A W hC hdep hbase
                  have m0 : W.cell? ⟨bt, ot + t, none⟩ = some (.float .f32 z1) := by rw [hC.cell]; exact hc1
                  have m1 : W.cell? ⟨bv, ov + t, none⟩ = some (.float .f32 z2) := by rw [hC.cell]; exact hc2
                  rcases i with _ | _ | _ | _ | _ | _ | _ | _ | _ | _ | _ | _ | _ | _ | i
                  · obtain rfl := Option.some.inj ho
                    have b0 : A.tmps.getD 1 undef = .slice (some ⟨bv, ov, none⟩) m cb := hbase 1 (by kernel_rfl)
                    refine stepK (.slice (some ⟨bv, ov, none⟩) m cb) W rfl hC fun K hK => ?_
                    simp only [Array.getD_eq_getD_getElem?] at b0
                    unfold Oper.wp
                    go_simp
                    exact hK
                  · obtain rfl := Option.some.inj ho
                    have b0 : A.tmps.getD 19 undef = .int .i64 (t : Int) := hbase 19 (by kernel_rfl)
                    refine stepK (.int .i64 (t : Int)) W rfl hC fun K hK => ?_
                    simp only [Array.getD_eq_getD_getElem?] at b0
                    unfold Oper.wp
                    go_simp
                    exact hK
                  · obtain rfl := Option.some.inj ho
                    have b0 : A.tmps.getD 113 undef = .slice (some ⟨bv, ov, none⟩) m cb := hdep ⟨0, .data⟩ (by simp) rfl 113 rfl
                    have b1 : A.tmps.getD 114 undef = .int .i64 (t : Int) := hdep ⟨1, .data⟩ (by simp) rfl 114 rfl
                    refine stepK (.pointer (some ⟨bv, ov + t, none⟩)) W rfl hC fun K hK => ?_
                    simp only [Array.getD_eq_getD_getElem?] at b0 b1
                    unfold Oper.wp
                    go_simp
                    exact hK
                  · obtain rfl := Option.some.inj ho
                    have b0 : A.tmps.getD 115 undef = .pointer (some ⟨bv, ov + t, none⟩) := hdep ⟨2, .data⟩ (by simp) rfl 115 rfl
                    refine stepK (.float .f32 z2) W rfl hC fun K hK => ?_
                    simp only [Array.getD_eq_getD_getElem?] at b0
                    unfold Oper.wp
                    go_simp
                    exact hK
                  · obtain rfl := Option.some.inj ho
                    have b0 : A.tmps.getD 17 undef = .float .f32 ba := hbase 17 (by kernel_rfl)
                    refine stepK (.float .f32 ba) W rfl hC fun K hK => ?_
                    simp only [Array.getD_eq_getD_getElem?] at b0
                    unfold Oper.wp
                    go_simp
                    exact hK
                  · obtain rfl := Option.some.inj ho
                    have b0 : A.tmps.getD 116 undef = .float .f32 z2 := hdep ⟨3, .data⟩ (by simp) rfl 116 rfl
                    have b1 : A.tmps.getD 117 undef = .float .f32 ba := hdep ⟨4, .data⟩ (by simp) rfl 117 rfl
                    obtain ⟨zr, W', hr, iz, lz, dz⟩ := F32.arith_ex (P := Try.prog) (op := .sub) (.inr (.inl rfl)) 31 (I2.out) (JB.out) W
                    refine stepK (.float .f32 zr) W' ⟨zr, rfl, iz, lz⟩ (hC.trans dz) fun K hK => ?_
                    simp only [Array.getD_eq_getD_getElem?] at b0 b1
                    unfold Oper.wp
                    go_simp
                    exact hK
                  · obtain rfl := Option.some.inj ho
                    have b0 : A.tmps.getD 16 undef = .float .f32 sl := hbase 16 (by kernel_rfl)
                    refine stepK (.float .f32 sl) W rfl hC fun K hK => ?_
                    simp only [Array.getD_eq_getD_getElem?] at b0
                    unfold Oper.wp
                    go_simp
                    exact hK
                  · obtain rfl := Option.some.inj ho
                    have b0 : A.tmps.getD 0 undef = .slice (some ⟨bt, ot, none⟩) m ca := hbase 0 (by kernel_rfl)
                    refine stepK (.slice (some ⟨bt, ot, none⟩) m ca) W rfl hC fun K hK => ?_
                    simp only [Array.getD_eq_getD_getElem?] at b0
                    unfold Oper.wp
                    go_simp
                    exact hK
                  · obtain rfl := Option.some.inj ho
                    have b0 : A.tmps.getD 19 undef = .int .i64 (t : Int) := hbase 19 (by kernel_rfl)
                    refine stepK (.int .i64 (t : Int)) W rfl hC fun K hK => ?_
                    simp only [Array.getD_eq_getD_getElem?] at b0
                    unfold Oper.wp
                    go_simp
                    exact hK
                  · obtain rfl := Option.some.inj ho
                    have b0 : A.tmps.getD 120 undef = .slice (some ⟨bt, ot, none⟩) m ca := hdep ⟨7, .data⟩ (by simp) rfl 120 rfl
                    have b1 : A.tmps.getD 121 undef = .int .i64 (t : Int) := hdep ⟨8, .data⟩ (by simp) rfl 121 rfl
                    refine stepK (.pointer (some ⟨bt, ot + t, none⟩)) W rfl hC fun K hK => ?_
                    simp only [Array.getD_eq_getD_getElem?] at b0 b1
                    unfold Oper.wp
                    go_simp
                    exact hK
                  · obtain rfl := Option.some.inj ho
                    have b0 : A.tmps.getD 122 undef = .pointer (some ⟨bt, ot + t, none⟩) := hdep ⟨9, .data⟩ (by simp) rfl 122 rfl
                    refine stepK (.float .f32 z1) W rfl hC fun K hK => ?_
                    simp only [Array.getD_eq_getD_getElem?] at b0
                    unfold Oper.wp
                    go_simp
                    exact hK
                  · obtain rfl := Option.some.inj ho
                    have b0 : A.tmps.getD 119 undef = .float .f32 sl := hdep ⟨6, .data⟩ (by simp) rfl 119 rfl
                    have b1 : A.tmps.getD 123 undef = .float .f32 z1 := hdep ⟨10, .data⟩ (by simp) rfl 123 rfl
                    obtain ⟨zr, W', hr, iz, lz, dz⟩ := F32.arith_ex (P := Try.prog) (op := .mul) (.inr (.inr (.inl rfl))) 31 (JS.out) (I1.out) W
                    refine stepK (.float .f32 zr) W' ⟨zr, rfl, iz, lz⟩ (hC.trans dz) fun K hK => ?_
                    simp only [Array.getD_eq_getD_getElem?] at b0 b1
                    unfold Oper.wp
                    go_simp
                    exact hK
                  · obtain rfl := Option.some.inj ho
                    obtain ⟨y0, b0, j0, k0⟩ := hdep ⟨5, .data⟩ (by simp) rfl 118 rfl
                    obtain ⟨y1, b1, j1, k1⟩ := hdep ⟨11, .data⟩ (by simp) rfl 124 rfl
                    obtain ⟨zr, W', hr, iz, lz, dz⟩ := F32.arith_ex (P := Try.prog) (op := .sub) (.inr (.inl rfl)) 31 j0 j1 W
                    refine stepK (.float .f32 zr) W' ⟨zr, rfl, iz, lz⟩ (hC.trans dz) fun K hK => ?_
                    simp only [Array.getD_eq_getD_getElem?] at b0 b1
                    unfold Oper.wp
                    go_simp
                    exact hK
                  · obtain rfl := Option.some.inj ho
                    obtain ⟨y0, b0, j0, k0⟩ := hdep ⟨12, .data⟩ (by simp) rfl 125 rfl
                    refine stepK (.float .f32 y0) W ⟨y0, rfl, j0, k0⟩ hC fun K hK => ?_
                    simp only [Array.getD_eq_getD_getElem?] at b0
                    unfold Oper.wp
                    go_simp
                    exact hK
                  · have := (Array.getElem?_eq_some_iff.1 ho).1
                    simp at this
                    omega
                · intro vals W hC hlen hV
                  match vals, hlen with
                  | [v0, v1, v2, v3, v4, v5, v6, v7, v8, v9, v10, v11, v12, v13], _ =>
                    obtain rfl : v0 = _ := hV 0 (by simp)
                    obtain rfl : v1 = _ := hV 1 (by simp)
                    obtain rfl : v2 = _ := hV 2 (by simp)
                    obtain rfl : v3 = _ := hV 3 (by simp)
                    obtain rfl : v4 = _ := hV 4 (by simp)
                    have h5 : linV T V bt ot bv ov ca cb m t ba sl z1 z2 5 v5 := hV 5 (by simp)
                    obtain ⟨x5, rfl, i5, l5⟩ := h5
                    obtain rfl : v6 = _ := hV 6 (by simp)
                    obtain rfl : v7 = _ := hV 7 (by simp)
                    obtain rfl : v8 = _ := hV 8 (by simp)
                    obtain rfl : v9 = _ := hV 9 (by simp)
                    obtain rfl : v10 = _ := hV 10 (by simp)
                    have h11 : linV T V bt ot bv ov ca cb m t ba sl z1 z2 11 v11 := hV 11 (by simp)
                    obtain ⟨x11, rfl, i11, l11⟩ := h11
                    have h12 : linV T V bt ot bv ov ca cb m t ba sl z1 z2 12 v12 := hV 12 (by simp)
                    obtain ⟨x12, rfl, i12, l12⟩ := h12
                    have h13 : linV T V bt ot bv ov ca cb m t ba sl z1 z2 13 v13 := hV 13 (by simp)
                    obtain ⟨x13, rfl, i13, l13⟩ := h13
                    clear hV hlen
                    simp only [puts, Act.put, List.zip_cons_cons, List.zip_nil_right, List.foldl_cons, List.foldl_nil, List.setIfInBounds_toArray, List.set_cons_zero, List.set_cons_succ]
                    have JD : Hid (F32.Is (plD T V (plB T V) (plS T V) t) x13) := i13
                    have HD2 := Lib.hid (hD.out.trans hC)
                    clear hC hD i12 l12 i13 l13
                    obtain ⟨x1, v1, r1, j1, l1, e1⟩ := F32.arith_ex (P := Try.prog) (op := .mul) (.inr (.inr (.inl rfl))) 31 JD.out JD.out W
                    obtain ⟨x2, v2, r2, j2, l2, e2⟩ := F32.arith_ex (P := Try.prog) (op := .add) (.inl rfl) 31 hP.out j1 v1
                    have DD := Lib.hid (e1.trans e2)
                    have J2 : Hid (F32.Is (sm (plFL T V (plB T V) (plS T V)) (t + 1)) x2) := j2
                    have DR := Lib.hid (HD2.out.trans DD.out)
                    clear j1 l1 e1 j2 l2 e2
                    clear hP HD2 DD
                    go_wp2_with fail
                    go_roundg (gk - 1)
                    case measure => exact HG.out
                    case rel => exact ⟨t + 1, x2, rfl, by go_num, HJ, by omega, J2.out, DR.out⟩
              · obtain rfl : t = m := by omega
                clear hlt ht
                generalize wr = w7 at *
                obtain ⟨x1, v1, r1, j1, l1, e1⟩ := F32.arith_ex (P := Try.prog) (op := .quo) (.inr (.inr (.inr rfl))) 31 hP.out HN.out w7
                have DD := Lib.hid e1
                have JL : Hid (F32.Is (plL T V) x1) := by show F32.Is _ _; rw [← HLE.out]; exact j1
                have DR := Lib.hid (hD.out.trans DD.out)
                clear j1 l1 e1
                clear hP hD DD
                generalize x1 = le at *
                have FB := Lib.hid (F32.fin_is JB.out)
                have FS := Lib.hid (F32.fin_is JS.out)
                have FL := Lib.hid (F32.fin_is JL.out)
                cases hb : F32.finO (plB T V) with
                | false =>
                  have HB := Lib.hid hb
                  have HCC : Hid (plC T V = false) := by show _ = _; rw [HC.out, hb]; rfl
                  clear hb
                  go_wp2_with fail
                  refine (specFinite_any ba _).mono ?_
                  rintro e w8 ⟨rfl, d8⟩
                  rw [FB.out.1, HB.out]
                  have D8 := Lib.hid (DR.out.trans d8)
                  clear d8
                  go_wp2_with fail
                  go_returns
                  rw [HCC.out]
                  exact ⟨⟨_, _, _, rfl, fun h => absurd h (by decide)⟩, D8.out⟩
                | true =>
                  have HB := Lib.hid hb
                  cases hs : F32.finO (plS T V) with
                  | false =>
                    have HS := Lib.hid hs
                    have HCC : Hid (plC T V = false) := by show _ = _; rw [HC.out, hb, hs]; rfl
                    clear hb hs
                    go_wp2_with fail
                    refine (specFinite_any ba _).mono ?_
                    rintro e w8 ⟨rfl, d8⟩
                    rw [FB.out.1, HB.out]
                    have D8 := Lib.hid (DR.out.trans d8)
                    clear d8
                    go_wp2_with fail
                    refine (specFinite_any sl _).mono ?_
                    rintro e w9 ⟨rfl, d9⟩
                    rw [FS.out.1, HS.out]
                    have D9 := Lib.hid (D8.out.trans d9)
                    clear d9
                    go_wp2_with fail
                    go_returns
                    rw [HCC.out]
                    exact ⟨⟨_, _, _, rfl, fun h => absurd h (by decide)⟩, D9.out⟩
                  | true =>
                    have HS := Lib.hid hs
                    have HCC : Hid (plC T V = F32.finO (plL T V)) := by show _ = _; rw [HC.out, hb, hs]; rfl
                    clear hb hs
                    go_wp2_with fail
                    refine (specFinite_any ba _).mono ?_
                    rintro e w8 ⟨rfl, d8⟩
                    rw [FB.out.1, HB.out]
                    have D8 := Lib.hid (DR.out.trans d8)
                    clear d8
                    go_wp2_with fail
                    refine (specFinite_any sl _).mono ?_
                    rintro e w9 ⟨rfl, d9⟩
                    rw [FS.out.1, HS.out]
                    have D9 := Lib.hid (D8.out.trans d9)
                    clear d9
                    go_wp2_with fail
                    refine (specFinite_any le _).mono ?_
                    rintro e w10 ⟨rfl, d10⟩
                    rw [FL.out.1, ← HCC.out]
                    have D10 := Lib.hid (D9.out.trans d10)
                    clear d10
                    go_wp2_with fail
                    go_returns
                    refine ⟨⟨ba, sl, le, rfl, fun h => ⟨fin_get JB.out HB.out, fin_get JS.out HS.out, fin_get JL.out ?_⟩⟩, D10.out⟩
                    rw [← HCC.out]; exact h
end Go.Proofs.Ytppkeabkjabhdaa
