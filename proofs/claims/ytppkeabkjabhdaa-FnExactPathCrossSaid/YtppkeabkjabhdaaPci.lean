/-
  When a path is at a limit, in the program. Conditions: the lists read as lists of numbers, and are no longer than their capacities.
-/
import Derived.Test.YtppkeabkjabhdaaPcr
import Derived.Test.YtppkeabkjabhdaaBlk
import Derived.Deep.MidRow
namespace We
open Go Flt Dec F32 Cm
def pcnV (bt ot bv ov lb ca cb m l ta tb va vb ya : Nat) (yb : Bool) (q : Option Nat) : Nat → Value → Prop
  | 0, v => v = .slice (some ⟨bt, ot, none⟩) lb ca
  | 1, v => v = .int .i64 ((m : Int) + 1)
  | 2, v => v = .int .i64 (m : Int)
  | 3, v => v = .slice (some ⟨bt, ot + m, none⟩) (lb - m) (ca - m)
  | 4, v => v = .pointer (some ⟨bt, ot + m, none⟩)
  | 5, v => v = .agg #[.float .f32 ta, .float .f32 tb]
  | 6, v => v = .slice (some ⟨bv, ov, none⟩) lb cb
  | 7, v => v = .int .i64 ((m : Int) + 1)
  | 8, v => v = .int .i64 (m : Int)
  | 9, v => v = .slice (some ⟨bv, ov + m, none⟩) (lb - m) (cb - m)
  | 10, v => v = .pointer (some ⟨bv, ov + m, none⟩)
  | 11, v => v = .agg #[.float .f32 va, .float .f32 vb]
  | 12, v => v = .float .f32 l
  | 13, v => ∃ zz, v = .float .f32 zz ∧ F32.Is q zz ∧ zz < 4294967296
  | 14, v => v = .tuple #[.float .f32 ya, .bool yb]
  | 15, v => v = .float .f32 ya
  | 16, v => v = .bool yb
  | _, _ => True
end We
namespace Go.Proofs.Ytppkeabkjabhdaa
open Go.RowKit Flt Dec Cm We Cr Liv
set_option maxRecDepth 100000 in
set_option maxHeartbeats 4000000 in
theorem crossOf_any {ta tb va vb l : Nat} {p0 p1 q0 q1 o : Option Nat} (h0 : F32.Is p0 ta) (h1 : F32.Is p1 tb) (g0 : F32.Is q0 va) (g1 : F32.Is q1 vb) (hl : F32.Is o l) (w : World) :
    Calls Try.prog 79 #[.agg #[.float .f32 ta, .float .f32 tb], .agg #[.float .f32 va, .float .f32 vb], .float .f32 l] w fun e w' => (∃ x, e = .returned (.float .f32 x) ∧ F32.Is (F32.opO .add p0 (F32.opO .mul (F32.opO .quo (F32.opO .sub o q0) (F32.opO .sub q1 q0)) (F32.opO .sub p1 p0))) x ∧ x < 4294967296) ∧ Below w.heap.size w w' := by
  have H0 := Lib.hid h0
  have H1 := Lib.hid h1
  have G0 := Lib.hid g0
  have G1 := Lib.hid g1
  have HL := Lib.hid hl
  clear h0 h1 g0 g1 hl
  have HB : Hid (Below w.heap.size w ((w.alloc (.cells #[.float .f32 ta, .float .f32 tb] 81)).alloc (.cells #[.float .f32 va, .float .f32 vb] 81))) := Lib.hid (((Below.refl _ w).alloc (Nat.le_refl _) _).alloc (by simp) _)
  have K0 := (Blk.Blk.new w #[.float .f32 ta, .float .f32 tb] 81).alloc (.cells #[.float .f32 va, .float .f32 vb] 81)
  have K1 := Blk.Blk.new (w.alloc (.cells #[.float .f32 ta, .float .f32 tb] 81)) #[.float .f32 va, .float .f32 vb] 81
  rw [World.size_alloc] at K1
  have c0 := K0.cell 0
  have c1 := K0.cell 1
  have d0 := K1.cell 0
  have d1 := K1.cell 1
  clear K0 K1
  have c0 : ((w.alloc (.cells #[.float .f32 ta, .float .f32 tb] 81)).alloc (.cells #[.float .f32 va, .float .f32 vb] 81)).cell? ⟨w.heap.size, 0, none⟩ = some (.float .f32 ta) := c0
  have c1 : ((w.alloc (.cells #[.float .f32 ta, .float .f32 tb] 81)).alloc (.cells #[.float .f32 va, .float .f32 vb] 81)).cell? ⟨w.heap.size, 1, none⟩ = some (.float .f32 tb) := c1
  have d0 : ((w.alloc (.cells #[.float .f32 ta, .float .f32 tb] 81)).alloc (.cells #[.float .f32 va, .float .f32 vb] 81)).cell? ⟨w.heap.size + 1, 0, none⟩ = some (.float .f32 va) := d0
  have d1 : ((w.alloc (.cells #[.float .f32 ta, .float .f32 tb] 81)).alloc (.cells #[.float .f32 va, .float .f32 vb] 81)).cell? ⟨w.heap.size + 1, 1, none⟩ = some (.float .f32 vb) := d1
  obtain ⟨x1, v1, r1, j1, l1, e1⟩ := F32.arith_ex (P := Try.prog) (op := .sub) (.inr (.inl rfl)) 31 HL.out G0.out ((w.alloc (.cells #[.float .f32 ta, .float .f32 tb] 81)).alloc (.cells #[.float .f32 va, .float .f32 vb] 81))
  have d2 := (e1.cell _).trans d0
  have d3 := (e1.cell _).trans d1
  obtain ⟨x2, v2, r2, j2, l2, e2⟩ := F32.arith_ex (P := Try.prog) (op := .sub) (.inr (.inl rfl)) 31 G1.out G0.out v1
  obtain ⟨x3, v3, r3, j3, l3, e3⟩ := F32.arith_ex (P := Try.prog) (op := .quo) (.inr (.inr (.inr rfl))) 31 j1 j2 v2
  have E3 := (e1.trans e2).trans e3
  have c2 := (E3.cell _).trans c0
  have c3 := (E3.cell _).trans c1
  obtain ⟨x4, v4, r4, j4, l4, e4⟩ := F32.arith_ex (P := Try.prog) (op := .sub) (.inr (.inl rfl)) 31 H1.out H0.out v3
  obtain ⟨x5, v5, r5, j5, l5, e5⟩ := F32.arith_ex (P := Try.prog) (op := .mul) (.inr (.inr (.inl rfl))) 31 j3 j4 v4
  obtain ⟨x6, v6, r6, j6, l6, e6⟩ := F32.arith_ex (P := Try.prog) (op := .add) (.inl rfl) 31 H0.out j5 v5
  have HX := Lib.hid (And.intro j6 l6)
  have HE := Lib.hid (HB.out.trans ((((E3.trans e4).trans e5).trans e6).below _))
  clear e1 e2 e3 e4 e5 e6 E3 j1 j2 j3 j4 j5 j6 l1 l2 l3 l4 l5 l6 HB
  go_enter Try.func79, Try.ntmps79
  go_wp2_with fail
  go_ret
  exact ⟨⟨x6, rfl, HX.out.1, HX.out.2⟩, HE.out⟩
theorem crossTest_any (z l g : Nat) (W : World) (hc : W.cell? ⟨g, 0, none⟩ = some (.float .f32 l)) : Calls Try.prog 78 #[.float .f32 z, .pointer (some ⟨g, 0, none⟩)] W fun e w' => e = .returned (.bool (geB l z)) ∧ Drawn W w' := by
  unfold geB
  go_enter Try.func78, Try.ntmps78
  go_wp2_with fail
  go_ret
  exact ⟨rfl, Drawn.refl _⟩
theorem cOnl_at {o : Option Nat} {x ya : Nat} {yb : Bool} (hm : yb = F32.finO o ∧ ya = if F32.finO o then o.getD 0 else 0) (h : F32.Is o x) (W : World) : Calls Try.prog 70 #[.float .f32 x] W fun e w' => e = .returned (.tuple #[.float .f32 ya, .bool yb]) ∧ Drawn W w' := by
  refine (c_onlyFinite x W).mono ?_
  rintro e w' ⟨rfl, d⟩
  rw [(F32.fin_is h).2, (F32.fin_is h).1, hm.1, hm.2]
  exact ⟨rfl, d⟩
theorem run_arrayAt2 (b o n c : Nat) (W : World) (h : 2 ≤ n) : (Instr.arrayAt 81 (.slice (some ⟨b, o, none⟩) n c)).run Try.prog W = .ok (.pointer (some ⟨b, o, none⟩)) W := by
  have hu : Try.prog.underlying 81 = some (.array 2 31) := by kernel_rfl
  have h2 : ¬ n < 2 := by omega
  unfold Instr.arrayAt
  simp only [Sem.run_bind, run_underlying hu W, Result.andThen_ok, if_neg h2, Sem.run_pure]
set_option maxRecDepth 100000 in
set_option maxHeartbeats 8000000 in
theorem iPathCross_any (a : Option Addr) (la ca : Nat) (T : List Nat) (b : Option Addr) (lb cb : Nat) (V : List Nat) (l : Nat) (w : World) (h : FRow w a la T) (g : FRow w b lb V) (hca : la ≤ ca) (hcb : lb ≤ cb) (hll : l < 4294967296) :
    Calls Try.prog 32 #[.slice a la ca, .slice b lb cb, .float .f32 l] w fun e w' => e = .returned (.tuple #[.float .f32 (okV (pxC T V l) (pcR T V l)), .bool (okB (pxC T V l) (pcR T V l))]) ∧ Below w.heap.size w w' := by
  have HT0 := Lib.hid h
  have HV0 := Lib.hid g
  have HB0 : Hid (Below w.heap.size w (w.alloc (.cells #[.float .f32 l] 31))) := (Below.refl _ _).alloc (Nat.le_refl _) _
  have HT := Lib.hid (h.keep HB0.out)
  have HV := Lib.hid (g.keep HB0.out)
  have hm : la ≤ 1048576 ∨ ¬ la ≤ 1048576 := Decidable.em _
  have HC : Hid ((w.alloc (.cells #[.float .f32 l] 31)).cell? ⟨w.heap.size, 0, none⟩ = some (.float .f32 l)) := Lib.hid ((Blk.Blk.new w #[.float .f32 l] 31).cell 0)
  have HE : Hid (∀ args w, (callFunc 78 args).run Try.prog w = .ok (.enter 78 args) w) := by show ∀ args, _; intro args w; kernel_rfl
  clear h g hm
  go_enter Try.func32, Try.ntmps32
  go_wp2_with fail
  refine (isPath_any a la ca T b lb cb V _ HT.out HV.out).mono ?_
  rintro e w1 ⟨rfl, d1⟩
  have D1 := Lib.hid d1
  clear d1
  cases h0 : pl0 T V with
  | false =>
    have HM := Lib.hid (ok_no (px_p (l := l) h0) (pcR T V l))
    clear h0
    go_wp2_with fail
    go_ret2
    rw [HM.out.1, HM.out.2]
    exact ⟨rfl, HB0.out.trans (D1.out.below _)⟩
  | true =>
    have hp := pl0_parts h0
    have hTL : T.length = la := HT.out.1
    have hVL : V.length = lb := HV.out.1
    have hlb : lb = la := by rw [← hTL, ← hVL]; exact hp.2.1
    subst hlb
    have hn : 2 ≤ lb ∧ lb ≤ 48 := by rw [← hTL]; exact hp.1
    have HF1 := Lib.hid hp.2.2.1
    have HF2 := Lib.hid hp.2.2.2
    have H0 := Lib.hid h0
    clear hp h0
    go_wp2_with fail
    refine (areAsc_any a lb ca T _ (frow_drawn HT.out D1.out) (by omega)).mono ?_
    rintro e w2 ⟨rfl, d2⟩
    rw [show finL T = true from HF1.out, Bool.and_true]
    have D2 := Lib.hid (D1.out.trans d2)
    clear d2 D1
    cases ha : ascW T with
    | false =>
      have HM := Lib.hid (ok_no (px_a (V := V) (l := l) ha) (pcR T V l))
      clear ha
      go_wp2_with fail
      go_ret2
      rw [HM.out.1, HM.out.2]
      exact ⟨rfl, HB0.out.trans (D2.out.below _)⟩
    | true =>
      have HA := Lib.hid ha
      have hcl : w2.cell? ⟨w.heap.size, 0, none⟩ = some (.float .f32 l) := (D2.out.cell _).trans HC.out
      clear ha
      go_wp2_with fail
      refine (implIsFinite_any l _).mono ?_
      rintro e w3 ⟨rfl, d3⟩
      have D3 := Lib.hid (D2.out.trans d3)
      clear d3 D2 hcl
      cases hf : fin .f32 l with
      | false =>
        have HM := Lib.hid (ok_no (px_l (T := T) (V := V) hf) (pcR T V l))
        clear hf
        go_wp2_with fail
        go_ret2
        rw [HM.out.1, HM.out.2]
        exact ⟨rfl, HB0.out.trans (D3.out.below _)⟩
      | true =>
        have HFL := Lib.hid hf
        have HPX := Lib.hid (px_yes H0.out HA.out hf)
        have HP0 : Hid (px0 T V l = true) := by show _ = _; unfold px0; rw [H0.out, HA.out, hf]; rfl
        have HFT : Hid (FTest (geB l) 78 #[.pointer (some ⟨w.heap.size, 0, none⟩)] w3) := Lib.hid fun W z _ dW => crossTest_any z l w.heap.size W ((dW.cell _).trans ((D3.out.cell _).trans HC.out))
        clear hf
        go_wp2_with fail
        refine (indexF_any (geB l) 78 #[.pointer (some ⟨w.heap.size, 0, none⟩)] HE.out b lb cb V _ (frow_drawn HV.out D3.out) HFT.out).mono ?_
        rintro e w4 ⟨⟨i, rfl, hat⟩, d4⟩
        have D4 := Lib.hid (D3.out.trans d4)
        clear d4 D3 HFT
        rcases hat with ⟨rfl, hno⟩ | ⟨k, hk, rfl, hg, hj, -⟩
        · have HM := Lib.hid (ok_no (HPX.out.trans hno) (pcR T V l))
          clear hno
          go_wp2_with fail
          go_ret2
          rw [HM.out.1, HM.out.2]
          exact ⟨rfl, HB0.out.trans (D4.out.below _)⟩
        · have HM := Lib.hid (px_at HP0.out hk hg hj)
          rw [hVL] at hk
          obtain ⟨bt, ot, rfl, hbt, hct⟩ := (frow_drawn HT.out D4.out).2.2.2 k hk
          obtain ⟨bv, ov, rfl, hbv, hcv⟩ := (frow_drawn HV.out D4.out).2.2.2 k hk
          have HTK := Lib.hid (at_is HF1.out HT.out hk)
          have HVK := Lib.hid (at_is HF2.out HV.out hk)
          have HCL : Hid (w4.cell? ⟨w.heap.size, 0, none⟩ = some (.float .f32 l)) := Lib.hid ((D4.out.cell _).trans HC.out)
          have HLI : Hid (F32.Is (some l) l) := Lib.hid (fin_isN HFL.out hll)
          have HLW : Hid (w.heap.size < w4.heap.size) := by
            show _ < _
            have h1 := (D4.out.below 0).size
            rw [World.size_alloc] at h1
            omega
          have HB4 := Lib.hid (HB0.out.trans (D4.out.below _))
          by_cases hk0 : k = 0
          · subst hk0
            have HFO : Hid (fin .f32 (T.getD 0 0) = true) := Lib.hid (all_get HF1.out (by rw [hTL]; exact hk))
            have HO : Hid (pcO T V l 0 = some (T.getD 0 0)) := Lib.hid (pcO_0 T V l)
            rw [Nat.add_zero] at hct
            generalize T.getD 0 0 = zt at *
            clear hg hj hcv hTL hVL hbt hbv
            go_wp2_with fail
            go_ret2
            rw [HM.out.1, HM.out.2, HO.out, show F32.finO (some zt) = fin .f32 zt from rfl, HFO.out]
            exact ⟨rfl, HB4.out⟩
          · obtain ⟨m, rfl⟩ : ∃ m, k = m + 1 := ⟨k - 1, by omega⟩
            obtain ⟨b5, o5, he5, hb5, hc5⟩ := (frow_drawn HT.out D4.out).2.2.2 m (by omega)
            cases he5
            obtain ⟨b6, o6, he6, hb6, hc6⟩ := (frow_drawn HV.out D4.out).2.2.2 m (by omega)
            cases he6
            have HTM := Lib.hid (at_is HF1.out HT.out (show m < lb by omega))
            have HVM := Lib.hid (at_is HF2.out HV.out (show m < lb by omega))
            rw [pcO_s] at HM
            have HK : Hid (m + 1 < lb) := Lib.hid hk
            have HBT : Hid (bt < w4.heap.size) := Lib.hid hbt
            have HBV : Hid (bv < w4.heap.size) := Lib.hid hbv
            generalize T.getD (m + 1) 0 = tb at *
            generalize T.getD m 0 = ta at *
            generalize V.getD (m + 1) 0 = vb at *
            generalize V.getD m 0 = va at *
            have hrt : w4.rangeAt bt (ot + m) [.float .f32 ta, .float .f32 tb] := fun j v hv => by
              match j, hv with
              | 0, hv => cases hv; exact hc5
              | 1, hv => cases hv; exact hct
            have hrv : w4.rangeAt bv (ov + m) [.float .f32 va, .float .f32 vb] := fun j v hv => by
              match j, hv with
              | 0, hv => cases hv; exact hc6
              | 1, hv => cases hv; exact hcv
            have HRT := Lib.hid hrt
            have HRV := Lib.hid hrv
            obtain ⟨ya, hya⟩ : ∃ y, okV (pxC T V l) (pcR T V l) = y := ⟨_, rfl⟩
            obtain ⟨yb, hyb⟩ : ∃ y, okB (pxC T V l) (pcR T V l) = y := ⟨_, rfl⟩
            have HYA := Lib.hid hya
            have HYB := Lib.hid hyb
            rw [hya, hyb] at HM
            clear hg hj hk hTL hVL hbt hbv hb5 hb6 hc5 hc6 hct hcv hrt hrv hya hyb hk0
            go_wp2_with fail
            refine wp_region_head 17 17 (C := fun _ w' => Go.RowKit.Below w4.heap.size w4 w') (V := pcnV bt ot bv ov lb ca cb m l ta tb va vb ya yb (F32.opO .add (at_ T m) (F32.opO .mul (F32.opO .quo (F32.opO .sub (some l) (at_ V m)) (F32.opO .sub (at_ V (m + 1)) (at_ V m))) (F32.opO .sub (at_ T (m + 1)) (at_ T m))))) (by kernel_rfl) ((Drawn.one w4).below _) (by kernel_rfl) ?_ ?_
            · intro i o hin ho A W bb hbb hC hdep hbase
              have m0 : W.cell? ⟨w.heap.size, 0, none⟩ = some (.float .f32 l) := by rw [hC.cell HLW.out]; exact HCL.out
              have hwm : IntKind.i64.wrap (m : Int) = (m : Int) := IntWalk.i64_in _ (by have := HK.out; omega)
              have hml : m ≤ lb := by have := HK.out; omega
              have hcm1 : ¬ ca = m := by have := HK.out; omega
              have hcm2 : ¬ cb = m := by have := HK.out; omega
              have har1 := run_arrayAt2 bt (ot + m) (lb - m) (ca - m) W (by have := HK.out; omega)
              have har2 := run_arrayAt2 bv (ov + m) (lb - m) (cb - m) W (by have := HK.out; omega)
              have hrt : W.rangeAt bt (ot + m) [.float .f32 ta, .float .f32 tb] := fun j v hv => (hC.cell (p := ⟨bt, ot + m + j, none⟩) HBT.out).trans (HRT.out j v hv)
              have hrv : W.rangeAt bv (ov + m) [.float .f32 va, .float .f32 vb] := fun j v hv => (hC.cell (p := ⟨bv, ov + m + j, none⟩) HBV.out).trans (HRV.out j v hv)
              rcases i with _ | _ | _ | _ | _ | _ | _ | _ | _ | _ | _ | _ | _ | _ | _ | _ | _ | i
              · obtain rfl := Option.some.inj ho
                have b0 : A.tmps.getD 0 undef = .slice (some ⟨bt, ot, none⟩) lb ca := hbase 0 (by kernel_rfl)
                refine stepH (b := bb) (C := fun _ w' => Go.RowKit.Below w4.heap.size w4 w') (.slice (some ⟨bt, ot, none⟩) lb ca) W rfl hC fun K hK => ?_
                simp only [Array.getD_eq_getD_getElem?] at b0
                unfold Oper.wp
                go_simp
                exact hK
              · obtain rfl := Option.some.inj ho
                have b0 : A.tmps.getD 8 undef = .int .i64 ((m : Int) + 1) := hbase 8 (by kernel_rfl)
                refine stepH (b := bb) (C := fun _ w' => Go.RowKit.Below w4.heap.size w4 w') (.int .i64 ((m : Int) + 1)) W rfl hC fun K hK => ?_
                simp only [Array.getD_eq_getD_getElem?] at b0
                unfold Oper.wp
                go_simp
                exact hK
              · obtain rfl := Option.some.inj ho
                have b0 : A.tmps.getD 35 undef = .int .i64 ((m : Int) + 1) := hdep ⟨1, .data⟩ (by simp) rfl 35 rfl
                refine stepH (b := bb) (C := fun _ w' => Go.RowKit.Below w4.heap.size w4 w') (.int .i64 (m : Int)) W rfl hC fun K hK => ?_
                simp only [Array.getD_eq_getD_getElem?] at b0
                unfold Oper.wp
                go_simp
                exact hK
              · obtain rfl := Option.some.inj ho
                have b0 : A.tmps.getD 34 undef = .slice (some ⟨bt, ot, none⟩) lb ca := hdep ⟨0, .data⟩ (by simp) rfl 34 rfl
                have b1 : A.tmps.getD 36 undef = .int .i64 (m : Int) := hdep ⟨2, .data⟩ (by simp) rfl 36 rfl
                refine stepH (b := bb) (C := fun _ w' => Go.RowKit.Below w4.heap.size w4 w') (.slice (some ⟨bt, ot + m, none⟩) (lb - m) (ca - m)) W rfl hC fun K hK => ?_
                simp only [Array.getD_eq_getD_getElem?] at b0 b1
                unfold Oper.wp
                go_simp
                exact hK
              · obtain rfl := Option.some.inj ho
                have b0 : A.tmps.getD 37 undef = .slice (some ⟨bt, ot + m, none⟩) (lb - m) (ca - m) := hdep ⟨3, .data⟩ (by simp) rfl 37 rfl
                refine stepH (b := bb) (C := fun _ w' => Go.RowKit.Below w4.heap.size w4 w') (.pointer (some ⟨bt, ot + m, none⟩)) W rfl hC fun K hK => ?_
                simp only [Array.getD_eq_getD_getElem?] at b0
                unfold Oper.wp
                go_simp
                exact hK
              · obtain rfl := Option.some.inj ho
                have b0 : A.tmps.getD 38 undef = .pointer (some ⟨bt, ot + m, none⟩) := hdep ⟨4, .data⟩ (by simp) rfl 38 rfl
                exact wp_load_mid 81 _ rfl bt (ot + m) b0 [.float .f32 ta, .float .f32 tb] _ hrt rfl rfl rfl ⟨_, rfl, hC, rfl⟩
              · obtain rfl := Option.some.inj ho
                have b0 : A.tmps.getD 1 undef = .slice (some ⟨bv, ov, none⟩) lb cb := hbase 1 (by kernel_rfl)
                refine stepH (b := bb) (C := fun _ w' => Go.RowKit.Below w4.heap.size w4 w') (.slice (some ⟨bv, ov, none⟩) lb cb) W rfl hC fun K hK => ?_
                simp only [Array.getD_eq_getD_getElem?] at b0
                unfold Oper.wp
                go_simp
                exact hK
              · obtain rfl := Option.some.inj ho
                have b0 : A.tmps.getD 8 undef = .int .i64 ((m : Int) + 1) := hbase 8 (by kernel_rfl)
                refine stepH (b := bb) (C := fun _ w' => Go.RowKit.Below w4.heap.size w4 w') (.int .i64 ((m : Int) + 1)) W rfl hC fun K hK => ?_
                simp only [Array.getD_eq_getD_getElem?] at b0
                unfold Oper.wp
                go_simp
                exact hK
              · obtain rfl := Option.some.inj ho
                have b0 : A.tmps.getD 41 undef = .int .i64 ((m : Int) + 1) := hdep ⟨7, .data⟩ (by simp) rfl 41 rfl
                refine stepH (b := bb) (C := fun _ w' => Go.RowKit.Below w4.heap.size w4 w') (.int .i64 (m : Int)) W rfl hC fun K hK => ?_
                simp only [Array.getD_eq_getD_getElem?] at b0
                unfold Oper.wp
                go_simp
                exact hK
              · obtain rfl := Option.some.inj ho
                have b0 : A.tmps.getD 40 undef = .slice (some ⟨bv, ov, none⟩) lb cb := hdep ⟨6, .data⟩ (by simp) rfl 40 rfl
                have b1 : A.tmps.getD 42 undef = .int .i64 (m : Int) := hdep ⟨8, .data⟩ (by simp) rfl 42 rfl
                refine stepH (b := bb) (C := fun _ w' => Go.RowKit.Below w4.heap.size w4 w') (.slice (some ⟨bv, ov + m, none⟩) (lb - m) (cb - m)) W rfl hC fun K hK => ?_
                simp only [Array.getD_eq_getD_getElem?] at b0 b1
                unfold Oper.wp
                go_simp
                exact hK
              · obtain rfl := Option.some.inj ho
                have b0 : A.tmps.getD 43 undef = .slice (some ⟨bv, ov + m, none⟩) (lb - m) (cb - m) := hdep ⟨9, .data⟩ (by simp) rfl 43 rfl
                refine stepH (b := bb) (C := fun _ w' => Go.RowKit.Below w4.heap.size w4 w') (.pointer (some ⟨bv, ov + m, none⟩)) W rfl hC fun K hK => ?_
                simp only [Array.getD_eq_getD_getElem?] at b0
                unfold Oper.wp
                go_simp
                exact hK
              · obtain rfl := Option.some.inj ho
                have b0 : A.tmps.getD 44 undef = .pointer (some ⟨bv, ov + m, none⟩) := hdep ⟨10, .data⟩ (by simp) rfl 44 rfl
                exact wp_load_mid 81 _ rfl bv (ov + m) b0 [.float .f32 va, .float .f32 vb] _ hrv rfl rfl rfl ⟨_, rfl, hC, rfl⟩
              · obtain rfl := Option.some.inj ho
                have b0 : A.tmps.getD 5 undef = .pointer (some ⟨w.heap.size, 0, none⟩) := hbase 5 (by kernel_rfl)
                refine stepH (b := bb) (C := fun _ w' => Go.RowKit.Below w4.heap.size w4 w') (.float .f32 l) W rfl hC fun K hK => ?_
                simp only [Array.getD_eq_getD_getElem?] at b0
                unfold Oper.wp
                go_simp
                exact hK
              · obtain rfl := Option.some.inj ho
                have b0 : A.tmps.getD 39 undef = .agg #[.float .f32 ta, .float .f32 tb] := hdep ⟨5, .data⟩ (by simp) rfl 39 rfl
                have b1 : A.tmps.getD 45 undef = .agg #[.float .f32 va, .float .f32 vb] := hdep ⟨11, .data⟩ (by simp) rfl 45 rfl
                have b2 : A.tmps.getD 46 undef = .float .f32 l := hdep ⟨12, .data⟩ (by simp) rfl 46 rfl
                simp only [Array.getD_eq_getD_getElem?] at b0 b1 b2
                unfold Oper.wp
                go_simp
                refine (crossOf_any HTM.out HTK.out HVM.out HVK.out HLI.out W).mono ?_
                rintro e w9 ⟨⟨v, rfl, hi, hlt⟩, hd2⟩
                exact ⟨_, ⟨v, rfl, hi, hlt⟩, hC.trans (hd2.mono hC.size), rfl⟩
              · obtain rfl := Option.some.inj ho
                obtain ⟨y0, b0, j0, k0⟩ := hdep ⟨13, .data⟩ (by simp) rfl 47 rfl
                simp only [Array.getD_eq_getD_getElem?] at b0
                unfold Oper.wp
                go_simp
                refine (cOnl_at HM.out j0 W).mono ?_
                rintro e w9 ⟨rfl, hd2⟩
                exact ⟨_, rfl, hC.trans (Drawn.below hd2 _), rfl⟩
              · obtain rfl := Option.some.inj ho
                have b0 : A.tmps.getD 48 undef = .tuple #[.float .f32 ya, .bool yb] := hdep ⟨14, .data⟩ (by simp) rfl 48 rfl
                refine stepH (b := bb) (C := fun _ w' => Go.RowKit.Below w4.heap.size w4 w') (.float .f32 ya) W rfl hC fun K hK => ?_
                simp only [Array.getD_eq_getD_getElem?] at b0
                unfold Oper.wp
                go_simp
                exact hK
              · obtain rfl := Option.some.inj ho
                have b0 : A.tmps.getD 48 undef = .tuple #[.float .f32 ya, .bool yb] := hdep ⟨14, .data⟩ (by simp) rfl 48 rfl
                refine stepH (b := bb) (C := fun _ w' => Go.RowKit.Below w4.heap.size w4 w') (.bool yb) W rfl hC fun K hK => ?_
                simp only [Array.getD_eq_getD_getElem?] at b0
                unfold Oper.wp
                go_simp
                exact hK
              · exact absurd hin (by omega)
            · intro vals W hC hlen hV
              match vals, hlen with
              | [v0, v1, v2, v3, v4, v5, v6, v7, v8, v9, v10, v11, v12, v13, v14, v15, v16], _ =>
                obtain rfl : v0 = _ := hV 0 (by simp)
                obtain rfl : v1 = _ := hV 1 (by simp)
                obtain rfl : v2 = _ := hV 2 (by simp)
                obtain rfl : v3 = _ := hV 3 (by simp)
                obtain rfl : v4 = _ := hV 4 (by simp)
                obtain rfl : v5 = _ := hV 5 (by simp)
                obtain rfl : v6 = _ := hV 6 (by simp)
                obtain rfl : v7 = _ := hV 7 (by simp)
                obtain rfl : v8 = _ := hV 8 (by simp)
                obtain rfl : v9 = _ := hV 9 (by simp)
                obtain rfl : v10 = _ := hV 10 (by simp)
                obtain rfl : v11 = _ := hV 11 (by simp)
                obtain rfl : v12 = _ := hV 12 (by simp)
                have h13 : pcnV bt ot bv ov lb ca cb m l ta tb va vb ya yb (F32.opO .add (at_ T m) (F32.opO .mul (F32.opO .quo (F32.opO .sub (some l) (at_ V m)) (F32.opO .sub (at_ V (m + 1)) (at_ V m))) (F32.opO .sub (at_ T (m + 1)) (at_ T m)))) 13 v13 := hV 13 (by simp)
                obtain ⟨x13, rfl, i13, l13⟩ := h13
                obtain rfl : v14 = _ := hV 14 (by simp)
                obtain rfl : v15 = _ := hV 15 (by simp)
                obtain rfl : v16 = _ := hV 16 (by simp)
                clear hV hlen
                simp only [puts, Act.put, List.zip_cons_cons, List.zip_nil_right, List.take_succ_cons, List.take_zero, List.drop_succ_cons, List.drop_zero, List.foldl_cons, List.foldl_nil, List.setIfInBounds_toArray, List.set_cons_zero, List.set_cons_succ]
                have HZ := Lib.hid (HB4.out.trans (hC.mono (Nat.le_of_lt HLW.out)))
                clear hC
                go_wp2_with fail
                go_ret2
                rw [HYA.out, HYB.out]
                exact ⟨rfl, HZ.out⟩
end Go.Proofs.Ytppkeabkjabhdaa
