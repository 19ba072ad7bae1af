/-
  How a test of parts ends: the program's contract. Conditions: the list reads as a list of true and false; numbers are words.
-/
import Derived.Test.YtemdgfjcjjadnabTeI0
import Derived.ScopeJumps
import Derived.WalkMore
namespace Go.Proofs.Ytemdgfjcjjadnab
open Go.RowKit Flt Dec Cm We F32 Sq Te
theorem m_low (q : Nat) (w : World) : (method (q + 1) 92 (.agg #[]) "loop.example/g01382/impl.told").run Try.prog w = .ok (126, .agg #[]) w := by kernel_rfl
theorem m_high (q : Nat) (w : World) : (method (q + 1) 93 (.agg #[]) "loop.example/g01382/impl.told").run Try.prog w = .ok (127, .agg #[]) w := by kernel_rfl
theorem m_no (q : Nat) (w : World) : (method (q + 1) 88 (.agg #[]) "loop.example/g01382/impl.told").run Try.prog w = .ok (125, .agg #[]) w := by kernel_rfl
theorem e_low (w : World) : (callFunc 126 #[.agg #[]]).run Try.prog w = .ok (.enter 126 #[.agg #[]]) w := by kernel_rfl
theorem e_high (w : World) : (callFunc 127 #[.agg #[]]).run Try.prog w = .ok (.enter 127 #[.agg #[]]) w := by kernel_rfl
theorem e_no (w : World) : (callFunc 125 #[.agg #[]]).run Try.prog w = .ok (.enter 125 #[.agg #[]]) w := by kernel_rfl
@[go_sem] theorem ta_low_low (w : World) : (Instr.typeAssert (.iface 92 (.agg #[])) 90 92 true).run Try.prog w = .ok (.tuple #[.agg #[], .bool true]) w := by kernel_rfl
@[go_sem] theorem ta_low_high (w : World) : (Instr.typeAssert (.iface 92 (.agg #[])) 90 93 true).run Try.prog w = .ok (.tuple #[.agg #[], .bool false]) w := by kernel_rfl
@[go_sem] theorem ta_high_low (w : World) : (Instr.typeAssert (.iface 93 (.agg #[])) 90 92 true).run Try.prog w = .ok (.tuple #[.agg #[], .bool false]) w := by kernel_rfl
@[go_sem] theorem ta_high_high (w : World) : (Instr.typeAssert (.iface 93 (.agg #[])) 90 93 true).run Try.prog w = .ok (.tuple #[.agg #[], .bool true]) w := by kernel_rfl
@[go_sem] theorem ta_no_low (w : World) : (Instr.typeAssert (.iface 88 (.agg #[])) 90 92 true).run Try.prog w = .ok (.tuple #[.agg #[], .bool false]) w := by kernel_rfl
@[go_sem] theorem ta_no_high (w : World) : (Instr.typeAssert (.iface 88 (.agg #[])) 90 93 true).run Try.prog w = .ok (.tuple #[.agg #[], .bool false]) w := by kernel_rfl
def tld (l h : Bool) : Int := if l then -1 else if h then 1 else 0
/-- behind the label: how it ended, and how many were looked at -/
def TeJ (B : Nat) (w : World) (R : Int × Int) (a : Act) (w' : World) : Prop := ∃ (l h : Bool) (r : Int) (v0 v1 v2 v3 v4 v5 v6 v7 v8 v9 v10 v11 v12 v13 v14 v15 v16 v17 v18 v19 v20 v21 v22 v23 v24 v25 v26 v27 v28 v29 v30 v31 v32 v33 v34 v35 v36 v37 v38 v39 v40 v41 v42 v43 v44 v45 v46 v47 v48 v49 v50 v51 v52 v53 v54 v55 v56 v57 v58 v59 v60 v61 v62 v63 v64 v65 v66 v67 v68 : Value), a = { tmps := #[v0, v1, v2, v3, v4, v5, v6, v7, v8, v9, v10, v11, v12, v13, v14, v15, v16, v17, v18, v19, v20, v21, v22, v23, v24, v25, v26, v27, v28, v29, v30, v31, v32, v33, v34, v35, v36, v37, v38, v39, v40, v41, v42, v43, v44, v45, v46, v47, v48, v49, v50, v51, v52, v53, v54, v55, v56, v57, v58, v59, v60, v61, v62, v63, v64, v65, v66, v67, v68], defers := [] } ∧ v15 = enV l h ∧ v17 = .int .i64 r ∧ R = (tld l h, r) ∧ Below B w w'
set_option maxRecDepth 20000 in
set_option maxHeartbeats 3200000 in
theorem iTest_any (a : Option Addr) (len cap : Nat) (G : List Bool) (lo hi al be : Nat) (w : World) (hG : BRow w a len G) (hm : len ≤ 1048576) (hlo : lo < 4294967296) (hhi : hi < 4294967296) (hal : al < 4294967296) (hbe : be < 4294967296) :
    Calls Try.prog 28 #[.slice a len cap, .float .f32 lo, .float .f32 hi, .float .f32 al, .float .f32 be] w fun e w' => e = .returned (.tuple #[.int .i64 (teV G lo hi al be).1, .int .i64 (teV G lo hi al be).2, .bool (te0 G lo hi al be)]) ∧ Below w.heap.size w w' := by
  have H := Lib.hid hG
  have HL : Hid (G.length = len) := Lib.hid hG.1
  clear hG
  cases h0 : (st0 lo hi && sqB al be) with
  | false =>
    have HN : Hid (te0 G lo hi al be = false) := by show _ = _; unfold te0; rw [← Bool.and_assoc, h0]; rfl
    have HV := Lib.hid (te_no HN.out)
    have H0 := Lib.hid h0
    clear h0
    go_enter Try.func28, Try.ntmps28
    go_wp2_with fail
    go_step3
    go_wp2_with fail
    refine (seqOf_no lo hi al be _ hal hbe H0.out).mono ?_
    rintro e w1 ⟨rfl, b1⟩
    have B1 := Lib.hid b1
    clear b1
    go_wp2_with fail
    rw [Exit.noGoto_ret]
    go_ret3
    rw [HV.out, HN.out]
    exact ⟨rfl, B1.out.alloc B1.out.size _⟩
  | true =>
    have H0 := Lib.hid h0
    by_cases hl : len ≤ 256
    case neg =>
      have HN := Lib.hid (te_l (G := G) (lo := lo) (hi := hi) (al := al) (be := be) (by rw [HL.out]; exact hl))
      have HV := Lib.hid (te_no HN.out)
      have q1 : (len : Int) > 256 := by omega
      clear hl h0
      go_enter Try.func28, Try.ntmps28
      go_wp2_with fail
      go_step3
      go_wp2_with fail
      refine (seqOf_yes lo hi al be _ hlo hhi hal hbe H0.out).mono ?_
      rintro e w1 ⟨⟨u, d, x, y, rfl, hu, hd, hx, hy⟩, b1⟩
      have B1 := Lib.hid b1
      clear b1 hu hd hx hy
      go_wp2_with fail
      rw [Exit.noGoto_ret]
      go_ret3
      rw [HV.out, HN.out]
      exact ⟨rfl, B1.out.alloc B1.out.size _⟩
    case pos =>
      rw [Bool.and_eq_true] at h0
      have HN := Lib.hid (te_yes (G := G) h0.1 h0.2 (by rw [HL.out]; exact hl))
      have HV : Hid (teV G lo hi al be = teR G lo hi al be len 0) := by show _ = _; rw [te_is HN.out, HL.out]
      have q1 : ¬ (len : Int) > 256 := by omega
      clear h0
      go_enter Try.func28, Try.ntmps28
      go_wp2_with fail
      refine wp_scope_jumps 0 (TeJ w.heap.size w (teV G lo hi al be)) (fun _ _ => 0) rfl ?_ ?_
      · go_wp2_with fail
        refine (seqOf_yes lo hi al be _ hlo hhi hal hbe H0.out).mono ?_
        rintro e w1 ⟨⟨u, d, x, y, rfl, hu, hd, hx, hy⟩, b1⟩
        have HU := Lib.hid hu
        have HD := Lib.hid hd
        have HX := Lib.hid hx
        have HY := Lib.hid hy
        have B1 := Lib.hid b1
        clear hu hd hx hy b1
        obtain ⟨w2, hw2⟩ : ∃ W, W = w1.alloc (.cells #[.float .f32 u, .float .f32 d, .float .f32 x, .float .f32 y] 84) := ⟨_, rfl⟩
        have HK : Hid (Blk.Blk w2 w1.heap.size [.float .f32 u, .float .f32 d, .float .f32 x, .float .f32 y] 84) := by show Blk.Blk _ _ _ _; rw [hw2]; exact Blk.Blk.new w1 _ _
        have B2 : Hid (Below w.heap.size w w2) := by show Below _ _ _; rw [hw2]; exact B1.out.alloc B1.out.size _
        go_wp2_with fail
        rw [← hw2]
        generalize w1.heap.size = g at *
        clear hw2 B1
        go_loopg [15, 16, 17, 39] len (fun n s15 s16 s17 s39 wr => ∃ t p : Nat, s15 = .iface 88 (.agg #[]) ∧ s16 = .float .f32 p ∧ s17 = .int .i64 (t : Int) ∧ s39 = .int .i64 (t : Int) ∧ Hid (t + n = len) ∧ t ≤ len ∧ Hid (F32.Is (teS G lo hi t) p) ∧ Hid (Blk.Blk wr g [.float .f32 u, .float .f32 d, .float .f32 x, .float .f32 y] 84) ∧ Hid (Below w.heap.size w wr) ∧ Hid (teV G lo hi al be = teR G lo hi al be n t))
        case atStart => exact ⟨0, 0, rfl, rfl, rfl, rfl, by show _ = _; omega, Nat.zero_le _, zero_is, HK.out, B2.out, HV.out⟩
        case round =>
          obtain ⟨t, p, rfl, rfl, rfl, rfl, ht, htl, hP, hK, hB, hV⟩ := hrel
          by_cases hlt : t < len
          · have HJ : Hid (t + 1 + (gk - 1) = len) := by have := ht.out; show _ = _; omega
            have HG : Hid (gk - 1 < gk) := by have := ht.out; show _ < _; omega
            have HGK : Hid (gk = gk - 1 + 1) := by have := ht.out; show _ = _; omega
            have HV1 : Hid (teV G lo hi al be = teR G lo hi al be (gk - 1 + 1) t) := by show _ = _; rw [← HGK.out]; exact hV.out
            obtain ⟨bt, ot, rfl, hbl1, hc1⟩ := (H.out.keep hB.out).2.2.2 t hlt
            have HST : Hid (teS G lo hi (t + 1) = F32.opO .add (teS G lo hi t) (if G.getD t false then teD lo hi else teU lo hi)) := Lib.hid rfl
            obtain ⟨⟨k0, k1, k2, k3⟩, _⟩ := blk_four hK.out
            generalize G.getD t false = z1 at *
            cases z1
            all_goals
              first
                | (have hI : F32.Is (if false = true then teD lo hi else teU lo hi) u := HU.out
                   obtain ⟨x1, v1, r1, j1, l1, e1⟩ := F32.arith_ex (P := Try.prog) (op := .add) (.inl rfl) 24 hP.out hI wr
                   rw [← HST.out] at j1
                   have K1 := Lib.hid (hK.out.keep (e1.below _))
                   have B3 := Lib.hid (hB.out.trans (e1.below _))
                   have J1 := Lib.hid j1
                   obtain ⟨⟨m0, m1, m2, m3⟩, _⟩ := blk_four K1.out
                   clear hI e1 j1 l1 hV hP hK hB HST)
                | (have hI : F32.Is (if true = true then teD lo hi else teU lo hi) d := HD.out
                   obtain ⟨x1, v1, r1, j1, l1, e1⟩ := F32.arith_ex (P := Try.prog) (op := .add) (.inl rfl) 24 hP.out hI wr
                   rw [← HST.out] at j1
                   have K1 := Lib.hid (hK.out.keep (e1.below _))
                   have B3 := Lib.hid (hB.out.trans (e1.below _))
                   have J1 := Lib.hid j1
                   obtain ⟨⟨m0, m1, m2, m3⟩, _⟩ := blk_four K1.out
                   clear hI e1 j1 l1 hV hP hK hB HST)
              go_wp2_with fail
              refine (endAt_any u d x y x1 _ _ _ _ J1.out HX.out HY.out).mono ?_
              rintro e w5 ⟨rfl, b5⟩
              have K5 := Lib.hid (K1.out.keep b5)
              have B5 := Lib.hid (B3.out.trans (b5.mono B3.out.size))
              clear b5 k0 k1 k2 k3 m0 m1 m2 m3 K1 B3
              cases g1 : leO (teS G lo hi (t + 1)) (sqL al be) with
              | true =>
                have HE := Lib.hid (HV1.out.trans (teR_low g1))
                rw [show enV true (geO (teS G lo hi (t + 1)) (sqH al be)) = .iface 92 (.agg #[]) from rfl]
                clear g1
                go_wp2_with fail
                go_step3
                show (0 : Nat) = 0 ∧ TeJ w.heap.size w (teV G lo hi al be) _ _
                exact ⟨rfl, true, true, (t : Int) + 1, _, _, _, _, _, _, _, _, _, _, _, _, _, _, _, _, _, _, _, _, _, _, _, _, _, _, _, _, _, _, _, _, _, _, _, _, _, _, _, _, _, _, _, _, _, _, _, _, _, _, _, _, _, _, _, _, _, _, _, _, _, _, _, _, _, _, _, _, _, rfl, rfl, rfl, HE.out, B5.out⟩
              | false =>
                cases g2 : geO (teS G lo hi (t + 1)) (sqH al be) with
                | true =>
                  have HE := Lib.hid (HV1.out.trans (teR_high g1 g2))
                  rw [show enV false true = .iface 93 (.agg #[]) from rfl]
                  clear g1 g2
                  go_wp2_with fail
                  go_step3
                  show (0 : Nat) = 0 ∧ TeJ w.heap.size w (teV G lo hi al be) _ _
                  exact ⟨rfl, false, true, (t : Int) + 1, _, _, _, _, _, _, _, _, _, _, _, _, _, _, _, _, _, _, _, _, _, _, _, _, _, _, _, _, _, _, _, _, _, _, _, _, _, _, _, _, _, _, _, _, _, _, _, _, _, _, _, _, _, _, _, _, _, _, _, _, _, _, _, _, _, _, _, _, _, rfl, rfl, rfl, HE.out, B5.out⟩
                | false =>
                  have HE := Lib.hid (HV1.out.trans (teR_on g1 g2))
                  rw [show enV false false = .iface 88 (.agg #[]) from rfl]
                  clear g1 g2
                  go_wp2_with fail
                  go_roundg (gk - 1)
                  case measure => exact HG.out
                  case rel => exact ⟨t + 1, x1, rfl, rfl, by go_num, by go_num, HJ, by omega, J1.out, K5.out, B5.out, HE.out⟩
          · obtain rfl : t = len := by omega
            have h0k : gk = 0 := by have := ht.out; omega
            have HE : Hid (teV G lo hi al be = (0, (t : Int))) := by show _ = _; rw [hV.out, h0k]; rfl
            have HB := Lib.hid hB.out
            clear hlt ht hP hK hB hV h0k
            go_wp2_with fail
            go_step3
            go_wp2_with fail
            rw [m_no]
            show Oper.upon _ _ _ _ _ (Sem.run _ (callFunc _ _) _)
            rw [e_no, Oper.upon_enter]
            refine (told_no _).mono ?_
            rintro e w3 ⟨rfl, b3⟩
            have B3 := Lib.hid (HB.out.trans (b3.mono HB.out.size))
            clear b3
            go_wp2_with fail
            simp only [Exit.jump]
            go_ret3
            rw [HE.out, HN.out]
            exact ⟨rfl, B3.out⟩
      · rintro a' w' ⟨l, h, r, v0, v1, v2, v3, v4, v5, v6, v7, v8, v9, v10, v11, v12, v13, v14, v15, v16, v17, v18, v19, v20, v21, v22, v23, v24, v25, v26, v27, v28, v29, v30, v31, v32, v33, v34, v35, v36, v37, v38, v39, v40, v41, v42, v43, v44, v45, v46, v47, v48, v49, v50, v51, v52, v53, v54, v55, v56, v57, v58, v59, v60, v61, v62, v63, v64, v65, v66, v67, v68, rfl, rfl, rfl, hR, hB⟩
        have HR := Lib.hid hR
        have HB := Lib.hid hB
        clear hR hB
        cases l with
        | true =>
          rw [show enV true h = .iface 92 (.agg #[]) from rfl]
          go_wp2_with fail
          rw [m_low]
          show Oper.upon _ _ _ _ _ (Sem.run _ (callFunc _ _) _)
          rw [e_low, Oper.upon_enter]
          refine (told_low _).mono ?_
          rintro e w3 ⟨rfl, b3⟩
          have B3 := Lib.hid (HB.out.trans (b3.mono HB.out.size))
          clear b3
          go_wp2_with fail
          simp only [Exit.jump]
          go_ret3
          rw [HR.out, HN.out]
          exact ⟨rfl, B3.out⟩
        | false =>
          cases h with
          | true =>
            rw [show enV false true = .iface 93 (.agg #[]) from rfl]
            go_wp2_with fail
            rw [m_high]
            show Oper.upon _ _ _ _ _ (Sem.run _ (callFunc _ _) _)
            rw [e_high, Oper.upon_enter]
            refine (told_high _).mono ?_
            rintro e w3 ⟨rfl, b3⟩
            have B3 := Lib.hid (HB.out.trans (b3.mono HB.out.size))
            clear b3
            go_wp2_with fail
            simp only [Exit.jump]
            go_ret3
            rw [HR.out, HN.out]
            exact ⟨rfl, B3.out⟩
          | false =>
            rw [show enV false false = .iface 88 (.agg #[]) from rfl]
            go_wp2_with fail
            rw [m_no]
            show Oper.upon _ _ _ _ _ (Sem.run _ (callFunc _ _) _)
            rw [e_no, Oper.upon_enter]
            refine (told_no _).mono ?_
            rintro e w3 ⟨rfl, b3⟩
            have B3 := Lib.hid (HB.out.trans (b3.mono HB.out.size))
            clear b3
            go_wp2_with fail
            simp only [Exit.jump]
            go_ret3
            rw [HR.out, HN.out]
            exact ⟨rfl, B3.out⟩
end Go.Proofs.Ytemdgfjcjjadnab
