/-
  The law FnSpares: whatever the bytes, they choose a mean, a count, a service and means of depots; all of them have been reckoned. No conditions.
-/
import Derived.Test.YtiebbmgehhcdmaaSpW
import Derived.Test.YtiebbmgehhcdmaaSplI
import Derived.Test.YtiebbmgehhcdmaaHld
namespace Flt.Sp
open Go Flt Nd Cm Spl Go.Proofs.Ytiebbmgehhcdmaa
theorem ndA_all {i c : Nat} (hi : i < 24) (hc : c < 24) : ndB (mq i) c = true ∧ ndA (mq i) c = ndL (mq i) (c + 1) := ndA_yes (m_ok hi).2.1 (by omega)
theorem nd_num {i k : Nat} (hi : i < 24) (hk : k < 24) : nan .f32 (nd (mq i) k) = false := (nd_ok (mean_of (m_ok hi).2.2 (m_ok hi).2.1) k (by omega)).num
theorem bounds {w : World} {b c o p : Nat} {x y : Value} (h : w.cell? ⟨b, o, none⟩ = some x) (h2 : w.cell? ⟨c, p, none⟩ = some y) : b < w.heap.size ∧ c < w.heap.size :=
  ⟨Nat.lt_of_not_le fun hle => by simp [World.cell?, Array.getElem?_eq_none hle] at h, Nat.lt_of_not_le fun hle => by simp [World.cell?, Array.getElem?_eq_none hle] at h2⟩
/-- of two depots, one of which has spares: the services that the law looks at -/
structure Pair (z y n k : Nat) : Prop where
  b1 : stB z (n : Int) 1065353216 = true
  a1 : stA z (n : Int) 1065353216 = srv z (n + 1)
  b2 : stB y (k : Int) 1065353216 = true
  a2 : stA y (k : Int) 1065353216 = srv y (k + 1)
  l1 : Go.floatBits .sub .f32 1065353216 (srv z (n + 1)) = some (lack z (n + 1))
  l2 : Go.floatBits .sub .f32 1065353216 (srv y (k + 1)) = some (lack y (k + 1))
  less : (FloatKind.f32.format.order (lack z (n + 1)) (lack y (k + 1)) == some .gt) = false
theorem at_mem {Z : List Nat} {j : Nat} (h : j < Z.length) : Z.getD j 0 ∈ Z := by simp [List.getD, h]
theorem pair_ok {Z : List Nat} {T : Nat} (hz : ∀ z ∈ Z, Depot z) (hT : T < 20) {j t : Nat} (hj : j < Z.length) (ht : t < Z.length) {v u : Int} (ev : (spl Z T).getD j 0 = v) (eu : (spl Z T).getD t 0 = u) (h0 : u ≠ 0) :
    ∃ n k : Nat, v = (n : Int) ∧ u - 1 = (k : Int) ∧ Pair (Z.getD j 0) (Z.getD t 0) n k := by
  have b1 := spl_bd Z T j
  have b2 := spl_bd Z T t
  have hf := fair Z (fun i hi => hz _ (at_mem hi)) (by omega) T (by omega) j t hj ht (by omega)
  rw [ev, eu] at hf
  rw [ev] at b1
  rw [eu] at b2
  obtain ⟨n, rfl⟩ : ∃ n : Nat, v = n := ⟨v.toNat, by omega⟩
  obtain ⟨k, hk⟩ : ∃ k : Nat, u - 1 = k := ⟨(u - 1).toNat, by omega⟩
  have d1 := hz _ (at_mem hj)
  have d2 := hz _ (at_mem ht)
  have c1 := d1.chk (n := n) (by omega)
  have c2 := d2.chk (n := k) (by omega)
  obtain ⟨p1, p2⟩ := lack_ok (mean_of d1.lt d1.mean) (n + 1) (by omega)
  obtain ⟨q1, q2⟩ := lack_ok (mean_of d2.lt d2.mean) (k + 1) (by omega)
  refine ⟨n, k, rfl, hk, c1.1, c1.2.1, c2.1, c2.2.1, p1, q1, ?_⟩
  rw [hk] at hf
  unfold lk at hf
  rw [Int.toNat_natCast, Int.toNat_natCast] at hf
  rw [gtB .f32 _ _ p2.num q2.num]
  exact decide_eq_false (by omega)
theorem splA_all {Z : List Nat} {t : Nat} (hz : ∀ z ∈ Z, Depot z) (h1 : 1 ≤ Z.length ∧ Z.length ≤ 4) (ht : t ≤ 20) : splB Z t = true ∧ splA Z t = spl Z t :=
  splA_yes (by omega) (by omega) (List.all_eq_true.2 fun z h => (hz z h).mean)
theorem owned_cap {w : World} {B : Nat} {e : TypeId} {sz : Nat} {a : Option Addr} {n c : Nat} {xs : List Value} (h : w.ownsRow B e sz (.slice a n c) n xs) : n ≤ c := by
  obtain ⟨h1, ⟨h3, h2⟩ | ⟨g, cap, cur, h3, hg, hc, hcap, _⟩⟩ := h
  · cases h3; omega
  · cases h3; exact hcap
end Flt.Sp
namespace Go.Proofs.Ytiebbmgehhcdmaa
open Go.RowKit Flt Dec Cm Nd Liv Spl Hld Sp
set_option maxRecDepth 100000 in
set_option maxHeartbeats 8000000 in
theorem fnSpares_walk (a : Option Addr) (la ca : Nat) (zs : List Nat) (b : Option Addr) (lb cb : Nat) (ys : List Nat) (w : World) (ha : BRow w a la zs) (hb : BRow w b lb ys) :
    Calls Try.prog 9 #[.slice a la ca, .slice b lb cb] w fun e w' => e = .returned (.bool true) ∧ Below w.heap.size w w' := by
  have hma : la ≤ 9223372036854775807 := by have := ha.2.1; unfold maxLen at this; exact this
  have hmb : lb ≤ 9223372036854775807 := by have := hb.2.1; unfold maxLen at this; exact this
  have HA := Lib.hid ha
  have HB := Lib.hid hb
  clear ha hb
  by_cases h12 : la ≤ 48 ∧ lb ≤ 48
  · have hl : Hid ((decide (48 < la) || decide (48 < lb)) = false) := by show _ = _; simp [h12.1, h12.2]
    obtain ⟨i0, hzi, hz0, hz1, hz2⟩ := info_parts (show (Try.prog.info? 22).map (fun i => (i.zero, i.size, i.bytes)) = some (some (.float .f32 0), 1, 4) by kernel_rfl)
    clear h12
    go_enter Try.func9, Try.ntmps9
    go_wp2_with fail
    refine (r8Long_any a b la lb ca cb hma hmb _).mono ?_
    rintro e w1 ⟨rfl, rfl⟩
    rw [hl.out]
    go_wp2_with fail
    refine (r8At_any 40 24 (by omega) (by omega) (by omega) b lb cb ys _ HB.out).mono ?_
    rintro e w1 ⟨i, rfl, hi, rfl⟩
    obtain ⟨m1, m2, m3⟩ := m_ok hi
    have hq1 : ∀ w, (binOp .quo 22 (.float .f32 (floatOfInt .f32 (i : Int))) (.float .f32 1082130432)).run Try.prog w = .ok (.float .f32 (mq i)) w := fun w => run_float_arith w .quo 22 .f32 _ _ _ m1
    have M3 := Lib.hid m3
    clear m1 m2 m3
    go_wp2_with fail
    refine (r8At_any 41 24 (by omega) (by omega) (by omega) b lb cb ys _ HB.out).mono ?_
    rintro e w1 ⟨c, rfl, hc, rfl⟩
    obtain ⟨hnb, hna⟩ := ndA_all hi hc
    have HI := Lib.hid hi
    have HC := Lib.hid hc
    have HNB := Lib.hid hnb
    have HNA := Lib.hid hna
    have HNL : Hid ((ndL (mq i) (c + 1)).length = c + 1) := Lib.hid (ndL_len _ _)
    clear hnb hna
    go_wp2_with fail
    refine (iNeedShares_any (mq i) c _ M3.out).mono ?_
    rintro e w1 ⟨⟨a1, c1, rfl, hr1, _⟩, b1⟩
    rw [HNB.out, HNA.out, HNL.out]
    rw [HNA.out, HNL.out] at hr1
    obtain ⟨L, hL⟩ : ∃ L, c + 1 = L := ⟨_, rfl⟩
    rw [hL]
    rw [hL] at hr1
    have HL := Lib.hid hL
    have hL2 : L ≤ 24 := by omega
    have R1 := Lib.hid hr1
    have B1 := Lib.hid b1
    have hne : ((L : Int) != (c : Int) + 1) = false := by simp; omega
    clear hL
    clear hr1 b1
    clear hq1
    go_wp2_with fail
    go_loopg [9, 10] L (fun q s k wr => ∃ k' : Nat, s = .float .f64 (sm (mq i) k') ∧ k = .int .i64 k' ∧ Hid (k' + q = L) ∧ k' ≤ L ∧ Hid (Below w1.heap.size w1 wr))
    case atStart => exact ⟨0, rfl, rfl, by show _ = _; omega, Nat.zero_le _, Below.refl _ _⟩
    case round =>
      obtain ⟨k, rfl, rfl, hk, hkl, hB⟩ := hrel
      by_cases hlt : k < L
      · have hle : (k : Int) ≤ (c : Int) := by have := HL.out; omega
        have HJ : Hid (k + 1 + (gk - 1) = L) := by have := hk.out; show _ = _; omega
        have HG : Hid (gk - 1 < gk) := by have := hk.out; show _ < _; omega
        have HRW := Lib.hid (R1.out.keep hB.out)
        obtain ⟨bb, off, rfl, hbl, hcell⟩ := HRW.out.2.2.2 k hlt
        rw [ndL_get _ _ _ hlt] at hcell
        have N := need (k := k) HI.out (by omega)
        have hadd : ∀ w, (binOp .add 35 (.float .f64 (sm (mq i) k)) (.float .f64 (W (nd (mq i) k)))).run Try.prog w = .ok (.float .f64 (sm (mq i) (k + 1))) w := fun w => run_float_arith w .add 35 .f64 _ _ _ N.add
        have hnum := nd_num (k := k) HI.out (by omega)
        have hcv := conv_num (nd (mq i) k) hnum
        have hlow := N.low
        have HNUM := Lib.hid hnum
        have HBd : Hid (∀ nn, Below w1.heap.size w1 (wr.drewN nn)) := Lib.hid fun nn => below_drewN hB.out nn
        rcases Nat.eq_zero_or_pos k with hk0 | hk0
        · subst hk0
          rw [Nat.add_zero] at hcell
          clear hnum hbl N
          obtain ⟨s1, hs1⟩ : ∃ s1, sm (mq i) (0 + 1) = s1 := ⟨_, rfl⟩
          rw [hs1] at hadd
          have HSE := Lib.hid hs1
          clear hs1
          generalize sm (mq i) 0 = s0 at *
          generalize nd (mq i) 0 = x0 at *
          go_wp2_with fail
          go_quiet (fail)
          go_wp2_with fail
          go_roundg (gk - 1)
          case measure => exact HG.out
          case rel => exact ⟨0 + 1, by rw [HSE.out], by go_num, HJ, by omega, HBd.out _⟩
        · obtain ⟨p, hpk⟩ : ∃ p : Nat, (k : Int) - 1 = (p : Int) := ⟨k - 1, by omega⟩
          have hpe : p = k - 1 := by omega
          obtain ⟨b2, o2, he2, _, hcp⟩ := HRW.out.2.2.2 p (by omega)
          cases he2
          rw [ndL_get _ _ _ (by omega)] at hcp
          have hm1 : ∀ w, (binOp .mul 22 (.float .f32 (nd (mq i) k)) (.float .f32 (floatOfInt .f32 (k : Int)))).run Try.prog w = .ok (.float .f32 (kd (mq i) k)) w := fun w => run_float_arith w .mul 22 .f32 _ _ _ N.mul
          have hst := (nd_step (mean_of (m_ok HI.out).2.2 (m_ok HI.out).2.1) p (by omega)).1
          have hm2 : ∀ w, (binOp .mul 22 (.float .f32 (nd (mq i) p)) (.float .f32 (mq i))).run Try.prog w = .ok (.float .f32 (mulM (mq i) (nd (mq i) p))) w := fun w => run_float_arith w .mul 22 .f32 _ _ _ hst
          have hG := gap_of (N.gap hk0)
          rw [← hpe] at hG
          have HGP := Lib.hid hG
          have HSM := Lib.hid hG.small
          have hkp : (0 : Int) < (k : Int) := by omega
          have hpl : p < L := by omega
          clear hnum hbl N hst hG hpe
          have hsm := HSM.out
          have HCALL : Hid (∀ w, Calls Try.prog 33 #[.float .f32 (kd (mq i) k), .float .f32 (mulM (mq i) (nd (mq i) p))] w fun e w' => e = .returned (.float .f64 (maxD (g1 (kd (mq i) k) (mulM (mq i) (nd (mq i) p))) (g1 (mulM (mq i) (nd (mq i) p)) (kd (mq i) k)))) ∧ w = w') := Lib.hid (r8Gap_any _ _ HGP.out HGP.out.na HGP.out.nb)
          clear HGP
          generalize maxD (g1 (kd (mq i) k) (mulM (mq i) (nd (mq i) p))) (g1 (mulM (mq i) (nd (mq i) p)) (kd (mq i) k)) = D at *
          generalize mulM (mq i) (nd (mq i) p) = y2 at *
          generalize kd (mq i) k = y1 at *
          generalize nd (mq i) p = x2 at *
          generalize nd (mq i) k = x1 at *
          obtain ⟨s1, hs1⟩ : ∃ s1, sm (mq i) (k + 1) = s1 := ⟨_, rfl⟩
          rw [hs1] at hadd
          have HSE := Lib.hid hs1
          clear hs1
          generalize sm (mq i) k = s0 at *
          go_wp2_with fail
          go_quiet ((go_at_call 33; exact Calls.quiet_of_same ((HCALL.out _).mono fun e w' ⟨h1, h2⟩ => ⟨h1, h2.symm⟩)))
          go_wp2_with fail
          go_roundg (gk - 1)
          case measure => exact HG.out
          case rel => exact ⟨k + 1, by rw [HSE.out], by go_num, HJ, by omega, HBd.out _⟩
      · obtain rfl : k = L := by have := hk.out; omega
        have hle : ¬ ((k : Int) ≤ (c : Int)) := by have := HL.out; omega
        have hmost := (need (k := c) HI.out HC.out).most
        rw [HL.out] at hmost
        generalize sm (mq i) k = s1 at *
        have W1 := Lib.hid (B1.out.trans (hB.out.mono B1.out.size))
        clear hB hk hlt hkl
        go_wp2_with fail
        refine (r8At_any 42 16 (by omega) (by omega) (by omega) b lb cb ys _ (HB.out.keep W1.out)).mono ?_
        rintro e w2 ⟨j, rfl, hj, rfl⟩
        obtain ⟨q1, q2⟩ := s_ok hj
        have SV := Flt.Sp.serve HI.out hj
        have hq2 : ∀ w, (binOp .quo 22 (.float .f32 (floatOfInt .f32 (j : Int))) (.float .f32 1098907648)).run Try.prog w = .ok (.float .f32 (sq j)) w := fun w => run_float_arith w .quo 22 .f32 _ _ _ q1
        have HFD := Lib.hid SV.found
        have HAT := Lib.hid SV.at_
        have HLS := Lib.hid SV.less
        have henough := SV.enough
        have hlo := SV.lo
        have hhi := SV.hi
        clear SV q1 q2
        go_wp2_with fail
        refine (iSparesFor_any (mq i) (sq j) _ M3.out).mono ?_
        rintro e w3 ⟨rfl, b3⟩
        rw [HFD.out]
        have W3 := Lib.hid (W1.out.trans (b3.mono W1.out.size))
        clear b3 W1
        generalize spK (mq i) (sq j) = K at *
        go_wp2_with fail
        refine (iStandbySurvives_any (mq i) K 1065353216 _).mono ?_
        rintro e w4 ⟨rfl, b4⟩
        rw [HAT.out]
        have W4 := Lib.hid (W3.out.trans (b4.mono W3.out.size))
        clear b4 W3
        generalize stA (mq i) K 1065353216 = AV at *
        by_cases hK : 0 < K
        · obtain ⟨l1, l2⟩ := HLS.out hK
          have HL1 := Lib.hid l1
          unfold gq at l2
          have HL2 := Lib.hid l2
          clear l1 l2
          go_wp2_with fail
          refine (iStandbySurvives_any (mq i) (K - 1) 1065353216 _).mono ?_
          rintro e w5 ⟨rfl, b5⟩
          rw [HL1.out]
          have W5 := Lib.hid (W4.out.trans (b5.mono W4.out.size))
          have l2 := HL2.out
          clear b5 W4
          generalize stA (mq i) (K - 1) 1065353216 = AW at *
          have HO0 : Hid ((w5.alloc (.cells #[] 22)).ownsRow w5.heap.size 22 1 (.slice (some ⟨w5.heap.size, 0, none⟩) 0 0) 0 (fv [])) := Lib.hid (World.ownsRow_made w5 #[] 0 (Nat.le_refl _) (Nat.zero_le _) rfl)
          have HB0 : Hid (Below w5.heap.size w5 (w5.alloc (.cells #[] 22))) := (Below.refl _ _).alloc (Nat.le_refl _) _
          go_wp2_with fail
          go_loopg [18, 19] 5 (fun q v i wr => ∃ (k c3 : Nat) (a3 : Option Addr) (Z : List Nat), v = .slice a3 k c3 ∧ i = .int .i64 k ∧ Hid (k + q = 5) ∧ k ≤ 4 ∧ Hid (Z.length = k) ∧ Hid (∀ z ∈ Z, Depot z) ∧ Hid (wr.ownsRow w5.heap.size 22 1 (.slice a3 k c3) k (fv Z)) ∧ Hid (Below w5.heap.size w5 wr))
          case atStart => exact ⟨0, 0, _, [], rfl, rfl, rfl, by omega, rfl, (by show ∀ z ∈ ([] : List Nat), _; simp), HO0.out, HB0.out⟩
          case round =>
            obtain ⟨k, c3, a3, Z, rfl, rfl, hk, hkl, hZL, hZD, hO, hB⟩ := hrel
            have WR := Lib.hid (W5.out.trans (hB.out.mono W5.out.size))
            go_wp2_with fail
            refine (r8At_any 43 4 (by omega) (by omega) (by omega) b lb cb ys _ (HB.out.keep WR.out)).mono ?_
            rintro e wv ⟨v, rfl, hv, rfl⟩
            by_cases hlt : k < 1 + v
            · have hlz : (k : Int) < 1 + (v : Int) := by omega
              have HJ : Hid (k + 1 + (gk - 1) = 5) := by have := hk.out; show _ = _; omega
              have HG : Hid (gk - 1 < gk) := by have := hk.out; show _ < _; omega
              go_wp2_with fail
              refine (r8At_any k 16 (by omega) (by omega) (by omega) a la ca zs _ (HA.out.keep WR.out)).mono ?_
              rintro e wv ⟨u, rfl, hu, rfl⟩
              have hq3 : ∀ w, (binOp .quo 22 (.float .f32 (floatOfInt .f32 (u : Int))) (.float .f32 1073741824)).run Try.prog w = .ok (.float .f32 (hq u)) w := fun w => run_float_arith w .quo 22 .f32 _ _ _ (h_ok hu).1
              have HD1 : Hid (Depot (hq u)) := ⟨u, hu, rfl⟩
              generalize hq u = x at *
              have HCELL : Hid (∀ (q : Nat) (u : Value), [Value.float .f32 x][q]? = some u → (wr.alloc (.cells #[.float .f32 x] 22)).cell? ((⟨wr.heap.size, 0, none⟩ : Addr).add q) = some u) := Lib.hid (Cm.cell_new1 wr 22 (.float .f32 x))
              have HO1 := Lib.hid (hO.out.alloc (.cells #[.float .f32 x] 22))
              have HB1 := Lib.hid (hB.out.alloc hB.out.size (.cells #[.float .f32 x] 22))
              have HLE : Hid (k + 1 ≤ maxLen ∧ (k + 1) * 4 ≤ 140737488355328) := by show _ ∧ _; unfold maxLen; omega
              clear hO hB
              go_wp2_with (at_builtin; refine wpList_append_own _ rfl _ _ 23 rfl w5.heap.size 22 i0 (.float .f32 0) 1 4 Try.underlying23 hzi hz0 hz1 hz2 rfl (by decide) (.slice a3 k c3) k (fv Z) rfl HO1.out ⟨wr.heap.size, 0, none⟩ 1 1 [.float .f32 x] rfl rfl HCELL.out (by intro u hu; simp at hu; subst hu; rfl) HLE.out.1 HLE.out.2 HB1.out.size ?_)
              intro v' w6 hown' hgrow _
              have HO3 : Hid (w6.ownsRow w5.heap.size 22 1 v' (k + 1) (fv (Z ++ [x]))) := by
                show World.ownsRow _ _ _ _ _ _ _
                rw [Cm.fv_snoc]; exact hown'
              have HB3 : Hid (Below w5.heap.size w5 w6) := Lib.hid (HB1.out.grown hgrow HB1.out.size (fun q hq => (HO1.out.lt q hq).1))
              clear hown' hgrow HO1 HB1 HCELL
              obtain ⟨a5, c5, rfl⟩ := Cm.owns_shape HO3.out
              have HZ2 : Hid ((Z ++ [x]).length = k + 1) := by show _ = _; rw [List.length_append, hZL.out]; rfl
              have HD2 : Hid (∀ z ∈ Z ++ [x], Depot z) := by
                show ∀ z ∈ Z ++ [x], Depot z
                intro z hz
                rcases List.mem_append.1 hz with h | h
                · exact hZD.out z h
                · rw [List.mem_singleton.1 h]; exact HD1.out
              go_wp2_with fail
              go_roundg (gk - 1)
              case measure => exact HG.out
              case rel => exact ⟨k + 1, c5, a5, Z ++ [x], rfl, by go_num, HJ, by omega, HZ2.out, HD2.out, HO3.out, HB3.out⟩
            · have hlz : ¬ ((k : Int) < 1 + (v : Int)) := by omega
              have hk1 : 1 ≤ k := by omega
              have HZR := Lib.hid (Cm.row_owned hO.out hZL.out (by omega) (fun z hz => (hZD.out z hz).lt))
              have HCP := Lib.hid (owned_cap hO.out)
              clear hO hB hk hlt
              go_wp2_with fail
              refine (r8At_any 44 20 (by omega) (by omega) (by omega) b lb cb ys _ (HB.out.keep WR.out)).mono ?_
              rintro e wv ⟨T, rfl, hT, rfl⟩
              obtain ⟨hsb, hsa⟩ := splA_all (Z := Z) (t := T) hZD.out (by rw [hZL.out]; omega) (by omega)
              have HSB := Lib.hid hsb
              have HSA := Lib.hid hsa
              have HSL : Hid ((spl Z T).length = k) := by show _ = _; rw [spl_len, hZL.out]
              have HT := Lib.hid hT
              clear hsb hsa
              go_wp2_with fail
              refine (iSplitSpares_any a3 k c3 Z T _ HZR.out HCP.out).mono ?_
              rintro e wt ⟨⟨a4, c4, rfl, hr4, _⟩, b4⟩
              rw [HSB.out, HSA.out, HSL.out]
              rw [HSA.out, HSL.out] at hr4
              have R4 := Lib.hid hr4
              have R3 := Lib.hid (HZR.out.keep b4)
              have W7 := Lib.hid (WR.out.trans (b4.mono WR.out.size))
              have HGV : Hid (pre (spl Z T) k = (T : Int)) := by show _ = _; rw [← hZL.out]; exact given Z (by rw [hZL.out]; omega) T
              have HPB : Hid (∀ n, n ≤ 8 → 0 ≤ pre (spl Z T) n ∧ pre (spl Z T) n ≤ 20 * n) := Lib.hid (pre_bd Z T (by omega))
              have HVB : Hid (∀ n, 0 ≤ (spl Z T).getD n 0 ∧ (spl Z T).getD n 0 ≤ T) := Lib.hid (spl_bd Z T)
              have HPR : Hid (∀ {j t : Nat}, j < k → t < k → ∀ {v u : Int}, (spl Z T).getD j 0 = v → (spl Z T).getD t 0 = u → u ≠ 0 → ∃ n m : Nat, v = (n : Int) ∧ u - 1 = (m : Int) ∧ Pair (Z.getD j 0) (Z.getD t 0) n m) := Lib.hid fun hj ht _ _ ev eu h0 => pair_ok hZD.out HT.out (by rw [hZL.out]; exact hj) (by rw [hZL.out]; exact ht) ev eu h0
              have HPX : Hid (∀ n, pre (spl Z T) (n + 1) = pre (spl Z T) n + (spl Z T).getD n 0) := Lib.hid fun _ => rfl
              have HP0 : Hid (pre (spl Z T) 0 = 0) := rfl
              clear hr4 b4 HZR HSB HSA
              obtain ⟨V, hV⟩ : ∃ V, spl Z T = V := ⟨_, rfl⟩
              rw [hV] at R4 HGV HPB HVB HPR HPX HP0
              clear hV HSL
              go_wp2_with fail
              go_loopg [23, 24] k (fun q al i wr => ∃ j : Nat, al = .int .i64 (pre V j) ∧ i = .int .i64 j ∧ Hid (j + q = k) ∧ j ≤ k ∧ Hid (Below wt.heap.size wt wr))
              case atStart => exact ⟨0, by rw [HP0.out], rfl, by show _ = _; omega, Nat.zero_le _, Below.refl _ _⟩
              case round =>
                obtain ⟨j, rfl, rfl, hj, hjl, hB⟩ := hrel
                by_cases hlt : j < k
                · have HJ : Hid (j + 1 + (gk - 1) = k) := by have := hj.out; show _ = _; omega
                  have HG : Hid (gk - 1 < gk) := by have := hj.out; show _ < _; omega
                  obtain ⟨bv, ov, rfl, hbv, hcv⟩ := (R4.out.keep hB.out).2.2.2 j hlt
                  obtain ⟨hp1, hp2⟩ := HPB.out j (by omega)
                  obtain ⟨hv1, hv2⟩ := HVB.out j
                  have HPE := Lib.hid (HPX.out j)
                  obtain ⟨pj, hpj⟩ : ∃ pj, pre V j = pj := ⟨_, rfl⟩
                  obtain ⟨vj, hvj⟩ : ∃ vj, V.getD j 0 = vj := ⟨_, rfl⟩
                  rw [hpj] at hp1 hp2 HPE
                  rw [hvj] at hcv hv1 hv2 HPE
                  rw [hpj]
                  have HVJ := Lib.hid hvj
                  have hnn : ¬ (vj < 0) := by omega
                  have hp3 : pj ≤ 80 := by omega
                  have hv3 : vj ≤ 20 := by omega
                  clear hpj hvj hp2 hv2
                  have WJ := Lib.hid (W7.out.trans (hB.out.mono W7.out.size))
                  obtain ⟨gq, hgq⟩ : ∃ g, gk - 1 = g := ⟨_, rfl⟩
                  rw [hgq] at HJ HG
                  clear hgq
                  generalize wr = wo at *
                  go_wp2_with fail
                  go_loopg [25] k (fun q jj wi => ∃ t : Nat, jj = .int .i64 t ∧ Hid (t + q = k) ∧ t ≤ k ∧ Hid (Below wo.heap.size wo wi))
                  case atStart => exact ⟨0, rfl, by show _ = _; omega, Nat.zero_le _, Below.refl _ _⟩
                  case round =>
                    obtain ⟨t, rfl, ht, htk, hI⟩ := hrel
                    by_cases htl : t < k
                    · have HJ2 : Hid (t + 1 + (gk - 1) = k) := by have := ht.out; show _ = _; omega
                      have HG2 : Hid (gk - 1 < gk) := by have := ht.out; show _ < _; omega
                      have HBT := Lib.hid (hB.out.trans (hI.out.mono hB.out.size))
                      obtain ⟨_, _, he, hbv2, hct⟩ := (R4.out.keep HBT.out).2.2.2 t htl
                      cases he
                      obtain ⟨_, _, he, _, hcj⟩ := (R4.out.keep HBT.out).2.2.2 j hlt
                      cases he
                      obtain ⟨bz, oz, rfl, hbz, hzj⟩ := (R3.out.keep HBT.out).2.2.2 j hlt
                      obtain ⟨_, _, he, _, hzt⟩ := (R3.out.keep HBT.out).2.2.2 t htl
                      cases he
                      rw [HVJ.out] at hcj
                      by_cases hu0 : V.getD t 0 = 0
                      · rw [hu0] at hct
                        clear hcj hzj hzt
                        go_wp2_with fail
                        go_roundg (gk - 1)
                        case measure => exact HG2.out
                        case rel => exact ⟨t + 1, by go_num, HJ2, by omega, hI.out⟩
                      · obtain ⟨n, m, rfl, hum, PR⟩ := HPR.out hlt htl HVJ.out rfl hu0
                        have hune : ¬ (V.getD t 0 = 0) := hu0
                        have HC1 : Hid (∀ w, Calls Try.prog 18 #[.float .f32 (Z.getD j 0), .int .i64 (n : Int), .float .f32 1065353216] w fun e w' => e = .returned (.tuple #[.float .f32 (srv (Z.getD j 0) (n + 1)), .bool true]) ∧ Below w.heap.size w w') := Lib.hid fun w => (iStandbySurvives_any (Z.getD j 0) n 1065353216 w).mono fun e w' h => by rw [PR.b1, PR.a1] at h; exact h
                        have HC2 : Hid (∀ w, Calls Try.prog 18 #[.float .f32 (Z.getD t 0), .int .i64 (V.getD t 0 - 1), .float .f32 1065353216] w fun e w' => e = .returned (.tuple #[.float .f32 (srv (Z.getD t 0) (m + 1)), .bool true]) ∧ Below w.heap.size w w') := Lib.hid fun w => (iStandbySurvives_any (Z.getD t 0) (V.getD t 0 - 1) 1065353216 w).mono fun e w' h => by rw [hum, PR.b2, PR.a2] at h; exact h
                        have hu1 : 1 ≤ V.getD t 0 := by omega
                        have hu2 : V.getD t 0 ≤ 20 := by have := (HVB.out t).2; have := HT.out; omega
                        have hwp : IntKind.i64.wrap (V.getD t 0 - 1) = V.getD t 0 - 1 := by rw [IntKind.wrap_i64]; omega
                        have hless := PR.less
                        clear hum
                        have hr1 : ∀ w, (binOp .sub 22 (.float .f32 1065353216) (.float .f32 (srv (Z.getD j 0) (n + 1)))).run Try.prog w = .ok (.float .f32 (lack (Z.getD j 0) (n + 1))) w := fun w => run_float_arith w .sub 22 .f32 _ _ _ PR.l1
                        have hr2 : ∀ w, (binOp .sub 22 (.float .f32 1065353216) (.float .f32 (srv (Z.getD t 0) (m + 1)))).run Try.prog w = .ok (.float .f32 (lack (Z.getD t 0) (m + 1))) w := fun w => run_float_arith w .sub 22 .f32 _ _ _ PR.l2
                        generalize V.getD t 0 = u at *
                        generalize Z.getD j 0 = z at *
                        generalize Z.getD t 0 = y at *
                        clear PR hu0
                        have HBZ := Lib.hid hbz
                        have HBV := Lib.hid hbv2
                        have S0 : Hid (wr.drew.cell? ⟨bz, oz + j, none⟩ = some (.float .f32 z) ∧ wr.drew.cell? ⟨bv, ov + j, none⟩ = some (.int .i64 (n : Int)) ∧ wr.drew.cell? ⟨bz, oz + t, none⟩ = some (.float .f32 y) ∧ wr.drew.cell? ⟨bv, ov + t, none⟩ = some (.int .i64 u)) := ⟨hzj, hcj, hzt, hct⟩
                        have D0 : Hid (Below wr.drew.heap.size wr.drew wr.drew) := Below.refl _ _
                        have I0 : Hid (Below wo.heap.size wo wr.drew) := hI.out.drew
                        clear hzj hcj hzt
                        go_wp2_with fail
                        go_region_held3 (fun W => W.cell? ⟨bz, oz + j, none⟩ = some (.float .f32 z) ∧ W.cell? ⟨bv, ov + j, none⟩ = some (.int .i64 (n : Int)))
                          (first | exact ⟨S0.out.1, S0.out.2.1⟩ | exact ⟨S2.out.1, S2.out.2.1⟩)
                          ((go_at_call 18; refine (HC1.out _).mono ?_; rintro e w2 ⟨rfl, b2⟩; have I2 := Lib.hid (I0.out.trans (b2.mono I0.out.size)); have S2 : Hid (w2.cell? ⟨bz, oz + j, none⟩ = some (.float .f32 z) ∧ w2.cell? ⟨bv, ov + j, none⟩ = some (.int .i64 (n : Int)) ∧ w2.cell? ⟨bz, oz + t, none⟩ = some (.float .f32 y) ∧ w2.cell? ⟨bv, ov + t, none⟩ = some (.int .i64 u)) := ⟨(b2.cell (p := ⟨bz, oz + j, none⟩) HBZ.out).trans S0.out.1, (b2.cell (p := ⟨bv, ov + j, none⟩) HBV.out).trans S0.out.2.1, (b2.cell (p := ⟨bz, oz + t, none⟩) HBZ.out).trans S0.out.2.2.1, (b2.cell (p := ⟨bv, ov + t, none⟩) HBV.out).trans S0.out.2.2.2⟩; clear b2))
                        go_wp2_with fail
                        have S3 : Hid (w2.drew.cell? ⟨bz, oz + t, none⟩ = some (.float .f32 y) ∧ w2.drew.cell? ⟨bv, ov + t, none⟩ = some (.int .i64 u)) := ⟨S2.out.2.2.1, S2.out.2.2.2⟩
                        have HBZ2 : Hid (bz < w2.drew.heap.size ∧ bv < w2.drew.heap.size) := bounds (w := w2.drew) S3.out.1 S3.out.2
                        have I3 : Hid (Below wo.heap.size wo w2.drew) := I2.out.drew
                        go_region_held3 (fun W => W.cell? ⟨bz, oz + t, none⟩ = some (.float .f32 y) ∧ W.cell? ⟨bv, ov + t, none⟩ = some (.int .i64 u))
                          (first | exact S3.out | exact S4.out)
                          ((go_at_call 18; refine (HC2.out _).mono ?_; rintro e w3 ⟨rfl, b3⟩; have I4 := Lib.hid (I3.out.trans (b3.mono I3.out.size)); have S4 : Hid (w3.cell? ⟨bz, oz + t, none⟩ = some (.float .f32 y) ∧ w3.cell? ⟨bv, ov + t, none⟩ = some (.int .i64 u)) := ⟨(b3.cell (p := ⟨bz, oz + t, none⟩) HBZ2.out.1).trans S3.out.1, (b3.cell (p := ⟨bv, ov + t, none⟩) HBZ2.out.2).trans S3.out.2⟩; clear b3))
                        go_wp2_with fail
                        go_roundg (gk - 1)
                        case measure => exact HG2.out
                        case rel => exact ⟨t + 1, by go_num, HJ2, by omega, I4.out⟩
                    · obtain rfl : t = k := by have := ht.out; omega
                      have HB2 := Lib.hid (hB.out.trans (hI.out.mono hB.out.size))
                      clear htl
                      go_wp2_with fail
                      go_roundg gq
                      case measure => exact HG.out
                      case rel => exact ⟨j + 1, by rw [HPE.out], by go_num, HJ, by omega, HB2.out⟩
                · obtain rfl : j = k := by have := hj.out; omega
                  have W8 := Lib.hid (W7.out.trans (hB.out.mono W7.out.size))
                  rw [HGV.out]
                  clear hlt
                  go_wp2_with fail
                  go_ret
                  exact ⟨by simp, W8.out⟩
        · have hK0 : K = 0 := by omega
          subst hK0
          have HO0 : Hid ((w4.alloc (.cells #[] 22)).ownsRow w4.heap.size 22 1 (.slice (some ⟨w4.heap.size, 0, none⟩) 0 0) 0 (fv [])) := Lib.hid (World.ownsRow_made w4 #[] 0 (Nat.le_refl _) (Nat.zero_le _) rfl)
          have HB0 : Hid (Below w4.heap.size w4 (w4.alloc (.cells #[] 22))) := (Below.refl _ _).alloc (Nat.le_refl _) _
          go_wp2_with fail
          go_loopg [18, 19] 5 (fun q v i wr => ∃ (k c3 : Nat) (a3 : Option Addr) (Z : List Nat), v = .slice a3 k c3 ∧ i = .int .i64 k ∧ Hid (k + q = 5) ∧ k ≤ 4 ∧ Hid (Z.length = k) ∧ Hid (∀ z ∈ Z, Depot z) ∧ Hid (wr.ownsRow w4.heap.size 22 1 (.slice a3 k c3) k (fv Z)) ∧ Hid (Below w4.heap.size w4 wr))
          case atStart => exact ⟨0, 0, _, [], rfl, rfl, rfl, by omega, rfl, (by show ∀ z ∈ ([] : List Nat), _; simp), HO0.out, HB0.out⟩
          case round =>
            obtain ⟨k, c3, a3, Z, rfl, rfl, hk, hkl, hZL, hZD, hO, hB⟩ := hrel
            have WR := Lib.hid (W4.out.trans (hB.out.mono W4.out.size))
            go_wp2_with fail
            refine (r8At_any 43 4 (by omega) (by omega) (by omega) b lb cb ys _ (HB.out.keep WR.out)).mono ?_
            rintro e wv ⟨v, rfl, hv, rfl⟩
            by_cases hlt : k < 1 + v
            · have hlz : (k : Int) < 1 + (v : Int) := by omega
              have HJ : Hid (k + 1 + (gk - 1) = 5) := by have := hk.out; show _ = _; omega
              have HG : Hid (gk - 1 < gk) := by have := hk.out; show _ < _; omega
              go_wp2_with fail
              refine (r8At_any k 16 (by omega) (by omega) (by omega) a la ca zs _ (HA.out.keep WR.out)).mono ?_
              rintro e wv ⟨u, rfl, hu, rfl⟩
              have hq3 : ∀ w, (binOp .quo 22 (.float .f32 (floatOfInt .f32 (u : Int))) (.float .f32 1073741824)).run Try.prog w = .ok (.float .f32 (hq u)) w := fun w => run_float_arith w .quo 22 .f32 _ _ _ (h_ok hu).1
              have HD1 : Hid (Depot (hq u)) := ⟨u, hu, rfl⟩
              generalize hq u = x at *
              have HCELL : Hid (∀ (q : Nat) (u : Value), [Value.float .f32 x][q]? = some u → (wr.alloc (.cells #[.float .f32 x] 22)).cell? ((⟨wr.heap.size, 0, none⟩ : Addr).add q) = some u) := Lib.hid (Cm.cell_new1 wr 22 (.float .f32 x))
              have HO1 := Lib.hid (hO.out.alloc (.cells #[.float .f32 x] 22))
              have HB1 := Lib.hid (hB.out.alloc hB.out.size (.cells #[.float .f32 x] 22))
              have HLE : Hid (k + 1 ≤ maxLen ∧ (k + 1) * 4 ≤ 140737488355328) := by show _ ∧ _; unfold maxLen; omega
              clear hO hB
              go_wp2_with (at_builtin; refine wpList_append_own _ rfl _ _ 23 rfl w4.heap.size 22 i0 (.float .f32 0) 1 4 Try.underlying23 hzi hz0 hz1 hz2 rfl (by decide) (.slice a3 k c3) k (fv Z) rfl HO1.out ⟨wr.heap.size, 0, none⟩ 1 1 [.float .f32 x] rfl rfl HCELL.out (by intro u hu; simp at hu; subst hu; rfl) HLE.out.1 HLE.out.2 HB1.out.size ?_)
              intro v' w6 hown' hgrow _
              have HO3 : Hid (w6.ownsRow w4.heap.size 22 1 v' (k + 1) (fv (Z ++ [x]))) := by
                show World.ownsRow _ _ _ _ _ _ _
                rw [Cm.fv_snoc]; exact hown'
              have HB3 : Hid (Below w4.heap.size w4 w6) := Lib.hid (HB1.out.grown hgrow HB1.out.size (fun q hq => (HO1.out.lt q hq).1))
              clear hown' hgrow HO1 HB1 HCELL
              obtain ⟨a5, c5, rfl⟩ := Cm.owns_shape HO3.out
              have HZ2 : Hid ((Z ++ [x]).length = k + 1) := by show _ = _; rw [List.length_append, hZL.out]; rfl
              have HD2 : Hid (∀ z ∈ Z ++ [x], Depot z) := by
                show ∀ z ∈ Z ++ [x], Depot z
                intro z hz
                rcases List.mem_append.1 hz with h | h
                · exact hZD.out z h
                · rw [List.mem_singleton.1 h]; exact HD1.out
              go_wp2_with fail
              go_roundg (gk - 1)
              case measure => exact HG.out
              case rel => exact ⟨k + 1, c5, a5, Z ++ [x], rfl, by go_num, HJ, by omega, HZ2.out, HD2.out, HO3.out, HB3.out⟩
            · have hlz : ¬ ((k : Int) < 1 + (v : Int)) := by omega
              have hk1 : 1 ≤ k := by omega
              have HZR := Lib.hid (Cm.row_owned hO.out hZL.out (by omega) (fun z hz => (hZD.out z hz).lt))
              have HCP := Lib.hid (owned_cap hO.out)
              clear hO hB hk hlt
              go_wp2_with fail
              refine (r8At_any 44 20 (by omega) (by omega) (by omega) b lb cb ys _ (HB.out.keep WR.out)).mono ?_
              rintro e wv ⟨T, rfl, hT, rfl⟩
              obtain ⟨hsb, hsa⟩ := splA_all (Z := Z) (t := T) hZD.out (by rw [hZL.out]; omega) (by omega)
              have HSB := Lib.hid hsb
              have HSA := Lib.hid hsa
              have HSL : Hid ((spl Z T).length = k) := by show _ = _; rw [spl_len, hZL.out]
              have HT := Lib.hid hT
              clear hsb hsa
              go_wp2_with fail
              refine (iSplitSpares_any a3 k c3 Z T _ HZR.out HCP.out).mono ?_
              rintro e wt ⟨⟨a4, c4, rfl, hr4, _⟩, b4⟩
              rw [HSB.out, HSA.out, HSL.out]
              rw [HSA.out, HSL.out] at hr4
              have R4 := Lib.hid hr4
              have R3 := Lib.hid (HZR.out.keep b4)
              have W7 := Lib.hid (WR.out.trans (b4.mono WR.out.size))
              have HGV : Hid (pre (spl Z T) k = (T : Int)) := by show _ = _; rw [← hZL.out]; exact given Z (by rw [hZL.out]; omega) T
              have HPB : Hid (∀ n, n ≤ 8 → 0 ≤ pre (spl Z T) n ∧ pre (spl Z T) n ≤ 20 * n) := Lib.hid (pre_bd Z T (by omega))
              have HVB : Hid (∀ n, 0 ≤ (spl Z T).getD n 0 ∧ (spl Z T).getD n 0 ≤ T) := Lib.hid (spl_bd Z T)
              have HPR : Hid (∀ {j t : Nat}, j < k → t < k → ∀ {v u : Int}, (spl Z T).getD j 0 = v → (spl Z T).getD t 0 = u → u ≠ 0 → ∃ n m : Nat, v = (n : Int) ∧ u - 1 = (m : Int) ∧ Pair (Z.getD j 0) (Z.getD t 0) n m) := Lib.hid fun hj ht _ _ ev eu h0 => pair_ok hZD.out HT.out (by rw [hZL.out]; exact hj) (by rw [hZL.out]; exact ht) ev eu h0
              have HPX : Hid (∀ n, pre (spl Z T) (n + 1) = pre (spl Z T) n + (spl Z T).getD n 0) := Lib.hid fun _ => rfl
              have HP0 : Hid (pre (spl Z T) 0 = 0) := rfl
              clear hr4 b4 HZR HSB HSA
              obtain ⟨V, hV⟩ : ∃ V, spl Z T = V := ⟨_, rfl⟩
              rw [hV] at R4 HGV HPB HVB HPR HPX HP0
              clear hV HSL
              go_wp2_with fail
              go_loopg [23, 24] k (fun q al i wr => ∃ j : Nat, al = .int .i64 (pre V j) ∧ i = .int .i64 j ∧ Hid (j + q = k) ∧ j ≤ k ∧ Hid (Below wt.heap.size wt wr))
              case atStart => exact ⟨0, by rw [HP0.out], rfl, by show _ = _; omega, Nat.zero_le _, Below.refl _ _⟩
              case round =>
                obtain ⟨j, rfl, rfl, hj, hjl, hB⟩ := hrel
                by_cases hlt : j < k
                · have HJ : Hid (j + 1 + (gk - 1) = k) := by have := hj.out; show _ = _; omega
                  have HG : Hid (gk - 1 < gk) := by have := hj.out; show _ < _; omega
                  obtain ⟨bv, ov, rfl, hbv, hcv⟩ := (R4.out.keep hB.out).2.2.2 j hlt
                  obtain ⟨hp1, hp2⟩ := HPB.out j (by omega)
                  obtain ⟨hv1, hv2⟩ := HVB.out j
                  have HPE := Lib.hid (HPX.out j)
                  obtain ⟨pj, hpj⟩ : ∃ pj, pre V j = pj := ⟨_, rfl⟩
                  obtain ⟨vj, hvj⟩ : ∃ vj, V.getD j 0 = vj := ⟨_, rfl⟩
                  rw [hpj] at hp1 hp2 HPE
                  rw [hvj] at hcv hv1 hv2 HPE
                  rw [hpj]
                  have HVJ := Lib.hid hvj
                  have hnn : ¬ (vj < 0) := by omega
                  have hp3 : pj ≤ 80 := by omega
                  have hv3 : vj ≤ 20 := by omega
                  clear hpj hvj hp2 hv2
                  have WJ := Lib.hid (W7.out.trans (hB.out.mono W7.out.size))
                  obtain ⟨gq, hgq⟩ : ∃ g, gk - 1 = g := ⟨_, rfl⟩
                  rw [hgq] at HJ HG
                  clear hgq
                  generalize wr = wo at *
                  go_wp2_with fail
                  go_loopg [25] k (fun q jj wi => ∃ t : Nat, jj = .int .i64 t ∧ Hid (t + q = k) ∧ t ≤ k ∧ Hid (Below wo.heap.size wo wi))
                  case atStart => exact ⟨0, rfl, by show _ = _; omega, Nat.zero_le _, Below.refl _ _⟩
                  case round =>
                    obtain ⟨t, rfl, ht, htk, hI⟩ := hrel
                    by_cases htl : t < k
                    · have HJ2 : Hid (t + 1 + (gk - 1) = k) := by have := ht.out; show _ = _; omega
                      have HG2 : Hid (gk - 1 < gk) := by have := ht.out; show _ < _; omega
                      have HBT := Lib.hid (hB.out.trans (hI.out.mono hB.out.size))
                      obtain ⟨_, _, he, hbv2, hct⟩ := (R4.out.keep HBT.out).2.2.2 t htl
                      cases he
                      obtain ⟨_, _, he, _, hcj⟩ := (R4.out.keep HBT.out).2.2.2 j hlt
                      cases he
                      obtain ⟨bz, oz, rfl, hbz, hzj⟩ := (R3.out.keep HBT.out).2.2.2 j hlt
                      obtain ⟨_, _, he, _, hzt⟩ := (R3.out.keep HBT.out).2.2.2 t htl
                      cases he
                      rw [HVJ.out] at hcj
                      by_cases hu0 : V.getD t 0 = 0
                      · rw [hu0] at hct
                        clear hcj hzj hzt
                        go_wp2_with fail
                        go_roundg (gk - 1)
                        case measure => exact HG2.out
                        case rel => exact ⟨t + 1, by go_num, HJ2, by omega, hI.out⟩
                      · obtain ⟨n, m, rfl, hum, PR⟩ := HPR.out hlt htl HVJ.out rfl hu0
                        have hune : ¬ (V.getD t 0 = 0) := hu0
                        have HC1 : Hid (∀ w, Calls Try.prog 18 #[.float .f32 (Z.getD j 0), .int .i64 (n : Int), .float .f32 1065353216] w fun e w' => e = .returned (.tuple #[.float .f32 (srv (Z.getD j 0) (n + 1)), .bool true]) ∧ Below w.heap.size w w') := Lib.hid fun w => (iStandbySurvives_any (Z.getD j 0) n 1065353216 w).mono fun e w' h => by rw [PR.b1, PR.a1] at h; exact h
                        have HC2 : Hid (∀ w, Calls Try.prog 18 #[.float .f32 (Z.getD t 0), .int .i64 (V.getD t 0 - 1), .float .f32 1065353216] w fun e w' => e = .returned (.tuple #[.float .f32 (srv (Z.getD t 0) (m + 1)), .bool true]) ∧ Below w.heap.size w w') := Lib.hid fun w => (iStandbySurvives_any (Z.getD t 0) (V.getD t 0 - 1) 1065353216 w).mono fun e w' h => by rw [hum, PR.b2, PR.a2] at h; exact h
                        have hu1 : 1 ≤ V.getD t 0 := by omega
                        have hu2 : V.getD t 0 ≤ 20 := by have := (HVB.out t).2; have := HT.out; omega
                        have hwp : IntKind.i64.wrap (V.getD t 0 - 1) = V.getD t 0 - 1 := by rw [IntKind.wrap_i64]; omega
                        have hless := PR.less
                        clear hum
                        have hr1 : ∀ w, (binOp .sub 22 (.float .f32 1065353216) (.float .f32 (srv (Z.getD j 0) (n + 1)))).run Try.prog w = .ok (.float .f32 (lack (Z.getD j 0) (n + 1))) w := fun w => run_float_arith w .sub 22 .f32 _ _ _ PR.l1
                        have hr2 : ∀ w, (binOp .sub 22 (.float .f32 1065353216) (.float .f32 (srv (Z.getD t 0) (m + 1)))).run Try.prog w = .ok (.float .f32 (lack (Z.getD t 0) (m + 1))) w := fun w => run_float_arith w .sub 22 .f32 _ _ _ PR.l2
                        generalize V.getD t 0 = u at *
                        generalize Z.getD j 0 = z at *
                        generalize Z.getD t 0 = y at *
                        clear PR hu0
                        have HBZ := Lib.hid hbz
                        have HBV := Lib.hid hbv2
                        have S0 : Hid (wr.drew.cell? ⟨bz, oz + j, none⟩ = some (.float .f32 z) ∧ wr.drew.cell? ⟨bv, ov + j, none⟩ = some (.int .i64 (n : Int)) ∧ wr.drew.cell? ⟨bz, oz + t, none⟩ = some (.float .f32 y) ∧ wr.drew.cell? ⟨bv, ov + t, none⟩ = some (.int .i64 u)) := ⟨hzj, hcj, hzt, hct⟩
                        have D0 : Hid (Below wr.drew.heap.size wr.drew wr.drew) := Below.refl _ _
                        have I0 : Hid (Below wo.heap.size wo wr.drew) := hI.out.drew
                        clear hzj hcj hzt
                        go_wp2_with fail
                        go_region_held3 (fun W => W.cell? ⟨bz, oz + j, none⟩ = some (.float .f32 z) ∧ W.cell? ⟨bv, ov + j, none⟩ = some (.int .i64 (n : Int)))
                          (first | exact ⟨S0.out.1, S0.out.2.1⟩ | exact ⟨S2.out.1, S2.out.2.1⟩)
                          ((go_at_call 18; refine (HC1.out _).mono ?_; rintro e w2 ⟨rfl, b2⟩; have I2 := Lib.hid (I0.out.trans (b2.mono I0.out.size)); have S2 : Hid (w2.cell? ⟨bz, oz + j, none⟩ = some (.float .f32 z) ∧ w2.cell? ⟨bv, ov + j, none⟩ = some (.int .i64 (n : Int)) ∧ w2.cell? ⟨bz, oz + t, none⟩ = some (.float .f32 y) ∧ w2.cell? ⟨bv, ov + t, none⟩ = some (.int .i64 u)) := ⟨(b2.cell (p := ⟨bz, oz + j, none⟩) HBZ.out).trans S0.out.1, (b2.cell (p := ⟨bv, ov + j, none⟩) HBV.out).trans S0.out.2.1, (b2.cell (p := ⟨bz, oz + t, none⟩) HBZ.out).trans S0.out.2.2.1, (b2.cell (p := ⟨bv, ov + t, none⟩) HBV.out).trans S0.out.2.2.2⟩; clear b2))
                        go_wp2_with fail
                        have S3 : Hid (w2.drew.cell? ⟨bz, oz + t, none⟩ = some (.float .f32 y) ∧ w2.drew.cell? ⟨bv, ov + t, none⟩ = some (.int .i64 u)) := ⟨S2.out.2.2.1, S2.out.2.2.2⟩
                        have HBZ2 : Hid (bz < w2.drew.heap.size ∧ bv < w2.drew.heap.size) := bounds (w := w2.drew) S3.out.1 S3.out.2
                        have I3 : Hid (Below wo.heap.size wo w2.drew) := I2.out.drew
                        go_region_held3 (fun W => W.cell? ⟨bz, oz + t, none⟩ = some (.float .f32 y) ∧ W.cell? ⟨bv, ov + t, none⟩ = some (.int .i64 u))
                          (first | exact S3.out | exact S4.out)
                          ((go_at_call 18; refine (HC2.out _).mono ?_; rintro e w3 ⟨rfl, b3⟩; have I4 := Lib.hid (I3.out.trans (b3.mono I3.out.size)); have S4 : Hid (w3.cell? ⟨bz, oz + t, none⟩ = some (.float .f32 y) ∧ w3.cell? ⟨bv, ov + t, none⟩ = some (.int .i64 u)) := ⟨(b3.cell (p := ⟨bz, oz + t, none⟩) HBZ2.out.1).trans S3.out.1, (b3.cell (p := ⟨bv, ov + t, none⟩) HBZ2.out.2).trans S3.out.2⟩; clear b3))
                        go_wp2_with fail
                        go_roundg (gk - 1)
                        case measure => exact HG2.out
                        case rel => exact ⟨t + 1, by go_num, HJ2, by omega, I4.out⟩
                    · obtain rfl : t = k := by have := ht.out; omega
                      have HB2 := Lib.hid (hB.out.trans (hI.out.mono hB.out.size))
                      clear htl
                      go_wp2_with fail
                      go_roundg gq
                      case measure => exact HG.out
                      case rel => exact ⟨j + 1, by rw [HPE.out], by go_num, HJ, by omega, HB2.out⟩
                · obtain rfl : j = k := by have := hj.out; omega
                  have W8 := Lib.hid (W7.out.trans (hB.out.mono W7.out.size))
                  rw [HGV.out]
                  clear hlt
                  go_wp2_with fail
                  go_ret
                  exact ⟨by simp, W8.out⟩
  · have hl : Hid ((decide (48 < la) || decide (48 < lb)) = true) := by
      show _ = _
      simp only [Bool.or_eq_true, decide_eq_true_eq]
      omega
    clear h12
    go_enter Try.func9, Try.ntmps9
    go_wp2_with fail
    refine (r8Long_any a b la lb ca cb hma hmb _).mono ?_
    rintro e w1 ⟨rfl, rfl⟩
    rw [hl.out]
    go_wp2_with fail
    go_ret
    exact ⟨rfl, Below.refl _ _⟩
end Go.Proofs.Ytiebbmgehhcdmaa
