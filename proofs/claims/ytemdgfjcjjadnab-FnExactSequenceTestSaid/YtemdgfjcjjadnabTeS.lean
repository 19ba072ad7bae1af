/-
  How a test of parts ends: numbers, and the model's contract. Conditions: the list reads as a list of true and false; numbers are words.
-/
import Derived.Test.YtemdgfjcjjadnabSqA
import Derived.Test.YtemdgfjcjjadnabBoW
namespace Te
open Go Flt F32 Cm We Sq
theorem cmp_num {z y : Nat} {r : Ordering} (h : (FloatKind.f32.format.order z y == some r) = true) : nan .f32 z = false ∧ nan .f32 y = false := by
  constructor
  · cases hn : nan .f32 z with
    | false => rfl
    | true => rw [order_nan .f32 z y (.inl hn)] at h; simp at h
  · cases hn : nan .f32 y with
    | false => rfl
    | true => rw [order_nan .f32 z y (.inr hn)] at h; simp at h
end Te
namespace Go.Proofs.Ytemdgfjcjjadnab
open Go.RowKit Flt Dec Cm We F32 Sq Te
def st0 (lo hi : Nat) : Bool := gt0 lo && ((FloatKind.f32.format.order lo hi == some .lt) && (FloatKind.f32.format.order hi 1065353216 == some .lt))
theorem st0_num {lo hi : Nat} (h : st0 lo hi = true) : nan .f32 lo = false ∧ nan .f32 hi = false := by
  unfold st0 at h
  simp only [Bool.and_eq_true] at h
  exact cmp_num h.2.1
def teU (lo hi : Nat) : Option Nat := lgO (F32.opO .quo (some hi) (some lo))
def teD (lo hi : Nat) : Option Nat := lgO (F32.opO .quo (F32.opO .sub (some 1065353216) (some hi)) (F32.opO .sub (some 1065353216) (some lo)))
def teS (G : List Bool) (lo hi : Nat) : Nat → Option Nat
  | 0 => some 0
  | k + 1 => F32.opO .add (teS G lo hi k) (if G.getD k false then teD lo hi else teU lo hi)
def leO (o p : Option Nat) : Bool := cmpO .lt o p || cmpO .eq o p
def geO (o p : Option Nat) : Bool := cmpO .gt o p || cmpO .eq o p
def teR (G : List Bool) (lo hi al be : Nat) : Nat → Nat → Int × Int
  | 0, k => (0, (k : Int))
  | m + 1, k => if leO (teS G lo hi (k + 1)) (sqL al be) then (-1, (k : Int) + 1) else if geO (teS G lo hi (k + 1)) (sqH al be) then (1, (k : Int) + 1) else teR G lo hi al be m (k + 1)
def te0 (G : List Bool) (lo hi al be : Nat) : Bool := st0 lo hi && (sqB al be && decide (G.length ≤ 256))
def teV (G : List Bool) (lo hi al be : Nat) : Int × Int := if te0 G lo hi al be then teR G lo hi al be G.length 0 else (0, 0)
theorem te_no {G : List Bool} {lo hi al be : Nat} (h : te0 G lo hi al be = false) : teV G lo hi al be = (0, 0) := by unfold teV; rw [h]; rfl
theorem te_st {G : List Bool} {lo hi al be : Nat} (h : st0 lo hi = false) : te0 G lo hi al be = false := by unfold te0; rw [h]; rfl
theorem te_b {G : List Bool} {lo hi al be : Nat} (h : sqB al be = false) : te0 G lo hi al be = false := by unfold te0; rw [h]; simp
theorem te_l {G : List Bool} {lo hi al be : Nat} (h : ¬ G.length ≤ 256) : te0 G lo hi al be = false := by unfold te0; rw [decide_eq_false h]; simp
theorem te_yes {G : List Bool} {lo hi al be : Nat} (h1 : st0 lo hi = true) (h2 : sqB al be = true) (h3 : G.length ≤ 256) : te0 G lo hi al be = true := by unfold te0; rw [h1, h2, decide_eq_true h3]; rfl
theorem te_is {G : List Bool} {lo hi al be : Nat} (h : te0 G lo hi al be = true) : teV G lo hi al be = teR G lo hi al be G.length 0 := by unfold teV; rw [h]; rfl
theorem teR_low {G : List Bool} {lo hi al be m k : Nat} (h : leO (teS G lo hi (k + 1)) (sqL al be) = true) : teR G lo hi al be (m + 1) k = (-1, (k : Int) + 1) := by unfold teR; rw [if_pos h]
theorem teR_high {G : List Bool} {lo hi al be m k : Nat} (h : leO (teS G lo hi (k + 1)) (sqL al be) = false) (g : geO (teS G lo hi (k + 1)) (sqH al be) = true) : teR G lo hi al be (m + 1) k = (1, (k : Int) + 1) := by
  unfold teR; rw [if_neg (by rw [h]; decide), if_pos g]
theorem teR_on {G : List Bool} {lo hi al be m k : Nat} (h : leO (teS G lo hi (k + 1)) (sqL al be) = false) (g : geO (teS G lo hi (k + 1)) (sqH al be) = false) : teR G lo hi al be (m + 1) k = teR G lo hi al be m (k + 1) := by
  show (if _ then _ else if _ then _ else _) = _
  rw [if_neg (by rw [h]; decide), if_neg (by rw [g]; decide)]
set_option maxHeartbeats 1600000 in
theorem c_Test (lo hi al be : Nat) (w : World) (hal : al < 4294967296) (hbe : be < 4294967296) :
    Calls Try.prog 64 #[.float .f32 lo, .float .f32 hi, .float .f32 al, .float .f32 be] w fun e w' => e = .returned (.bool (st0 lo hi && sqB al be)) ∧ Drawn w w' := by
  cases h1 : gt0 lo with
  | false =>
    have HR : Hid ((st0 lo hi && sqB al be) = false) := by show _ = _; unfold st0; rw [h1]; rfl
    rw [HR.out]
    unfold gt0 at h1
    go_enter Try.func64, Try.ntmps64
    go_wp2_with fail
    go_ret
    exact ⟨rfl, Drawn.refl _⟩
  | true =>
    cases h2 : (FloatKind.f32.format.order lo hi == some .lt) with
    | false =>
      have HR : Hid ((st0 lo hi && sqB al be) = false) := by show _ = _; unfold st0; rw [h2]; simp
      rw [HR.out]
      unfold gt0 at h1
      go_enter Try.func64, Try.ntmps64
      go_wp2_with fail
      go_ret
      exact ⟨rfl, Drawn.refl _⟩
    | true =>
      cases h3 : (FloatKind.f32.format.order hi 1065353216 == some .lt) with
      | false =>
        have HR : Hid ((st0 lo hi && sqB al be) = false) := by show _ = _; unfold st0; rw [h3]; simp
        rw [HR.out]
        unfold gt0 at h1
        go_enter Try.func64, Try.ntmps64
        go_wp2_with fail
        go_ret
        exact ⟨rfl, Drawn.refl _⟩
      | true =>
        have HR : Hid ((st0 lo hi && sqB al be) = sqB al be) := by show _ = _; unfold st0; rw [h1, h2, h3]; rfl
        rw [HR.out]
        unfold gt0 at h1
        go_enter Try.func64, Try.ntmps64
        go_wp2_with fail
        refine (sSequenceBars_drawn al be _ hal hbe).mono ?_
        rintro e w1 ⟨rfl, d1⟩
        have D1 := Lib.hid d1
        clear d1
        go_wp2_with fail
        go_ret
        exact ⟨rfl, D1.out⟩
set_option maxRecDepth 20000 in
set_option maxHeartbeats 3200000 in
theorem sTest_any (a : Option Addr) (len cap : Nat) (G : List Bool) (lo hi al be : Nat) (w : World) (hG : BRow w a len G) (hm : len ≤ 1048576) (hlo : lo < 4294967296) (hhi : hi < 4294967296) (hal : al < 4294967296) (hbe : be < 4294967296) :
    Calls Try.prog 26 #[.slice a len cap, .float .f32 lo, .float .f32 hi, .float .f32 al, .float .f32 be] w fun e w' => e = .returned (.tuple #[.int .i64 (teV G lo hi al be).1, .int .i64 (teV G lo hi al be).2, .bool (te0 G lo hi al be)]) ∧ Drawn w w' := by
  have H := Lib.hid hG
  have HL : Hid (G.length = len) := Lib.hid hG.1
  clear hG
  go_enter Try.func26, Try.ntmps26
  go_wp2_with fail
  refine (c_Test lo hi al be _ hal hbe).mono ?_
  rintro e w1 ⟨rfl, d1⟩
  have D1 := Lib.hid d1
  clear d1
  cases h0 : (st0 lo hi && sqB al be) with
  | false =>
    have HN : Hid (te0 G lo hi al be = false) := by show _ = _; unfold te0; rw [← Bool.and_assoc, h0]; rfl
    have HV := Lib.hid (te_no HN.out)
    clear h0
    go_wp2_with fail
    go_ret3
    rw [HV.out, HN.out]
    exact ⟨rfl, D1.out⟩
  | true =>
    rw [Bool.and_eq_true] at h0
    by_cases hl : len ≤ 256
    case neg =>
      have HN := Lib.hid (te_l (G := G) (lo := lo) (hi := hi) (al := al) (be := be) (by rw [HL.out]; exact hl))
      have HV := Lib.hid (te_no HN.out)
      have q1 : (len : Int) > 256 := by omega
      clear hl h0
      go_wp2_with fail
      go_ret3
      rw [HV.out, HN.out]
      exact ⟨rfl, D1.out⟩
    case pos =>
      have HN := Lib.hid (te_yes (G := G) h0.1 h0.2 (by rw [HL.out]; exact hl))
      have HV : Hid (teV G lo hi al be = teR G lo hi al be len 0) := by show _ = _; rw [te_is HN.out, HL.out]
      have q1 : ¬ (len : Int) > 256 := by omega
      have HSN := Lib.hid (st0_num h0.1)
      have HLO : Hid (F32.Is (some lo) lo) := ⟨rfl, HSN.out.1, hlo⟩
      have HHI : Hid (F32.Is (some hi) hi) := ⟨rfl, HSN.out.2, hhi⟩
      have hp := (sqB_parts h0.2).1
      unfold sq0 at hp
      rw [Bool.and_eq_true] at hp
      have HAL := Lib.hid (rk_is hp.1 hal)
      have HBE := Lib.hid (rk_is hp.2 hbe)
      clear h0 hp
      go_wp2_with fail
      refine (c_Bars al be _ HAL.out HBE.out).mono ?_
      rintro e w2 ⟨⟨x, y, rfl, hx, hy⟩, d2⟩
      have HX := Lib.hid hx
      have HY := Lib.hid hy
      have D2 := Lib.hid (D1.out.trans d2)
      obtain ⟨xb, vb, rb, jb, lb, eb⟩ := F32.arith_ex (P := Try.prog) (op := .quo) (.inr (.inr (.inr rfl))) 24 HHI.out HLO.out w2
      have DA := Lib.hid eb
      have JB := Lib.hid jb
      have LB := Lib.hid lb
      have D3 := Lib.hid (D2.out.trans DA.out)
      clear hx hy d2 jb lb eb DA
      go_wp2_with fail
      refine (specLogN_any xb LB.out _).mono ?_
      rintro e w4 ⟨u, rfl, hu, d4⟩
      have HU : Hid (F32.Is (teU lo hi) u) := lg_is LB.out JB.out hu
      have D4 := Lib.hid (D3.out.trans d4)
      obtain ⟨xc, vc, rc, jc, lc, ec⟩ := F32.arith_ex (P := Try.prog) (op := .sub) (.inr (.inl rfl)) 24 one_is HHI.out w4
      obtain ⟨xd, vd, rd, jd, ld, ed⟩ := F32.arith_ex (P := Try.prog) (op := .sub) (.inr (.inl rfl)) 24 one_is HLO.out vc
      obtain ⟨xf, vf, rf, jf, lf, ef⟩ := F32.arith_ex (P := Try.prog) (op := .quo) (.inr (.inr (.inr rfl))) 24 jc jd vd
      have DC := Lib.hid ((ec.trans ed).trans ef)
      have JF := Lib.hid jf
      have LF := Lib.hid lf
      have D5 := Lib.hid (D4.out.trans DC.out)
      clear hu d4 rb
      clear jc lc ec jd ld ed jf lf ef
      clear DC
      go_wp2_with fail
      refine (specLogN_any xf LF.out _).mono ?_
      rintro e w6 ⟨dn, rfl, hd, d6⟩
      have HD : Hid (F32.Is (teD lo hi) dn) := lg_is LF.out JF.out hd
      have D6 := Lib.hid (D5.out.trans d6)
      clear hd d6 rc rd rf
      go_wp2_with fail
      go_loopg [17, 18] len (fun n s i wr => ∃ t p : Nat, s = .float .f32 p ∧ i = .int .i64 (t : Int) ∧ Hid (t + n = len) ∧ t ≤ len ∧ Hid (F32.Is (teS G lo hi t) p) ∧ Hid (Drawn w wr) ∧ Hid (teV G lo hi al be = teR G lo hi al be n t))
      case atStart => exact ⟨0, 0, rfl, rfl, by show _ = _; omega, Nat.zero_le _, zero_is, D6.out, HV.out⟩
      case round =>
        obtain ⟨t, p, rfl, rfl, ht, htl, hP, hDr, hV⟩ := hrel
        by_cases hlt : t < len
        · have HJ : Hid (t + 1 + (gk - 1) = len) := by have := ht.out; show _ = _; omega
          have HG : Hid (gk - 1 < gk) := by have := ht.out; show _ < _; omega
          have HGK : Hid (gk = gk - 1 + 1) := by have := ht.out; show _ = _; omega
          have hV' : teV G lo hi al be = teR G lo hi al be (gk - 1 + 1) t := by rw [← HGK.out]; exact hV.out
          obtain ⟨bt, ot, rfl, hbl1, hc1⟩ := (H.out.keep (hDr.out.below _)).2.2.2 t hlt
          have HST : Hid (teS G lo hi (t + 1) = F32.opO .add (teS G lo hi t) (if G.getD t false then teD lo hi else teU lo hi)) := Lib.hid rfl
          generalize G.getD t false = z1 at *
          cases z1
          all_goals
            first
              | (have hI : F32.Is (if false = true then teD lo hi else teU lo hi) u := HU.out
                 obtain ⟨x1, v1, r1, j1, l1, e1⟩ := F32.arith_ex (P := Try.prog) (op := .add) (.inl rfl) 24 hP.out hI wr
                 rw [← HST.out] at j1
                 have DR := Lib.hid (hDr.out.trans e1)
                 have J1 := Lib.hid j1
                 clear hI e1 j1 l1 hV)
              | (have hI : F32.Is (if true = true then teD lo hi else teU lo hi) dn := HD.out
                 obtain ⟨x1, v1, r1, j1, l1, e1⟩ := F32.arith_ex (P := Try.prog) (op := .add) (.inl rfl) 24 hP.out hI wr
                 rw [← HST.out] at j1
                 have DR := Lib.hid (hDr.out.trans e1)
                 have J1 := Lib.hid j1
                 clear hI e1 j1 l1 hV)
            have c1 := cmp_is .lt J1.out HX.out
            have c2 := cmp_is .eq J1.out HX.out
            have c3 := cmp_is .gt J1.out HY.out
            have c4 := cmp_is .eq J1.out HY.out
            have hq1 : ((FloatKind.f32.format.order x1 x == some .lt) || (FloatKind.f32.format.order x1 x == some .eq)) = leO (teS G lo hi (t + 1)) (sqL al be) := by rw [c1, c2]; rfl
            have hq2 : ((FloatKind.f32.format.order x1 y == some .gt) || (FloatKind.f32.format.order x1 y == some .eq)) = geO (teS G lo hi (t + 1)) (sqH al be) := by rw [c3, c4]; rfl
            clear c1 c2 c3 c4 hP hDr HST
            cases g1 : leO (teS G lo hi (t + 1)) (sqL al be) with
            | true =>
              have HE := Lib.hid (hV'.trans (teR_low g1))
              rw [g1] at hq1
              clear g1 hV' hq2
              go_wp2_with fail
              go_ret3
              rw [HE.out, HN.out]
              exact ⟨rfl, DR.out⟩
            | false =>
              cases g2 : geO (teS G lo hi (t + 1)) (sqH al be) with
              | true =>
                have HE := Lib.hid (hV'.trans (teR_high g1 g2))
                rw [g1] at hq1
                rw [g2] at hq2
                clear g1 g2 hV'
                go_wp2_with fail
                go_ret3
                rw [HE.out, HN.out]
                exact ⟨rfl, DR.out⟩
              | false =>
                have HE := Lib.hid (hV'.trans (teR_on g1 g2))
                rw [g1] at hq1
                rw [g2] at hq2
                clear g1 g2 hV'
                go_wp2_with fail
                go_roundg (gk - 1)
                case measure => exact HG.out
                case rel => exact ⟨t + 1, x1, rfl, by go_num, HJ, by omega, J1.out, DR.out, HE.out⟩
        · obtain rfl : t = len := by omega
          have h0k : gk = 0 := by have := ht.out; omega
          have HE : Hid (teV G lo hi al be = (0, (t : Int))) := by show _ = _; rw [hV.out, h0k]; rfl
          have DR := Lib.hid hDr.out
          clear hlt ht hP hDr hV h0k
          go_wp2_with fail
          go_ret3
          rw [HE.out, HN.out]
          exact ⟨rfl, DR.out⟩
end Go.Proofs.Ytemdgfjcjjadnab
