/-
  Contracts: the share with the most bad parts that go out, and these, in both. No conditions.
-/
import Derived.Test.YtemdgfjcjjadnabWoP
namespace Pl
open Go Flt F32 Cm We
/-- the share k / n, and how many bad parts go out with it -/
def woQ (n k : Nat) : Nat := (F32.opO .quo (some (Go.floatOfInt .f32 (k : Int))) (some (Go.floatOfInt .f32 (n : Int)))).getD 0
def woX (l s a n k : Nat) : Nat := (ogE l s a (woQ n k)).getD 0
/-- the worst one of those before k -/
def woS (l s a n : Nat) : Nat → Nat × Nat
  | 0 => (0, 0)
  | k + 1 => if FloatKind.f32.format.order (woX l s a n k) (woS l s a n k).2 == some .gt then (woQ n k, woX l s a n k) else woS l s a n k
def woB (l s a n : Int) : Bool := pfB l s a && decide (1 ≤ n ∧ n ≤ 256)
def woV (l s a n : Int) : Nat × Nat := if woB l s a n then woS l.toNat s.toNat a.toNat n.toNat (n.toNat + 1) else (0, 0)
theorem wo_no {l s a n : Int} (h : woB l s a n = false) : woV l s a n = (0, 0) := by unfold woV; rw [h]; rfl
theorem wo_yes {l s a n : Nat} (h : woB l s a n = true) : woV l s a n = woS l s a n (n + 1) := by unfold woV; rw [h]; rfl
theorem woS_s (l s a n k : Nat) : woS l s a n (k + 1) = if FloatKind.f32.format.order (woX l s a n k) (woS l s a n k).2 == some .gt then (woQ n k, woX l s a n k) else woS l s a n k := rfl
structure WoK (l s a n k : Nat) : Prop where
  q1 : F32.opO .quo (some (Go.floatOfInt .f32 (k : Int))) (some (Go.floatOfInt .f32 (n : Int))) = some (woQ n k)
  q2 : woQ n k ≤ 1065353216
  q3 : k = 0 → woQ n k = 0
  x1 : ogE l s a (woQ n k) = some (woX l s a n k)
  x2 : fin .f32 (woX l s a n k) = true
  x3 : woX l s a n k < 4294967296
  x4 : k = 0 → woX l s a n k = 0
theorem wo_k {l s a n k : Nat} (hl : l ≤ 40) (h1 : 1 ≤ s) (hs : s ≤ l) (ha : a ≤ s) (n1 : 1 ≤ n) (n2 : n ≤ 256) (hk : k ≤ n) : WoK l s a n k := by
  obtain ⟨q, e1, e2, e3⟩ := share_ok n1 n2 hk
  have hq : F32.opO .quo (some (Go.floatOfInt .f32 (k : Int))) (some (Go.floatOfInt .f32 (n : Int))) = some q := e1
  have hw : woQ n k = q := by unfold woQ; rw [hq]; rfl
  obtain ⟨x, f1, f2⟩ := at_og (a := a) (q := q) hl h1 hs ha e2
  have hx : woX l s a n k = x := by unfold woX; rw [hw, f1]; rfl
  refine ⟨by rw [hw]; exact hq, by rw [hw]; exact e2, fun e => by rw [hw]; exact e3 e, by rw [hw, hx]; exact f1, by rw [hx]; exact f2.isFin, by rw [hx]; exact f2.lt, fun e => ?_⟩
  have hq0 := e3 e
  subst hq0
  rw [hx]
  have := og_zero (a := a) hl h1 hs
  rw [f1] at this
  exact Option.some.inj this
/-- both numbers of the worst one are finite words -/
theorem woS_num {l s a n : Nat} (hl : l ≤ 40) (h1 : 1 ≤ s) (hs : s ≤ l) (ha : a ≤ s) (n1 : 1 ≤ n) (n2 : n ≤ 256) : ∀ k, k ≤ n + 1 → nan .f32 (woS l s a n k).1 = false ∧ nan .f32 (woS l s a n k).2 = false
  | 0, _ => ⟨(show nan .f32 0 = false by decide), (show nan .f32 0 = false by decide)⟩
  | k + 1, h => by
    have W := wo_k hl h1 hs ha n1 n2 (show k ≤ n by omega)
    rw [woS_s]
    split
    · refine ⟨?_, fin_num W.x2⟩
      exact nan_false (by show woQ n k % 2147483648 ≤ 2139095040; have := W.q2; omega)
    · exact woS_num hl h1 hs ha n1 n2 k (by omega)
theorem woV_num (l s a n : Int) : nan .f32 (woV l s a n).1 = false ∧ nan .f32 (woV l s a n).2 = false := by
  cases h : woB l s a n with
  | false => rw [wo_no h]; exact ⟨by decide, by decide⟩
  | true =>
    have hp : pfB l s a = true ∧ (1 ≤ n ∧ n ≤ 256) := by
      have h' := h
      unfold woB at h'
      rwa [Bool.and_eq_true, decide_eq_true_eq] at h'
    obtain ⟨i1, i2, i3, i4, i5, i6⟩ := pf_in hp.1
    unfold woV
    rw [h]
    exact woS_num (by omega) (by omega) (by omega) (by omega) (by omega) (by omega) _ (Nat.le_refl _)
end Pl
namespace Go.Proofs.Ytemdgfjcjjadnab
open Go.RowKit Flt Dec Cm Pl We F32
set_option maxHeartbeats 3200000 in
theorem iWorstOutgoing_any (l s a n : Int) (w : World) :
    Calls Try.prog 15 #[.int .i64 l, .agg #[.int .i64 s, .int .i64 a], .int .i64 n] w fun e w' => e = .returned (.tuple #[.float .f32 (woV l s a n).1, .float .f32 (woV l s a n).2, .bool (woB l s a n)]) ∧ Below w.heap.size w w' := by
  have hb : Below w.heap.size w (w.alloc (.cells #[.int .i64 s, .int .i64 a] 27)) := (Below.refl _ _).alloc (Nat.le_refl _) _
  have HB := Lib.hid (Blk.Blk.new w #[.int .i64 s, .int .i64 a] 27)
  have HB0 := Lib.hid hb
  clear hb
  obtain ⟨⟨c1, c2⟩, _, _⟩ := HB.out.two
  cases h1 : pfB l s a with
  | false =>
    have hB : woB l s a n = false := by unfold woB; rw [h1]; rfl
    have HV := Lib.hid (wo_no hB)
    have HBB := Lib.hid hB
    have H1 := Lib.hid h1
    clear h1 hB
    go_enter Try.func15, Try.ntmps15
    go_wp2_with fail
    refine (c_isPlanFor l s a _).mono ?_
    rintro e w1 ⟨rfl, b1⟩
    rw [H1.out]
    have B1 := Lib.hid (HB0.out.trans (b1.mono HB0.out.size))
    clear b1 c1 c2
    go_wp2_with fail
    go_ret3
    rw [HV.out, HBB.out]
    exact ⟨rfl, B1.out⟩
  | true =>
    have H1 := Lib.hid h1
    by_cases hn : 1 ≤ n ∧ n ≤ 256
    · have hB : woB l s a n = true := by unfold woB; rw [h1, decide_eq_true hn]; rfl
      obtain ⟨i1, i2, i3, i4, i5, i6⟩ := pf_in h1
      obtain ⟨l, rfl⟩ : ∃ m : Nat, l = m := ⟨l.toNat, by omega⟩
      obtain ⟨s, rfl⟩ : ∃ m : Nat, s = m := ⟨s.toNat, by omega⟩
      obtain ⟨a, rfl⟩ : ∃ m : Nat, a = m := ⟨a.toNat, by omega⟩
      obtain ⟨n, rfl⟩ : ∃ m : Nat, n = m := ⟨n.toNat, by omega⟩
      have HV := Lib.hid (wo_yes hB)
      have HBB := Lib.hid hB
      obtain ⟨n1, n2⟩ := hn
      have HK := Lib.hid (fun k (hk : k ≤ n) => wo_k (l := l) (s := s) (a := a) (n := n) (k := k) (by omega) (by omega) (by omega) (by omega) (by omega) (by omega) hk)
      have HOG : Hid (∀ k, k ≤ n → okV (og0 l s a (woQ n k)) (ogE l s a (woQ n k)) = woX l s a n k ∧ okB (og0 l s a (woQ n k)) (ogE l s a (woQ n k)) = true) := Lib.hid fun k hk => by
        have W := HK.out k hk
        have h0 : og0 l s a (woQ n k) = true := by unfold og0; rw [H1.out, shr_word W.q2]; rfl
        have hf : finO (ogE l s a (woQ n k)) = true := by rw [W.x1]; exact W.x2
        rw [(ok_yes h0 _).1, (ok_yes h0 _).2, hf, if_pos rfl, W.x1]
        exact ⟨rfl, rfl⟩
      have q1 : ¬ ((n : Int) < 1) := by omega
      have q2 : ¬ ((n : Int) > 256) := by omega
      clear h1 hB i1 i2 i3 i4 i5 i6
      go_enter Try.func15, Try.ntmps15
      go_wp2_with fail
      refine (c_isPlanFor (l : Int) (s : Int) (a : Int) _).mono ?_
      rintro e w1 ⟨rfl, b1⟩
      rw [H1.out]
      have B1 := Lib.hid (HB0.out.trans (b1.mono HB0.out.size))
      have K1 := Lib.hid (HB.out.keep b1)
      clear b1 c1 c2
      go_wp2_with fail
      clear HB HB0 q1 q2
      go_loopg [9, 10, 11, 12, 13, 14, 29] (n + 1) (fun m v9 v10 v11 v12 v13 v14 v29 wr => ∃ k b x : Nat, v9 = .float .f32 b ∧ v10 = .float .f32 x ∧ v29 = .int .i64 (k : Int) ∧ Hid (k + m = n + 1) ∧ k ≤ n + 1 ∧ Hid (b = (woS l s a n k).1 ∧ x = (woS l s a n k).2) ∧ Hid (Below w.heap.size w wr) ∧ Hid (Blk.Blk wr w.heap.size [.int .i64 (s : Int), .int .i64 (a : Int)] 27))
      case atStart => exact ⟨0, 0, 0, rfl, rfl, by go_num, by show _ = _; omega, Nat.zero_le _, ⟨rfl, rfl⟩, B1.out, K1.out⟩
      case round =>
        clear B1 K1
        obtain ⟨k, b, x, rfl, rfl, rfl, hk, hkn, hS, hB, hP⟩ := hrel
        by_cases hlt : k ≤ n
        · have hltI : (k : Int) < (n : Int) + 1 := by omega
          have HJ : Hid (k + 1 + (gk - 1) = n + 1 ∧ gk - 1 < gk) := by have := hk.out; show _ ∧ _; omega
          have W := HK.out k hlt
          have HO := HOG.out k hlt
          have HQL : Hid (woQ n k < 4294967296) := by show _ < _; have := W.q2; omega
          have HSS := Lib.hid (woS_s l s a n k)
          rw [← hS.out.2] at HSS
          have hq := run_float_arith (P := Try.prog) wr .quo 24 .f32 _ _ _ W.q1
          obtain ⟨⟨c1, c2⟩, _, _⟩ := hP.out.two
          have HXQ := Lib.hid (show woX l s a n k = woX l s a n k ∧ woQ n k = woQ n k from ⟨rfl, rfl⟩)
          have HC := fun w => Lib.hid (iOutgoingOf_any l s a (woQ n k) w HQL.out)
          rw [HO.1, HO.2] at HC
          clear W HO HXQ hk
          generalize woQ n k = q at *
          generalize woX l s a n k = y at *
          cases hc : (FloatKind.f32.format.order y x == some .gt) with
          | true =>
            have HN : Hid (q = (woS l s a n (k + 1)).1 ∧ y = (woS l s a n (k + 1)).2) := by show _ ∧ _; rw [HSS.out, if_pos hc]; exact ⟨rfl, rfl⟩
            clear HSS
            go_wp2_with fail
            refine (HC _).out.mono ?_
            rintro e w2 ⟨rfl, b2⟩
            have HB2 := Lib.hid (hB.out.trans (b2.mono hB.out.size))
            have HP2 := Lib.hid (hP.out.keep b2)
            clear b2 c1 c2 hq
            go_wp2_with fail
            go_roundg (gk - 1)
            case measure => exact HJ.out.2
            case rel => exact ⟨k + 1, q, y, rfl, rfl, by go_num, HJ.out.1, by omega, HN.out, HB2.out, HP2.out⟩
          | false =>
            have HN : Hid (b = (woS l s a n (k + 1)).1 ∧ x = (woS l s a n (k + 1)).2) := by show _ ∧ _; rw [HSS.out, if_neg (by rw [hc]; decide)]; exact hS.out
            clear HSS
            go_wp2_with fail
            refine (HC _).out.mono ?_
            rintro e w2 ⟨rfl, b2⟩
            have HB2 := Lib.hid (hB.out.trans (b2.mono hB.out.size))
            have HP2 := Lib.hid (hP.out.keep b2)
            clear b2 c1 c2 hq
            go_wp2_with fail
            go_roundg (gk - 1)
            case measure => exact HJ.out.2
            case rel => exact ⟨k + 1, b, x, rfl, rfl, by go_num, HJ.out.1, by omega, HN.out, HB2.out, HP2.out⟩
        · have hltI : ¬ ((k : Int) < (n : Int) + 1) := by omega
          obtain rfl : k = n + 1 := by omega
          clear hlt hk
          go_wp2_with fail
          go_ret3
          rw [HV.out, HBB.out, hS.out.1, hS.out.2]
          exact ⟨rfl, hB.out⟩
    · have hB : woB l s a n = false := by unfold woB; rw [decide_eq_false hn, Bool.and_false]
      have HV := Lib.hid (wo_no hB)
      have HBB := Lib.hid hB
      clear h1 hB
      by_cases q1 : n < 1
      · clear hn
        go_enter Try.func15, Try.ntmps15
        go_wp2_with fail
        refine (c_isPlanFor l s a _).mono ?_
        rintro e w1 ⟨rfl, b1⟩
        rw [H1.out]
        have B1 := Lib.hid (HB0.out.trans (b1.mono HB0.out.size))
        clear b1 c1 c2
        go_wp2_with fail
        go_ret3
        rw [HV.out, HBB.out]
        exact ⟨rfl, B1.out⟩
      · have q2 : n > 256 := by omega
        clear hn
        go_enter Try.func15, Try.ntmps15
        go_wp2_with fail
        refine (c_isPlanFor l s a _).mono ?_
        rintro e w1 ⟨rfl, b1⟩
        rw [H1.out]
        have B1 := Lib.hid (HB0.out.trans (b1.mono HB0.out.size))
        clear b1 c1 c2
        go_wp2_with fail
        go_ret3
        rw [HV.out, HBB.out]
        exact ⟨rfl, B1.out⟩
set_option maxHeartbeats 3200000 in
theorem sWorstOutgoing_any (l s a n : Int) (w : World) :
    Calls Try.prog 13 #[.int .i64 l, .agg #[.int .i64 s, .int .i64 a], .int .i64 n] w fun e w' => e = .returned (.tuple #[.float .f32 (woV l s a n).1, .float .f32 (woV l s a n).2, .bool (woB l s a n)]) ∧ Below w.heap.size w w' := by
  have hb : Below w.heap.size w (w.alloc (.cells #[.int .i64 s, .int .i64 a] 27)) := (Below.refl _ _).alloc (Nat.le_refl _) _
  have HB := Lib.hid (Blk.Blk.new w #[.int .i64 s, .int .i64 a] 27)
  have HB0 := Lib.hid hb
  have HAS := Lib.hid (as_pf l s a)
  clear hb
  cases h1 : pfB l s a with
  | false =>
    have hB : woB l s a n = false := by unfold woB; rw [h1]; rfl
    have HV := Lib.hid (wo_no hB)
    have HBB := Lib.hid hB
    have H1 := Lib.hid h1
    clear h1 hB
    go_enter Try.func13, Try.ntmps13
    go_wp2_with fail
    refine (c_l06Lot l 0 _ s a _ HB.out).mono ?_
    rintro e w1 ⟨rfl, d1⟩
    rw [HAS.out, H1.out]
    have B1 := Lib.hid (HB0.out.trans ((d1.below _).mono HB0.out.size))
    clear d1
    go_wp2_with fail
    go_ret3
    rw [HV.out, HBB.out]
    exact ⟨rfl, B1.out⟩
  | true =>
    have H1 := Lib.hid h1
    cases hn : decide (1 ≤ n ∧ n ≤ 256) with
    | false =>
      have hB : woB l s a n = false := by unfold woB; rw [hn, Bool.and_false]
      have HV := Lib.hid (wo_no hB)
      have HBB := Lib.hid hB
      have HN := Lib.hid hn
      clear h1 hB hn
      go_enter Try.func13, Try.ntmps13
      go_wp2_with fail
      refine (c_l06Lot l 0 _ s a _ HB.out).mono ?_
      rintro e w1 ⟨rfl, d1⟩
      rw [HAS.out, H1.out]
      have B1 := Lib.hid (HB0.out.trans ((d1.below _).mono HB0.out.size))
      clear d1
      go_wp2_with fail
      refine (c_In n 1 256 _).mono ?_
      rintro e w2 ⟨rfl, rfl⟩
      rw [HN.out]
      go_wp2_with fail
      go_ret3
      rw [HV.out, HBB.out]
      exact ⟨rfl, B1.out⟩
    | true =>
      have hB : woB l s a n = true := by unfold woB; rw [h1, hn]; rfl
      have HN := Lib.hid hn
      have hn' := of_decide_eq_true hn
      obtain ⟨i1, i2, i3, i4, i5, i6⟩ := pf_in h1
      obtain ⟨l, rfl⟩ : ∃ m : Nat, l = m := ⟨l.toNat, by omega⟩
      obtain ⟨s, rfl⟩ : ∃ m : Nat, s = m := ⟨s.toNat, by omega⟩
      obtain ⟨a, rfl⟩ : ∃ m : Nat, a = m := ⟨a.toNat, by omega⟩
      obtain ⟨n, rfl⟩ : ∃ m : Nat, n = m := ⟨n.toNat, by omega⟩
      have HV := Lib.hid (wo_yes hB)
      have HBB := Lib.hid hB
      have hs : 1 ≤ s ∧ s ≤ 40 := by omega
      have ha : a ≤ s := by omega
      obtain ⟨n1, n2⟩ := hn'
      have HK := Lib.hid (fun k (hk : k ≤ n) => wo_k (l := l) (s := s) (a := a) (n := n) (k := k) (by omega) (by omega) (by omega) (by omega) (by omega) (by omega) hk)
      clear h1 hB hn i1 i2 i3 i4 i5 i6
      go_enter Try.func13, Try.ntmps13
      go_wp2_with fail
      refine (c_l06Lot (l : Int) 0 _ (s : Int) (a : Int) _ HB.out).mono ?_
      rintro e w1 ⟨rfl, d1⟩
      rw [HAS.out, H1.out]
      have B1 := Lib.hid (HB0.out.trans ((d1.below _).mono HB0.out.size))
      have K1 := Lib.hid (HB.out.keep (d1.below _))
      clear d1
      go_wp2_with fail
      refine (c_In (n : Int) 1 256 _).mono ?_
      rintro e w2 ⟨rfl, rfl⟩
      rw [HN.out]
      go_wp2_with fail
      clear HB HB0
      go_loopg [9, 10, 11, 12, 13] (n + 1) (fun m v9 v10 v11 v12 v13 wr => ∃ k b x : Nat, v9 = .float .f32 b ∧ v10 = .float .f32 x ∧ v11 = .int .i64 (k : Int) ∧ Hid (k + m = n + 1) ∧ k ≤ n + 1 ∧ Hid (b = (woS l s a n k).1 ∧ x = (woS l s a n k).2) ∧ Hid (Below w.heap.size w wr) ∧ Hid (Blk.Blk wr w.heap.size [.int .i64 (s : Int), .int .i64 (a : Int)] 27))
      case atStart => exact ⟨0, 0, 0, rfl, rfl, by go_num, by show _ = _; omega, Nat.zero_le _, ⟨rfl, rfl⟩, B1.out, K1.out⟩
      case round =>
        clear B1 K1
        obtain ⟨k, b, x, rfl, rfl, rfl, hk, hkn, hS, hB, hP⟩ := hrel
        by_cases hlt : k ≤ n
        · have hltI : (k : Int) ≤ (n : Int) := by omega
          have HJ : Hid (k + 1 + (gk - 1) = n + 1 ∧ gk - 1 < gk) := by have := hk.out; show _ ∧ _; omega
          have W := HK.out k hlt
          have HQI : Hid (F32.Is (some (woQ n k)) (woQ n k)) := Lib.hid ⟨rfl, nan_false (by show woQ n k % 2147483648 ≤ 2139095040; have := W.q2; omega), by have := W.q2; omega⟩
          have HSS := Lib.hid (woS_s l s a n k)
          rw [← hS.out.2] at HSS
          have hq := run_float_arith (P := Try.prog) wr .quo 24 .f32 _ _ _ W.q1
          have HX1 := Lib.hid W.x1
          have HX4 : Hid (k = 0 → b = woQ n k ∧ x = woX l s a n k) := Lib.hid fun e => by
            rw [W.q3 e, W.x4 e]
            subst e
            exact hS.out
          have HC := fun w h => Lib.hid (c_Outgoing (l : Int) w.heap.size s a (woQ n k) hs ha HQI.out w h)
          have HCC := Lib.hid (c_Outgoing (l : Int) w.heap.size s a (woQ n k) hs ha HQI.out wr hP.out)
          rw [W.x1] at HCC
          clear W hk HC HX1 HQI
          generalize woQ n k = q at *
          generalize woX l s a n k = y at *
          cases hc : (FloatKind.f32.format.order y x == some .gt) with
          | true =>
            have HN : Hid (q = (woS l s a n (k + 1)).1 ∧ y = (woS l s a n (k + 1)).2) := by show _ ∧ _; rw [HSS.out, if_pos hc]; exact ⟨rfl, rfl⟩
            clear HSS HX4
            go_wp2_with fail
            refine HCC.out.mono ?_
            rintro e w2 ⟨⟨t, rfl, ht, _⟩, d2⟩
            obtain rfl : t = y := ht.1
            have HB2 := Lib.hid (hB.out.trans ((d2.below _).mono hB.out.size))
            have HP2 := Lib.hid (hP.out.keep (d2.below _))
            clear d2 ht hq
            by_cases hz : (k : Int) = 0
            all_goals
              go_wp2_with fail
              go_roundg (gk - 1)
              case measure => exact HJ.out.2
              case rel => exact ⟨k + 1, q, t, rfl, rfl, by go_num, HJ.out.1, by omega, HN.out, HB2.out, HP2.out⟩
          | false =>
            have HN : Hid (b = (woS l s a n (k + 1)).1 ∧ x = (woS l s a n (k + 1)).2) := by show _ ∧ _; rw [HSS.out, if_neg (by rw [hc]; decide)]; exact hS.out
            clear HSS
            go_wp2_with fail
            refine HCC.out.mono ?_
            rintro e w2 ⟨⟨t, rfl, ht, _⟩, d2⟩
            obtain rfl : t = y := ht.1
            have HB2 := Lib.hid (hB.out.trans ((d2.below _).mono hB.out.size))
            have HP2 := Lib.hid (hP.out.keep (d2.below _))
            clear d2 ht hq
            by_cases hz : (k : Int) = 0
            · have hqb := HX4.out (by omega)
              have HN2 : Hid (q = (woS l s a n (k + 1)).1 ∧ t = (woS l s a n (k + 1)).2) := by show _ ∧ _; rw [← hqb.1, ← hqb.2]; exact HN.out
              clear hqb
              go_wp2_with fail
              go_roundg (gk - 1)
              case measure => exact HJ.out.2
              case rel => exact ⟨k + 1, q, t, rfl, rfl, by go_num, HJ.out.1, by omega, HN2.out, HB2.out, HP2.out⟩
            · go_wp2_with fail
              go_roundg (gk - 1)
              case measure => exact HJ.out.2
              case rel => exact ⟨k + 1, b, x, rfl, rfl, by go_num, HJ.out.1, by omega, HN.out, HB2.out, HP2.out⟩
        · have hltI : ¬ ((k : Int) ≤ (n : Int)) := by omega
          obtain rfl : k = n + 1 := by omega
          clear hlt hk
          go_wp2_with fail
          go_ret3
          rw [HV.out, HBB.out, hS.out.1, hS.out.2]
          exact ⟨rfl, hB.out⟩
end Go.Proofs.Ytemdgfjcjjadnab
