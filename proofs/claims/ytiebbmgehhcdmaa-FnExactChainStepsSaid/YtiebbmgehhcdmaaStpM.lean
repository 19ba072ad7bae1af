/-
  What becomes of shares by steps: both functions. Conditions: the lists read as lists of 32-bit numbers.
-/
import Derived.Test.YtiebbmgehhcdmaaStpI
import Derived.Lib.SliceRun
namespace Flt.Stp
open Go Flt F32 Cm
theorem st0_no {p : Int} {zs ys : List Nat} {h : Nat} {n : Int} (g : Cha.chB p zs = false ∨ shsB p ys = false ∨ pos h = false ∨ ¬ (1 ≤ n ∧ n ≤ 256)) : st0 p zs ys h n = false := by
  unfold st0
  rcases g with g | g | g | g
  · rw [g]; rfl
  · rw [g]; simp
  · rw [g]; simp
  · rw [decide_eq_false g]; simp
theorem st0_yes {p : Int} {zs ys : List Nat} {h : Nat} {n : Int} (g1 : Cha.chB p zs = true) (g2 : shsB p ys = true) (g3 : pos h = true) (g4 : 1 ≤ n ∧ n ≤ 256) : st0 p zs ys h n = true := by
  unfold st0; rw [g1, g2, g3, decide_eq_true g4]; rfl
/-- whether this is a grid -/
def gridB (h : Nat) (n : Int) : Bool := pos h && decide (1 ≤ n ∧ n ≤ 256)
end Flt.Stp
namespace Go.Proofs.Ytiebbmgehhcdmaa
open Go.RowKit Dec Flt Syl Sep Cha Cm Liv Stp Cr Hld
theorem isGrid_any (h : Nat) (n : Int) (w : World) : Calls Try.prog 60 #[.float .f32 h, .int .i64 n] w fun e w' => e = .returned (.bool (gridB h n)) ∧ Drawn w w' := by
  cases hp : pos h with
  | false =>
    have HG : Hid (gridB h n = false) := by show _ = _; unfold gridB; rw [hp]; rfl
    have HP := Lib.hid hp
    clear hp
    rw [HG.out]
    go_enter Try.func60, Try.ntmps60
    go_wp2_with fail
    refine (c_implAbove h _).mono ?_
    rintro e w1 ⟨rfl, d1⟩
    rw [HP.out]
    go_wp2_with fail
    go_ret
    exact ⟨rfl, d1⟩
  | true =>
    have HP := Lib.hid hp
    by_cases h1 : 1 ≤ n
    · have HG : Hid (gridB h n = decide (n ≤ 256)) := by
        show _ = _
        unfold gridB; rw [hp, Bool.true_and]
        by_cases h2 : n ≤ 256
        · rw [decide_eq_true ⟨h1, h2⟩, decide_eq_true h2]
        · rw [decide_eq_false (fun g => h2 g.2), decide_eq_false h2]
      rw [HG.out]
      clear hp
      go_enter Try.func60, Try.ntmps60
      go_wp2_with fail
      refine (c_implAbove h _).mono ?_
      rintro e w1 ⟨rfl, d1⟩
      rw [HP.out]
      go_wp2_with fail
      all_goals first | (exfalso; omega) | skip
      go_ret
      exact ⟨rfl, d1⟩
    · have HG : Hid (gridB h n = false) := by show _ = _; unfold gridB; rw [decide_eq_false (fun g => h1 g.1)]; simp
      rw [HG.out]
      clear hp
      go_enter Try.func60, Try.ntmps60
      go_wp2_with fail
      refine (c_implAbove h _).mono ?_
      rintro e w1 ⟨rfl, d1⟩
      rw [HP.out]
      go_wp2_with fail
      all_goals first | (exfalso; omega) | skip
      go_ret
      exact ⟨rfl, d1⟩
theorem areShares1_any (z : Nat) (w : World) : Calls Try.prog 74 #[.float .f32 z] w fun e w' => e = .returned (.bool (!nng z)) ∧ Below w.heap.size w w' := by
  go_enter Try.func74, Try.ntmps74
  go_wp2_with fail
  refine (c_implFrom z _).mono ?_
  rintro e w1 ⟨rfl, d1⟩
  go_wp2_with fail
  go_ret
  exact ⟨rfl, d1.below _⟩
theorem any_nng (zs : List Nat) : (zs.any fun z => !nng z) = !zs.all nng := by
  induction zs with
  | nil => rfl
  | cons x l ih => simp only [List.any_cons, List.all_cons, ih, Bool.not_and]
set_option maxHeartbeats 800000 in
theorem areShares_any (p : Int) (a : Option Addr) (len cap : Nat) (b : Option Addr) (lb cb : Nat) (ys : List Nat) (w : World) (h : FRow w b lb ys) :
    Calls Try.prog 59 #[.agg #[.int .i64 p, .slice a len cap], .slice b lb cb] w fun e w' => e = .returned (.bool (shsB p ys)) ∧ Below w.heap.size w w' := by
  have H := Lib.hid h
  have hm : lb ≤ 9223372036854775807 := by have := h.2.1; unfold maxLen at this; exact this
  clear h
  by_cases hp : (lb : Int) = p
  · have hne : ((lb : Int) != p) = false := by simpa using hp
    have HS : Hid (shsB p ys = ys.all nng) := by show _ = _; unfold shsB; rw [H.out.1, decide_eq_true hp, Bool.and_true]
    obtain ⟨bv, hbv⟩ : ∃ bv, ys.all nng = bv := ⟨_, rfl⟩
    have HB := Lib.hid hbv
    have HX : Hid ((ys.any fun z => !nng z) = !bv) := by show _ = _; rw [any_nng, hbv]
    clear hbv hp
    go_enter Try.func59, Try.ntmps59
    go_wp2_with fail
    have b0 : Below w.heap.size w (w.alloc (.cells #[.int .i64 p, .slice a len cap] 44)) := (Below.refl _ _).alloc (Nat.le_refl _) _
    refine (containsFl_any (fun z => !nng z) 74 #[] (by intro args w; kernel_rfl) b lb cb ys _ (H.out.keep b0) (fun W t _ => areShares1_any t W)).mono ?_
    rintro e w1 ⟨rfl, b1⟩
    rw [HX.out]
    have B1 := Lib.hid (b0.trans (b1.mono b0.size))
    clear b0 b1
    go_wp2_with fail
    go_ret
    exact ⟨congrArg (fun b => Ending.returned (.bool b)) (by rw [HS.out, HB.out]), B1.out⟩
  · have hne : ((lb : Int) != p) = true := by simpa using hp
    have HS : Hid (shsB p ys = false) := by show _ = _; unfold shsB; rw [H.out.1, decide_eq_false hp, Bool.and_false]
    clear hp
    go_enter Try.func59, Try.ntmps59
    go_wp2_with fail
    go_ret
    exact ⟨congrArg (fun b => Ending.returned (.bool b)) HS.out.symm, (Below.refl _ _).alloc (Nat.le_refl _) _⟩
set_option maxRecDepth 40000 in
set_option maxHeartbeats 1600000 in
theorem cloneF_any (b o lb cb : Nat) (ys : List Nat) (w : World) (h : FRow w (some ⟨b, o, none⟩) lb ys) (hl : lb ≤ 1048576) :
    Calls Try.prog 61 #[.slice (some ⟨b, o, none⟩) lb cb] w fun e w' => (∃ a c, e = .returned (.slice a lb c) ∧ FRow w' a lb ys ∧ Dec.Own w' w.heap.size a lb 22) ∧ Below w.heap.size w w' := by
  have HY3 := Lib.hid h
  obtain ⟨i0, hi, hz0, hz1, hz2⟩ := info_parts (show (Try.prog.info? 22).map (fun i => (i.zero, i.size, i.bytes)) = some (some (.float .f32 0), 1, 4) by kernel_rfl)
  clear h
  have q22 : ∀ (w : World) (a : Option Addr) (n c n' c' : Nat), (binOp .eql 23 (.slice a n c) (.slice none n' c')).run Try.prog w = .ok (.bool a.isNone) w := fun w a n c n' c' => Lib.run_eql_slice_nil w _ _ a n c n' c' Try.underlying23
  go_enter Try.func61, Try.ntmps61
  go_wp2_with (at_builtin; refine wpList_append_own _ rfl _ _ 23 rfl w.heap.size 22 i0 (.float .f32 0) 1 4 Try.underlying23 hi hz0 hz1 hz2 rfl (by decide) _ _ _ rfl (World.ownsRow_made w #[] 0 (Nat.le_refl _) (Nat.zero_le _) rfl) ⟨b, o, none⟩ lb cb (fv ys) rfl ?qc1 ?qc2 ?qc3 ?qc4 ?qc5 ?qc6 ?_)
  case qc1 => simp [fv, HY3.out.1]
  case qc2 =>
    intro j u hj
    have hjn : j < (fv ys).length := (List.getElem?_eq_some_iff.1 hj).1
    have hjl : j < ys.length := by simpa [fv] using hjn
    rw [Addr.add_lit]
    refine Lib.cell?_alloc_some _ ?_
    obtain ⟨b', off', e1, _, q1⟩ := HY3.out.2.2.2 j (by rw [← HY3.out.1]; exact hjl)
    cases e1
    have : (fv ys)[j]? = some (.float .f32 (ys.getD j 0)) := by simp [fv, List.getD, hjl]
    rw [this] at hj; cases hj; exact q1
  case qc3 => intro u hu; unfold fv at hu; obtain ⟨x, _, rfl⟩ := List.mem_map.1 hu; rfl
  case qc4 => unfold maxLen; omega
  case qc5 => omega
  case qc6 => simp
  intro v' w5 hown hgrow _
  have HO5 : Hid (w5.ownsRow w.heap.size 22 1 v' lb (fv ys)) := by
    first | exact hown | simpa using hown
  have B5 : Hid (Below w.heap.size w w5) := ((Below.refl _ w).alloc (Nat.le_refl _) _).grown hgrow (by simp) (by intro k hk; simp [Value.ownBlock] at hk; omega)
  clear hown hgrow
  obtain ⟨a5, c5, rfl⟩ := Cm.owns_shape HO5.out
  have HR5 := Lib.hid (Cm.row_owned HO5.out HY3.out.1 hl HY3.out.2.2.1)
  have HOW : Hid (Dec.Own w5 w.heap.size a5 lb 22) := by
    obtain ⟨_, ⟨e, h0⟩ | ⟨g, cc, cur, e, hg, hc, hcap, _, hcs, _⟩⟩ := HO5.out
    · exact .inl h0
    · cases e; exact .inr ⟨g, rfl, hg, cur, hc, by omega⟩
  clear HO5
  go_wp2_with fail
  go_ret
  exact ⟨⟨a5, c5, rfl, HR5.out, HOW.out⟩, B5.out⟩
set_option maxRecDepth 40000 in
set_option maxHeartbeats 3000000 in
theorem iStepsYes_any (p : Nat) (a : Option Addr) (len cap : Nat) (zs : List Nat) (a1 : Option Addr) (len1 cap1 : Nat) (ys : List Nat) (h n : Nat) (w : World) (hz : FRow w a len zs) (hy : FRow w a1 len1 ys) (hcap : len ≤ cap) (hcb : cap ≤ maxLen) (hh : h < 4294967296) (h0 : st0 p zs ys h n = true) :
    Calls Try.prog 28 #[.agg #[.int .i64 (p : Int), .slice a len cap], .slice a1 len1 cap1, .float .f32 h, .int .i64 (n : Int)] w fun e w' => (∃ a' c', e = .returned (.tuple #[.slice a' (stpA p zs ys h n).length c', .bool (stpB p zs ys h n)]) ∧ FRow w' a' (stpA p zs ys h n).length (stpA p zs ys h n) ∧ Dec.Own w' w.heap.size a' (stpA p zs ys h n).length 22) ∧ Below w.heap.size w w' := by
  obtain ⟨hc0, hs0, hp0, hn0⟩ := st0_parts h0
  obtain ⟨hp8, hlen, hnn⟩ := chB_parts hc0
  obtain ⟨hys, hyl⟩ := shs_parts hs0
  have HZ := Lib.hid hz
  have HY := Lib.hid hy
  have HCB := Lib.hid hc0
  have HSB := Lib.hid hs0
  have HGB : Hid (gridB h (n : Int) = true) := by show _ = _; unfold gridB; rw [hp0, decide_eq_true hn0]; rfl
  have HAT := Lib.hid (stpB_at h0)
  have hp1 : 1 ≤ p := by omega
  have hp2 : p ≤ 8 := by omega
  have hn256 : n ≤ 256 := by omega
  have hl : len = p * p := by rw [hz.1] at hlen; exact_mod_cast hlen
  have hl1 : len1 = p := by rw [hy.1] at hyl; exact_mod_cast hyl
  subst hl1
  have hsq := sq_le hp2
  have hlb : len ≤ 64 := by omega
  have hpos : 0 < len := by rw [hl]; exact Nat.mul_pos hp1 hp1
  have HNM : Hid (∀ j, j < len → nan .f32 (zs.getD j 0) = false) := Lib.hid fun j hj => nng_num (hnn j (by rw [hz.1]; exact hj))
  have HYN : Hid (∀ j, j < len1 → nan .f32 (ys.getD j 0) = false) := Lib.hid fun j hj => nng_num (hys j (by rw [hy.1]; exact hj))
  have HHI : Hid (F32.Is (some h) h) := pos_is hp0 hh
  have HLE : Hid (len = len1 * len1) := hl
  have HNW : Hid (∀ t, nwO len1 zs h ys (t + 1) = nxO len1 zs h (nwO len1 zs h ys t)) := Lib.hid fun _ => rfl
  obtain ⟨b1, o1, rfl, _, _⟩ := hy.2.2.2 0 (by omega)
  obtain ⟨b, off, rfl, _, _⟩ := hz.2.2.2 0 hpos
  clear h0 hc0 hs0 hp0 hn0 hp8 hlen hnn hys hyl hl hsq hz hy hpos
  go_enter Try.func28, Try.ntmps28
  go_wp2_with fail
  obtain ⟨W0, hW0⟩ : ∃ W0, W0 = w.alloc (.cells #[.int .i64 (len1 : Int), .slice (some ⟨b, off, none⟩) len cap] 44) := ⟨_, rfl⟩
  have K0 : Hid (CVar 44 W0 w.heap.size (len1 : Int) (some ⟨b, off, none⟩) len cap) := by rw [hW0]; exact Blk.Blk.new _ _ _
  have B0 : Hid (Below w.heap.size w W0) := by rw [hW0]; exact (Below.refl _ _).alloc (Nat.le_refl _) _
  rw [← hW0]
  clear hW0
  refine (iValidChain_any (len1 : Int) (some ⟨b, off, none⟩) len cap zs _ (HZ.out.keep B0.out) hcap).mono ?_
  rintro e w1 ⟨rfl, b1'⟩
  rw [HCB.out]
  have B1 := Lib.hid b1'
  clear b1'
  have hv := K0.out.keep B1.out
  obtain ⟨⟨c0, c1⟩, _, _⟩ := hv.two
  clear hv
  go_wp2_with fail
  refine (areShares_any (len1 : Int) (some ⟨b, off, none⟩) len cap (some ⟨b1, o1, none⟩) len1 cap1 ys _ ((HY.out.keep B0.out).keep B1.out)).mono ?_
  rintro e w2 ⟨rfl, b2⟩
  rw [HSB.out]
  have B2 := Lib.hid (B1.out.trans (b2.mono B1.out.size))
  clear b2 c0 c1
  go_wp2_with fail
  refine (isGrid_any h n _).mono ?_
  rintro e w3 ⟨rfl, d3⟩
  rw [HGB.out]
  have B3 := Lib.hid (B2.out.trans (d3.below _))
  clear d3
  go_wp2_with fail
  refine (cloneF_any b1 o1 len1 cap1 ys _ ((HY.out.keep B0.out).keep B3.out) (by omega)).mono ?_
  rintro e w4 ⟨⟨a4, c4, rfl, hr4, ho4⟩, b4⟩
  have HR4 := Lib.hid hr4
  have B4 := Lib.hid (B3.out.trans (b4.mono B3.out.size))
  have HGE : Hid (w.heap.size ≤ w3.heap.size) := Nat.le_trans B0.out.size B3.out.size
  have HO4 : Hid (Dec.Own w4 w.heap.size a4 len1 22) := by
    rcases ho4 with h | ⟨g, e1, e2, e3⟩
    · exact .inl h
    · exact .inr ⟨g, e1, Nat.le_trans HGE.out e2, e3⟩
  clear hr4 ho4 b4
  go_wp2_with fail
  go_loopg [10, 29] n (fun q v10 i wr => ∃ (t c : Nat) (a10 : Option Addr) (L : List Nat), v10 = .slice a10 len1 c ∧ i = .int .i64 (t : Int) ∧ Hid (t + q = n) ∧ t ≤ n ∧ Hid (FRow wr a10 len1 L) ∧ Hid (Dec.Own wr w.heap.size a10 len1 22) ∧ Hid (∀ j, j < len1 → F32.Is (nwO len1 zs h ys t j) (L.getD j 0)) ∧ Hid (Below W0.heap.size W0 wr))
  case atStart => exact ⟨0, c4, a4, ys, rfl, rfl, by show _ = _; omega, Nat.zero_le _, HR4.out, HO4.out, (show Hid _ from fun j hj => ⟨rfl, HYN.out j hj, HR4.out.2.2.1 _ (by simp [List.getD, HR4.out.1, hj])⟩), B4.out⟩
  case round =>
    obtain ⟨t, c10, a10, L, rfl, rfl, ht, htl, hL, hOw, hN, hB⟩ := hrel
    by_cases hlt : t < n
    · have htz : (t : Int) < (n : Int) := by omega
      have HT2 : Hid (t + 1 + (gk - 1) = n) := by have := ht.out; show _ = _; omega
      have HTG : Hid (gk - 1 < gk) := by have := ht.out; show _ < _; omega
      have hv := K0.out.keep hB.out
      obtain ⟨⟨c0, c1⟩, _, _⟩ := hv.two
      clear ht hv
      go_wp2_with fail
      refine (nextShares_any len1 b off len cap zs a10 c10 L (nwO len1 zs h ys t) h wr ((HZ.out.keep B0.out).keep hB.out) hcap hcb hp1 hp2 HLE.out HNM.out hL.out hN.out HHI.out).mono ?_
      rintro e w5 ⟨⟨g, M, rfl, hg, hM, hI⟩, b5⟩
      have HR5 := Lib.hid (hM.row (by omega) (lt_mem hM.2.1 fun j hj => (hI j hj).2))
      have HO5 : Hid (Dec.Own w5 w.heap.size (some ⟨g, 0, none⟩) len1 22) := .inr ⟨g, rfl, Nat.le_trans (Nat.le_trans B0.out.size hB.out.size) hg, hM.1⟩
      have HN5 : Hid (∀ j, j < len1 → F32.Is (nwO len1 zs h ys (t + 1) j) (M.getD j 0)) := by rw [HNW.out]; exact fun j hj => (hI j hj).1
      have HB5 := Lib.hid (hB.out.trans (b5.mono hB.out.size))
      clear hg hM hI b5 hB hL hOw hN c0 c1
      go_wp2_with fail
      go_roundg (gk - 1)
      case measure => exact HTG.out
      case rel => exact ⟨t + 1, len1, _, M, rfl, by go_num, HT2, by omega, HR5.out, HO5.out, HN5.out, HB5.out⟩
    · obtain rfl : t = n := by omega
      have BE := Lib.hid (B0.out.trans (hB.out.mono B0.out.size))
      obtain ⟨g1, g2⟩ := F32.all_is hL.out.1 hN.out
      have G1 := Lib.hid g1
      have G2 := Lib.hid g2
      clear hlt hB g1 g2
      go_wp2_with fail
      refine (onlyFin_any a10 len1 c10 L _ hL.out).mono ?_
      rintro e w7 ⟨rfl, b7⟩
      rw [G1.out]
      have R7 := Lib.hid (hL.out.keep b7)
      have O7 := Lib.hid (hOw.out.keep b7)
      have B7 := Lib.hid (BE.out.trans (b7.mono BE.out.size))
      clear b7
      cases hq : F32.oks (nwO len1 zs h ys t) len1 with
      | true =>
        have HYY : Hid (stpA len1 zs ys h t = L ∧ stpB len1 zs ys h t = true) := by
          have hb : stpB len1 zs ys h t = true := by rw [HAT.out, hq]
          exact ⟨by rw [stpA_at hb, G2.out hq], hb⟩
        rw [if_pos rfl]
        go_wp2_with fail
        go_ret2
        rw [HYY.out.1, HYY.out.2, R7.out.1]
        first | exact ⟨⟨_, _, rfl, R7.out, O7.out⟩, B7.out⟩ | exact ⟨⟨_, ⟨_, rfl⟩, R7.out, O7.out⟩, B7.out⟩
      | false =>
        have HYY : Hid (stpA len1 zs ys h t = [] ∧ stpB len1 zs ys h t = false) := by
          have hb : stpB len1 zs ys h t = false := by rw [HAT.out, hq]
          refine ⟨?_, hb⟩
          unfold stpA; rw [hb]; rfl
        rw [if_neg (by decide)]
        go_wp2_with fail
        go_ret2
        rw [HYY.out.1, HYY.out.2]
        first | exact ⟨⟨_, _, rfl, frow_nil _ _, .inl rfl⟩, B7.out⟩ | exact ⟨⟨_, ⟨_, rfl⟩, frow_nil _ _, .inl rfl⟩, B7.out⟩
end Go.Proofs.Ytiebbmgehhcdmaa
