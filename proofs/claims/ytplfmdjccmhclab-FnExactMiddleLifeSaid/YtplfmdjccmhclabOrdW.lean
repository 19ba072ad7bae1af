/-
  Contracts: lives in order, in the program and in its model. Conditions: all of them are lives, and no more than 1048576.
-/
import Derived.Test.YtplfmdjccmhclabOrd
import Derived.Lib.SliceRun
import Derived.Lib.Walk
namespace Go.Proofs.Ytplfmdjccmhclab
open Go.RowKit Liv Flt Go.Sort Stb
theorem cmpF_any (x y : Nat) (hx : nan .f32 x = false) (hy : nan .f32 y = false) (sx : S .f32 x = (x : Int)) (sy : S .f32 y = (y : Int)) (w : World) :
    Calls Try.prog 124 #[.float .f32 x, .float .f32 y] w fun e w' => e = .returned (.int .i64 (if x < y then -1 else if y < x then 1 else 0)) ∧ w = w' := by
  have o1 := order_self .f32 x
  have o2 := order_self .f32 y
  rw [hx] at o1
  rw [hy] at o2
  have o3 := ltB .f32 x y hx hy
  have o4 := gtB .f32 x y hx hy
  rw [sx, sy] at o3 o4
  clear hx hy sx sy
  by_cases h1 : x < y
  · rw [decide_eq_true (show (x : Int) < (y : Int) by omega)] at o3
    rw [if_pos h1]
    go_enter Try.func124, Try.ntmps124
    go_wp2
    go_ret
    exact ⟨rfl, rfl⟩
  · rw [decide_eq_false (show ¬ (x : Int) < (y : Int) by omega)] at o3
    rw [if_neg h1]
    by_cases h2 : y < x
    · rw [decide_eq_true (show (y : Int) < (x : Int) by omega)] at o4
      rw [if_pos h2]
      go_enter Try.func124, Try.ntmps124
      go_wp2
      go_ret
      exact ⟨rfl, rfl⟩
    · rw [decide_eq_false (show ¬ (y : Int) < (x : Int) by omega)] at o4
      rw [if_neg h2]
      go_enter Try.func124, Try.ntmps124
      go_wp2
      go_ret
      exact ⟨rfl, rfl⟩
theorem l02Before_any (W : World) (x y : Nat × Bool) (hx : VL x) (hy : VL y) : Calls Try.prog 108 #[.agg #[.float .f32 x.1, .bool x.2], .agg #[.float .f32 y.1, .bool y.2]] W fun e w' => e = .returned (.bool (decide (cfL x y < 0))) ∧ Grn W w' := by
  obtain ⟨_, _, nx, sx⟩ := pos_bits hx.1 hx.2
  obtain ⟨_, _, ny, sy⟩ := pos_bits hy.1 hy.2
  obtain ⟨x, p⟩ := x
  obtain ⟨y, q⟩ := y
  have o1 := neB .f32 x y nx ny
  have o2 := ltB .f32 x y nx ny
  simp only at nx ny sx sy
  rw [sx, sy] at o1 o2
  clear hx hy nx ny sx sy
  by_cases h1 : x = y
  · rw [decide_eq_true (show (x : Int) = (y : Int) by omega)] at o1
    have HR : Hid (decide (cfL (x, p) (y, q) < 0) = (p && !q)) := by
      show _ = _
      unfold cfL
      simp only
      rw [if_pos h1]
      cases p <;> cases q <;> simp
    rw [HR.out]
    clear h1 o2 HR
    cases p <;> cases q <;>
    · go_enter Try.func108, Try.ntmps108
      go_wp2_with fail
      go_ret
      exact ⟨rfl, ((Grn.refl _).alloc _).alloc _⟩
  · rw [decide_eq_false (show ¬ (x : Int) = (y : Int) by omega)] at o1
    have HR : Hid (decide (cfL (x, p) (y, q) < 0) = decide (x < y)) := by
      show _ = _
      unfold cfL
      simp only
      rw [if_neg h1]
      by_cases c : x < y
      · rw [if_pos c, decide_eq_true c]; decide
      · rw [if_neg c, decide_eq_false c]; decide
    rw [HR.out]
    have e : decide ((x : Int) < (y : Int)) = decide (x < y) := by
      by_cases c : x < y
      · rw [decide_eq_true c, decide_eq_true (by omega)]
      · rw [decide_eq_false c, decide_eq_false (by omega)]
    rw [e] at o2
    clear h1 HR e
    generalize decide (x < y) = r at *
    go_enter Try.func108, Try.ntmps108
    go_wp2_with fail
    go_ret
    exact ⟨rfl, ((Grn.refl _).alloc _).alloc _⟩
theorem liv_VL {w : World} {a : Option Addr} {len : Nat} {zs : List (Nat × Bool)} (h : LRow w a len zs) (hL : livB zs = true) : ∀ z ∈ zs, VL z := by
  intro z hz
  obtain ⟨j, hj, rfl⟩ := List.mem_iff_getElem.1 hz
  have := liv_pos hL hj
  unfold tm at this
  rw [show zs.getD j (0, false) = zs[j] from by simp [List.getD, hj]] at this
  exact ⟨this, h.2.2.1 _ hz⟩
set_option maxHeartbeats 4000000 in
set_option maxRecDepth 100000 in
theorem specOrderL_any (a : Option Addr) (len cap : Nat) (zs : List (Nat × Bool)) (w : World) (h : LRow w a len zs) (h0 : 0 < len) (hn : len ≤ 1048576) (hv : ∀ z ∈ zs, VL z) :
    Calls Try.prog 91 #[.slice a len cap] w fun e w' => (∃ g c d, e = .returned (.slice (some ⟨g, 0, none⟩) len c) ∧ w.heap.size ≤ g ∧ ARow 63 w' g d ∧ d.size = len ∧ d.toList = ordL zs) ∧ Below w.heap.size w w' := by
  have mixed : Try.prog.follows .mixedOrders = true := by kernel_rfl
  obtain ⟨b, off, rfl, hbl, _, _⟩ := h.2.2.2 0 h0
  have H := Lib.hid h
  have hds : zs.toArray.size = len := by simpa using h.1
  have HD := Lib.hid hds
  have HVd : Hid (∀ i, i < zs.toArray.size → VL zs.toArray[i]!) := Lib.hid (by
    intro i hi
    rw [getElem!_pos zs.toArray i hi]
    exact hv _ (by simp))
  clear h hds hv
  obtain ⟨i0, hi, hz0, hz1, hz2⟩ := info_parts (show (Try.prog.info? 63).map (fun i => (i.zero, i.size, i.bytes)) = some (some (.agg #[.float .f32 0, .bool false]), 2, 8) by kernel_rfl)
  go_enter Try.func91, Try.ntmps91
  go_wp2_with (at_builtin; refine wpList_append_own _ rfl _ _ 27 rfl w.heap.size 63 i0 (.agg #[.float .f32 0, .bool false]) 2 8 Try.underlying27 hi hz0 hz1 hz2 rfl (by decide) _ _ _ rfl (World.ownsRow_made w #[] 0 (Nat.le_refl _) (Nat.zero_le _) rfl) ⟨b, off, none⟩ len cap (lc zs) rfl ?qc1 ?qc2 ?qc3 ?qc4 ?qc5 ?qc6 ?_)
  case qc1 => rw [lc_len, H.out.1]
  case qc2 =>
    intro j u hj
    have hjn : j < (lc zs).length := (List.getElem?_eq_some_iff.1 hj).1
    rw [lc_len, H.out.1] at hjn
    rw [Addr.add_lit]
    refine Lib.cell?_alloc_some _ ?_
    obtain ⟨b', off', e1, _, q1, q2⟩ := H.out.2.2.2 (j / 2) (by omega)
    cases e1
    obtain ⟨l1, l2⟩ := lc_get zs (j / 2) (by rw [H.out.1]; omega)
    obtain ⟨k, hk⟩ : ∃ k, k = j / 2 := ⟨_, rfl⟩
    rw [← hk] at q1 q2 l1 l2
    rcases (show j = k * 2 ∨ j = k * 2 + 1 by omega) with c | c
    · subst c
      rw [l1] at hj; cases hj; exact q1
    · subst c
      rw [l2] at hj; cases hj; exact q2
  case qc3 => exact lc_one
  case qc4 => unfold maxLen; omega
  case qc5 => omega
  case qc6 => simp
  intro v' w1 hown hgrow hnil
  obtain ⟨g, c, rfl, hg, hA⟩ := arow_of_owned (zs := zs) (n := len) (by simpa using hown) H.out.1 h0
  have HF : Hid (w.heap.size ≤ g) := hg
  have A1 := Lib.hid hA
  have B1 : Hid (Below w.heap.size w w1) := Lib.hid (((Below.refl _ w).alloc (Nat.le_refl _) _).grown hgrow (by simp) (by intro k hk; simp [Value.ownBlock] at hk; omega))
  clear hown hgrow hnil hg hA
  try simp only [Nat.zero_add]
  go_wp2_with fail
  go_loopg [4] len (fun k vi wr => ∃ (i : Nat) (e : Array (Nat × Bool)), vi = .int .i64 i ∧ 0 < i ∧ i ≤ len + 1 ∧ Hid (len - i ≤ k) ∧ Hid (PermIn 0 len zs.toArray e) ∧ Hid (SortedIn (ltL cfL) 0 i e) ∧ Hid (ARow 63 wr g e) ∧ Hid (Below w.heap.size w wr))
  case atStart => exact ⟨1, zs.toArray, rfl, by omega, by omega, by show _ ≤ _; omega, permIn_refl _ 0 len, sorted_one _ (by omega), A1.out, B1.out⟩
  case round =>
    clear A1 B1
    obtain ⟨i, e, rfl, hai, hib, hk, hP, hO, hA, hB⟩ := hrel
    by_cases hlt : i < len
    · have HG : Hid (len - (i + 1) ≤ gk - 1 ∧ gk - 1 < gk) := by have := hk.out; show _ ∧ _; omega
      have hltz : (i : Int) < (len : Int) := by omega
      go_wp2_with fail
      go_loopg [5] i (fun k2 vj wr2 => ∃ (j : Nat) (e2 : Array (Nat × Bool)), vj = .int .i64 j ∧ j ≤ i ∧ j ≤ k2 ∧ Hid (PermIn 0 len zs.toArray e2) ∧ Hid (Ins (ltL cfL) 0 j i e2) ∧ Hid (ARow 63 wr2 g e2) ∧ Hid (Below w.heap.size w wr2))
      case atStart => exact ⟨i, e, rfl, Nat.le_refl _, Nat.le_refl _, hP.out, ins_start hO.out, hA.out, hB.out⟩
      case round =>
        obtain ⟨j, e2, rfl, hji, hkj, hP2, hI, hA2, hB2⟩ := hrel
        have hes : Hid (e2.size = len) := hP2.out.1.trans HD.out
        by_cases hja : 0 < j
        · obtain ⟨jp, rfl⟩ : ∃ jp, j = jp + 1 := ⟨j - 1, by omega⟩
          have HS1 : Hid (jp + 1 < e2.size) := by have := hes.out; show _ < _; omega
          have HS2 : Hid (jp < e2.size) := by have := hes.out; show _ < _; omega
          obtain ⟨x, hx⟩ : ∃ x, e2[jp + 1]! = x := ⟨_, rfl⟩
          obtain ⟨y, hy⟩ : ∃ y, e2[jp]! = y := ⟨_, rfl⟩
          have HX := Lib.hid hx
          have HY := Lib.hid hy
          have hvs := perm_all hP2.out (by have := HD.out; omega) HVd.out
          have hvx : VL x := by rw [← hx]; exact hvs _ (by have := hes.out; have := HD.out; omega)
          have hvy : VL y := by rw [← hy]; exact hvs _ (by have := hes.out; have := HD.out; omega)
          have hAg : ∀ n os, ARow 63 (Go.Sort.grow (wr.drewN n) os) g e2 := fun n os => hA2.out.keep (Grn.below ⟨n, os, rfl⟩)
          have HAg := Lib.hid hAg
          have HBg : Hid (∀ n os, Below w.heap.size w (Go.Sort.grow (wr.drewN n) os)) := Lib.hid fun n os => hB2.out.trans ((Grn.below ⟨n, os, rfl⟩).mono hB2.out.size)
          have r1 := fun n os => ((hAg n os).2 (jp + 1) HS1.out).1
          have r2 := fun n os => ((hAg n os).2 (jp + 1) HS1.out).2
          have r3 := fun n os => ((hAg n os).2 jp HS2.out).1
          have r4 := fun n os => ((hAg n os).2 jp HS2.out).2
          rw [hx] at r1 r2
          rw [hy] at r3 r4
          have hcg := fun n os => l02Before_any (Go.Sort.grow (wr.drewN n) os) x y hvx hvy
          have hjaz : (0 : Int) < (jp : Int) + 1 := by omega
          have hwp : IntKind.i64.wrap (jp : Int) = (jp : Int) := by rw [IntKind.wrap_i64]; have := hes.out; have := HS1.out; omega
          have jz : (jp : Int) + 1 < (len : Int) := by have := hes.out; have := HS1.out; omega
          have jz1 : (jp : Int) < (len : Int) := by omega
          have p0 : (0 : Int) ≤ (jp : Int) + 1 := by omega
          have e0 : ((jp : Int) + 1).toNat = jp + 1 := by omega
          obtain ⟨x0, x1⟩ := x
          obtain ⟨y0, y1⟩ := y
          clear hx hy hvs hvx hvy hAg hA2 hB2
          cases hlv : decide (cfL (x0, x1) (y0, y1) < 0) with
          | true =>
            have HLV : Hid (ltL cfL (x0, x1) (y0, y1) = true) := hlv
            rw [hlv] at hcg
            clear hlv
            go_wp2_with fail
            go_quiet_grown (refine Go.Calls.grown_of (hcg _ _))
            have hAq := HAg.out nq osq
            have hBq := HBg.out nq osq
            clear r1 r2 r3 r4 hcg HAg HBg
            generalize Go.Sort.grow (wr.drewN nq) osq = wq at *
            obtain ⟨⟨r1, r2, r3, r4⟩, _⟩ := hAq.way HS1.out HS2.out (x0, x1) (y0, y1) HX.out HY.out
            simp only at r1 r2 r3 r4
            obtain ⟨o, ho⟩ : ∃ o, o = Obj.cells #[.float .f32 x0, .bool x1] 63 (0, 0) := ⟨_, rfl⟩
            have hA1 : ARow 63 (wq.alloc o) g e2 := hAq.keep ((Below.refl _ _).alloc (Nat.le_refl _) _)
            have hgq : g < wq.heap.size := hAq.1.lt
            have hgn : g ≠ wq.heap.size := Nat.ne_of_lt hgq
            obtain ⟨⟨t1, t2, t3, t4⟩, f1, f2, f3, f4⟩ := hA1.way HS1.out HS2.out (x0, x1) (y0, y1) HX.out HY.out
            simp only at t1 t2 t3 t4
            have z0 : (wq.alloc o).cell? ⟨wq.heap.size, 0, none⟩ = some (.float .f32 x0) := by rw [ho, World.cell?_alloc_mark]; rfl
            have z1 : (wq.alloc o).cell? ⟨wq.heap.size, 1, none⟩ = some (.bool x1) := by rw [ho, World.cell?_alloc_mark]; rfl
            obtain ⟨n1, n2, n3, n4, n5, n6, n7, n8⟩ := ne_way (i := jp + 1) (j := jp) (by omega)
            have HA2 := Lib.hid ((hAq.swp HS1.out HS2.out).keep ((Below.refl _ _).alloc (Nat.le_refl _) o))
            have HB2 : Hid (Below w.heap.size w ((swW wq g (jp + 1) jp (x0, x1) (y0, y1)).alloc o)) := Lib.hid ((hBq.trans (swW_below HF.out)).alloc ((hBq.trans (swW_below HF.out)).size) _)
            rw [HX.out, HY.out] at HA2
            have HP3 := Lib.hid (permIn_trans zs.toArray e2 _ 0 len hP2.out (swp_permIn e2 0 len (jp + 1) jp (by omega) (by omega) (by omega) (by omega) (by have := hes.out; omega)))
            have HI3 := Lib.hid (hI.out.step (by rw [HX.out, HY.out]; exact HLV.out) (by omega) HS1.out)
            rw [ho] at t1 t2 t3 t4 f1 f2 f3 f4 z0 z1 HA2 HB2
            clear hAq hBq hI hP2 hA1 ho
            go_wp2_with fail
            go_roundg jp
            case measure => omega
            case rel => exact ⟨jp, _, by first | rfl | go_num, by omega, Nat.le_refl _, HP3.out, HI3.out, HA2.out, HB2.out⟩
          | false =>
            have HLV : Hid (ltL cfL (x0, x1) (y0, y1) = false) := hlv
            rw [hlv] at hcg
            have HO3 := Lib.hid (hI.out.stop swoL (.inr (by rw [Nat.add_sub_cancel, HX.out, HY.out]; exact HLV.out)))
            clear hI hlv
            go_wp2_with fail
            go_quiet_grown (refine Go.Calls.grown_of (hcg _ _))
            go_wp2_with fail
            go_roundg (len - (i + 1))
            case measure => have := HG.out; omega
            case rel => exact ⟨i + 1, e2, by go_num, by omega, by omega, Nat.le_refl _, hP2.out, HO3.out, HAg.out _ _, HBg.out _ _⟩
        · have hjaz : ¬ (0 : Int) < (j : Int) := by omega
          obtain rfl : j = 0 := by omega
          have HO3 := Lib.hid (hI.out.stop swoL (.inl (Nat.le_refl _)))
          have HA2 : Hid (ARow 63 wr.drew g e2) := Lib.hid (hA2.out.keep (below_drewN (Below.refl _ _) 1))
          have HB2 : Hid (Below w.heap.size w wr.drew) := Lib.hid (below_drewN hB2.out 1)
          clear hI hA2 hB2
          go_wp2_with fail
          go_big_region_o
          go_wp2_with fail
          go_roundg (len - (i + 1))
          case measure => have := HG.out; omega
          case rel => exact ⟨i + 1, e2, by go_num, by omega, by omega, Nat.le_refl _, hP2.out, HO3.out, HA2.out, HB2.out⟩
    · have hltz : ¬ (i : Int) < (len : Int) := by omega
      have HO : Hid (e.toList = ordL zs) := by
        have hd := HD.out
        have h3 : SortedIn (ltL cfL) 0 len e := fun p q h1 h2 h3 => hO.out p q h1 h2 (by omega)
        have := ord_unique (d := zs.toArray) (d' := e) (by rw [hd]; exact hP.out) (by rw [hd]; exact h3)
        show _ = _
        simpa using this
      have HS2 : Hid (e.size = len) := hP.out.1.trans HD.out
      clear hO hP
      go_wp2_with fail
      go_ret
      first
        | exact ⟨⟨g, c, e, rfl, HF.out, hA.out, HS2.out, HO.out⟩, hB.out⟩
        | exact ⟨⟨g, ⟨c, rfl⟩, HF.out, e, hA.out, HS2.out, HO.out⟩, hB.out⟩
        | exact ⟨⟨g, ⟨c, rfl⟩, HF.out, ⟨e, hA.out, HS2.out, HO.out⟩⟩, hB.out⟩
end Go.Proofs.Ytplfmdjccmhclab
