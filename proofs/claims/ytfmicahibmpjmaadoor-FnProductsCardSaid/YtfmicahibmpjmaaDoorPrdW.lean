/-
  The walk of the law FnProducts. Conditions: arguments fit their kind; the library's variable holds a number of its kind.
-/
import Derived.Test.YtfmicahibmpjmaaDoorProdW
import Derived.Test.YtfmicahibmpjmaaDoorCTxtW
import Derived.Test.YtfmicahibmpjmaaDoorCDrawW
namespace Go.Proofs.YtfmicahibmpjmaaDoor
open Go.RowKit Dec Flt
theorem int_nat_rep (n : Nat) (h : n < 2 ^ 24) : Rep .f32 false n (Go.floatOfInt .f32 (n : Int)) := by
  have := int_rep .f32 (n : Int) (by rw [p24, Int.natAbs_natCast]; omega)
  rw [Int.natAbs_natCast, decide_eq_false (by omega)] at this
  exact this
theorem longOf_any (a b : Nat) {i j : Int} (ha : IV .f32 a i) (hb : IV .f32 b j) (bi : i.natAbs ≤ 200) (bj : j.natAbs ≤ 200) (w : World) :
    Calls Tryd.prog 25 #[.complex .f32 a b] w fun e w' => ∃ v, e = .returned (.float .f32 v) ∧ Is (rootC (Go.floatOfInt .f32 (i * i + j * j))) v ∧ Drawn w w' := by
  obtain ⟨r, n, hn, hr, hw⟩ := wideW_any a b ha hb bi bj
  have b1 := prod_bd bi bi
  have b2 := prod_bd bj bj
  have hn2 : n < 2 ^ 24 := by omega
  rw [← hn]
  have hf := int_nat_rep n hn2
  have hW : W (Go.floatOfInt .f32 (n : Int)) = r := (widen_rep hf (by omega)).uniq hr
  have hfl : Go.floatOfInt .f32 (n : Int) < 4294967296 := by
    have := hf.lt
    have e : 2 ^ FloatKind.f32.format.width = 4294967296 := by decide
    omega
  have hrc := root_cases _ hfl hf.num
  rw [hW] at hrc
  have HW := Lib.hid hw
  generalize rootC (Go.floatOfInt .f32 (n : Int)) = rc at *
  clear hn hr hw b1 b2 hn2 hf hW hfl ha hb bi bj
  rcases hrc with ⟨h1, h2⟩ | ⟨q, v, h1, h2, h3, h4, h5⟩
  · subst h2
    go_enter Tryd.func25, Tryd.ntmps25
    go_wp2_with fail
    refine (HW.out _).mono ?_
    rintro e w1 ⟨rfl, rfl⟩
    go_wp2_with fail
    refine (msqrt64_none _ h1 _).mono ?_
    rintro e w1 ⟨v, rfl, hv, d1⟩
    have hN := narrow_nan v hv
    have hk : Is none (convNan .f32 v w1) := convNan_nan .f32 v w1
    have HK := Lib.hid hk
    clear hk hv
    go_wp2_with fail
    go_ret
    exact ⟨_, rfl, HK.out, d1.drew⟩
  · subst h3
    have hI : Is (some v) v := ⟨rfl, h4, h5⟩
    have HI := Lib.hid hI
    have hN := narrow_some q v h2
    clear h2 h4 hI
    go_enter Tryd.func25, Tryd.ntmps25
    go_wp2_with fail
    refine (HW.out _).mono ?_
    rintro e w1 ⟨rfl, rfl⟩
    go_wp2_with fail
    refine (msqrt64_some _ q h1 _).mono ?_
    rintro e w1 ⟨rfl, rfl⟩
    go_wp2_with fail
    go_ret
    exact ⟨_, rfl, HI.out, Drawn.refl _⟩
theorem specRoot_w (a : Nat) (ha : a < 4294967296) (w : World) :
    Calls Tryd.prog 26 #[.float .f32 a] w fun e w' => ∃ v, e = .returned (.float .f32 v) ∧ Is (rootC a) v ∧ Drawn w w' := by
  have H := Lib.hid (fun w => specSqrt_any a ha w)
  generalize rootC a = rc at *
  clear ha
  go_enter Tryd.func26, Tryd.ntmps26
  go_wp2_with fail
  refine (H.out _).mono ?_
  rintro e w1 ⟨v, rfl, hI, hD⟩
  have HI := Lib.hid hI
  have HD := Lib.hid hD
  clear hI hD
  go_wp2_with fail
  go_ret
  exact ⟨v, rfl, HI.out, HD.out⟩
theorem l01Same_w (a b : Nat) (w : World) (ha : nan .f32 a = true ∨ a < 4294967296) (hb : nan .f32 b = true ∨ b < 4294967296) :
    Calls Tryd.prog 51 #[.float .f32 a, .float .f32 b] w fun e w' => e = .returned (.bool (sameB a b)) ∧ w = w' := by
  have H1 := Lib.hid (fun w => l01Bits_w a w ha)
  have H2 := Lib.hid (fun w => l01Bits_w b w hb)
  clear ha hb
  go_enter Tryd.func51, Tryd.ntmps51
  go_wp2_with fail
  refine (H1.out _).mono ?_
  rintro e w' ⟨rfl, rfl⟩
  go_wp2_with fail
  refine (H2.out _).mono ?_
  rintro e w' ⟨rfl, rfl⟩
  go_wp2_with fail
  go_ret
  exact ⟨rfl, rfl⟩
theorem specSC_yes (a b c d : Nat) (w : World) (ha : a < 4294967296) (hb : b < 4294967296) (hc : c < 4294967296) (hd : d < 4294967296) (h1 : sameB a c = true) (h2 : sameB b d = true) :
    Calls Tryd.prog 69 #[.complex .f32 a b, .complex .f32 c d] w fun e w' => e = .returned (.bool true) ∧ w = w' := by
  have H1 := Lib.hid (fun w => l01Same_w a c w (.inr ha) (.inr hc))
  have H2 := Lib.hid (fun w => l01Same_w b d w (.inr hb) (.inr hd))
  rw [h1] at H1
  rw [h2] at H2
  clear ha hb hc hd h1 h2
  have hs : ∀ w, Calls Tryd.prog 88 #[.complex .f32 a b, .complex .f32 c d] w fun e w' => e = .returned (.bool true) ∧ w = w' := by
    intro w
    go_enter Tryd.func88, Tryd.ntmps88
    go_wp2_with fail
    refine (H1.out _).mono ?_
    rintro e w' ⟨rfl, rfl⟩
    go_wp2_with fail
    refine (H2.out _).mono ?_
    rintro e w' ⟨rfl, rfl⟩
    go_wp2_with fail
    go_ret
    exact ⟨rfl, rfl⟩
  have HS := Lib.hid hs
  clear hs
  go_enter Tryd.func69, Tryd.ntmps69
  go_wp2_with fail
  refine (HS.out _).mono ?_
  rintro e w' ⟨rfl, rfl⟩
  go_wp2_with fail
  go_ret
  exact ⟨rfl, rfl⟩
theorem implSC_yes (a b c d : Nat) (w : World) (ha : a < 4294967296) (hb : b < 4294967296) (hc : c < 4294967296) (hd : d < 4294967296) (h1 : sameB a c = true) (h2 : sameB b d = true) :
    Calls Tryd.prog 34 #[.complex .f32 a b, .complex .f32 c d] w fun e w' => e = .returned (.bool true) ∧ w = w' := by
  have H1 := Lib.hid (fun w => implSame_any a c w ha hc)
  have H2 := Lib.hid (fun w => implSame_any b d w hb hd)
  rw [h1] at H1
  rw [h2] at H2
  clear ha hb hc hd h1 h2
  go_enter Tryd.func34, Tryd.ntmps34
  go_wp2_with fail
  refine (H1.out _).mono ?_
  rintro e w' ⟨rfl, rfl⟩
  go_wp2_with fail
  refine (H2.out _).mono ?_
  rintro e w' ⟨rfl, rfl⟩
  go_wp2_with fail
  go_ret
  exact ⟨rfl, rfl⟩
theorem specFin_w (a : Nat) (w : World) : Calls Tryd.prog 37 #[.float .f32 a] w fun e w' => e = .returned (.bool (fin .f32 a)) ∧ Drawn w w' := by
  have H := Lib.hid (fun w => specFinite_any a w)
  generalize fin .f32 a = q at *
  go_enter Tryd.func37, Tryd.ntmps37
  go_wp2_with fail
  refine (H.out _).mono ?_
  rintro e w1 ⟨rfl, hD⟩
  have HD := Lib.hid hD
  clear hD
  go_wp2_with fail
  go_ret
  exact ⟨rfl, HD.out⟩
theorem finC_any (a b : Nat) (w : World) : Calls Tryd.prog 36 #[.complex .f32 a b] w fun e w' => e = .returned (.bool (fin .f32 a && fin .f32 b)) ∧ Drawn w w' := by
  have H1 := Lib.hid (fun w => implIsFinite_any a w)
  have H2 := Lib.hid (fun w => implIsFinite_any b w)
  generalize fin .f32 a = p at *
  generalize fin .f32 b = q at *
  cases p
  · go_enter Tryd.func36, Tryd.ntmps36
    go_wp2_with fail
    refine (H1.out _).mono ?_
    rintro e w1 ⟨rfl, hD⟩
    have HD := Lib.hid hD
    clear hD
    go_wp2_with fail
    go_ret
    exact ⟨rfl, HD.out⟩
  · go_enter Tryd.func36, Tryd.ntmps36
    go_wp2_with fail
    refine (H1.out _).mono ?_
    rintro e w1 ⟨rfl, hD⟩
    have HD := Lib.hid hD
    clear hD
    go_wp2_with fail
    refine (H2.out _).mono ?_
    rintro e w2 ⟨rfl, hD2⟩
    have HD2 := Lib.hid (HD.out.trans hD2)
    clear hD2
    go_wp2_with fail
    go_ret
    exact ⟨by simp, HD2.out⟩
/-- what narrowing leaves of a widened number -/
theorem conv_same (x y : Nat) (hx : x < 4294967296) (h : (nan .f32 x = true ∧ nan .f64 y = true) ∨ (nan .f32 x = false ∧ y = W x)) (w : World) :
    ∃ v w', (convert 44 24 (.float .f64 y)).run Tryd.prog w = .ok (.float .f32 v) w' ∧ sameB v x = true ∧ v < 4294967296 ∧ Drawn w w' := by
  rcases h with ⟨h1, h2⟩ | ⟨h1, rfl⟩
  · exact ⟨_, _, narrow_nan y h2 w, same_nn (convNan_nan .f32 y w) h1, convNan_lt .f32 y w, Drawn.one _⟩
  · exact ⟨x, w, run_convert_float_float w 44 24 .f64 .f32 _ _ (by rw [Tryd.underlying44]; rfl) Tryd.underlying24 (narrow_W x hx h1), by unfold sameB; simp, hx, Drawn.refl _⟩
set_option maxRecDepth 20000 in
theorem narrowCx_any (x1 x2 y1 y2 : Nat) (hx1 : x1 < 4294967296) (hx2 : x2 < 4294967296) (h1 : (nan .f32 x1 = true ∧ nan .f64 y1 = true) ∨ (nan .f32 x1 = false ∧ y1 = W x1)) (h2 : (nan .f32 x2 = true ∧ nan .f64 y2 = true) ∨ (nan .f32 x2 = false ∧ y2 = W x2)) (w : World) :
    Calls Tryd.prog 35 #[.complex .f64 y1 y2] w fun e w' => ∃ v1 v2, e = .returned (.complex .f32 v1 v2) ∧ (sameB v1 x1 = true ∧ sameB v2 x2 = true) ∧ (v1 < 4294967296 ∧ v2 < 4294967296) ∧ Drawn w w' := by
  obtain ⟨v1, w1, c1, s1, l1, d1⟩ := conv_same x1 y1 hx1 h1 w
  obtain ⟨v2, w2, c2, s2, l2, d2⟩ := conv_same x2 y2 hx2 h2 w1
  have HS := Lib.hid (And.intro s1 s2)
  have HD := Lib.hid (d1.trans d2)
  clear s1 s2 d1 d2 h1 h2 hx1 hx2
  go_enter Tryd.func35, Tryd.ntmps35
  go_wp2_with fail
  go_ret
  exact ⟨v1, v2, rfl, HS.out, ⟨l1, l2⟩, HD.out⟩
def samV (s1 s2 : Value) (k : Nat) (p1 p2 : Addr) (y1 y2 z1 z2 : Nat) : Nat → Value → Prop
  | 0, v => v = s1
  | 1, v => v = .int .i64 k
  | 2, v => v = .pointer (some p1)
  | 3, v => v = .complex .f32 y1 y2
  | 4, v => v = s2
  | 5, v => v = .int .i64 k
  | 6, v => v = .pointer (some p2)
  | 7, v => v = .complex .f32 z1 z2
  | 8, v => v = .bool true
  | 9, v => v = .bool false
  | _, _ => True
set_option maxRecDepth 20000 in
set_option maxHeartbeats 1600000 in
theorem b10Same_any (a b : Option Addr) (n c1 c2 : Nat) (Z : List (Nat × Nat)) (w : World) (h1 : CRow w a n (Z.map bitsP)) (h2 : CRow w b n Z) (hn : n ≤ 300) :
    Calls Tryd.prog 33 #[.slice a n c1, .slice b n c2] w fun e w' => e = .returned (.bool true) ∧ Drawn w w' := by
  have R1 := Lib.hid h1
  have R2 := Lib.hid h2
  clear h1 h2
  go_enter Tryd.func33, Tryd.ntmps33
  go_wp2_with fail
  go_loopg [13] n (fun m i wr => ∃ j : Nat, i = .int .i64 j ∧ Hid (j + m = n) ∧ j ≤ n ∧ Hid (Drawn w wr))
  case atStart => exact ⟨0, rfl, by show _ = _; omega, Nat.zero_le _, Drawn.refl _⟩
  case round =>
    obtain ⟨j, rfl, hj, hjl, hd⟩ := hrel
    by_cases hlt : j < n
    · obtain ⟨g1, o1, rfl, _, e1⟩ := R1.out.2.2.2 j hlt
      obtain ⟨g2, o2, rfl, _, e2⟩ := R2.out.2.2.2 j hlt
      have hzl := crow_lt R2.out hlt
      have hjZ : j < Z.length := by rw [R2.out.1]; exact hlt
      have hgr : (Z.map bitsP).getD j (0, 0) = bitsP (Z.getD j (0, 0)) := by simp [List.getD, hjZ]
      rw [hgr] at e1
      have HSC := Lib.hid (fun w => specSC_yes (bitsP (Z.getD j (0, 0))).1 (bitsP (Z.getD j (0, 0))).2 (Z.getD j (0, 0)).1 (Z.getD j (0, 0)).2 w (bitsN_lt hzl.1) (bitsN_lt hzl.2) hzl.1 hzl.2 (sameB_word _) (sameB_word _))
      have HJ : Hid (j + 1 + (gk - 1) = n) := by have := hj.out; show _ = _; omega
      have HG : Hid (gk - 1 < gk) := by have := hj.out; show _ < _; omega
      clear hgr hjZ hzl
      generalize (bitsP (Z.getD j (0, 0))).1 = y1 at *
      generalize (bitsP (Z.getD j (0, 0))).2 = y2 at *
      generalize (Z.getD j (0, 0)).1 = z1 at *
      generalize (Z.getD j (0, 0)).2 = z2 at *
      go_wp2_with fail
      refine wp_region_vals (C := fun w' => Drawn w w') (V := samV (.slice (some ⟨g1, o1, none⟩) n c1) (.slice (some ⟨g2, o2, none⟩) n c2) j ⟨g1, o1 + j, none⟩ ⟨g2, o2 + j, none⟩ y1 y2 z1 z2) (by kernel_rfl) hd.out.drew (by kernel_rfl) ?_ ?_
      · intro i o ho A W hC hdep hbase
        clear hj HJ HG hd
        have m1 : W.cell? ⟨g1, o1 + j, none⟩ = some (.complex .f32 y1 y2) := by rw [hC.cell]; exact e1
        have m2 : W.cell? ⟨g2, o2 + j, none⟩ = some (.complex .f32 z1 z2) := by rw [hC.cell]; exact e2
        rcases i with _ | _ | _ | _ | _ | _ | _ | _ | _ | _ | i
        · obtain rfl := Option.some.inj ho
          have b0 : A.tmps.getD 0 undef = .slice (some ⟨g1, o1, none⟩) n c1 := hbase 0 (by kernel_rfl)
          refine stepK (.slice (some ⟨g1, o1, none⟩) n c1) W rfl hC fun K hK => ?_
          simp only [Array.getD_eq_getD_getElem?] at b0
          unfold Oper.wp
          go_simp
          exact hK
        · obtain rfl := Option.some.inj ho
          have b0 : A.tmps.getD 5 undef = .int .i64 j := hbase 5 (by kernel_rfl)
          refine stepK (.int .i64 j) W rfl hC fun K hK => ?_
          simp only [Array.getD_eq_getD_getElem?] at b0
          unfold Oper.wp
          go_simp
          exact hK
        · obtain rfl := Option.some.inj ho
          have b1 : A.tmps.getD 16 undef = .slice (some ⟨g1, o1, none⟩) n c1 := hdep ⟨0, .data⟩ (by simp) rfl 16 rfl
          have b2 : A.tmps.getD 17 undef = .int .i64 j := hdep ⟨1, .data⟩ (by simp) rfl 17 rfl
          refine stepK (.pointer (some ⟨g1, o1 + j, none⟩)) W rfl hC fun K hK => ?_
          simp only [Array.getD_eq_getD_getElem?] at b1 b2
          unfold Oper.wp
          go_simp
          exact hK
        · obtain rfl := Option.some.inj ho
          have b1 : A.tmps.getD 18 undef = .pointer (some ⟨g1, o1 + j, none⟩) := hdep ⟨2, .data⟩ (by simp) rfl 18 rfl
          refine stepK (.complex .f32 y1 y2) W rfl hC fun K hK => ?_
          simp only [Array.getD_eq_getD_getElem?] at b1
          unfold Oper.wp
          go_simp
          exact hK
        · obtain rfl := Option.some.inj ho
          have b0 : A.tmps.getD 1 undef = .slice (some ⟨g2, o2, none⟩) n c2 := hbase 1 (by kernel_rfl)
          refine stepK (.slice (some ⟨g2, o2, none⟩) n c2) W rfl hC fun K hK => ?_
          simp only [Array.getD_eq_getD_getElem?] at b0
          unfold Oper.wp
          go_simp
          exact hK
        · obtain rfl := Option.some.inj ho
          have b0 : A.tmps.getD 5 undef = .int .i64 j := hbase 5 (by kernel_rfl)
          refine stepK (.int .i64 j) W rfl hC fun K hK => ?_
          simp only [Array.getD_eq_getD_getElem?] at b0
          unfold Oper.wp
          go_simp
          exact hK
        · obtain rfl := Option.some.inj ho
          have b1 : A.tmps.getD 20 undef = .slice (some ⟨g2, o2, none⟩) n c2 := hdep ⟨4, .data⟩ (by simp) rfl 20 rfl
          have b2 : A.tmps.getD 21 undef = .int .i64 j := hdep ⟨5, .data⟩ (by simp) rfl 21 rfl
          refine stepK (.pointer (some ⟨g2, o2 + j, none⟩)) W rfl hC fun K hK => ?_
          simp only [Array.getD_eq_getD_getElem?] at b1 b2
          unfold Oper.wp
          go_simp
          exact hK
        · obtain rfl := Option.some.inj ho
          have b1 : A.tmps.getD 22 undef = .pointer (some ⟨g2, o2 + j, none⟩) := hdep ⟨6, .data⟩ (by simp) rfl 22 rfl
          refine stepK (.complex .f32 z1 z2) W rfl hC fun K hK => ?_
          simp only [Array.getD_eq_getD_getElem?] at b1
          unfold Oper.wp
          go_simp
          exact hK
        · obtain rfl := Option.some.inj ho
          have b1 : A.tmps.getD 19 undef = .complex .f32 y1 y2 := hdep ⟨3, .data⟩ (by simp) rfl 19 rfl
          have b2 : A.tmps.getD 23 undef = .complex .f32 z1 z2 := hdep ⟨7, .data⟩ (by simp) rfl 23 rfl
          refine stepK (.bool true) W rfl hC fun K hK => ?_
          simp only [Array.getD_eq_getD_getElem?] at b1 b2
          unfold Oper.wp
          go_simp
          refine (HSC.out _).mono ?_
          rintro e w' ⟨rfl, rfl⟩
          exact hK
        · obtain rfl := Option.some.inj ho
          have b1 : A.tmps.getD 24 undef = .bool true := hdep ⟨8, .data⟩ (by simp) rfl 24 rfl
          refine stepK (.bool false) W rfl hC fun K hK => ?_
          simp only [Array.getD_eq_getD_getElem?] at b1
          unfold Oper.wp
          go_simp
          exact hK
        · have := (Array.getElem?_eq_some_iff.1 ho).1
          simp at this
          omega
      · intro vals W hC hlen hV
        clear e1 e2
        match vals, hlen with
        | [v0, v1, v2, v3, v4, v5, v6, v7, v8, v9], _ =>
          obtain rfl : v0 = _ := hV 0 (by simp)
          obtain rfl : v1 = _ := hV 1 (by simp)
          obtain rfl : v2 = _ := hV 2 (by simp)
          obtain rfl : v3 = _ := hV 3 (by simp)
          obtain rfl : v4 = _ := hV 4 (by simp)
          obtain rfl : v5 = _ := hV 5 (by simp)
          obtain rfl : v6 = _ := hV 6 (by simp)
          obtain rfl : v7 = _ := hV 7 (by simp)
          obtain rfl : v8 = _ := hV 8 (by simp)
          obtain rfl : v9 = _ := hV 9 (by simp)
          clear hV
          have HC := Lib.hid hC
          clear hC
          simp only [puts, Act.put, List.zip_cons_cons, List.zip_nil_left, List.foldl_cons, List.foldl_nil, List.setIfInBounds_toArray, List.set_cons_zero, List.set_cons_succ]
          go_wp2_with fail
          go_roundg (gk - 1)
          case measure => exact HG.out
          case rel => exact ⟨j + 1, by go_num, HJ, by omega, HC.out⟩
    · obtain rfl : j = n := by have := hj.out; omega
      clear hlt hj
      go_wp2_with fail
      go_ret
      exact ⟨rfl, hd.out⟩
def fnProducts_wants (w : World) : Prop := MaxAt w
theorem row_one {w : World} {a : Option Addr} {Z : List (Nat × Nat)} (h : CRow w a 1 Z) (hs : ∀ z ∈ Z, Small z) : ∃ b off x y, a = some ⟨b, off, none⟩ ∧ w.cell? ⟨b, off, none⟩ = some (.complex .f32 x y) ∧ b < w.heap.size ∧ Small (x, y) := by
  obtain ⟨b, off, e, hb, hc⟩ := h.2.2.2 0 (by decide)
  have hl := h.1
  match Z, hl with
  | [z], _ => exact ⟨b, off, z.1, z.2, e, hc, hb, hs z (List.mem_singleton.2 rfl)⟩
set_option maxRecDepth 20000 in
set_option maxHeartbeats 4000000 in
theorem fnProducts_walk (a0 : Option Addr) (l0 c0 : Nat) (z0 : List Nat) (a1 : Option Addr) (l1 c1 : Nat) (z1 : List Nat) (w : World) (h0 : BRow w a0 l0 z0) (h1 : BRow w a1 l1 z1) (ht : fnProducts_wants w) :
    Calls Tryd.prog 4 #[.slice a0 l0 c0, .slice a1 l1 c1] w fun e w' => e = .returned (.bool true) ∧ Below w.heap.size w w' := by
  have HT := Lib.hid ht
  have H0 := Lib.hid h0
  have H1 := Lib.hid h1
  have hm0 : l0 ≤ 9223372036854775807 := by have := h0.2.1; unfold maxLen at this; exact this
  have hm1 : l1 ≤ 9223372036854775807 := by have := h1.2.1; unfold maxLen at this; exact this
  have HLB := Lib.hid (fun w => b10Long_any a0 a1 l0 l1 c0 c1 hm0 hm1 w)
  clear h0 h1 ht
  cases hlong : (decide (1048576 < l0) || decide (1048576 < l1))
  · rw [hlong] at HLB
    go_enter Tryd.func4, Tryd.ntmps4
    go_wp2_with fail
    refine (HLB.out _).mono ?_
    rintro e wz ⟨rfl, rfl⟩
    go_wp2_with fail
    refine (b10Whole_any a0 l0 c0 z0 _ H0.out).mono ?_
    rintro e w1 ⟨aa, ca, Za, rfl, hRa, hSa, b1⟩
    have B1 := Lib.hid b1
    obtain ⟨ga, oa, x1, x2, rfl, hca, _, i, j, bi, bj, hx1, hx2⟩ := row_one hRa hSa
    have HX1 := Lib.hid hx1
    have HX2 := Lib.hid hx2
    clear b1 hRa hSa hx1 hx2
    go_wp2_with fail
    refine (b10Whole_any a1 l1 c1 z1 _ (H1.out.keep B1.out)).mono ?_
    rintro e w2 ⟨ab, cb, Zb, rfl, hRb, hSb, b2⟩
    have B2 := Lib.hid (B1.out.trans (b2.mono B1.out.size))
    obtain ⟨gb, ob, y1, y2, rfl, hcb, _, k, l, bk, bl, hy1, hy2⟩ := row_one hRb hSb
    have HY1 := Lib.hid hy1
    have HY2 := Lib.hid hy2
    clear b2 hRb hSb hy1 hy2 B1
    have q1 := prod_bd bi bk
    have q2 := prod_bd bj bl
    have q3 := prod_bd bi bl
    have q4 := prod_bd bj bk
    have q5 := prod_bd bi bi
    have q6 := prod_bd bj bj
    obtain ⟨p1, p2, P1, P2, hmul⟩ := mulC_any x1 x2 y1 y2 HX1.out HX2.out HY1.out HY2.out bi bj bk bl
    have HMUL := Lib.hid hmul
    obtain ⟨r1, r2, R1, R2, hmul2⟩ := mulC_any y1 y2 x1 x2 HY1.out HY2.out HX1.out HX2.out bk bl bi bj
    have HMUL2 := Lib.hid hmul2
    clear hmul hmul2
    have hTx1 : ∀ w, (convert 24 2 (.float .f32 x1)).run Tryd.prog w = .ok (.int .i64 i) w := fun w => run_convert_float_int w 24 2 .f32 .i64 _ _ (by rw [Tryd.underlying24]; rfl) Tryd.underlying2 (HX1.out.trunc (by omega))
    have hTx2 : ∀ w, (convert 24 2 (.float .f32 x2)).run Tryd.prog w = .ok (.int .i64 j) w := fun w => run_convert_float_int w 24 2 .f32 .i64 _ _ (by rw [Tryd.underlying24]; rfl) Tryd.underlying2 (HX2.out.trunc (by omega))
    have hTy1 : ∀ w, (convert 24 2 (.float .f32 y1)).run Tryd.prog w = .ok (.int .i64 k) w := fun w => run_convert_float_int w 24 2 .f32 .i64 _ _ (by rw [Tryd.underlying24]; rfl) Tryd.underlying2 (HY1.out.trunc (by omega))
    have hTy2 : ∀ w, (convert 24 2 (.float .f32 y2)).run Tryd.prog w = .ok (.int .i64 l) w := fun w => run_convert_float_int w 24 2 .f32 .i64 _ _ (by rw [Tryd.underlying24]; rfl) Tryd.underlying2 (HY2.out.trunc (by omega))
    have k1 : -40000 ≤ i * k ∧ i * k ≤ 40000 := by omega
    have k2 : -40000 ≤ j * l ∧ j * l ≤ 40000 := by omega
    have k3 : -40000 ≤ i * l ∧ i * l ≤ 40000 := by omega
    have k4 : -40000 ≤ j * k ∧ j * k ≤ 40000 := by omega
    have k5 : -40000 ≤ i * i ∧ i * i ≤ 40000 := by omega
    have k6 : -40000 ≤ j * j ∧ j * j ≤ 40000 := by omega
    obtain ⟨k11, k12⟩ := k1
    obtain ⟨k21, k22⟩ := k2
    obtain ⟨k31, k32⟩ := k3
    obtain ⟨k41, k42⟩ := k4
    obtain ⟨k51, k52⟩ := k5
    obtain ⟨k61, k62⟩ := k6
    have ho1 : (FloatKind.f32.format.order p1 (floatOfInt .f32 (i * k - j * l)) == some .eq) = true := by rw [P1.order (IV.ofInt .f32 _ (by rw [p24]; omega))]; simp
    have ho2 : (FloatKind.f32.format.order p2 (floatOfInt .f32 (i * l + j * k)) == some .eq) = true := by rw [P2.order (IV.ofInt .f32 _ (by rw [p24]; omega))]; simp
    have ho3 : (FloatKind.f32.format.order r1 p1 == some .eq) = true := by
      rw [R1.order P1]
      exact decide_eq_true (by rw [Int.mul_comm k i, Int.mul_comm l j])
    have ho4 : (FloatKind.f32.format.order r2 p2 == some .eq) = true := by
      rw [R2.order P2]
      exact decide_eq_true (by rw [Int.mul_comm k j, Int.mul_comm l i]; omega)
    go_wp2_with fail
    refine (HMUL.out _).mono ?_
    rintro e wz ⟨rfl, rfl⟩
    go_wp2_with fail
    refine (HMUL2.out _).mono ?_
    rintro e wz ⟨rfl, rfl⟩
    obtain ⟨pw, PW, hpw⟩ := powerOf_any x1 x2 HX1.out HX2.out bi bj
    have HPW := Lib.hid hpw
    have hf24 : (i * i + j * j).natAbs < 2 ^ (FloatKind.f32.format.fractionBits + 1) := by rw [p24]; omega
    have FI := IV.ofInt .f32 (i * i + j * j) hf24
    have ho5 : (FloatKind.f32.format.order pw (floatOfInt .f32 (i * i + j * j)) != some .eq) = false := by rw [bne, PW.order FI]; simp
    clear hpw
    go_wp2_with fail
    refine (HPW.out _).mono ?_
    rintro e wz ⟨rfl, rfl⟩
    go_wp2_with fail
    refine (conj_any x1 x2 _).mono ?_
    rintro e wz ⟨rfl, rfl⟩
    obtain ⟨u1, u2, U1, U2, hmul3⟩ := mulC_any x1 x2 x1 (negF x2) HX1.out HX2.out HX1.out HX2.out.neg bi bj bi (by omega)
    have HMUL3 := Lib.hid hmul3
    have ho6 : (FloatKind.f32.format.order u1 (floatOfInt .f32 (i * i + j * j)) == some .eq) = true := by
      rw [U1.order FI]
      exact decide_eq_true (by rw [Int.mul_neg]; omega)
    have ho7 : (FloatKind.f32.format.order u2 0 == some .eq) = true := by
      rw [U2.order (IV.zero .f32)]
      exact decide_eq_true (by rw [Int.mul_neg, Int.mul_comm j i]; omega)
    clear hmul3
    generalize negF x2 = nx2 at *
    go_wp2_with fail
    refine (HMUL3.out _).mono ?_
    rintro e wz ⟨rfl, rfl⟩
    go_wp2_with fail
    refine (longOf_any x1 x2 HX1.out HX2.out bi bj _).mono ?_
    rintro e w3 ⟨lo, rfl, hIl, d3⟩
    have HIL := Lib.hid hIl
    have B3 := Lib.hid (B2.out.trans (d3.below _))
    have hfl : floatOfInt .f32 (i * i + j * j) < 4294967296 := by
      have := FI.lt
      have e : 2 ^ FloatKind.f32.format.width = 4294967296 := by decide
      omega
    clear hIl d3 B2
    go_wp2_with fail
    refine (specRoot_w (floatOfInt .f32 (i * i + j * j)) hfl _).mono ?_
    rintro e w4 ⟨ro, rfl, hIr, d4⟩
    have HSL := Lib.hid (same_is HIL.out hIr)
    have OL := Lib.hid (is_or HIL.out)
    have OR := Lib.hid (is_or hIr)
    have B4 := Lib.hid (B3.out.trans (d4.below _))
    clear hIr d4 B3 HIL
    go_wp2_with fail
    refine (specSame_w lo ro _ OL.out OR.out).mono ?_
    rintro e wz ⟨rfl, rfl⟩
    rw [HSL.out]
    clear OL OR HSL ho1 ho2 ho3 ho4 ho5 ho6 ho7 hfl hTx1 hTx2 hTy1 hTy2
    obtain ⟨s1, s2, S1, S2, hsc⟩ := scaleC_any x1 x2 HX1.out HX2.out bi bj
    obtain ⟨t1, t2, T1, T2, htw⟩ := twice_any x1 x2 HX1.out HX2.out bi bj
    have HSCL := Lib.hid hsc
    have ho8 : (FloatKind.f32.format.order s1 t1 == some .eq) = true := by
      rw [S1.order T1]
      exact decide_eq_true (by omega)
    have ho9 : (FloatKind.f32.format.order s2 t2 == some .eq) = true := by
      rw [S2.order T2]
      exact decide_eq_true (by omega)
    clear hsc
    have HKL : Hid (((FloatKind.f32.format.order y1 0 == some .eq) && (FloatKind.f32.format.order y2 0 == some .eq)) = (decide (k = 0) && decide (l = 0))) := by
      show _ = _
      rw [HY1.out.order (IV.zero .f32), HY2.out.order (IV.zero .f32)]
    by_cases hb0 : k = 0 ∧ l = 0
    · have hkl : ((FloatKind.f32.format.order y1 0 == some .eq) && (FloatKind.f32.format.order y2 0 == some .eq)) = true := by rw [HKL.out, decide_eq_true hb0.1, decide_eq_true hb0.2]; rfl
      clear HKL
      go_wp2_with fail
      refine (HSCL.out _).mono ?_
      rintro e wz ⟨rfl, rfl⟩
      go_wp2_with fail
      refine (b10At_any 0 9 (by decide) (by decide) (by decide) a0 l0 c0 z0 _ (H0.out.keep B4.out)).mono ?_
      rintro e wz ⟨n, rfl, hn, rfl⟩
      clear ho8 ho9 hkl htw hca hcb
      go_wp2_with fail
      refine (b10Any_any n (by omega) a1 l1 c1 z1 _ (H1.out.keep B4.out)).mono ?_
      rintro e w5 ⟨a', c', Z, rfl, hF, b5⟩
      have F5 := Lib.hid hF
      have B5 := Lib.hid (B4.out.trans (b5.mono B4.out.size))
      clear hF b5 B4
      go_wp2_with fail
      refine (textC_any a' n c' Z w5 F5.out (by omega)).mono ?_
      rintro e w6 ⟨rfl, b6⟩
      have F6 := Lib.hid (F5.out.keep b6)
      have B6 := Lib.hid (B5.out.trans (b6.mono B5.out.size))
      have M6 : Hid (MaxAt w6) := MaxAt.keep HT.out B6.out
      clear b6 F5 B5
      have HRT := Lib.hid (read_txtC Z (by rw [F6.out.1]; omega) F6.out.2.2.1)
      have HTS : Hid ((txtCB Z).size ≤ 1048576) := by
        have := txtCB_size Z (by rw [F6.out.1]; omega)
        show _ ≤ _; omega
      have HRC := Lib.hid (implReadComplex_any (txtCB Z) HTS.out w6 M6.out)
      rw [HRT.out.1, HRT.out.2, List.length_map, F6.out.1] at HRC
      generalize txtCB Z = T at *
      clear HRT HTS
      go_wp2_with fail
      refine HRC.out.mono ?_
      rintro e w7 ⟨ar, cr, rfl, hFr, _, b7⟩
      have FR7 := Lib.hid hFr
      have F7 := Lib.hid (F6.out.keep b7)
      have B7 := Lib.hid (B6.out.trans (b7.mono B6.out.size))
      clear hFr b7 F6 B6 HRC
      go_wp2_with fail
      refine (b10Number_any a0 l0 c0 z0 _ (H0.out.keep B7.out)).mono ?_
      rintro e w8 ⟨x, hx, rfl, b8⟩
      have FR8 := Lib.hid (FR7.out.keep b8)
      have F8 := Lib.hid (F7.out.keep b8)
      have B8 := Lib.hid (B7.out.trans (b8.mono B7.out.size))
      clear b8 FR7 F7 B7
      go_wp2_with fail
      refine (implBits_any x _ hx).mono ?_
      rintro e wz ⟨rfl, rfl⟩
      have HBX := Lib.hid (bitsC_eq x)
      rw [HBX.out]
      have hbl := bitsN_lt hx
      have HSB := Lib.hid (sameB_word x)
      generalize bitsN x = bx at *
      go_wp2_with fail
      refine (implFrom_yes bx hbl _).mono ?_
      rintro e wz ⟨rfl, rfl⟩
      go_wp2_with fail
      refine (b10Complex_any a0 l0 c0 z0 _ (H0.out.keep B8.out)).mono ?_
      rintro e w9 ⟨c1', c2', hcl, rfl, b9⟩
      obtain ⟨hcl1, hcl2⟩ := hcl
      have FR9 := Lib.hid (FR8.out.keep b9)
      have F9 := Lib.hid (F8.out.keep b9)
      have B9 := Lib.hid (B8.out.trans (b9.mono B8.out.size))
      clear b9 FR8 F8 B8
      have hwid1 := widen_all c1' w9
      have hwid2 := widen_all c2' (wd c1' w9)
      have HW1 := Lib.hid (wid_cases c1' w9)
      have HW2 := Lib.hid (wid_cases c2' (wd c1' w9))
      have D9 := Lib.hid ((wd_drawn c1' w9).trans (wd_drawn c2' (wd c1' w9)))
      generalize wid c1' w9 = e1 at *
      generalize wid c2' (wd c1' w9) = e2 at *
      generalize wd c2' (wd c1' w9) = wB at *
      go_wp2_with fail
      refine (b10Same_any ar a' n cr c' Z wB (FR9.out.keep (D9.out.below _)) (F9.out.keep (D9.out.below _)) (by omega)).mono ?_
      rintro e w10 ⟨rfl, d10⟩
      have B10 := Lib.hid (B9.out.trans ((D9.out.trans d10).below _))
      clear d10 FR9 F9 B9 hwid1 hwid2 D9
      go_wp2_with fail
      refine (specSame_w bx x _ (.inr hbl) (.inr hx)).mono ?_
      rintro e wz ⟨rfl, rfl⟩
      rw [HSB.out]
      go_wp2_with fail
      refine (narrowCx_any c1' c2' e1 e2 hcl1 hcl2 HW1.out HW2.out _).mono ?_
      rintro e w11 ⟨v1', v2', rfl, hvs, hvl, d11⟩
      have HSC := Lib.hid (fun w => implSC_yes v1' v2' c1' c2' w hvl.1 hvl.2 hcl1 hcl2 hvs.1 hvs.2)
      have B11 := Lib.hid (B10.out.trans (d11.below _))
      clear hvs hvl d11 B10
      go_wp2_with fail
      refine (HSC.out _).mono ?_
      rintro e wz ⟨rfl, rfl⟩
      have HS2 := Lib.hid (fun w => implSC_yes c1' c2' c1' c2' w hcl1 hcl2 hcl1 hcl2 (by unfold sameB; simp) (by unfold sameB; simp))
      have HCJ := Lib.hid (fun w => conj_any c1' (negF c2') w)
      rw [negF_two] at HCJ
      have HCI := Lib.hid (fun w => conj_any c1' c2' w)
      generalize negF c2' = nc at *
      go_wp2_with fail
      refine (HCI.out _).mono ?_
      rintro e wz ⟨rfl, rfl⟩
      go_wp2_with fail
      refine (HCJ.out _).mono ?_
      rintro e wz ⟨rfl, rfl⟩
      go_wp2_with fail
      refine (HS2.out _).mono ?_
      rintro e wz ⟨rfl, rfl⟩
      have HFC := Lib.hid (fun w => finC_any c1' c2' w)
      have HF1 := Lib.hid (fun w => specFin_w c1' w)
      have HF2 := Lib.hid (fun w => specFin_w c2' w)
      generalize fin .f32 c1' = f1 at *
      generalize fin .f32 c2' = f2 at *
      go_wp2_with fail
      refine (HFC.out _).mono ?_
      rintro e w12 ⟨rfl, d12⟩
      have B12 := Lib.hid (B11.out.trans (d12.below _))
      clear d12 B11
      go_wp2_with fail
      refine (HF1.out _).mono ?_
      rintro e w13 ⟨rfl, d13⟩
      have B13 := Lib.hid (B12.out.trans (d13.below _))
      clear d13 B12
      cases f1
      · go_wp2_with fail
        go_ret
        exact ⟨rfl, B13.out⟩
      · go_wp2_with fail
        refine (HF2.out _).mono ?_
        rintro e w14 ⟨rfl, d14⟩
        have B14 := Lib.hid (B13.out.trans (d14.below _))
        clear d14 B13
        have hff : (f2 == f2) = true := by simp
        go_wp2_with fail
        go_ret
        exact ⟨rfl, B14.out⟩
    · have hkl : ((FloatKind.f32.format.order y1 0 == some .eq) && (FloatKind.f32.format.order y2 0 == some .eq)) = false := by
        rw [HKL.out, Bool.and_eq_false_iff]
        by_cases hk : k = 0
        · exact .inr (decide_eq_false (fun h => hb0 ⟨hk, h⟩))
        · exact .inl (decide_eq_false hk)
      obtain ⟨n1, n2, N1, N2, hqu⟩ := quoC_any p1 p2 y1 y2 P1 P2 HY1.out HY2.out bi bj bk bl (by
        by_cases hk : k = 0
        · exact .inr (fun h => hb0 ⟨hk, h⟩)
        · exact .inl hk)
      have HQU := Lib.hid hqu
      have hn1 : (FloatKind.f32.format.order n1 x1 == some .eq) = true := by rw [N1.order HX1.out]; simp
      have hn2 : (FloatKind.f32.format.order n2 x2 == some .eq) = true := by rw [N2.order HX2.out]; simp
      clear hqu HKL
      go_wp2_with fail
      refine (HQU.out _).mono ?_
      rintro e wz ⟨rfl, rfl⟩
      go_wp2_with fail
      refine (HSCL.out _).mono ?_
      rintro e wz ⟨rfl, rfl⟩
      go_wp2_with fail
      refine (b10At_any 0 9 (by decide) (by decide) (by decide) a0 l0 c0 z0 _ (H0.out.keep B4.out)).mono ?_
      rintro e wz ⟨n, rfl, hn, rfl⟩
      clear ho8 ho9 hkl htw hca hcb
      go_wp2_with fail
      refine (b10Any_any n (by omega) a1 l1 c1 z1 _ (H1.out.keep B4.out)).mono ?_
      rintro e w5 ⟨a', c', Z, rfl, hF, b5⟩
      have F5 := Lib.hid hF
      have B5 := Lib.hid (B4.out.trans (b5.mono B4.out.size))
      clear hF b5 B4
      go_wp2_with fail
      refine (textC_any a' n c' Z w5 F5.out (by omega)).mono ?_
      rintro e w6 ⟨rfl, b6⟩
      have F6 := Lib.hid (F5.out.keep b6)
      have B6 := Lib.hid (B5.out.trans (b6.mono B5.out.size))
      have M6 : Hid (MaxAt w6) := MaxAt.keep HT.out B6.out
      clear b6 F5 B5
      have HRT := Lib.hid (read_txtC Z (by rw [F6.out.1]; omega) F6.out.2.2.1)
      have HTS : Hid ((txtCB Z).size ≤ 1048576) := by
        have := txtCB_size Z (by rw [F6.out.1]; omega)
        show _ ≤ _; omega
      have HRC := Lib.hid (implReadComplex_any (txtCB Z) HTS.out w6 M6.out)
      rw [HRT.out.1, HRT.out.2, List.length_map, F6.out.1] at HRC
      generalize txtCB Z = T at *
      clear HRT HTS
      go_wp2_with fail
      refine HRC.out.mono ?_
      rintro e w7 ⟨ar, cr, rfl, hFr, _, b7⟩
      have FR7 := Lib.hid hFr
      have F7 := Lib.hid (F6.out.keep b7)
      have B7 := Lib.hid (B6.out.trans (b7.mono B6.out.size))
      clear hFr b7 F6 B6 HRC
      go_wp2_with fail
      refine (b10Number_any a0 l0 c0 z0 _ (H0.out.keep B7.out)).mono ?_
      rintro e w8 ⟨x, hx, rfl, b8⟩
      have FR8 := Lib.hid (FR7.out.keep b8)
      have F8 := Lib.hid (F7.out.keep b8)
      have B8 := Lib.hid (B7.out.trans (b8.mono B7.out.size))
      clear b8 FR7 F7 B7
      go_wp2_with fail
      refine (implBits_any x _ hx).mono ?_
      rintro e wz ⟨rfl, rfl⟩
      have HBX := Lib.hid (bitsC_eq x)
      rw [HBX.out]
      have hbl := bitsN_lt hx
      have HSB := Lib.hid (sameB_word x)
      generalize bitsN x = bx at *
      go_wp2_with fail
      refine (implFrom_yes bx hbl _).mono ?_
      rintro e wz ⟨rfl, rfl⟩
      go_wp2_with fail
      refine (b10Complex_any a0 l0 c0 z0 _ (H0.out.keep B8.out)).mono ?_
      rintro e w9 ⟨c1', c2', hcl, rfl, b9⟩
      obtain ⟨hcl1, hcl2⟩ := hcl
      have FR9 := Lib.hid (FR8.out.keep b9)
      have F9 := Lib.hid (F8.out.keep b9)
      have B9 := Lib.hid (B8.out.trans (b9.mono B8.out.size))
      clear b9 FR8 F8 B8
      have hwid1 := widen_all c1' w9
      have hwid2 := widen_all c2' (wd c1' w9)
      have HW1 := Lib.hid (wid_cases c1' w9)
      have HW2 := Lib.hid (wid_cases c2' (wd c1' w9))
      have D9 := Lib.hid ((wd_drawn c1' w9).trans (wd_drawn c2' (wd c1' w9)))
      generalize wid c1' w9 = e1 at *
      generalize wid c2' (wd c1' w9) = e2 at *
      generalize wd c2' (wd c1' w9) = wB at *
      go_wp2_with fail
      refine (b10Same_any ar a' n cr c' Z wB (FR9.out.keep (D9.out.below _)) (F9.out.keep (D9.out.below _)) (by omega)).mono ?_
      rintro e w10 ⟨rfl, d10⟩
      have B10 := Lib.hid (B9.out.trans ((D9.out.trans d10).below _))
      clear d10 FR9 F9 B9 hwid1 hwid2 D9
      go_wp2_with fail
      refine (specSame_w bx x _ (.inr hbl) (.inr hx)).mono ?_
      rintro e wz ⟨rfl, rfl⟩
      rw [HSB.out]
      go_wp2_with fail
      refine (narrowCx_any c1' c2' e1 e2 hcl1 hcl2 HW1.out HW2.out _).mono ?_
      rintro e w11 ⟨v1', v2', rfl, hvs, hvl, d11⟩
      have HSC := Lib.hid (fun w => implSC_yes v1' v2' c1' c2' w hvl.1 hvl.2 hcl1 hcl2 hvs.1 hvs.2)
      have B11 := Lib.hid (B10.out.trans (d11.below _))
      clear hvs hvl d11 B10
      go_wp2_with fail
      refine (HSC.out _).mono ?_
      rintro e wz ⟨rfl, rfl⟩
      have HS2 := Lib.hid (fun w => implSC_yes c1' c2' c1' c2' w hcl1 hcl2 hcl1 hcl2 (by unfold sameB; simp) (by unfold sameB; simp))
      have HCJ := Lib.hid (fun w => conj_any c1' (negF c2') w)
      rw [negF_two] at HCJ
      have HCI := Lib.hid (fun w => conj_any c1' c2' w)
      generalize negF c2' = nc at *
      go_wp2_with fail
      refine (HCI.out _).mono ?_
      rintro e wz ⟨rfl, rfl⟩
      go_wp2_with fail
      refine (HCJ.out _).mono ?_
      rintro e wz ⟨rfl, rfl⟩
      go_wp2_with fail
      refine (HS2.out _).mono ?_
      rintro e wz ⟨rfl, rfl⟩
      have HFC := Lib.hid (fun w => finC_any c1' c2' w)
      have HF1 := Lib.hid (fun w => specFin_w c1' w)
      have HF2 := Lib.hid (fun w => specFin_w c2' w)
      generalize fin .f32 c1' = f1 at *
      generalize fin .f32 c2' = f2 at *
      go_wp2_with fail
      refine (HFC.out _).mono ?_
      rintro e w12 ⟨rfl, d12⟩
      have B12 := Lib.hid (B11.out.trans (d12.below _))
      clear d12 B11
      go_wp2_with fail
      refine (HF1.out _).mono ?_
      rintro e w13 ⟨rfl, d13⟩
      have B13 := Lib.hid (B12.out.trans (d13.below _))
      clear d13 B12
      cases f1
      · go_wp2_with fail
        go_ret
        exact ⟨rfl, B13.out⟩
      · go_wp2_with fail
        refine (HF2.out _).mono ?_
        rintro e w14 ⟨rfl, d14⟩
        have B14 := Lib.hid (B13.out.trans (d14.below _))
        clear d14 B13
        have hff : (f2 == f2) = true := by simp
        go_wp2_with fail
        go_ret
        exact ⟨rfl, B14.out⟩
  · rw [hlong] at HLB
    go_enter Tryd.func4, Tryd.ntmps4
    go_wp2_with fail
    refine (HLB.out _).mono ?_
    rintro e wz ⟨rfl, rfl⟩
    go_wp2_with fail
    go_ret
    exact ⟨rfl, Below.refl _ _⟩
end Go.Proofs.YtfmicahibmpjmaaDoor
