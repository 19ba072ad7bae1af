/-
  Lists of complex numbers of an answer: their rows, comparison, marks and reading. No conditions beyond those stated.
-/
import Derived.Test.YtfmicahibmpjmacDoorSlW
import Derived.Test.YtfmicahibmpjmacDoorBnd
import Derived.Test.YtfmicahibmpjmacDoorMarkW
import Derived.Laws.Cover2
import Derived.Laws.Cover3
import Derived.Laws.ComplexArith
namespace Dec
open Go Flt
def CRow (w : World) (a : Option Addr) (len : Nat) (zs : List (Nat × Nat)) : Prop :=
  zs.length = len ∧ len ≤ maxLen ∧ (∀ z ∈ zs, z.1 < 4294967296 ∧ z.2 < 4294967296) ∧ ∀ i, i < len → ∃ b off, a = some ⟨b, off, none⟩ ∧ b < w.heap.size ∧ w.cell? ⟨b, off + i, none⟩ = some (.complex .f32 (zs.getD i (0, 0)).1 (zs.getD i (0, 0)).2)
theorem CRow.keep {w w' : World} {a : Option Addr} {len : Nat} {zs : List (Nat × Nat)} (h : CRow w a len zs) (hb : Go.RowKit.Below w.heap.size w w') : CRow w' a len zs := by
  obtain ⟨h1, h2, h3, h4⟩ := h
  refine ⟨h1, h2, h3, fun i hi => ?_⟩
  obtain ⟨b, off, e, hlt, hc⟩ := h4 i hi
  exact ⟨b, off, e, Nat.lt_of_lt_of_le hlt hb.size, by rw [World.cell?_of_block (w := w) (hb.block b hlt)]; exact hc⟩
def mc (j : Nat) : Nat := (Go.floatToFloatBits .f64 (Go.floatOfInt .f64 (1 + (j : Int))) .f32).getD 0
def mC (j : Nat) : Value := .complex .f32 (mc j) 1065353216
theorem mc_all : ((List.range 257).all fun j => (cConvBits .f64 (Go.floatOfInt .f64 (1 + (j : Int))) 4607182418800017408 .f32 == some (mc j, 1065353216)) && !nan .f32 (mc j)) = true := by kernel_rfl
theorem mc_at (j : Nat) (h : j ≤ 256) : cConvBits .f64 (Go.floatOfInt .f64 (1 + (j : Int))) 4607182418800017408 .f32 = some (mc j, 1065353216) ∧ nan .f32 (mc j) = false := by
  have := List.all_eq_true.1 mc_all j (List.mem_range.2 (by omega))
  simpa using this
theorem mC_self (j : Nat) (h : j ≤ 256) : (FloatKind.f32.format.order (mc j) (mc j) == some .eq) = true := by
  rw [order_self', (mc_at j h).2]; rfl
def CWide (z y : Nat) : Prop := y < 18446744073709551616 ∧ (if nan .f32 z then nan .f64 y = true else y = W z)
end Dec
namespace Go.Proofs.YtfmicahibmpjmacDoor
open Go.RowKit Dec Flt
@[go_sem] theorem run_store_cx {P : Program} {w : World} {a : Addr} {m : Mode} (k : FloatKind) (b c : Nat) : (store a (.complex k b c) m).run P w = stored P w a (.complex k b c) m := run_store P w a _ m rfl
theorem mC_run (j : Nat) (h : j ≤ 256) (w : World) : (convert 45 42 (.complex .f64 (Go.floatOfInt .f64 (1 + (j : Int))) 4607182418800017408)).run Tryd.prog w = .ok (mC j) w :=
  run_convert_complex w 45 42 .f64 .f32 _ _ _ _ (by rw [Tryd.underlying45]; rfl) Tryd.underlying42 (mc_at j h).1
theorem fconv_all (z : Nat) (w : World) : ∃ u w', (Conv.floatToFloat .f32 z .f64).run Tryd.prog w = .ok (.float .f64 u) w' ∧ CWide z u ∧ Drawn w w' := by
  unfold CWide
  cases hn : nan .f32 z
  · exact ⟨W z, w, run_floatToFloat w (W_conv z hn), ⟨W_lt z, by simp⟩, Drawn.refl w⟩
  · obtain ⟨s, t, ht⟩ := nan_read hn
    have ht' : FloatKind.f32.decode z = .nan s t := ht
    exact ⟨convNan .f64 z w, w.drew, by simp [Conv.floatToFloat, ht', Question.forced, convNan], ⟨convNan_lt .f64 z w, by simpa using convNan_nan .f64 z w⟩, Drawn.one w⟩
theorem cx_widen (x y : Nat) (w : World) : ∃ u v w', (convert 42 45 (.complex .f32 x y)).run Tryd.prog w = .ok (.complex .f64 u v) w' ∧ CWide x u ∧ CWide y v ∧ Drawn w w' := by
  have hs : Tryd.prog.underlying 42 = some (.complex .f32) := Tryd.underlying42
  have hd : Tryd.prog.underlying 45 = some (.complex .f64) := Tryd.underlying45
  obtain ⟨u, w1, h1, hu, d1⟩ := fconv_all x w
  obtain ⟨v, w2, h2, hv, d2⟩ := fconv_all y w1
  exact ⟨u, v, w2, by simp [convert, run_underlying hs, run_underlying hd, Conv.complexToComplex, h1, h2], hu, hv, d1.trans d2⟩
theorem sameF_wide (z x y : Nat) (hx : CWide z x) (hy : CWide z y) (w : World) : Calls Tryd.prog 44 #[.float .f64 x, .float .f64 y] w fun e w' => e = .returned (.bool true) ∧ w = w' := by
  unfold CWide at hx hy
  rcases Bool.eq_false_or_eq_true (nan .f32 z) with hn | hn
  · rw [if_pos hn] at hx hy
    exact sameFloat_nan x y hx.2 hy.2 w
  · rw [if_neg (by rw [hn]; decide)] at hx hy
    obtain ⟨h1, rfl⟩ := hx
    obtain ⟨_, rfl⟩ := hy
    exact sameFloat_eq _ h1 (W_spec z hn).2.1 w
theorem sameC_wide (zx zy x1 x2 y1 y2 : Nat) (hx1 : CWide zx x1) (hx2 : CWide zy x2) (hy1 : CWide zx y1) (hy2 : CWide zy y2) (w : World) :
    Calls Tryd.prog 28 #[.complex .f64 x1 x2, .complex .f64 y1 y2] w fun e w' => e = .returned (.bool true) ∧ w = w' := by
  have H1 := Lib.hid (sameF_wide zx x1 y1 hx1 hy1)
  have H2 := Lib.hid (sameF_wide zy x2 y2 hx2 hy2)
  clear hx1 hx2 hy1 hy2
  go_enter Tryd.func28, Tryd.ntmps28
  go_wp2_with fail
  refine (H1.out _).mono ?_
  rintro e w1 ⟨rfl, rfl⟩
  go_wp2_with fail
  refine (H2.out _).mono ?_
  rintro e w1 ⟨rfl, rfl⟩
  go_wp2_with fail
  go_ret
  exact ⟨rfl, rfl⟩

def eqVC (s1 s2 : Value) (k : Nat) (p1 p2 : Addr) (zx zy : Nat) : Nat → Value → Prop
  | 0, v => v = s1
  | 1, v => v = .int .i64 k
  | 2, v => v = .pointer (some p1)
  | 3, v => v = .complex .f32 zx zy
  | 4, v => ∃ u' v', v = .complex .f64 u' v' ∧ CWide zx u' ∧ CWide zy v'
  | 5, v => v = s2
  | 6, v => v = .int .i64 k
  | 7, v => v = .pointer (some p2)
  | 8, v => v = .complex .f32 zx zy
  | 9, v => ∃ u' v', v = .complex .f64 u' v' ∧ CWide zx u' ∧ CWide zy v'
  | 10, v => v = .bool true
  | 11, v => v = .bool false
  | _, _ => True

set_option maxRecDepth 20000 in
set_option maxHeartbeats 1600000 in
theorem eqCx_any (a b : Option Addr) (len c1 c2 : Nat) (zs : List (Nat × Nat)) (w : World) (h1 : CRow w a len zs) (h2 : CRow w b len zs) (hn : len ≤ 1048576) :
    Calls Tryd.prog 10 #[.slice a len c1, .slice b len c2] w fun e w' => e = .returned (.bool true) ∧ Drawn w w' := by
  have r1 := Lib.hid h1
  have r2 := Lib.hid h2
  clear h1 h2
  go_enter Tryd.func10, Tryd.ntmps10
  go_wp2_with fail
  go_loopg [5] len (fun n i wr => ∃ k : Nat, i = .int .i64 k ∧ Hid (k + n = len) ∧ k ≤ len ∧ Drawn w wr)
  case atStart => exact ⟨0, rfl, by show _ = _; omega, Nat.zero_le _, Drawn.refl _⟩
  case round =>
    obtain ⟨k, rfl, hk, hkl, hd⟩ := hrel
    have hk' := hk.out
    by_cases hlt : k < len
    · obtain ⟨g1, o1, rfl, _, e1⟩ := r1.out.2.2.2 k hlt
      obtain ⟨g2, o2, rfl, _, e2⟩ := r2.out.2.2.2 k hlt
      have HJ : Hid (k + 1 + (gk - 1) = len) := by show _ = _; omega
      have HG : Hid (gk - 1 < gk) := by show _ < _; omega
      generalize zs.getD k (0, 0) = z at *
      obtain ⟨zx, zy⟩ := z
      clear hk'
      go_wp2_with fail
      refine wp_region_vals (C := fun w' => Drawn w w') (V := eqVC (.slice (some ⟨g1, o1, none⟩) len c1) (.slice (some ⟨g2, o2, none⟩) len c2) k ⟨g1, o1 + k, none⟩ ⟨g2, o2 + k, none⟩ zx zy) (by kernel_rfl) hd.drew (by kernel_rfl) ?_ ?_
      · intro i o ho A W hC hdep hbase
        clear hk HJ HG hd
        have m1 : W.cell? ⟨g1, o1 + k, none⟩ = some (.complex .f32 zx zy) := by rw [hC.cell]; exact e1
        have m2 : W.cell? ⟨g2, o2 + k, none⟩ = some (.complex .f32 zx zy) := by rw [hC.cell]; exact e2
        rcases i with _ | _ | _ | _ | _ | _ | _ | _ | _ | _ | _ | _ | i
        · obtain rfl := Option.some.inj ho
          have b0 : A.tmps.getD 0 undef = .slice (some ⟨g1, o1, none⟩) len c1 := hbase 0 (by kernel_rfl)
          refine stepK (.slice (some ⟨g1, o1, none⟩) len c1) W rfl hC fun K hK => ?_
          simp only [Array.getD_eq_getD_getElem?] at b0
          unfold Oper.wp
          go_simp
          exact hK
        · obtain rfl := Option.some.inj ho
          have b0 : A.tmps.getD 5 undef = .int .i64 k := hbase 5 (by kernel_rfl)
          refine stepK (.int .i64 k) W rfl hC fun K hK => ?_
          simp only [Array.getD_eq_getD_getElem?] at b0
          unfold Oper.wp
          go_simp
          exact hK
        · obtain rfl := Option.some.inj ho
          have b1 : A.tmps.getD 17 undef = .slice (some ⟨g1, o1, none⟩) len c1 := hdep ⟨0, .data⟩ (by simp) rfl 17 rfl
          have b2 : A.tmps.getD 18 undef = .int .i64 k := hdep ⟨1, .data⟩ (by simp) rfl 18 rfl
          refine stepK (.pointer (some ⟨g1, o1 + k, none⟩)) W rfl hC fun K hK => ?_
          simp only [Array.getD_eq_getD_getElem?] at b1 b2
          unfold Oper.wp
          go_simp
          exact hK
        · obtain rfl := Option.some.inj ho
          have b1 : A.tmps.getD 19 undef = .pointer (some ⟨g1, o1 + k, none⟩) := hdep ⟨2, .data⟩ (by simp) rfl 19 rfl
          refine stepK (.complex .f32 zx zy) W rfl hC fun K hK => ?_
          simp only [Array.getD_eq_getD_getElem?] at b1
          unfold Oper.wp
          go_simp
          exact hK
        · obtain rfl := Option.some.inj ho
          have b1 : A.tmps.getD 20 undef = .complex .f32 zx zy := hdep ⟨3, .data⟩ (by simp) rfl 20 rfl
          obtain ⟨cu, cv, W', hw, hu, hv, hD⟩ := cx_widen zx zy W
          refine stepK (.complex .f64 cu cv) W' ⟨cu, cv, rfl, hu, hv⟩ (hC.trans hD) fun K hK => ?_
          simp only [Array.getD_eq_getD_getElem?] at b1
          unfold Oper.wp
          go_simp
          exact hK
        · obtain rfl := Option.some.inj ho
          have b0 : A.tmps.getD 1 undef = .slice (some ⟨g2, o2, none⟩) len c2 := hbase 1 (by kernel_rfl)
          refine stepK (.slice (some ⟨g2, o2, none⟩) len c2) W rfl hC fun K hK => ?_
          simp only [Array.getD_eq_getD_getElem?] at b0
          unfold Oper.wp
          go_simp
          exact hK
        · obtain rfl := Option.some.inj ho
          have b0 : A.tmps.getD 5 undef = .int .i64 k := hbase 5 (by kernel_rfl)
          refine stepK (.int .i64 k) W rfl hC fun K hK => ?_
          simp only [Array.getD_eq_getD_getElem?] at b0
          unfold Oper.wp
          go_simp
          exact hK
        · obtain rfl := Option.some.inj ho
          have b1 : A.tmps.getD 22 undef = .slice (some ⟨g2, o2, none⟩) len c2 := hdep ⟨5, .data⟩ (by simp) rfl 22 rfl
          have b2 : A.tmps.getD 23 undef = .int .i64 k := hdep ⟨6, .data⟩ (by simp) rfl 23 rfl
          refine stepK (.pointer (some ⟨g2, o2 + k, none⟩)) W rfl hC fun K hK => ?_
          simp only [Array.getD_eq_getD_getElem?] at b1 b2
          unfold Oper.wp
          go_simp
          exact hK
        · obtain rfl := Option.some.inj ho
          have b1 : A.tmps.getD 24 undef = .pointer (some ⟨g2, o2 + k, none⟩) := hdep ⟨7, .data⟩ (by simp) rfl 24 rfl
          refine stepK (.complex .f32 zx zy) W rfl hC fun K hK => ?_
          simp only [Array.getD_eq_getD_getElem?] at b1
          unfold Oper.wp
          go_simp
          exact hK
        · obtain rfl := Option.some.inj ho
          have b1 : A.tmps.getD 25 undef = .complex .f32 zx zy := hdep ⟨8, .data⟩ (by simp) rfl 25 rfl
          obtain ⟨cu, cv, W', hw, hu, hv, hD⟩ := cx_widen zx zy W
          refine stepK (.complex .f64 cu cv) W' ⟨cu, cv, rfl, hu, hv⟩ (hC.trans hD) fun K hK => ?_
          simp only [Array.getD_eq_getD_getElem?] at b1
          unfold Oper.wp
          go_simp
          exact hK
        · obtain rfl := Option.some.inj ho
          obtain ⟨x1, x2, b1, hx1, hx2⟩ := hdep ⟨4, .data⟩ (by simp) rfl 21 rfl
          obtain ⟨y1, y2, b2, hy1, hy2⟩ := hdep ⟨9, .data⟩ (by simp) rfl 26 rfl
          refine stepK (.bool true) W rfl hC fun K hK => ?_
          simp only [Array.getD_eq_getD_getElem?] at b1 b2
          unfold Oper.wp
          go_simp
          refine (sameC_wide zx zy x1 x2 y1 y2 hx1 hx2 hy1 hy2 _).mono ?_
          rintro e w' ⟨rfl, rfl⟩
          exact hK
        · obtain rfl := Option.some.inj ho
          have b1 : A.tmps.getD 27 undef = .bool true := hdep ⟨10, .data⟩ (by simp) rfl 27 rfl
          refine stepK (.bool false) W rfl hC fun K hK => ?_
          simp only [Array.getD_eq_getD_getElem?] at b1
          unfold Oper.wp
          go_simp
          exact hK
        · have := (Array.getElem?_eq_some_iff.1 ho).1
          simp at this
          omega
      · intro vals W hC hlen hV
        clear e1 e2
        match vals, hlen with
        | [v0, v1, v2, v3, v4, v5, v6, v7, v8, v9, v10, v11], _ =>
          obtain rfl : v0 = _ := hV 0 (by simp)
          obtain rfl : v1 = _ := hV 1 (by simp)
          obtain rfl : v2 = _ := hV 2 (by simp)
          obtain rfl : v3 = _ := hV 3 (by simp)
          obtain ⟨x1, x2, rfl, _, _⟩ : ∃ u' v', v4 = .complex .f64 u' v' ∧ CWide zx u' ∧ CWide zy v' := hV 4 (by simp)
          obtain rfl : v5 = _ := hV 5 (by simp)
          obtain rfl : v6 = _ := hV 6 (by simp)
          obtain rfl : v7 = _ := hV 7 (by simp)
          obtain rfl : v8 = _ := hV 8 (by simp)
          obtain ⟨y1, y2, rfl, _, _⟩ : ∃ u' v', v9 = .complex .f64 u' v' ∧ CWide zx u' ∧ CWide zy v' := hV 9 (by simp)
          obtain rfl : v10 = _ := hV 10 (by simp)
          obtain rfl : v11 = _ := hV 11 (by simp)
          clear hV
          simp only [puts, Act.put, List.zip_cons_cons, List.zip_nil_left, List.foldl_cons, List.foldl_nil, List.setIfInBounds_toArray, List.set_cons_zero, List.set_cons_succ]
          go_wp2_with fail
          go_roundg (gk - 1)
          case measure => exact HG.out
          case rel => exact ⟨k + 1, by go_num, HJ, by omega, hC⟩
    · have hke : Hid (k = len) := by show _ = _; omega
      clear hk'
      go_wp2_with fail
      go_ret
      exact ⟨rfl, hd⟩
set_option maxHeartbeats 800000 in
theorem markCx_any (B : Nat) (a : Option Addr) (len cap : Nat) (w : World) (h : Own w B a len 42) (hn : len ≤ 256) :
    Calls Tryd.prog 11 #[.slice a len cap, .int .i64 1] w fun e w' => e = .returned (.int .i64 (1 + len)) ∧ Marked mC w' a len ∧ Below B w w' := by
  have H := Lib.hid h
  clear h
  go_enter Tryd.func11, Tryd.ntmps11
  go_wp2_with fail
  go_loopg [1, 5] len (fun n m i wr => ∃ k : Nat, m = .int .i64 (1 + k) ∧ i = .int .i64 k ∧ Hid (k + n = len) ∧ k ≤ len ∧ Hid (Own wr B a len 42) ∧ Hid (Marked mC wr a k) ∧ Hid (Below B w wr))
  case atStart => exact ⟨0, rfl, rfl, by show _ = _; omega, Nat.zero_le _, H.out, fun j hj => absurd hj (Nat.not_lt_zero _), Below.refl _ _⟩
  case round =>
    obtain ⟨k, rfl, rfl, hk, hkl, hO, hM, hd⟩ := hrel
    by_cases hlt : k < len
    · obtain h0 | ⟨g, rfl, hg, hS⟩ := hO.out
      · omega
      obtain ⟨u, hu⟩ := hS.cell hlt
      have hfr := hS.frozen k
      have hcv := fun w => mC_run k (by omega) w
      unfold mC at hcv
      have HJ : Hid (k + 1 + (gk - 1) = len) := by have := hk.out; show _ = _; omega
      have HG : Hid (gk - 1 < gk) := by have := hk.out; show _ < _; omega
      have HO2 : Hid (Own (wr.setCell ⟨g, k, none⟩ (.complex .f32 (mc k) 1065353216)) B (some ⟨g, 0, none⟩) len 42) := .inr ⟨g, rfl, hg, hS.set k _⟩
      have HM2 := Lib.hid (Marked.set hS hlt hM.out)
      have HB2 : Hid (Below B w (wr.setCell ⟨g, k, none⟩ (.complex .f32 (mc k) 1065353216))) := Lib.hid (hd.out.setCell hg _)
      clear hO hM hd hS
      go_wp2_with fail
      go_roundg (gk - 1)
      case measure => exact HG.out
      case rel => exact ⟨k + 1, by go_num, by go_num, HJ, by omega, HO2.out, HM2.out, HB2.out⟩
    · obtain rfl : k = len := by have := hk.out; omega
      clear hO hlt
      go_wp2_with fail
      go_ret
      exact ⟨rfl, hM.out, hd.out⟩
set_option maxHeartbeats 800000 in
theorem heldCx_any (a : Option Addr) (len cap : Nat) (w : World) (h : Marked mC w a len) (hn : len ≤ 256) :
    Calls Tryd.prog 12 #[.slice a len cap, .int .i64 1] w fun e w' => e = .returned (.int .i64 (1 + len)) ∧ Below w.heap.size w w' := by
  have H := Lib.hid h
  clear h
  go_enter Tryd.func12, Tryd.ntmps12
  go_wp2_with fail
  go_loopg [1, 5] len (fun n m i wr => ∃ k : Nat, m = .int .i64 (1 + k) ∧ i = .int .i64 k ∧ Hid (k + n = len) ∧ k ≤ len ∧ Hid (Below w.heap.size w wr))
  case atStart => exact ⟨0, rfl, rfl, by show _ = _; omega, Nat.zero_le _, Below.refl _ _⟩
  case round =>
    obtain ⟨k, rfl, rfl, hk, hkl, hd⟩ := hrel
    by_cases hlt : k < len
    · obtain ⟨g, rfl, _, hc⟩ := (H.out.keep hd.out) k hlt
      have hcv := fun w => mC_run k (by omega) w
      have hse := mC_self k (by omega)
      unfold mC at hc hcv
      generalize mc k = z at *
      have HJ : Hid (k + 1 + (gk - 1) = len) := by have := hk.out; show _ = _; omega
      have HG : Hid (gk - 1 < gk) := by have := hk.out; show _ < _; omega
      go_wp2_with fail
      go_roundg (gk - 1)
      case measure => exact HG.out
      case rel => exact ⟨k + 1, by go_num, by go_num, HJ, by omega, hd.out⟩
    · obtain rfl : k = len := by have := hk.out; omega
      clear hlt
      go_wp2_with fail
      go_ret
      exact ⟨rfl, hd.out⟩
end Go.Proofs.YtfmicahibmpjmacDoor
