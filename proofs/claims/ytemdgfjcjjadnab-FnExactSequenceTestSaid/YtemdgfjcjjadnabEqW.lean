/-
  The laws' comparison of two slices of float32 numbers. Conditions: both hold the same numbers.
-/
import Derived.Test.YtemdgfjcjjadnabSlW
namespace Go.Proofs.Ytemdgfjcjjadnab
open Go.RowKit Flt
/-- widened: the same number, or none -/
def Wide (z y : Nat) : Prop := y < 18446744073709551616 ∧ (if nan .f32 z then nan .f64 y = true else y = W z)
theorem wide_wid (z : Nat) (w : World) : Wide z (if nan .f32 z then convNan .f64 z w else W z) := by
  unfold Wide
  rcases Bool.eq_false_or_eq_true (nan .f32 z) with hn | hn
  · rw [if_pos hn, if_pos hn]; exact ⟨convNan_lt .f64 z w, convNan_nan .f64 z w⟩
  · rw [if_neg (by rw [hn]; decide), if_neg (by rw [hn]; decide)]; exact ⟨W_lt z, rfl⟩
theorem widen_run (z : Nat) (w : World) : (convert 24 30 (.float .f32 z)).run Try.prog w = .ok (.float .f64 (if nan .f32 z then convNan .f64 z w else W z)) (if nan .f32 z then w.drew else w) := by
  rcases Bool.eq_false_or_eq_true (nan .f32 z) with hn | hn
  · rw [if_pos hn, if_pos hn]; exact narrowed z hn w
  · rw [if_neg (by rw [hn]; decide), if_neg (by rw [hn]; decide)]; exact widen z hn w
theorem same_wide (z x y : Nat) (hx : Wide z x) (hy : Wide z y) (w : World) : Calls Try.prog 16 #[.float .f64 x, .float .f64 y] w fun e w' => e = .returned (.bool true) ∧ w = w' := by
  unfold Wide at hx hy
  rcases Bool.eq_false_or_eq_true (nan .f32 z) with hn | hn
  · rw [if_pos hn] at hx hy
    exact sameFloat_nan x y hx.2 hy.2 w
  · rw [if_neg (by rw [hn]; decide)] at hx hy
    obtain ⟨h1, rfl⟩ := hx
    obtain ⟨_, rfl⟩ := hy
    exact sameFloat_eq _ h1 (W_spec z hn).2.1 w

def eqV (s1 s2 : Value) (k : Nat) (p1 p2 : Addr) (z : Nat) : Nat → Value → Prop
  | 0, v => v = s1
  | 1, v => v = .int .i64 k
  | 2, v => v = .pointer (some p1)
  | 3, v => v = .float .f32 z
  | 4, v => ∃ y, v = .float .f64 y ∧ Wide z y
  | 5, v => v = s2
  | 6, v => v = .int .i64 k
  | 7, v => v = .pointer (some p2)
  | 8, v => v = .float .f32 z
  | 9, v => ∃ y, v = .float .f64 y ∧ Wide z y
  | 10, v => v = .bool true
  | 11, v => v = .bool false
  | _, _ => True

set_option maxRecDepth 40000 in
set_option maxHeartbeats 1600000 in
theorem eqF32_any (a b : Option Addr) (len c1 c2 : Nat) (zs : List Nat) (w : World) (h1 : FRow w a len zs) (h2 : FRow w b len zs) (hn : len ≤ 1048576) :
    Calls Try.prog 21 #[.slice a len c1, .slice b len c2] w fun e w' => e = .returned (.bool true) ∧ Drawn w w' := by
  have r1 := Lib.hid h1
  have r2 := Lib.hid h2
  clear h1 h2
  go_enter Try.func21, Try.ntmps21
  go_wp2_with fail
  go_loopg [5] len (fun n i wr => ∃ k : Nat, i = .int .i64 k ∧ Hid (k + n = len) ∧ k ≤ len ∧ Drawn w wr)
  case atStart => exact ⟨0, rfl, by show _ = _; omega, Nat.zero_le _, Drawn.refl _⟩
  case round =>
    obtain ⟨k, rfl, hk, hkl, hd⟩ := hrel
    have hk' := hk.out
    by_cases hlt : k < len
    · obtain ⟨g1, o1, rfl, _, e1⟩ := r1.out.2.2.2 k hlt
      obtain ⟨g2, o2, rfl, _, e2⟩ := r2.out.2.2.2 k hlt
      have HJ : Hid (k + 1 + (gk - 1) = len) := by show _ = _; omega
      have HG : Hid (gk - 1 < gk) := by show _ < _; omega
      generalize zs.getD k 0 = z at *
      clear hk'
      go_wp2_with fail
      refine wp_region_vals (C := fun w' => Drawn w w') (V := eqV (.slice (some ⟨g1, o1, none⟩) len c1) (.slice (some ⟨g2, o2, none⟩) len c2) k ⟨g1, o1 + k, none⟩ ⟨g2, o2 + k, none⟩ z) (by kernel_rfl) hd.drew (by kernel_rfl) ?_ ?_
      · intro i o ho A W hC hdep hbase
        clear hk HJ HG hd
        have m1 : W.cell? ⟨g1, o1 + k, none⟩ = some (.float .f32 z) := by rw [hC.cell]; exact e1
        have m2 : W.cell? ⟨g2, o2 + k, none⟩ = some (.float .f32 z) := by rw [hC.cell]; exact e2
        rcases i with _ | _ | _ | _ | _ | _ | _ | _ | _ | _ | _ | _ | i
        · obtain rfl := Option.some.inj ho
          have b0 : A.tmps.getD 0 undef = .slice (some ⟨g1, o1, none⟩) len c1 := hbase 0 (by kernel_rfl)
          refine stepK (.slice (some ⟨g1, o1, none⟩) len c1) W rfl hC fun K hK => ?_
          simp only [Array.getD_eq_getD_getElem?] at b0
          unfold Oper.wp
          go_simp
          exact hK
        · obtain rfl := Option.some.inj ho
          have b0 : A.tmps.getD 5 undef = .int .i64 k := hbase 5 (by kernel_rfl)
          refine stepK (.int .i64 k) W rfl hC fun K hK => ?_
          simp only [Array.getD_eq_getD_getElem?] at b0
          unfold Oper.wp
          go_simp
          exact hK
        · obtain rfl := Option.some.inj ho
          have b1 : A.tmps.getD 17 undef = .slice (some ⟨g1, o1, none⟩) len c1 := hdep ⟨0, .data⟩ (by simp) rfl 17 rfl
          have b2 : A.tmps.getD 18 undef = .int .i64 k := hdep ⟨1, .data⟩ (by simp) rfl 18 rfl
          refine stepK (.pointer (some ⟨g1, o1 + k, none⟩)) W rfl hC fun K hK => ?_
          simp only [Array.getD_eq_getD_getElem?] at b1 b2
          unfold Oper.wp
          go_simp
          exact hK
        · obtain rfl := Option.some.inj ho
          have b1 : A.tmps.getD 19 undef = .pointer (some ⟨g1, o1 + k, none⟩) := hdep ⟨2, .data⟩ (by simp) rfl 19 rfl
          refine stepK (.float .f32 z) W rfl hC fun K hK => ?_
          simp only [Array.getD_eq_getD_getElem?] at b1
          unfold Oper.wp
          go_simp
          exact hK
        · obtain rfl := Option.some.inj ho
          have b1 : A.tmps.getD 20 undef = .float .f32 z := hdep ⟨3, .data⟩ (by simp) rfl 20 rfl
          have hw := widen_run z W
          have hwd := wide_wid z W
          have hC' : Drawn w (if nan .f32 z then W.drew else W) := by split; exact hC.drew; exact hC
          refine stepK (.float .f64 (if nan .f32 z then convNan .f64 z W else Flt.W z)) (if nan .f32 z then W.drew else W) ⟨_, rfl, hwd⟩ hC' fun K hK => ?_
          generalize (if nan .f32 z then convNan .f64 z W else Flt.W z) = y at *
          generalize (if nan .f32 z then W.drew else W) = W' at *
          simp only [Array.getD_eq_getD_getElem?] at b1
          unfold Oper.wp
          go_simp
          exact hK
        · obtain rfl := Option.some.inj ho
          have b0 : A.tmps.getD 1 undef = .slice (some ⟨g2, o2, none⟩) len c2 := hbase 1 (by kernel_rfl)
          refine stepK (.slice (some ⟨g2, o2, none⟩) len c2) W rfl hC fun K hK => ?_
          simp only [Array.getD_eq_getD_getElem?] at b0
          unfold Oper.wp
          go_simp
          exact hK
        · obtain rfl := Option.some.inj ho
          have b0 : A.tmps.getD 5 undef = .int .i64 k := hbase 5 (by kernel_rfl)
          refine stepK (.int .i64 k) W rfl hC fun K hK => ?_
          simp only [Array.getD_eq_getD_getElem?] at b0
          unfold Oper.wp
          go_simp
          exact hK
        · obtain rfl := Option.some.inj ho
          have b1 : A.tmps.getD 22 undef = .slice (some ⟨g2, o2, none⟩) len c2 := hdep ⟨5, .data⟩ (by simp) rfl 22 rfl
          have b2 : A.tmps.getD 23 undef = .int .i64 k := hdep ⟨6, .data⟩ (by simp) rfl 23 rfl
          refine stepK (.pointer (some ⟨g2, o2 + k, none⟩)) W rfl hC fun K hK => ?_
          simp only [Array.getD_eq_getD_getElem?] at b1 b2
          unfold Oper.wp
          go_simp
          exact hK
        · obtain rfl := Option.some.inj ho
          have b1 : A.tmps.getD 24 undef = .pointer (some ⟨g2, o2 + k, none⟩) := hdep ⟨7, .data⟩ (by simp) rfl 24 rfl
          refine stepK (.float .f32 z) W rfl hC fun K hK => ?_
          simp only [Array.getD_eq_getD_getElem?] at b1
          unfold Oper.wp
          go_simp
          exact hK
        · obtain rfl := Option.some.inj ho
          have b1 : A.tmps.getD 25 undef = .float .f32 z := hdep ⟨8, .data⟩ (by simp) rfl 25 rfl
          have hw := widen_run z W
          have hwd := wide_wid z W
          have hC' : Drawn w (if nan .f32 z then W.drew else W) := by split; exact hC.drew; exact hC
          refine stepK (.float .f64 (if nan .f32 z then convNan .f64 z W else Flt.W z)) (if nan .f32 z then W.drew else W) ⟨_, rfl, hwd⟩ hC' fun K hK => ?_
          generalize (if nan .f32 z then convNan .f64 z W else Flt.W z) = y at *
          generalize (if nan .f32 z then W.drew else W) = W' at *
          simp only [Array.getD_eq_getD_getElem?] at b1
          unfold Oper.wp
          go_simp
          exact hK
        · obtain rfl := Option.some.inj ho
          obtain ⟨x, b1, hx⟩ := hdep ⟨4, .data⟩ (by simp) rfl 21 rfl
          obtain ⟨y, b2, hy⟩ := hdep ⟨9, .data⟩ (by simp) rfl 26 rfl
          refine stepK (.bool true) W rfl hC fun K hK => ?_
          simp only [Array.getD_eq_getD_getElem?] at b1 b2
          unfold Oper.wp
          go_simp
          refine (same_wide z x y hx hy _).mono ?_
          rintro e w' ⟨rfl, rfl⟩
          exact hK
        · obtain rfl := Option.some.inj ho
          have b1 : A.tmps.getD 27 undef = .bool true := hdep ⟨10, .data⟩ (by simp) rfl 27 rfl
          refine stepK (.bool false) W rfl hC fun K hK => ?_
          simp only [Array.getD_eq_getD_getElem?] at b1
          unfold Oper.wp
          go_simp
          exact hK
        · have := (Array.getElem?_eq_some_iff.1 ho).1
          simp at this
          omega
      · intro vals W hC hlen hV
        clear e1 e2
        match vals, hlen with
        | [v0, v1, v2, v3, v4, v5, v6, v7, v8, v9, v10, v11], _ =>
          obtain rfl : v0 = _ := hV 0 (by simp)
          obtain rfl : v1 = _ := hV 1 (by simp)
          obtain rfl : v2 = _ := hV 2 (by simp)
          obtain rfl : v3 = _ := hV 3 (by simp)
          obtain ⟨x, rfl, _⟩ : ∃ x, v4 = .float .f64 x ∧ Wide z x := hV 4 (by simp)
          obtain rfl : v5 = _ := hV 5 (by simp)
          obtain rfl : v6 = _ := hV 6 (by simp)
          obtain rfl : v7 = _ := hV 7 (by simp)
          obtain rfl : v8 = _ := hV 8 (by simp)
          obtain ⟨y, rfl, _⟩ : ∃ x, v9 = .float .f64 x ∧ Wide z x := hV 9 (by simp)
          obtain rfl : v10 = _ := hV 10 (by simp)
          obtain rfl : v11 = _ := hV 11 (by simp)
          clear hV
          simp only [puts, Act.put, List.zip_cons_cons, List.zip_nil_left, List.foldl_cons, List.foldl_nil, List.setIfInBounds_toArray, List.set_cons_zero, List.set_cons_succ]
          go_wp2_with fail
          go_roundg (gk - 1)
          case measure => exact HG.out
          case rel => exact ⟨k + 1, by go_num, HJ, by omega, hC⟩
    · have hke : Hid (k = len) := by show _ = _; omega
      clear hk'
      go_wp2_with fail
      go_ret
      exact ⟨rfl, hd⟩
end Go.Proofs.Ytemdgfjcjjadnab
