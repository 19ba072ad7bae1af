/-
  The sum of all rates from a state, in the model. Conditions: the chain is valid.
-/
import Derived.Test.YtiebbmgehhcdmaaChnV
import Derived.Test.YtiebbmgehhcdmaaCrP
import Derived.Test.YtiebbmgehhcdmaaRgt
namespace Flt.Stp
open Go Flt F32 Cha
/-- the sum of a row's first numbers -/
def outS (p : Nat) (zs : List Nat) (k : Nat) : Nat → Option Nat
  | 0 => some 0
  | i + 1 => F32.opO .add (outS p zs k i) (some (zs.getD (k * p + i) 0))
theorem place_lt {p k i : Nat} (hk : k < p) (hi : i < p) : k * p + i < p * p := by
  have h1 : k * p + i < k * p + p := by omega
  have h2 : k * p + p = (k + 1) * p := by rw [Nat.add_mul, Nat.one_mul]
  have h3 : (k + 1) * p ≤ p * p := Nat.mul_le_mul_right _ hk
  omega
theorem sq_le {p : Nat} (hp : p ≤ 8) : p * p ≤ 64 := Nat.mul_le_mul hp hp
def outV (g b off y len cap k p kp j x z : Nat) (o : Option Nat) : Nat → Value → Prop
  | 0, v => v = .float .f32 x
  | 1, v => v = .pointer (some ⟨g, 0, none⟩)
  | 2, v => v = .pointer (some ⟨g, 0, none⟩)
  | 3, v => v = .pointer (some ⟨g, 1, none⟩)
  | 4, v => v = .slice (some ⟨b, off, none⟩) len cap
  | 5, v => v = .int .i64 (k : Int)
  | 6, v => v = .pointer (some ⟨g, 0, none⟩)
  | 7, v => v = .pointer (some ⟨g, 0, none⟩)
  | 8, v => v = .pointer (some ⟨g, 0, none⟩)
  | 9, v => v = .int .i64 (p : Int)
  | 10, v => v = .int .i64 (kp : Int)
  | 11, v => v = .int .i64 (j : Int)
  | 12, v => v = .int .i64 (y : Int)
  | 13, v => v = .pointer (some ⟨b, off + y, none⟩)
  | 14, v => v = .float .f32 z
  | 15, v => ∃ zz, v = .float .f32 zz ∧ F32.Is (F32.opO .add o (some z)) zz ∧ zz < 4294967296
  | 16, v => ∃ zz, v = .float .f32 zz ∧ F32.Is (F32.opO .add o (some z)) zz ∧ zz < 4294967296
  | _, _ => True
end Flt.Stp
namespace Go.Proofs.Ytiebbmgehhcdmaa
open Go.RowKit Dec Flt Syl Sep Cha Cm Liv Stp
set_option maxRecDepth 40000 in
set_option maxHeartbeats 1600000 in
theorem l04Out_any (g p k : Nat) (a : Option Addr) (len cap : Nat) (zs : List Nat) (w : World) (hv : CVar 44 w g (p : Int) a len cap) (h : FRow w a len zs) (hp : p ≤ 8) (hk : k < p) (hl : len = p * p) (hz : ∀ j, j < len → nan .f32 (zs.getD j 0) = false) :
    Calls Try.prog 57 #[.pointer (some ⟨g, 0, none⟩), .int .i64 (k : Int)] w fun e w' => (∃ v, e = .returned (.float .f32 v) ∧ F32.Is (outS p zs k p) v ∧ v < 4294967296) ∧ Drawn w w' := by
  have H := Lib.hid h
  have V := Lib.hid hv
  have HL := Lib.hid hl
  have HZ := Lib.hid hz
  have H0 : Hid (F32.Is (outS p zs k 0) 0) := ⟨rfl, by decide, by decide⟩
  have HS : Hid (∀ i, outS p zs k (i + 1) = F32.opO .add (outS p zs k i) (some (zs.getD (k * p + i) 0))) := Lib.hid fun _ => rfl
  obtain ⟨kp, hkp⟩ : ∃ kp, k * p = kp := ⟨_, rfl⟩
  have HKP := Lib.hid hkp
  have hsq := sq_le hp
  have hlb : len ≤ 64 := by omega
  have HKB : Hid (∀ i, i < p → kp + i < len) := Lib.hid fun i hi => by have := place_lt hk hi; omega
  have HQ1 : Hid (IntKind.i64.wrap ((k : Int) * (p : Int)) = (kp : Int)) := by
    show _ = _
    have e : (k : Int) * (p : Int) = (kp : Int) := by rw [← hkp]; simp
    have h1 := place_lt hk hk
    rw [e]; exact IntWalk.i64_in _ (by omega)
  clear h hv hl hz hkp hsq
  go_enter Try.func57, Try.ntmps57
  go_wp2_with fail
  go_loopg [5, 6] p (fun q s i wr => ∃ j x : Nat, s = .float .f32 x ∧ i = .int .i64 j ∧ Hid (j + q = p) ∧ j ≤ p ∧ Hid (F32.Is (outS p zs k j) x ∧ x < 4294967296) ∧ Hid (Drawn w wr))
  case atStart => exact ⟨0, 0, rfl, rfl, by show _ = _; omega, Nat.zero_le _, ⟨H0.out, by decide⟩, Drawn.refl _⟩
  case round =>
    obtain ⟨j, x, rfl, rfl, hj, hjl, hX, hD⟩ := hrel
    obtain ⟨c0, c1⟩ := ((V.out.keep (hD.out.below _)).two).1
    by_cases hlt : j < p
    · have hlz : (j : Int) < (p : Int) := by omega
      have HJ : Hid (j + 1 + (gk - 1) = p) := by have := hj.out; show _ = _; omega
      have HG : Hid (gk - 1 < gk) := by have := hj.out; show _ < _; omega
      obtain ⟨y, hy⟩ : ∃ y, kp + j = y := ⟨_, rfl⟩
      have hyl : y < len := by rw [← hy]; exact HKB.out j hlt
      obtain ⟨b, off, rfl, hbl, hc⟩ := (H.out.keep (hD.out.below _)).2.2.2 y hyl
      have HQ2 : Hid (IntKind.i64.wrap ((kp : Int) + (j : Int)) = (y : Int)) := by
        show _ = _
        have e : (kp : Int) + (j : Int) = (y : Int) := by rw [← hy]; simp
        rw [e]; exact IntWalk.i64_in _ (by omega)
      have HZI : Hid (F32.Is (some (zs.getD y 0)) (zs.getD y 0)) := ⟨rfl, HZ.out y hyl, H.out.2.2.1 _ (by simp [List.getD, H.out.1, hyl])⟩
      have HSJ : Hid (outS p zs k (j + 1) = F32.opO .add (outS p zs k j) (some (zs.getD y 0))) := by show _ = _; rw [HS.out, HKP.out, hy]
      generalize zs.getD y 0 = z at *
      have hDd : Drawn wr wr.drew := Drawn.one wr
      clear hy
      go_wp2_with fail
      refine wp_region_vals (C := fun w' => Drawn wr w') (V := outV g b off y len cap k p kp j x z (outS p zs k j)) (by kernel_rfl) hDd (by kernel_rfl) ?_ ?_
      · intro i o ho A W hC hdep hbase
        have m0 : W.cell? ⟨g, 1, none⟩ = some (.slice (some ⟨b, off, none⟩) len cap) := by rw [hC.cell]; exact c1
        have m1 : W.cell? ⟨g, 0, none⟩ = some (.int .i64 (p : Int)) := by rw [hC.cell]; exact c0
        have m2 : W.cell? ⟨b, off + y, none⟩ = some (.float .f32 z) := by rw [hC.cell]; exact hc
        have q1 := HQ1.out
        have q2 := HQ2.out
        rcases i with _ | _ | _ | _ | _ | _ | _ | _ | _ | _ | _ | _ | _ | _ | _ | _ | _ | i
        · obtain rfl := Option.some.inj ho
          have b0 : A.tmps.getD 5 undef = .float .f32 x := hbase 5 (by kernel_rfl)
          refine stepK (.float .f32 x) W rfl hC fun K hK => ?_
          simp only [Array.getD_eq_getD_getElem?] at b0
          unfold Oper.wp
          go_simp
          exact hK
        · obtain rfl := Option.some.inj ho
          have b0 : A.tmps.getD 0 undef = .pointer (some ⟨g, 0, none⟩) := hbase 0 (by kernel_rfl)
          refine stepK (.pointer (some ⟨g, 0, none⟩)) W rfl hC fun K hK => ?_
          simp only [Array.getD_eq_getD_getElem?] at b0
          unfold Oper.wp
          go_simp
          exact hK
        · obtain rfl := Option.some.inj ho
          have b0 : A.tmps.getD 16 undef = .pointer (some ⟨g, 0, none⟩) := hdep ⟨1, .data⟩ (by simp) rfl 16 rfl
          refine stepK (.pointer (some ⟨g, 0, none⟩)) W rfl hC fun K hK => ?_
          simp only [Array.getD_eq_getD_getElem?] at b0
          unfold Oper.wp
          go_simp
          exact hK
        · obtain rfl := Option.some.inj ho
          have b0 : A.tmps.getD 17 undef = .pointer (some ⟨g, 0, none⟩) := hdep ⟨2, .data⟩ (by simp) rfl 17 rfl
          refine stepK (.pointer (some ⟨g, 1, none⟩)) W rfl hC fun K hK => ?_
          simp only [Array.getD_eq_getD_getElem?] at b0
          unfold Oper.wp
          go_simp
          exact hK
        · obtain rfl := Option.some.inj ho
          have b0 : A.tmps.getD 18 undef = .pointer (some ⟨g, 1, none⟩) := hdep ⟨3, .data⟩ (by simp) rfl 18 rfl
          refine stepK (.slice (some ⟨b, off, none⟩) len cap) W rfl hC fun K hK => ?_
          simp only [Array.getD_eq_getD_getElem?] at b0
          unfold Oper.wp
          go_simp
          exact hK
        · obtain rfl := Option.some.inj ho
          have b0 : A.tmps.getD 1 undef = .int .i64 (k : Int) := hbase 1 (by kernel_rfl)
          refine stepK (.int .i64 (k : Int)) W rfl hC fun K hK => ?_
          simp only [Array.getD_eq_getD_getElem?] at b0
          unfold Oper.wp
          go_simp
          exact hK
        · obtain rfl := Option.some.inj ho
          have b0 : A.tmps.getD 0 undef = .pointer (some ⟨g, 0, none⟩) := hbase 0 (by kernel_rfl)
          refine stepK (.pointer (some ⟨g, 0, none⟩)) W rfl hC fun K hK => ?_
          simp only [Array.getD_eq_getD_getElem?] at b0
          unfold Oper.wp
          go_simp
          exact hK
        · obtain rfl := Option.some.inj ho
          have b0 : A.tmps.getD 21 undef = .pointer (some ⟨g, 0, none⟩) := hdep ⟨6, .data⟩ (by simp) rfl 21 rfl
          refine stepK (.pointer (some ⟨g, 0, none⟩)) W rfl hC fun K hK => ?_
          simp only [Array.getD_eq_getD_getElem?] at b0
          unfold Oper.wp
          go_simp
          exact hK
        · obtain rfl := Option.some.inj ho
          have b0 : A.tmps.getD 22 undef = .pointer (some ⟨g, 0, none⟩) := hdep ⟨7, .data⟩ (by simp) rfl 22 rfl
          refine stepK (.pointer (some ⟨g, 0, none⟩)) W rfl hC fun K hK => ?_
          simp only [Array.getD_eq_getD_getElem?] at b0
          unfold Oper.wp
          go_simp
          exact hK
        · obtain rfl := Option.some.inj ho
          have b0 : A.tmps.getD 23 undef = .pointer (some ⟨g, 0, none⟩) := hdep ⟨8, .data⟩ (by simp) rfl 23 rfl
          refine stepK (.int .i64 (p : Int)) W rfl hC fun K hK => ?_
          simp only [Array.getD_eq_getD_getElem?] at b0
          unfold Oper.wp
          go_simp
          exact hK
        · obtain rfl := Option.some.inj ho
          have b0 : A.tmps.getD 20 undef = .int .i64 (k : Int) := hdep ⟨5, .data⟩ (by simp) rfl 20 rfl
          have b1 : A.tmps.getD 24 undef = .int .i64 (p : Int) := hdep ⟨9, .data⟩ (by simp) rfl 24 rfl
          refine stepK (.int .i64 (kp : Int)) W rfl hC fun K hK => ?_
          simp only [Array.getD_eq_getD_getElem?] at b0 b1
          unfold Oper.wp
          go_simp
          exact hK
        · obtain rfl := Option.some.inj ho
          have b0 : A.tmps.getD 6 undef = .int .i64 (j : Int) := hbase 6 (by kernel_rfl)
          refine stepK (.int .i64 (j : Int)) W rfl hC fun K hK => ?_
          simp only [Array.getD_eq_getD_getElem?] at b0
          unfold Oper.wp
          go_simp
          exact hK
        · obtain rfl := Option.some.inj ho
          have b0 : A.tmps.getD 25 undef = .int .i64 (kp : Int) := hdep ⟨10, .data⟩ (by simp) rfl 25 rfl
          have b1 : A.tmps.getD 26 undef = .int .i64 (j : Int) := hdep ⟨11, .data⟩ (by simp) rfl 26 rfl
          refine stepK (.int .i64 (y : Int)) W rfl hC fun K hK => ?_
          simp only [Array.getD_eq_getD_getElem?] at b0 b1
          unfold Oper.wp
          go_simp
          exact hK
        · obtain rfl := Option.some.inj ho
          have b0 : A.tmps.getD 19 undef = .slice (some ⟨b, off, none⟩) len cap := hdep ⟨4, .data⟩ (by simp) rfl 19 rfl
          have b1 : A.tmps.getD 27 undef = .int .i64 (y : Int) := hdep ⟨12, .data⟩ (by simp) rfl 27 rfl
          refine stepK (.pointer (some ⟨b, off + y, none⟩)) W rfl hC fun K hK => ?_
          simp only [Array.getD_eq_getD_getElem?] at b0 b1
          unfold Oper.wp
          go_simp
          exact hK
        · obtain rfl := Option.some.inj ho
          have b0 : A.tmps.getD 28 undef = .pointer (some ⟨b, off + y, none⟩) := hdep ⟨13, .data⟩ (by simp) rfl 28 rfl
          refine stepK (.float .f32 z) W rfl hC fun K hK => ?_
          simp only [Array.getD_eq_getD_getElem?] at b0
          unfold Oper.wp
          go_simp
          exact hK
        · obtain rfl := Option.some.inj ho
          have b0 : A.tmps.getD 15 undef = .float .f32 x := hdep ⟨0, .data⟩ (by simp) rfl 15 rfl
          have b1 : A.tmps.getD 29 undef = .float .f32 z := hdep ⟨14, .data⟩ (by simp) rfl 29 rfl
          obtain ⟨zr, W', hr, iz, lz, dz⟩ := F32.arith_ex (P := Try.prog) (op := .add) (.inl rfl) 22 (hX.out.1) (HZI.out) W
          refine stepK (.float .f32 zr) W' ⟨zr, rfl, iz, lz⟩ (hC.trans dz) fun K hK => ?_
          simp only [Array.getD_eq_getD_getElem?] at b0 b1
          unfold Oper.wp
          go_simp
          exact hK
        · obtain rfl := Option.some.inj ho
          obtain ⟨y0, b0, j0, k0⟩ := hdep ⟨15, .data⟩ (by simp) rfl 30 rfl
          refine stepK (.float .f32 y0) W ⟨y0, rfl, j0, k0⟩ hC fun K hK => ?_
          simp only [Array.getD_eq_getD_getElem?] at b0
          unfold Oper.wp
          go_simp
          exact hK
        · have := (Array.getElem?_eq_some_iff.1 ho).1
          simp at this
          omega
      · intro vals W hC hlen hV
        match vals, hlen with
        | [v0, v1, v2, v3, v4, v5, v6, v7, v8, v9, v10, v11, v12, v13, v14, v15, v16], _ =>
          obtain rfl : v0 = _ := hV 0 (by simp)
          obtain rfl : v1 = _ := hV 1 (by simp)
          obtain rfl : v2 = _ := hV 2 (by simp)
          obtain rfl : v3 = _ := hV 3 (by simp)
          obtain rfl : v4 = _ := hV 4 (by simp)
          obtain rfl : v5 = _ := hV 5 (by simp)
          obtain rfl : v6 = _ := hV 6 (by simp)
          obtain rfl : v7 = _ := hV 7 (by simp)
          obtain rfl : v8 = _ := hV 8 (by simp)
          obtain rfl : v9 = _ := hV 9 (by simp)
          obtain rfl : v10 = _ := hV 10 (by simp)
          obtain rfl : v11 = _ := hV 11 (by simp)
          obtain rfl : v12 = _ := hV 12 (by simp)
          obtain rfl : v13 = _ := hV 13 (by simp)
          obtain rfl : v14 = _ := hV 14 (by simp)
          have h15 : outV g b off y len cap k p kp j x z (outS p zs k j) 15 v15 := hV 15 (by simp)
          obtain ⟨x15, rfl, i15, l15⟩ := h15
          have h16 : outV g b off y len cap k p kp j x z (outS p zs k j) 16 v16 := hV 16 (by simp)
          obtain ⟨x16, rfl, i16, l16⟩ := h16
          clear hV hlen
          simp only [puts, Act.put, List.zip_cons_cons, List.zip_nil_right, List.foldl_cons, List.foldl_nil, List.setIfInBounds_toArray, List.set_cons_zero, List.set_cons_succ]
          have HX2 : Hid (F32.Is (outS p zs k (j + 1)) x16 ∧ x16 < 4294967296) := by show _ ∧ _; rw [HSJ.out]; exact ⟨i16, l16⟩
          have HD2 := Lib.hid (hD.out.trans hC)
          clear i15 l15 i16 l16 hC hX hD
          go_wp2_with fail
          go_roundg (gk - 1)
          case measure => exact HG.out
          case rel => exact ⟨j + 1, x16, rfl, by go_num, HJ, by omega, HX2.out, HD2.out⟩
    · obtain rfl : j = p := by omega
      clear hlt
      go_wp2_with fail
      go_ret
      exact ⟨⟨x, rfl, hX.out.1, hX.out.2⟩, hD.out⟩
end Go.Proofs.Ytiebbmgehhcdmaa
