/-
  The share of bad parts that go out, in the model's own function. Conditions: plans and shares are valid.
-/
import Derived.Test.YtemdgfjcjjadnabCaW
import Derived.Test.YtemdgfjcjjadnabRgt
import Derived.Handy
namespace Pl
open Go Flt F32 Cm We
def ogV (g s a sh fs fl : Nat) (l : Int) : Nat → Value → Prop
  | 0, v => v = .float .f32 sh
  | 1, v => v = .pointer (some ⟨g, 0, none⟩)
  | 2, v => v = .float .f32 sh
  | 3, v => ∃ zz, v = .float .f32 zz ∧ F32.Is (caE s a sh) zz ∧ zz < 4294967296
  | 4, v => ∃ zz, v = .float .f32 zz ∧ F32.Is (F32.opO .mul (some sh) (caE s a sh)) zz ∧ zz < 4294967296
  | 5, v => v = .pointer (some ⟨g, 0, none⟩)
  | 6, v => v = .pointer (some ⟨g, 0, none⟩)
  | 7, v => v = .pointer (some ⟨g, 0, none⟩)
  | 8, v => v = .int .i64 (s : Int)
  | 9, v => v = .float .f32 fs
  | 10, v => v = .int .i64 l
  | 11, v => v = .float .f32 fl
  | 12, v => ∃ zz, v = .float .f32 zz ∧ F32.Is (F32.opO .quo (some fs) (some fl)) zz ∧ zz < 4294967296
  | 13, v => ∃ zz, v = .float .f32 zz ∧ F32.Is (F32.opO .sub (some 1065353216) (F32.opO .quo (some fs) (some fl))) zz ∧ zz < 4294967296
  | 14, v => ∃ zz, v = .float .f32 zz ∧ F32.Is (F32.opO .mul (F32.opO .mul (some sh) (caE s a sh)) (F32.opO .sub (some 1065353216) (F32.opO .quo (some fs) (some fl)))) zz ∧ zz < 4294967296
  | 15, v => ∃ zz, v = .float .f32 zz ∧ F32.Is (F32.opO .mul (F32.opO .mul (some sh) (caE s a sh)) (F32.opO .sub (some 1065353216) (F32.opO .quo (some fs) (some fl)))) zz ∧ zz < 4294967296
  | _, _ => True
end Pl
namespace Go.Proofs.Ytemdgfjcjjadnab
open Go.RowKit Flt Dec Cm Pl We F32
set_option maxRecDepth 40000 in
set_option maxHeartbeats 1600000 in
theorem c_Outgoing (l : Int) (g s a sh : Nat) (hs : 1 ≤ s ∧ s ≤ 40) (ha : a ≤ s) (hsh : F32.Is (some sh) sh) (w : World) (h : Blk.Blk w g [.int .i64 (s : Int), .int .i64 (a : Int)] 27) :
    Calls Try.prog 48 #[.int .i64 l, .pointer (some ⟨g, 0, none⟩), .float .f32 sh] w fun e w' => (∃ t : Nat, e = .returned (.float .f32 t) ∧ F32.Is (ogE l s a sh) t ∧ t < 4294967296) ∧ Drawn w w' := by
  have HSH := Lib.hid hsh
  have HK := Lib.hid h
  have c0 := h.two.1.1
  have hfs := foi_is (s : Int)
  have hfl := foi_is l
  have hE : ogE l s a sh = F32.opO .mul (F32.opO .mul (some sh) (caE s a sh)) (F32.opO .sub (some 1065353216) (F32.opO .quo (some (Go.floatOfInt .f32 (s : Int))) (some (Go.floatOfInt .f32 l)))) := rfl
  obtain ⟨fs, hqs⟩ : ∃ x, Go.floatOfInt .f32 (s : Int) = x := ⟨_, rfl⟩
  obtain ⟨fl, hql⟩ : ∃ x, Go.floatOfInt .f32 l = x := ⟨_, rfl⟩
  rw [hqs] at hfs hE
  rw [hql] at hfl hE
  have HFS := Lib.hid hfs
  have HFL := Lib.hid hfl
  have HE := Lib.hid hE
  have HQS := Lib.hid hqs
  have HQL := Lib.hid hql
  clear hfs hfl hE hqs hql
  have HONE : Hid (F32.Is (some 1065353216) 1065353216) := one_is
  have hDd : Drawn w w.drew := Drawn.one w
  clear h hsh
  go_enter Try.func48, Try.ntmps48
  go_wp2_with fail
  refine wp_region_vals (C := fun w' => Drawn w w') (V := ogV g s a sh fs fl l) (by kernel_rfl) hDd (by kernel_rfl) ?_ ?_
  · intro i o ho A W hC hdep hbase
    have m0 : W.cell? ⟨g, 0, none⟩ = some (.int .i64 (s : Int)) := by rw [hC.cell]; exact c0
    have hqs := HQS.out
    have hql := HQL.out
    have HKW := HK.out.keep ((show Drawn w W from hC).below _)
    rcases i with _ | _ | _ | _ | _ | _ | _ | _ | _ | _ | _ | _ | _ | _ | _ | _ | i
    · obtain rfl := Option.some.inj ho
      have b0 : A.tmps.getD 2 undef = .float .f32 sh := hbase 2 (by kernel_rfl)
      refine stepK (.float .f32 sh) W rfl hC fun K hK => ?_
      simp only [Array.getD_eq_getD_getElem?] at b0
      unfold Oper.wp
      go_simp
      exact hK
    · obtain rfl := Option.some.inj ho
      have b0 : A.tmps.getD 1 undef = .pointer (some ⟨g, 0, none⟩) := hbase 1 (by kernel_rfl)
      refine stepK (.pointer (some ⟨g, 0, none⟩)) W rfl hC fun K hK => ?_
      simp only [Array.getD_eq_getD_getElem?] at b0
      unfold Oper.wp
      go_simp
      exact hK
    · obtain rfl := Option.some.inj ho
      have b0 : A.tmps.getD 2 undef = .float .f32 sh := hbase 2 (by kernel_rfl)
      refine stepK (.float .f32 sh) W rfl hC fun K hK => ?_
      simp only [Array.getD_eq_getD_getElem?] at b0
      unfold Oper.wp
      go_simp
      exact hK
    · obtain rfl := Option.some.inj ho
      have b0 : A.tmps.getD 8 undef = .pointer (some ⟨g, 0, none⟩) := hdep ⟨1, .data⟩ (by simp) rfl 8 rfl
      have b1 : A.tmps.getD 9 undef = .float .f32 sh := hdep ⟨2, .data⟩ (by simp) rfl 9 rfl
      simp only [Array.getD_eq_getD_getElem?] at b0 b1
      unfold Oper.wp
      go_simp
      refine (c_l06Chance g s a sh hs ha HSH.out W HKW).mono ?_
      rintro e w' ⟨⟨v, rfl, hi, hlt⟩, hd2⟩
      exact ⟨_, ⟨v, rfl, hi, hlt⟩, hC.trans hd2, rfl⟩
    · obtain rfl := Option.some.inj ho
      have b0 : A.tmps.getD 7 undef = .float .f32 sh := hdep ⟨0, .data⟩ (by simp) rfl 7 rfl
      obtain ⟨y1, b1, j1, k1⟩ := hdep ⟨3, .data⟩ (by simp) rfl 10 rfl
      obtain ⟨zr, W', hr, iz, lz, dz⟩ := F32.arith_ex (P := Try.prog) (op := .mul) (.inr (.inr (.inl rfl))) 24 (HSH.out) j1 W
      refine stepK (.float .f32 zr) W' ⟨zr, rfl, iz, lz⟩ (hC.trans dz) fun K hK => ?_
      simp only [Array.getD_eq_getD_getElem?] at b0 b1
      unfold Oper.wp
      go_simp
      exact hK
    · obtain rfl := Option.some.inj ho
      have b0 : A.tmps.getD 1 undef = .pointer (some ⟨g, 0, none⟩) := hbase 1 (by kernel_rfl)
      refine stepK (.pointer (some ⟨g, 0, none⟩)) W rfl hC fun K hK => ?_
      simp only [Array.getD_eq_getD_getElem?] at b0
      unfold Oper.wp
      go_simp
      exact hK
    · obtain rfl := Option.some.inj ho
      have b0 : A.tmps.getD 12 undef = .pointer (some ⟨g, 0, none⟩) := hdep ⟨5, .data⟩ (by simp) rfl 12 rfl
      refine stepK (.pointer (some ⟨g, 0, none⟩)) W rfl hC fun K hK => ?_
      simp only [Array.getD_eq_getD_getElem?] at b0
      unfold Oper.wp
      go_simp
      exact hK
    · obtain rfl := Option.some.inj ho
      have b0 : A.tmps.getD 13 undef = .pointer (some ⟨g, 0, none⟩) := hdep ⟨6, .data⟩ (by simp) rfl 13 rfl
      refine stepK (.pointer (some ⟨g, 0, none⟩)) W rfl hC fun K hK => ?_
      simp only [Array.getD_eq_getD_getElem?] at b0
      unfold Oper.wp
      go_simp
      exact hK
    · obtain rfl := Option.some.inj ho
      have b0 : A.tmps.getD 14 undef = .pointer (some ⟨g, 0, none⟩) := hdep ⟨7, .data⟩ (by simp) rfl 14 rfl
      refine stepK (.int .i64 (s : Int)) W rfl hC fun K hK => ?_
      simp only [Array.getD_eq_getD_getElem?] at b0
      unfold Oper.wp
      go_simp
      exact hK
    · obtain rfl := Option.some.inj ho
      have b0 : A.tmps.getD 15 undef = .int .i64 (s : Int) := hdep ⟨8, .data⟩ (by simp) rfl 15 rfl
      refine stepK (.float .f32 fs) W rfl hC fun K hK => ?_
      simp only [Array.getD_eq_getD_getElem?] at b0
      unfold Oper.wp
      go_simp
      exact hK
    · obtain rfl := Option.some.inj ho
      have b0 : A.tmps.getD 0 undef = .int .i64 l := hbase 0 (by kernel_rfl)
      refine stepK (.int .i64 l) W rfl hC fun K hK => ?_
      simp only [Array.getD_eq_getD_getElem?] at b0
      unfold Oper.wp
      go_simp
      exact hK
    · obtain rfl := Option.some.inj ho
      have b0 : A.tmps.getD 17 undef = .int .i64 l := hdep ⟨10, .data⟩ (by simp) rfl 17 rfl
      refine stepK (.float .f32 fl) W rfl hC fun K hK => ?_
      simp only [Array.getD_eq_getD_getElem?] at b0
      unfold Oper.wp
      go_simp
      exact hK
    · obtain rfl := Option.some.inj ho
      have b0 : A.tmps.getD 16 undef = .float .f32 fs := hdep ⟨9, .data⟩ (by simp) rfl 16 rfl
      have b1 : A.tmps.getD 18 undef = .float .f32 fl := hdep ⟨11, .data⟩ (by simp) rfl 18 rfl
      obtain ⟨zr, W', hr, iz, lz, dz⟩ := F32.arith_ex (P := Try.prog) (op := .quo) (.inr (.inr (.inr rfl))) 24 (HFS.out) (HFL.out) W
      refine stepK (.float .f32 zr) W' ⟨zr, rfl, iz, lz⟩ (hC.trans dz) fun K hK => ?_
      simp only [Array.getD_eq_getD_getElem?] at b0 b1
      unfold Oper.wp
      go_simp
      exact hK
    · obtain rfl := Option.some.inj ho
      obtain ⟨y0, b0, j0, k0⟩ := hdep ⟨12, .data⟩ (by simp) rfl 19 rfl
      obtain ⟨zr, W', hr, iz, lz, dz⟩ := F32.arith_ex (P := Try.prog) (op := .sub) (.inr (.inl rfl)) 24 (HONE.out) j0 W
      refine stepK (.float .f32 zr) W' ⟨zr, rfl, iz, lz⟩ (hC.trans dz) fun K hK => ?_
      simp only [Array.getD_eq_getD_getElem?] at b0
      unfold Oper.wp
      go_simp
      exact hK
    · obtain rfl := Option.some.inj ho
      obtain ⟨y0, b0, j0, k0⟩ := hdep ⟨4, .data⟩ (by simp) rfl 11 rfl
      obtain ⟨y1, b1, j1, k1⟩ := hdep ⟨13, .data⟩ (by simp) rfl 20 rfl
      obtain ⟨zr, W', hr, iz, lz, dz⟩ := F32.arith_ex (P := Try.prog) (op := .mul) (.inr (.inr (.inl rfl))) 24 j0 j1 W
      refine stepK (.float .f32 zr) W' ⟨zr, rfl, iz, lz⟩ (hC.trans dz) fun K hK => ?_
      simp only [Array.getD_eq_getD_getElem?] at b0 b1
      unfold Oper.wp
      go_simp
      exact hK
    · obtain rfl := Option.some.inj ho
      obtain ⟨y0, b0, j0, k0⟩ := hdep ⟨14, .data⟩ (by simp) rfl 21 rfl
      refine stepK (.float .f32 y0) W ⟨y0, rfl, j0, k0⟩ hC fun K hK => ?_
      simp only [Array.getD_eq_getD_getElem?] at b0
      unfold Oper.wp
      go_simp
      exact hK
    · have := (Array.getElem?_eq_some_iff.1 ho).1
      simp at this
      omega
  · intro vals W hC hlen hV
    match vals, hlen with
    | [v0, v1, v2, v3, v4, v5, v6, v7, v8, v9, v10, v11, v12, v13, v14, v15], _ =>
      obtain rfl : v0 = _ := hV 0 (by simp)
      obtain rfl : v1 = _ := hV 1 (by simp)
      obtain rfl : v2 = _ := hV 2 (by simp)
      have h3 : ogV g s a sh fs fl l 3 v3 := hV 3 (by simp)
      obtain ⟨x3, rfl, i3, l3⟩ := h3
      have h4 : ogV g s a sh fs fl l 4 v4 := hV 4 (by simp)
      obtain ⟨x4, rfl, i4, l4⟩ := h4
      obtain rfl : v5 = _ := hV 5 (by simp)
      obtain rfl : v6 = _ := hV 6 (by simp)
      obtain rfl : v7 = _ := hV 7 (by simp)
      obtain rfl : v8 = _ := hV 8 (by simp)
      obtain rfl : v9 = _ := hV 9 (by simp)
      obtain rfl : v10 = _ := hV 10 (by simp)
      obtain rfl : v11 = _ := hV 11 (by simp)
      have h12 : ogV g s a sh fs fl l 12 v12 := hV 12 (by simp)
      obtain ⟨x12, rfl, i12, l12⟩ := h12
      have h13 : ogV g s a sh fs fl l 13 v13 := hV 13 (by simp)
      obtain ⟨x13, rfl, i13, l13⟩ := h13
      have h14 : ogV g s a sh fs fl l 14 v14 := hV 14 (by simp)
      obtain ⟨x14, rfl, i14, l14⟩ := h14
      have h15 : ogV g s a sh fs fl l 15 v15 := hV 15 (by simp)
      obtain ⟨x15, rfl, i15, l15⟩ := h15
      clear hV hlen
      simp only [puts, Act.put, List.zip_cons_cons, List.zip_nil_right, List.foldl_cons, List.foldl_nil, List.setIfInBounds_toArray, List.set_cons_zero, List.set_cons_succ]
      go_wp2_with fail
      go_ret
      exact ⟨⟨x15, rfl, by rw [HE.out]; exact i15, l15⟩, hC⟩
end Go.Proofs.Ytemdgfjcjjadnab
