/-
  Contracts: how many sets accept a lot, for each number of bad parts, in both. No conditions.
-/
import Derived.Test.YtemdgfjcjjadnaaPlA
import Derived.Test.YtemdgfjcjjadnaaIow
namespace Pl
open Go Flt Dec
def kvL (l s a : Int) (n : Nat) : List Int := (List.range n).map fun b => ((ac l (b : Nat) s (a + 1).toNat : Nat) : Int)
theorem kvL_len (l s a : Int) (n : Nat) : (kvL l s a n).length = n := by simp [kvL]
theorem kvL_s (l s a : Int) (n : Nat) : kvL l s a (n + 1) = kvL l s a n ++ [((ac l (n : Nat) s (a + 1).toNat : Nat) : Int)] := by
  unfold kvL; rw [List.range_succ, List.map_append]; rfl
theorem kvL_get {l s a : Int} {n k : Nat} (h : k < n) : (kvL l s a n).getD k 0 = ((ac l (k : Nat) s (a + 1).toNat : Nat) : Int) := by
  simp [kvL, List.getD, h]
theorem kvL_bd {l s a : Int} {n : Nat} (hl : l ≤ 40) {z : Int} (h : z ∈ kvL l s a n) : 0 ≤ z ∧ z ≤ 1099511627776 := by
  unfold kvL at h
  obtain ⟨b, _, rfl⟩ := List.mem_map.1 h
  have := ac_40 hl (b : Nat) s (a + 1).toNat
  omega
def kvA (l s a : Int) : List Int := if pfB l s a then kvL l s a (l + 1).toNat else []
def kvN (l s a : Int) : Int := if pfB l s a then ((chI l s : Nat) : Int) else 0
theorem kv_no {l s a : Int} (h : pfB l s a = false) : kvA l s a = [] ∧ kvN l s a = 0 := by unfold kvA kvN; rw [h]; exact ⟨rfl, rfl⟩
theorem kv_yes {l s a : Int} (h : pfB l s a = true) : kvA l s a = kvL l s a (l + 1).toNat ∧ kvN l s a = ((chI l s : Nat) : Int) := by unfold kvA kvN; rw [h]; exact ⟨rfl, rfl⟩
theorem pf_in {l s a : Int} (h : pfB l s a = true) : 1 ≤ l ∧ l ≤ 40 ∧ 1 ≤ s ∧ s ≤ l ∧ 0 ≤ a ∧ a ≤ s := by
  unfold pfB plB at h
  simp only [Bool.and_eq_true, decide_eq_true_eq] at h
  omega
theorem as_pf (l s a : Int) : asB l 0 s a = pfB l s a := by
  by_cases h : 1 ≤ l ∧ l ≤ 40
  · exact as_7 (by unfold lwB; rw [decide_eq_true h, decide_eq_true (by omega)]; rfl)
  · rw [as_1 (decide_eq_false h)]; unfold pfB; rw [decide_eq_false h]; rfl
theorem kvA_len (l s a : Int) : (kvA l s a).length ≤ 1048576 := by
  cases h : pfB l s a with
  | false => rw [(kv_no h).1]; exact Nat.zero_le _
  | true => have := pf_in h; rw [(kv_yes h).1, kvL_len]; omega
end Pl
namespace Go.Proofs.Ytemdgfjcjjadnaa
open Go.RowKit Flt Dec Cm Pl Iow
set_option maxHeartbeats 1600000 in
theorem iAcceptCurve_any (l s a : Int) (w : World) :
    Calls Try.prog 21 #[.int .i64 l, .agg #[.int .i64 s, .int .i64 a]] w fun e w' => (∃ a' c', e = .returned (.tuple #[.slice a' (kvA l s a).length c', .int .i64 (kvN l s a), .bool (pfB l s a)]) ∧ IRow w' a' (kvA l s a).length (kvA l s a) ∧ Dec.Own w' w.heap.size a' (kvA l s a).length 2) ∧ Below w.heap.size w w' := by
  have hb : Below w.heap.size w (w.alloc (.cells #[.int .i64 s, .int .i64 a] 25)) := (Below.refl _ _).alloc (Nat.le_refl _) _
  have HB := Lib.hid (Blk.Blk.new w #[.int .i64 s, .int .i64 a] 25)
  cases h : pfB l s a with
  | false =>
    have HP := Lib.hid (kv_no h)
    have H2 := Lib.hid h
    clear h
    go_enter Try.func21, Try.ntmps21
    go_wp2_with fail
    refine (c_isPlanFor l s a _).mono ?_
    rintro e w1 ⟨rfl, b1⟩
    rw [H2.out]
    have B1 := Lib.hid (hb.trans (b1.mono hb.size))
    clear hb b1
    go_wp2_with fail
    go_ret3
    rw [HP.out.1, HP.out.2]
    exact ⟨⟨_, _, rfl, irow_nil _ _, .inl rfl⟩, B1.out⟩
  | true =>
    have HP := Lib.hid (kv_yes h)
    have H2 := Lib.hid h
    obtain ⟨i1, i2, i3, i4, i5, i6⟩ := pf_in h
    obtain ⟨L, hL⟩ : ∃ L : Nat, l + 1 = L := ⟨(l + 1).toNat, by omega⟩
    have hLt : (l + 1).toNat = L := by omega
    rw [hLt] at HP
    have hL1 : 2 ≤ L ∧ L ≤ 41 := by omega
    have C1 := fun (b : Nat) (hbL : b < L) w => Lib.hid (c_accepted l (b : Int) s a i2 (by omega) (by omega) (by omega) (by omega) (by omega) w)
    have C2 := fun w => Lib.hid (c_setsOf l s i2 w)
    have h2 := chI_40 i2 s
    generalize chI l s = Y at *
    have hvl := Lib.hid (show (iv (kvL l s a L)).length = L by rw [iv_len, kvL_len])
    have HBD := Lib.hid (fun (z : Int) (hz : z ∈ kvL l s a L) => kvL_bd i2 hz)
    have HGET := Lib.hid (fun (k : Nat) (hk : k < L) => (iv_at (kvL l s a L) k (.int .i64 0) (by rw [kvL_len]; exact hk)).trans (congrArg (Value.int .i64) (kvL_get (l := l) (s := s) (a := a) hk)))
    have hmk : ∀ w, (Instr.makeSlice 33 (.int .i64 (L : Int)) (.int .i64 (L : Int))).run Try.prog w = .ok (.slice (some ⟨w.heap.size, 0, none⟩) L L) (w.alloc (.cells (fillC (iv (kvL l s a L)) (.int .i64 0) 0 L) 2)) := by
      intro w
      obtain ⟨i, hi, hz0, hz1, hz2⟩ := info_parts (show (Try.prog.info? 2).map (fun i => (i.zero, i.size, i.bytes)) = some (some (.int .i64 0), 1, 8) by kernel_rfl)
      have := run_make (P := Try.prog) w 33 2 i (.int .i64 0) Try.underlying33 hi hz0 .i64 .i64 L L (by omega) (Int.le_refl _) (by rw [hz2]; omega) (by omega)
      rw [this, hz1, Int.toNat_natCast, fillC_made _ _ _ rfl]
    have hMade := Lib.hid (fun w => Filled.made w 2 (iv (kvL l s a L)) (.int .i64 0) L)
    have HKL : Hid ((kvL l s a L).length = L) := kvL_len _ _ _ _
    clear h hLt i3 i4 i5 i6
    go_enter Try.func21, Try.ntmps21
    generalize hzs : kvL l s a L = zs at *
    generalize hvs : iv zs = vs at *
    have HV := Lib.hid hvs
    clear hvs hzs
    go_wp2_with fail
    refine (c_isPlanFor l s a _).mono ?_
    rintro e w1 ⟨rfl, b1⟩
    rw [H2.out]
    have B1 := Lib.hid (hb.trans (b1.mono hb.size))
    have HB1 := Lib.hid (HB.out.keep b1)
    clear hb b1
    go_wp2_with fail
    have HF0 := Lib.hid (hMade.out w1)
    have B2 : Hid (Below w.heap.size w (w1.alloc (.cells (fillC vs (.int .i64 0) 0 L) 2))) := B1.out.alloc B1.out.size _
    have HB2 : Hid (Blk.Blk (w1.alloc (.cells (fillC vs (.int .i64 0) 0 L) 2)) w.heap.size [.int .i64 s, .int .i64 a] 25) := HB1.out.alloc _
    have HNE : Hid (w.heap.size < w1.heap.size) := HB1.out.lt
    go_loopg [8, 18] L (fun n x c wr => ∃ k : Nat, c = .int .i64 (k : Int) ∧ Hid (k + n = L) ∧ k ≤ L ∧ Hid (Filled wr w1.heap.size 2 vs (.int .i64 0) k L) ∧ Hid (Below w.heap.size w wr) ∧ Hid (Blk.Blk wr w.heap.size [.int .i64 s, .int .i64 a] 25))
    case atStart => exact ⟨0, rfl, by show _ = _; omega, Nat.zero_le _, HF0.out, B2.out, HB2.out⟩
    case round =>
      clear B2 HB2 HF0 B1 HB1
      obtain ⟨k, rfl, hk, hkl, hF, hB, hP⟩ := hrel
      obtain ⟨⟨c1, c2⟩, _, _⟩ := hP.out.two
      by_cases hlt : k < L
      · have hlt' : (k : Int) < (L : Int) := by omega
        have hfr := Filled.frozen hF.out k
        have hcell := Filled.cell hF.out hvl.out (by omega) hlt
        rw [if_neg (Nat.lt_irrefl k)] at hcell
        have hset := Lib.hid (Filled.set hF.out hvl.out hlt)
        rw [HGET.out k hlt] at hset
        have hx := ac_40 i2 (k : Nat) s (a + 1).toNat
        have HC := C1 k hlt
        have HJ : Hid (k + 1 + (gk - 1) = L) := by have := hk.out; show _ = _; omega
        have HG : Hid (gk - 1 < gk) := by have := hk.out; show _ < _; omega
        have HP2 := Lib.hid (hP.out.other k (.int .i64 ((ac l (k : Nat) s (a + 1).toNat : Nat) : Int)) (k := w1.heap.size) (Nat.ne_of_lt HNE.out))
        have HB2 := Lib.hid (hB.out.setCell (p := ⟨w1.heap.size, k, none⟩) (Nat.le_of_lt HNE.out) (.int .i64 ((ac l (k : Nat) s (a + 1).toNat : Nat) : Int)))
        generalize ac l (k : Nat) s (a + 1).toNat = x at *
        clear hF hB hP hk
        go_wp2_with fail
        refine (HC _).out.mono ?_
        rintro e w2 ⟨rfl, rfl⟩
        go_wp2_with fail
        go_roundg (gk - 1)
        case measure => exact HG.out
        case rel => exact ⟨k + 1, by go_num, HJ, by omega, hset.out, HB2.out, HP2.out⟩
      · obtain rfl : k = L := by omega
        clear hlt
        have hlt' : ¬ ((k : Int) < (k : Int)) := by omega
        go_wp2_with fail
        refine (C2 _).out.mono ?_
        rintro e w2 ⟨rfl, rfl⟩
        go_wp2_with fail
        go_ret3
        rw [HP.out.1, HP.out.2]
        have hM : IMade 2 wr w1.heap.size k zs := by have := hF.out; rw [← HV.out] at this; exact this
        have hr := imade_row hM HKL.out (by omega) (fun z hz => by have := HBD.out z hz; omega)
        have ho := made_own (B := w.heap.size) hM HKL.out (Nat.le_of_lt HNE.out)
        rw [← HKL.out] at hr ho
        first
          | exact ⟨⟨_, _, by rw [HKL.out], hr, ho⟩, hB.out⟩
          | (rw [HKL.out] at hr ho ⊢; exact ⟨⟨_, _, rfl, hr, ho⟩, hB.out⟩)
set_option maxHeartbeats 1600000 in
theorem sAcceptCurve_any (l s a : Int) (w : World) :
    Calls Try.prog 20 #[.int .i64 l, .agg #[.int .i64 s, .int .i64 a]] w fun e w' => (∃ a' c', e = .returned (.tuple #[.slice a' (kvA l s a).length c', .int .i64 (kvN l s a), .bool (pfB l s a)]) ∧ IRow w' a' (kvA l s a).length (kvA l s a)) ∧ Below w.heap.size w w' := by
  have hb : Below w.heap.size w (w.alloc (.cells #[.int .i64 s, .int .i64 a] 25)) := (Below.refl _ _).alloc (Nat.le_refl _) _
  have HB := Lib.hid (Blk.Blk.new w #[.int .i64 s, .int .i64 a] 25)
  have HAS := Lib.hid (as_pf l s a)
  cases h : pfB l s a with
  | false =>
    have HP := Lib.hid (kv_no h)
    have H2 := Lib.hid h
    clear h
    go_enter Try.func20, Try.ntmps20
    go_wp2_with fail
    refine (c_l06Lot l 0 _ s a _ HB.out).mono ?_
    rintro e w1 ⟨rfl, d1⟩
    rw [HAS.out, H2.out]
    have B1 := Lib.hid (hb.trans (d1.below _))
    clear hb d1
    go_wp2_with fail
    go_ret3
    rw [HP.out.1, HP.out.2]
    exact ⟨⟨_, _, rfl, irow_nil _ _⟩, B1.out⟩
  | true =>
    have HP := Lib.hid (kv_yes h)
    have H2 := Lib.hid h
    obtain ⟨i1, i2, i3, i4, i5, i6⟩ := pf_in h
    obtain ⟨L, hL⟩ : ∃ L : Nat, l + 1 = L := ⟨(l + 1).toNat, by omega⟩
    have hLt : (l + 1).toNat = L := by omega
    rw [hLt] at HP
    have hL1 : 2 ≤ L ∧ L ≤ 41 := by omega
    have C1 := fun (b : Nat) (hbL : b < L) w => Lib.hid (c_Sets l (b : Int) s a i2 (by omega) (by omega) (by omega) (by omega) (by omega) w)
    have C2 := fun w => Lib.hid (c_Choose l s i2 w)
    have h2 := chI_40 i2 s
    generalize chI l s = Y at *
    have HBD := Lib.hid (fun (n : Nat) (z : Int) (hz : z ∈ kvL l s a n) => kvL_bd i2 hz)
    have HKS := Lib.hid (kvL_s l s a)
    obtain ⟨i0, hi, hz0, hz1, hz2⟩ := info_parts (show (Try.prog.info? 2).map (fun i => (i.zero, i.size, i.bytes)) = some (some (.int .i64 0), 1, 8) by kernel_rfl)
    clear h hLt i3 i4 i5 i6
    go_enter Try.func20, Try.ntmps20
    go_wp2_with fail
    refine (c_l06Lot l 0 _ s a _ HB.out).mono ?_
    rintro e w1 ⟨rfl, d1⟩
    rw [HAS.out, H2.out]
    have B1 := Lib.hid (hb.trans (d1.below _))
    have HB1 := Lib.hid (HB.out.keep (d1.below _))
    clear hb d1
    go_wp2_with fail
    have HO0 : Hid ((w1.alloc (.cells #[] 2)).ownsRow w1.heap.size 2 1 (.slice (some ⟨w1.heap.size, 0, none⟩) 0 0) 0 (iv (kvL l s a 0))) := World.ownsRow_made w1 #[] 0 (Nat.le_refl _) (Nat.zero_le _) rfl
    have B2 : Hid (Below w.heap.size w (w1.alloc (.cells #[] 2))) := B1.out.alloc B1.out.size _
    have HB2 : Hid (Blk.Blk (w1.alloc (.cells #[] 2)) w.heap.size [.int .i64 s, .int .i64 a] 25) := HB1.out.alloc _
    have HNE : Hid (w.heap.size < w1.heap.size) := HB1.out.lt
    have HGE : Hid (w.heap.size ≤ w1.heap.size) := Nat.le_of_lt HB1.out.lt
    go_loopg [7, 8] L (fun n x i wr => ∃ (k c : Nat) (g : Option Addr), x = .slice g k c ∧ i = .int .i64 (k : Int) ∧ Hid (k + n = L) ∧ k ≤ L ∧ Hid (wr.ownsRow w1.heap.size 2 1 (.slice g k c) k (iv (kvL l s a k))) ∧ Hid (w1.heap.size ≤ wr.heap.size) ∧ Hid (Below w.heap.size w wr) ∧ Hid (Blk.Blk wr w.heap.size [.int .i64 s, .int .i64 a] 25))
    case atStart => exact ⟨0, 0, _, rfl, rfl, by show _ = _; omega, Nat.zero_le _, HO0.out, by show _ ≤ _; simp, B2.out, HB2.out⟩
    case round =>
      clear B2 HB2 HO0 B1 HB1
      obtain ⟨k, c, g, rfl, rfl, hk, hkl, hO, hS, hB, hP⟩ := hrel
      obtain ⟨⟨c1, c2⟩, _, _⟩ := hP.out.two
      by_cases hlt : k < L
      · have hlt' : (k : Int) ≤ l := by omega
        have hx := ac_40 i2 (k : Nat) s (a + 1).toNat
        have HC := C1 k hlt
        have HJ : Hid (k + 1 + (gk - 1) = L) := by have := hk.out; show _ = _; omega
        have HG : Hid (gk - 1 < gk) := by have := hk.out; show _ < _; omega
        have HK := Lib.hid (HKS.out k)
        generalize ac l (k : Nat) s (a + 1).toNat = x at *
        go_wp2_with fail
        refine (HC _).out.mono ?_
        rintro e w2 ⟨rfl, rfl⟩
        have HCELL := Lib.hid (cell_new1 wr 2 (.int .i64 (x : Int)))
        have HO1 := Lib.hid (hO.out.alloc (.cells #[.int .i64 (x : Int)] 2))
        have HB1 := Lib.hid (hB.out.alloc hB.out.size (.cells #[.int .i64 (x : Int)] 2))
        have HP1 := Lib.hid (hP.out.alloc (.cells #[.int .i64 (x : Int)] 2))
        have HBS : Hid (w1.heap.size ≤ (wr.alloc (.cells #[.int .i64 (x : Int)] 2)).heap.size) := by show _ ≤ _; simp; exact Nat.le_trans hS.out (Nat.le_succ _)
        have HLE : Hid (k + 1 ≤ maxLen ∧ (k + 1) * 8 ≤ 140737488355328) := by show _ ∧ _; unfold maxLen; omega
        clear hO hB hP hS c1 c2
        go_wp2_with (at_builtin; refine wpList_append_own _ rfl _ _ 33 rfl w1.heap.size 2 i0 (.int .i64 0) 1 8 Try.underlying33 hi hz0 hz1 hz2 rfl (by decide) (.slice g k c) k (iv (kvL l s a k)) rfl HO1.out ⟨wr.heap.size, 0, none⟩ 1 1 [.int .i64 (x : Int)] rfl rfl HCELL.out (by intro u hu; simp at hu; subst hu; rfl) HLE.out.1 HLE.out.2 HBS.out ?_)
        intro v' w6 hown' hgrow _
        have HO3 : Hid (w6.ownsRow w1.heap.size 2 1 v' (k + 1) (iv (kvL l s a (k + 1)))) := by
          show World.ownsRow _ _ _ _ _ _ _
          rw [HK.out, iv_snoc]; exact hown'
        have HB3 : Hid (Below w.heap.size w w6) := Lib.hid (HB1.out.grown hgrow HB1.out.size (fun q hq => Nat.le_trans HGE.out (HO1.out.lt q hq).1))
        have HP3 : Hid (Blk.Blk w6 w.heap.size [.int .i64 s, .int .i64 a] 25) := Lib.hid (HP1.out.below ((Below.refl w1.heap.size _).grown hgrow HBS.out (fun q hq => (HO1.out.lt q hq).1)) HNE.out)
        have HS3 : Hid (w1.heap.size ≤ w6.heap.size) := Lib.hid (Nat.le_trans HBS.out hgrow.size)
        clear hown' hgrow HO1 HB1 HCELL HBS HP1
        obtain ⟨a5, c5, rfl⟩ := Cm.owns_shape HO3.out
        go_wp2_with fail
        go_roundg (gk - 1)
        case measure => exact HG.out
        case rel => exact ⟨k + 1, c5, a5, rfl, by go_num, HJ, by omega, HO3.out, HS3.out, HB3.out, HP3.out⟩
      · obtain rfl : k = L := by omega
        have hlt' : ¬ ((k : Int) ≤ l) := by omega
        clear hlt
        have hKL := kvL_len l s a k
        have hO' := hO.out
        obtain ⟨a1, cc, he, hr, ho, _⟩ := irow_of_owned (Z := kvL l s a k) (by rw [hKL]; exact hO') (by rw [hKL]; omega) (fun z hz => by have := HBD.out k z hz; omega)
        rw [hKL] at he hr
        cases he
        have HR := Lib.hid hr
        have HKL := Lib.hid hKL
        clear hr ho hO' hKL
        go_wp2_with fail
        refine (C2 _).out.mono ?_
        rintro e w2 ⟨rfl, rfl⟩
        go_wp2_with fail
        go_ret3
        rw [HP.out.1, HP.out.2, HKL.out]
        exact ⟨⟨_, _, rfl, HR.out⟩, hB.out⟩
end Go.Proofs.Ytemdgfjcjjadnaa
