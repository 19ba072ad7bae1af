/-
  Spares that are split, in the program. Conditions: the list reads as a list of 32-bit numbers.
-/
import Derived.Test.YtiebbmgehhcdmaaSplS
namespace Go.Proofs.Ytiebbmgehhcdmaa
open Go.RowKit Flt Dec Cm Nd Liv Spl Hld
theorem split1_any (z : Nat) (w : World) : Calls Try.prog 64 #[.float .f32 z] w fun e w' => e = .returned (.bool (!mn z)) ∧ Below w.heap.size w w' := by
  go_enter Try.func64, Try.ntmps64
  go_wp2_with fail
  refine (c_implMean z _).mono ?_
  rintro e w1 ⟨rfl, rfl⟩
  go_wp2_with fail
  go_ret
  exact ⟨rfl, Below.refl _ _⟩
theorem any_not (zs : List Nat) : (zs.any fun z => !mn z) = !zs.all mn := by
  induction zs with
  | nil => rfl
  | cons x l ih => simp only [List.any_cons, List.all_cons, ih, Bool.not_and]
set_option maxRecDepth 40000 in
set_option maxHeartbeats 8000000 in
theorem iSplitSpares_any (a : Option Addr) (len cap : Nat) (zs : List Nat) (n : Int) (w : World) (h : FRow w a len zs) (_ : len ≤ cap) :
    Calls Try.prog 34 #[.slice a len cap, .int .i64 n] w fun e w' => (∃ a' c', e = .returned (.tuple #[.slice a' (splA zs n).length c', .bool (splB zs n)]) ∧ IRow w' a' (splA zs n).length (splA zs n) ∧ Dec.Own w' w.heap.size a' (splA zs n).length 2) ∧ Below w.heap.size w w' := by
  have H := Lib.hid h
  have hm : len ≤ 9223372036854775807 := by have := h.2.1; unfold maxLen at this; exact this
  clear h
  by_cases hl : 1 ≤ len ∧ len ≤ 8
  · have hl1 : ¬ ((len : Int) < 1) := by omega
    have hl2 : ¬ ((8 : Int) < len) := by omega
    by_cases hn : 0 ≤ n ∧ n ≤ 32
    · obtain ⟨N, rfl⟩ : ∃ N : Nat, n = N := ⟨n.toNat, by omega⟩
      have hN : N ≤ 32 := by omega
      have hn1 : ¬ ((N : Int) < 0) := by omega
      have hn2 : ¬ ((32 : Int) < N) := by omega
      cases hq : zs.all mn with
      | false =>
        have hb := splB_mn (n := (N : Int)) hq
        have HB := Lib.hid hb
        have HA := Lib.hid (splA_no hb)
        have HX : Hid ((zs.any fun z => !mn z) = true) := by show _ = _; rw [any_not, hq]; rfl
        clear hb hq hn
        go_enter Try.func34, Try.ntmps34
        go_wp2_with fail
        refine (containsFl_any (fun z => !mn z) 64 #[] (by intro args w; kernel_rfl) a len cap zs _ H.out (fun W t _ => split1_any t W)).mono ?_
        rintro e w1 ⟨rfl, b1⟩
        rw [HX.out]
        go_wp2_with fail
        go_ret2
        rw [HA.out, HB.out]
        first | exact ⟨⟨_, _, rfl, Spl.irow_nil _ _, .inl rfl⟩, b1⟩ | exact ⟨⟨_, ⟨_, rfl⟩, Spl.irow_nil _ _, .inl rfl⟩, b1⟩
      | true =>
        have HX : Hid ((zs.any fun z => !mn z) = false) := by show _ = _; rw [any_not, hq]; rfl
        have HMN : Hid (∀ i, i < len → mn (zs.getD i 0) = true) := Lib.hid fun i hi => List.all_eq_true.1 hq _ (by simp [List.getD, H.out.1, hi])
        have HM : Hid (∀ i, i < len → mean (zs.getD i 0)) := Lib.hid fun i hi => mean_of (H.out.2.2.1 _ (by simp [List.getD, H.out.1, hi])) (HMN.out i hi)
        have HZL : Hid (∀ i, i < len → zs.getD i 0 < 4294967296) := Lib.hid fun i hi => H.out.2.2.1 _ (by simp [List.getD, H.out.1, hi])
        have HYES : Hid (∀ i c : Nat, i < len → c ≤ 32 → ndB (zs.getD i 0) (c : Int) = true ∧ srA (zs.getD i 0) (c : Int) = srv (zs.getD i 0) (c + 1)) := by
          show ∀ i c : Nat, _
          intro i c hi hc
          have h1 : ndB (zs.getD i 0) ((c : Nat) : Int) = true := by unfold ndB; rw [HMN.out i hi, decide_eq_true (by omega)]; rfl
          refine ⟨h1, ?_⟩
          unfold srA; rw [h1, Int.toNat_natCast]; rfl
        obtain ⟨hb, ha⟩ := splA_yes (zs := zs) (N := N) (by rw [H.out.1]; exact hl) hN hq
        have HB := Lib.hid hb
        have HA := Lib.hid ha
        have hmk : ∀ w, (Instr.makeSlice 54 (.int .i64 (len : Int)) (.int .i64 (len : Int))).run Try.prog w = .ok (.slice (some ⟨w.heap.size, 0, none⟩) len len) (w.alloc (.cells (madeCells (Value.int .i64 0).cells (len * 1)) 2)) := by
          intro w
          obtain ⟨i, hi, hz0, hz1, hz2⟩ := info_parts (show (Try.prog.info? 2).map (fun i => (i.zero, i.size, i.bytes)) = some (some (.int .i64 0), 1, 8) by kernel_rfl)
          have := run_make (P := Try.prog) w 54 2 i (.int .i64 0) Try.underlying54 hi hz0 .i64 .i64 len len (by omega) (Int.le_refl _) (by rw [hz2]; omega) (by omega)
          rw [this, hz1, Int.toNat_natCast]
        have HMD : Hid (∀ w : World, IHd 2 (w.alloc (.cells (madeCells (Value.int .i64 0).cells (len * 1)) 2)) w.heap.size len (List.replicate len 0)) := Lib.hid fun w => IHd.made w 2 len
        generalize madeCells (Value.int .i64 0).cells (len * 1) = C0 at *
        have hmf : ∀ w, (Instr.makeSlice 23 (.int .i64 (len : Int)) (.int .i64 (len : Int))).run Try.prog w = .ok (.slice (some ⟨w.heap.size, 0, none⟩) len len) (w.alloc (.cells (madeCells (Value.float .f32 0).cells (len * 1)) 22)) := by
          intro w
          obtain ⟨i, hi, hz0, hz1, hz2⟩ := info_parts (show (Try.prog.info? 22).map (fun i => (i.zero, i.size, i.bytes)) = some (some (.float .f32 0), 1, 4) by kernel_rfl)
          have := run_make (P := Try.prog) w 23 22 i (.float .f32 0) Try.underlying23 hi hz0 .i64 .i64 len len (by omega) (Int.le_refl _) (by rw [hz2]; omega) (by omega)
          rw [this, hz1, Int.toNat_natCast]
        have HMF : Hid (∀ w : World, Slots (w.alloc (.cells (madeCells (Value.float .f32 0).cells (len * 1)) 22)) w.heap.size len 22) := Lib.hid fun w => slots_made w 22 _ len (by simp [madeCells])
        generalize madeCells (Value.float .f32 0).cells (len * 1) = F0 at *
        have HR0 : Hid (spl zs 0 = List.replicate len 0) := by show List.replicate zs.length 0 = _; rw [H.out.1]
        have HLN := Lib.hid H.out.1
        clear hb ha hq hn
        go_enter Try.func34, Try.ntmps34
        go_wp2_with fail
        refine (containsFl_any (fun z => !mn z) 64 #[] (by intro args w; kernel_rfl) a len cap zs _ H.out (fun W t _ => split1_any t W)).mono ?_
        rintro e w1 ⟨rfl, b1⟩
        rw [HX.out]
        have B1 := Lib.hid b1
        have HS0 := Lib.hid (HMD.out w1)
        clear b1 hl1 hl2 hn1 hn2
        go_wp2_with fail
        go_loopg [34] N (fun q u wr => ∃ t : Nat, u = .int .i64 t ∧ Hid (t + q = N) ∧ t ≤ N ∧ Hid (IHd 2 wr w1.heap.size len (spl zs t)) ∧ Hid (Below w1.heap.size w1 wr))
        case atStart => exact ⟨0, rfl, by show _ = _; omega, Nat.zero_le _, by show IHd _ _ _ _ _; rw [HR0.out]; exact HS0.out, (Below.refl _ _).alloc (Nat.le_refl _) _⟩
        case round =>
          obtain ⟨t, rfl, ht, htl, hI, hB⟩ := hrel
          by_cases htN : t < N
          · have HT2 : Hid (t + 1 + (gk - 1) = N) := by have := ht.out; show _ = _; omega
            have HTG : Hid (gk - 1 < gk) := by have := ht.out; show _ < _; omega
            obtain ⟨v, hv⟩ : ∃ v, spl zs t = v := ⟨_, rfl⟩
            have hvb := spl_bd zs t
            rw [hv] at hI hvb
            have HVB : Hid (∀ i, 0 ≤ v.getD i 0 ∧ v.getD i 0 ≤ 31) := Lib.hid fun i => by have := hvb i; omega
            have HST : Hid (spl zs (t + 1) = v.set (bs (key zs v) len) (v.getD (bs (key zs v) len) 0 + 1)) := by
              show stp zs (spl zs t) = _
              rw [hv]; unfold stp; rw [HLN.out]
            have HNN : Hid (∀ z ∈ lkL zs v len, nan .f32 z = false ∧ z < 4294967296) := by
              show ∀ z, _
              intro z hz
              unfold lkL at hz
              obtain ⟨i, hi, rfl⟩ := List.mem_map.1 hz
              have hil := List.mem_range.1 hi
              obtain ⟨_, _, _, _, d4, d5⟩ := lkA_ok (v := v) (HM.out i hil) (by have := HVB.out i; omega)
              exact ⟨d4, d5⟩
            obtain ⟨gq, hgq⟩ : ∃ gq, gk - 1 = gq := ⟨_, rfl⟩
            rw [hgq] at HT2 HTG
            clear hv hvb ht hgq
            generalize wr = wo at *
            generalize gk = gk0 at *
            have hB2 := hB.out.alloc hB.out.size (.cells F0 22)
            have hbw : Below wo.heap.size wo (wo.alloc (.cells F0 22)) := (Below.refl _ _).alloc (Nat.le_refl _) _
            have HW0 := Lib.hid hbw
            have HSF := Lib.hid (HMF.out wo)
            clear hB2 hbw
            go_wp2_with fail
            go_loopg [41] len (fun q i wi => ∃ j : Nat, i = .int .i64 j ∧ Hid (j + q = len) ∧ j ≤ len ∧ Hid (Slots wi wo.heap.size len 22) ∧ Hid (FHead1 wi wo.heap.size (lkL zs v j)) ∧ Hid (Below wo.heap.size wo wi))
            case atStart => exact ⟨0, rfl, by show _ = _; omega, Nat.zero_le _, HSF.out, fun j hj => absurd hj (by simp [lkL]), HW0.out⟩
            case round =>
              obtain ⟨j, rfl, hj, hjk, hS, hF, hW⟩ := hrel
              by_cases hjl : j < len
              · obtain ⟨b, off, rfl, hbl, hc⟩ := (((H.out.keep B1.out).keep hB.out).keep hW.out).2.2.2 j hjl
                have hi := (hI.out.keep hW.out).2.2 j hjl
                have HJ : Hid (j + 1 + (gk - 1) = len) := by have := hj.out; show _ = _; omega
                have HG : Hid (gk - 1 < gk) := by have := hj.out; show _ < _; omega
                obtain ⟨c, c1, c2, c3, c4, c5⟩ := lkA_ok (v := v) (HM.out j hjl) (by have := HVB.out j; omega)
                rw [c1] at hi
                have HZJ := Lib.hid (HZL.out j hjl)
                have HYJ := Lib.hid (HYES.out j c hjl c2)
                have hr : ∀ w, (binOp .sub 22 (.float .f32 1065353216) (.float .f32 (srv (zs.getD j 0) (c + 1)))).run Try.prog w = .ok (.float .f32 (lkA zs v j)) w := fun w => run_float_arith w .sub 22 .f32 _ _ _ c3
                have HSN : Hid (lkL zs v (j + 1) = lkL zs v j ++ [lkA zs v j]) := lkL_snoc _ _ _
                generalize lkA zs v j = x at *
                generalize zs.getD j 0 = z at *
                clear c1 c3 c4 c5
                go_wp2_with fail
                refine (shareNeeds_any z c _ HZJ.out).mono ?_
                rintro e w2 ⟨rfl, b2⟩
                rw [HYJ.out.1, HYJ.out.2]
                have W2 := Lib.hid (hW.out.trans (b2.mono hW.out.size))
                have s2 := hS.out.keep b2
                have f2 := hF.out.keep hS.out.lt b2
                obtain ⟨u, hu⟩ := s2.cell hjl
                have hfr := s2.frozen j
                have S3 := Lib.hid (s2.set j (.float .f32 x))
                have F3 : Hid (FHead1 (w2.setCell ⟨wo.heap.size, j, none⟩ (.float .f32 x)) wo.heap.size (lkL zs v (j + 1))) := by
                  have := FHead1.snoc f2 s2 (by rw [lkL_len]; exact hjl) x
                  rw [lkL_len] at this
                  show FHead1 _ _ _
                  rw [HSN.out]
                  exact this
                have W3 := Lib.hid (W2.out.setCell (p := ⟨wo.heap.size, j, none⟩) (Nat.le_refl _) (.float .f32 x))
                clear b2 s2 f2 hS hF hW hc hi
                go_wp2_with fail
                go_roundg (gk - 1)
                case measure => exact HG.out
                case rel => exact ⟨j + 1, by go_num, HJ, by omega, S3.out, F3.out, W3.out⟩
              · obtain rfl : j = len := by have := hj.out; omega
                have hrow : FRow wr (some ⟨wo.heap.size, 0, none⟩) j (lkL zs v j) := by
                  have := hF.out.row hS.out.lt (by rw [lkL_len]; omega) (fun z hz => (HNN.out z hz).2)
                  rw [lkL_len] at this
                  exact this
                have HR := Lib.hid hrow
                obtain ⟨f1, f2, f3⟩ := first_max (zs := zs) (v := v) (n := j) (by omega) (fun z hz => (HNN.out z hz).1)
                have hmx := (mxK_ok (l := lkL zs v j) (fun z hz => (HNN.out z hz).1) (j - 1) (by rw [lkL_len]; omega)).1
                have hi := hI.out.keep hW.out
                have hB2 := hB.out.trans (hW.out.mono hB.out.size)
                have HF2 := Lib.hid f2
                have HF3 := Lib.hid f3
                have HMX := Lib.hid hmx
                obtain ⟨bi, hbi⟩ : ∃ bi, bs (key zs v) j = bi := ⟨_, rfl⟩
                rw [hbi] at f1 HF2 HF3 HST
                have hcell := hi.2.2 bi f1
                have hfr := hi.1.frozen bi
                have HI3 := Lib.hid (hi.set f1 (v.getD bi 0 + 1))
                rw [← HST.out] at HI3
                have HB3 := Lib.hid (hB2.setCell (p := ⟨w1.heap.size, bi, none⟩) (Nat.le_refl _) (.int .i64 (v.getD bi 0 + 1)))
                have hvb := HVB.out bi
                have hbl : (bi : Int) < (j : Int) := by omega
                obtain ⟨x, hx⟩ : ∃ x, v.getD bi 0 = x := ⟨_, rfl⟩
                rw [hx] at hcell HI3 HB3 hvb
                clear hjl hi hB2 hbi hx hI hB hW hrow f2 f3 hmx hS hF hj
                go_wp2_with fail
                refine (maxL_any _ j j _ _ HR.out (by omega) (fun z hz => (HNN.out z hz).1)).mono ?_
                rintro e w2 ⟨rfl, rfl⟩
                go_wp2_with fail
                refine (indexL_any _ j j _ bi _ _ HR.out HMX.out (fun z hz => (HNN.out z hz).1) f1 HF2.out HF3.out).mono ?_
                rintro e w2 ⟨rfl, rfl⟩
                go_wp2_with fail
                go_roundg gq
                case measure => exact HTG.out
                case rel => exact ⟨t + 1, by go_num, HT2, by omega, HI3.out, HB3.out⟩
          · obtain rfl : t = N := by omega
            have HR := Lib.hid (hI.out.row (by omega) (spl_mem zs t hN))
            have HO := Lib.hid hI.out.1
            have HLS := Lib.hid (spl_len zs t)
            have B2 := Lib.hid (B1.out.trans (hB.out.mono B1.out.size))
            have HGE : Hid (w.heap.size ≤ w1.heap.size) := B1.out.size
            clear htN
            go_wp2_with fail
            go_ret2
            rw [HB.out, HA.out, HLS.out, HLN.out]
            first | exact ⟨⟨_, _, rfl, HR.out, .inr ⟨_, rfl, HGE.out, HO.out⟩⟩, B2.out⟩ | exact ⟨⟨_, ⟨_, rfl⟩, HR.out, .inr ⟨_, rfl, HGE.out, HO.out⟩⟩, B2.out⟩
    · have hb := splB_tot (zs := zs) hn
      have HB := Lib.hid hb
      have HA := Lib.hid (splA_no hb)
      clear hb
      by_cases h1 : n < 0
      · clear hn
        go_enter Try.func34, Try.ntmps34
        go_wp2_with fail
        go_ret2
        rw [HA.out, HB.out]
        first | exact ⟨⟨_, _, rfl, Spl.irow_nil _ _, .inl rfl⟩, Below.refl _ _⟩ | exact ⟨⟨_, ⟨_, rfl⟩, Spl.irow_nil _ _, .inl rfl⟩, Below.refl _ _⟩
      · have h2 : (32 : Int) < n := by omega
        clear hn
        go_enter Try.func34, Try.ntmps34
        go_wp2_with fail
        go_ret2
        rw [HA.out, HB.out]
        first | exact ⟨⟨_, _, rfl, Spl.irow_nil _ _, .inl rfl⟩, Below.refl _ _⟩ | exact ⟨⟨_, ⟨_, rfl⟩, Spl.irow_nil _ _, .inl rfl⟩, Below.refl _ _⟩
  · have hb := splB_len (zs := zs) (n := n) (by rw [H.out.1]; exact hl)
    have HB := Lib.hid hb
    have HA := Lib.hid (splA_no hb)
    clear hb
    by_cases h1 : (len : Int) < 1
    · go_enter Try.func34, Try.ntmps34
      go_wp2_with fail
      go_ret2
      rw [HA.out, HB.out]
      first | exact ⟨⟨_, _, rfl, Spl.irow_nil _ _, .inl rfl⟩, Below.refl _ _⟩ | exact ⟨⟨_, ⟨_, rfl⟩, Spl.irow_nil _ _, .inl rfl⟩, Below.refl _ _⟩
    · have h2 : (8 : Int) < len := by omega
      go_enter Try.func34, Try.ntmps34
      go_wp2_with fail
      go_ret2
      rw [HA.out, HB.out]
      first | exact ⟨⟨_, _, rfl, Spl.irow_nil _ _, .inl rfl⟩, Below.refl _ _⟩ | exact ⟨⟨_, ⟨_, rfl⟩, Spl.irow_nil _ _, .inl rfl⟩, Below.refl _ _⟩
end Go.Proofs.Ytiebbmgehhcdmaa
