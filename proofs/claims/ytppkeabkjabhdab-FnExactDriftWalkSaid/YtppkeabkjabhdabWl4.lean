/-
  Particles, in the program. Conditions: numbers are words.
-/
import Derived.Test.YtppkeabkjabhdabWlk
namespace Go.Proofs.Ytppkeabkjabhdab
open Go.RowKit Flt Dec Cm We Cr Liv Hld
set_option maxRecDepth 100000 in
set_option maxHeartbeats 8000000 in
theorem iParticles_any (c0 s0 : Int) (lo up : Nat) (w : World) (hlo : lo < 4294967296) (hhi : up < 4294967296) :
    Calls Try.prog 10 #[.int .i64 c0, .int .i64 s0, .float .f32 lo, .float .f32 up] w fun e w' => (∃ a' c', e = .returned (.tuple #[.slice a' (ptA c0 s0 lo up).length c', .int .i64 (ptS c0 s0 lo up), .bool (ptB c0 s0 lo up)]) ∧ FRow w' a' (ptA c0 s0 lo up).length (ptA c0 s0 lo up) ∧ Dec.Own w' w.heap.size a' (ptA c0 s0 lo up).length 22) ∧ Below w.heap.size w w' := by
  have HB0 : Hid (Below w.heap.size w (w.alloc (.cells #[.int .i64 s0] 2))) := (Below.refl _ _).alloc (Nat.le_refl _) _
  have HS0 : Hid (Blk.Blk (w.alloc (.cells #[.int .i64 s0] 2)) w.heap.size [.int .i64 s0] 2) := Blk.Blk.new _ _ _
  have hsc0 := cell_of HS0.out
  have HR2 : Hid (FRow ((w.alloc (.cells #[.int .i64 s0] 2)).alloc (.cells #[.float .f32 lo, .float .f32 up] 22)) (some ⟨w.heap.size + 1, 0, none⟩) 2 [lo, up]) := by
    have := row_two (w.alloc (.cells #[.int .i64 s0] 2)) 22 hlo hhi
    rw [World.size_alloc] at this
    exact this
  by_cases h3 : 1 ≤ c0 ∧ c0 ≤ 64
  · have hq1 : ¬ (c0 < 1) := by omega
    have hq2 : ¬ (c0 > 64) := by omega
    go_enter Try.func10, Try.ntmps10
    go_wp2_with fail
    refine (iSeed_any s0 _).mono ?_
    rintro e w1 ⟨rfl, rfl⟩
    have HB1 := HB0
    have HS1 := HS0
    have hsc1 := cell_of HS1.out
    cases h1 : isSd s0 with
    | false =>
      have HM := Lib.hid (pt_no (show pt0 c0 s0 lo up = false by unfold pt0; rw [h1]; simp))
      skip
      go_wp2_with fail
      go_ret3
      rw [HM.out.1, HM.out.2.1, HM.out.2.2]
      first | exact ⟨⟨_, _, rfl, frow_nil _ _, .inl rfl⟩, HB1.out⟩ | exact ⟨⟨_, ⟨_, rfl⟩, frow_nil _ _, .inl rfl⟩, HB1.out⟩
    | true =>
      go_wp2_with fail
      refine (areFinD_any _ 2 2 [lo, up] _ HR2.out).mono ?_
      rintro e w2 ⟨rfl, d2⟩
      have HB2 := Lib.hid ((HB1.out.alloc HB1.out.size _).trans (d2.below _))
      have HS2 := Lib.hid (blk_drawn (HS1.out.alloc _) d2)
      clear d2
      rw [all_two]
      have hsc2 := cell_of HS2.out
      cases h2 : (fin .f32 lo && fin .f32 up) with
      | false =>
        have HM := Lib.hid (pt_no (show pt0 c0 s0 lo up = false by unfold pt0; rw [h2]; simp))
        skip
        go_wp2_with fail
        go_ret3
        rw [HM.out.1, HM.out.2.1, HM.out.2.2]
        first | exact ⟨⟨_, _, rfl, frow_nil _ _, .inl rfl⟩, HB2.out⟩ | exact ⟨⟨_, ⟨_, rfl⟩, frow_nil _ _, .inl rfl⟩, HB2.out⟩
      | true =>
        cases h4 : gtW lo up with
        | true =>
          have h2' := h2
          rw [Bool.and_eq_true] at h2'
          have h5 : leW lo up = false := by have := gt_le h2'.1 h2'.2; rw [h4] at this; simpa using this.symm
          have HM := Lib.hid (pt_no (show pt0 c0 s0 lo up = false by unfold pt0; rw [h5]; simp))
          unfold gtW at h4
          go_wp2_with fail
          go_ret3
          rw [HM.out.1, HM.out.2.1, HM.out.2.2]
          first | exact ⟨⟨_, _, rfl, frow_nil _ _, .inl rfl⟩, HB2.out⟩ | exact ⟨⟨_, ⟨_, rfl⟩, frow_nil _ _, .inl rfl⟩, HB2.out⟩
        | false =>
          have h2' := h2
          rw [Bool.and_eq_true] at h2'
          have h5 : leW lo up = true := by have := gt_le h2'.1 h2'.2; rw [h4] at this; simpa using this.symm
          have h0 : pt0 c0 s0 lo up = true := by unfold pt0; rw [h1, h2, h5, decide_eq_true h3]; rfl
          have h1 := of_decide_eq_true h1
          unfold gtW at h4
          obtain ⟨s, rfl⟩ : ∃ n : Nat, s0 = n := ⟨s0.toNat, by omega⟩
          obtain ⟨c, rfl⟩ : ∃ n : Nat, c0 = n := ⟨c0.toNat, by omega⟩
          have hs : s < 4294967296 := by omega
          have HLO := Lib.hid (fin_isN h2'.1 hlo)
          have HHI := Lib.hid (fin_isN h2'.2 hhi)
          have HEND := Lib.hid (fun (Z : List Nat) (hl : Z.length = c) g => pt_end h0 hl g)
          have eg : ∀ args w, (callFunc 61 args).run Try.prog w = .ok (.enter 61 args) w := by intro args w; kernel_rfl
          have hmk : ∀ w, (Instr.makeSlice 23 (.int .i64 (c : Int)) (.int .i64 (c : Int))).run Try.prog w = .ok (.slice (some ⟨w.heap.size, 0, none⟩) c c) (w.alloc (.cells (madeCells (Value.float .f32 0).cells (c * 1)) 22)) := by
            intro w
            obtain ⟨i, hi, hz0, hz1, hz2⟩ := info_parts (show (Try.prog.info? 22).map (fun i => (i.zero, i.size, i.bytes)) = some (some (.float .f32 0), 1, 4) by kernel_rfl)
            have := run_make (P := Try.prog) w 23 22 i (.float .f32 0) Try.underlying23 hi hz0 .i64 .i64 (c : Int) (c : Int) (by omega) (Int.le_refl _) (by rw [hz2]; omega) (by omega)
            rw [hz1, Int.toNat_natCast] at this
            exact this
          have HMD : Hid (∀ w : World, Hld.FHd 22 (w.alloc (.cells (madeCells (Value.float .f32 0).cells (c * 1)) 22)) w.heap.size c (List.replicate c 0)) := Lib.hid fun w => Hld.FHd.made w 22 c
          generalize madeCells (Value.float .f32 0).cells (c * 1) = C0 at *
          clear h0 h1 h2 h2' h5 HB0 HB1 HS0 HS1 hsc0 hsc1 hsc2
          go_wp2_with fail
          clear h4
          refine (iDraws_any _ _ ⟨_, rfl⟩).mono ?_
          rintro e w5 ⟨rfl, hw5⟩
          have HB5 : Hid (Below w.heap.size w w5) := by show Below _ _ _; rw [hw5]; exact HB2.out.alloc HB2.out.size _
          have HS5 : Hid (Blk.Blk w5 w.heap.size [.int .i64 (s : Int)] 2) := by show Blk.Blk _ _ _ _; rw [hw5]; exact HS2.out.alloc _
          have HP5 : Hid (Blk.Blk w5 w2.heap.size [.pointer (some ⟨w.heap.size, 0, none⟩)] 52) := by show Blk.Blk _ _ _ _; rw [hw5]; exact Blk.Blk.new _ _ _
          have HPL : Hid (w2.heap.size < w5.heap.size ∧ w.heap.size < w2.heap.size) := by
            show _ ∧ _
            rw [hw5]; exact ⟨by simp, HS2.out.lt⟩
          clear hw5
          have HGE : Hid (w.heap.size ≤ w5.heap.size) := HB5.out.size
          have HB6 : Hid (Below w.heap.size w (w5.alloc (.cells C0 22))) := Lib.hid (HB5.out.alloc HGE.out _)
          have HS6 := Lib.hid (HS5.out.alloc (.cells C0 22))
          have HP6 := Lib.hid (HP5.out.alloc (.cells C0 22))
          have HM6 := Lib.hid (HMD.out w5)
          clear HB2 HS2 HP5
          generalize w2.heap.size = pb at *
          go_wp2_with fail
          go_loopg [42] c (fun q v42 wr => ∃ (k : Nat) (L : List Nat), v42 = .int .i64 (k : Int) ∧ Hid (k + q = c) ∧ k ≤ c ∧ Hid (FHd 22 wr w5.heap.size c L) ∧ Hid (∀ j, j < c → (j < k → F32.Is (ptO lo up s j) (L.getD j 0)) ∧ L.getD j 0 < 4294967296) ∧ Hid (Blk.Blk wr w.heap.size [.int .i64 ((nxk s k : Nat) : Int)] 2) ∧ Hid (Blk.Blk wr pb [.pointer (some ⟨w.heap.size, 0, none⟩)] 52) ∧ Hid (Below w.heap.size w wr))
          case atStart => exact ⟨0, _, rfl, by show _ = _; omega, Nat.zero_le _, HM6.out, (show Hid _ from fun j hj => ⟨fun h => absurd h (Nat.not_lt_zero _), by simp [List.getD, hj]⟩), HS6.out, HP6.out, HB6.out⟩
          case round =>
            clear HB5 HB6 HS5 HS6 HP6 HM6 HMD
            obtain ⟨k, L, rfl, hk, hkl, hF, hI, hG0, hP0, hB0⟩ := hrel
            by_cases hlt : k < c
            · have HJ : Hid (k + 1 + (gk - 1) = c) := by have := hk.out; show _ = _; omega
              have HG : Hid (gk - 1 < gk) := by have := hk.out; show _ < _; omega
              obtain ⟨x1, v1, r1, j1, l1, e1⟩ := F32.arith_ex (P := Try.prog) (op := .sub) (.inr (.inl rfl)) 22 HHI.out HLO.out wr
              have DA := Lib.hid e1
              have hX1 := j1
              have hSv := blk_drawn hG0.out e1
              have hPv := blk_drawn hP0.out e1
              go_wp2_with fail
              refine (iDraw_any w.heap.size pb (nxk s k) _ (nxk_lt hs _) hSv hPv (by have := HPL.out; omega)).mono ?_
              rintro e w6 ⟨⟨y, rfl, iy, ly⟩, hs6, ho6⟩
              clear r1
              obtain ⟨x2, v2, r2, j2, l2, e2⟩ := F32.arith_ex (P := Try.prog) (op := .mul) (.inr (.inr (.inl rfl))) 22 hX1 iy w6
              obtain ⟨x3, v3, r3, j3, l3, e3⟩ := F32.arith_ex (P := Try.prog) (op := .add) (.inl rfl) 22 HLO.out j2 v2
              have DC := Lib.hid (e2.trans e3)
              have HX : Hid (F32.Is (ptO lo up s k) x3 ∧ x3 < 4294967296) := ⟨j3, l3⟩
              have hon := only_drawn (only_trans (drawn_only (g := w.heap.size) DA.out) ho6) DC.out
              have hS := Lib.hid (fhd_only hF.out hon (by have := HPL.out; omega))
              have hB := Lib.hid (hB0.out.trans (only_below hon (Nat.le_refl _)))
              have hG : Hid (Blk.Blk v3 w.heap.size [.int .i64 ((nxk s (k + 1) : Nat) : Int)] 2) := blk_drawn hs6 DC.out
              have HP2 := Lib.hid (blk_only hP0.out hon (by have := HPL.out; omega))
              have DV := Lib.hid (Drawn.refl v3)
              clear hF hB0 hG0 hP0 hon hs6 ho6 hSv hPv iy ly hX1
              clear j2 l2 e2 j3 l3 e3
              clear j1 l1 e1 DA DC
              have hs4 := Cr.fhd_drawn hS.out DV.out
              have HB4 := Lib.hid (hB.out.trans (DV.out.below w.heap.size))
              obtain ⟨u4, hu4⟩ := hs4.1.cell (show k < c by omega)
              have hfr4 := hs4.1.frozen (k)
              have HS5 := Lib.hid (hs4.set (show k < c by omega) x3)
              have HB5 := Lib.hid (HB4.out.setCell (p := ⟨w5.heap.size, k, none⟩) HGE.out (.float .f32 x3))
              have HLL := Lib.hid hs4.2.1
              have HI5 : Hid (∀ j, j < c → (j < k + 1 → F32.Is (ptO lo up s j) ((L.set (k) x3).getD j 0)) ∧ (L.set (k) x3).getD j 0 < 4294967296) := by
                show ∀ j, _
                intro j hj
                by_cases ej : j = k
                · have : (L.set (k) x3).getD (k) 0 = x3 := by simp [List.getD, show k < L.length by rw [HLL.out]; omega]
                  rw [ej, this]; exact ⟨fun _ => HX.out.1, HX.out.2⟩
                · have : (L.set (k) x3).getD j 0 = L.getD j 0 := by simp [List.getD, show ¬ k = j by omega]
                  rw [this]; exact ⟨fun h => (hI.out j hj).1 (by omega), (hI.out j hj).2⟩
              clear hS hB hs4 HB4
              have HG5 := Lib.hid (hG.out.other (k := w5.heap.size) k (.float .f32 x3) (by have := HPL.out; omega))
              have HP5 := Lib.hid (HP2.out.other (k := w5.heap.size) k (.float .f32 x3) (by have := HPL.out; omega))
              go_wp2_with fail
              go_roundg (gk - 1)
              case measure => exact HG.out
              case rel => exact ⟨k + 1, L.set k x3, by go_num, HJ, by omega, HS5.out, HI5.out, HG5.out, HP5.out, HB5.out⟩
            · obtain rfl : k = c := by omega
              clear hlt hP0
              have hS2 := hF
              have hS := hG0
              have hB := hB0
              clear hF hG0 hB0
              have HR := Lib.hid (hS2.out.row (by omega) (lt_mem hS2.out.2.1 fun j hj => (hI.out j hj).2))
              have HE := Lib.hid (HEND.out L hS2.out.2.1 (fun j hj => (hI.out j hj).1 hj))
              have HAL := Lib.hid (F32.all_is hS2.out.2.1 (fun j hj => (hI.out j hj).1 hj)).1
              have HSL := Lib.hid hS2.out.1
              have HYL := Lib.hid hS2.out.2.1
              have hsce := cell_of hS.out
              generalize wr = w5 at *
              clear hS2 hk hS
              go_wp2_with fail
              refine (onlyDrawn_any _ k k L _ _ HR.out).mono ?_
              rintro e w7 ⟨rfl, d7⟩
              rw [HAL.out]
              have R7 := Lib.hid (frow_drawn HR.out d7)
              have S7 := Lib.hid (HSL.out.keep (d7.below _))
              have B7 := Lib.hid (hB.out.trans (d7.below w.heap.size))
              clear d7 hB
              cases hq : F32.oks (ptO lo up s) k with
              | true =>
                have HY := Lib.hid (HE.out.1 hq)
                clear hq
                rw [if_pos rfl]
                go_wp2_with fail
                go_ret3
                rw [HY.out.1, HY.out.2.1, HY.out.2.2, HYL.out]
                first | exact ⟨⟨_, _, rfl, R7.out, .inr ⟨_, rfl, HGE.out, S7.out⟩⟩, B7.out⟩ | exact ⟨⟨_, ⟨_, rfl⟩, R7.out, .inr ⟨_, rfl, HGE.out, S7.out⟩⟩, B7.out⟩
              | false =>
                have HY := Lib.hid (HE.out.2 hq)
                clear hq
                rw [if_neg (by decide)]
                go_wp2_with fail
                go_ret3
                rw [HY.out.1, HY.out.2.1, HY.out.2.2]
                first | exact ⟨⟨_, _, rfl, frow_nil _ _, .inl rfl⟩, B7.out⟩ | exact ⟨⟨_, ⟨_, rfl⟩, frow_nil _ _, .inl rfl⟩, B7.out⟩
  · have HM := Lib.hid (pt_no (show pt0 c0 s0 lo up = false by unfold pt0; rw [decide_eq_false h3]; simp))
    by_cases hq1 : c0 < 1
    all_goals
      go_enter Try.func10, Try.ntmps10
      go_wp2_with fail
      go_ret3
      rw [HM.out.1, HM.out.2.1, HM.out.2.2]
      first | exact ⟨⟨_, _, rfl, frow_nil _ _, .inl rfl⟩, HB0.out⟩ | exact ⟨⟨_, ⟨_, rfl⟩, frow_nil _ _, .inl rfl⟩, HB0.out⟩
end Go.Proofs.Ytppkeabkjabhdab
