/-
  A walk, in the program. Conditions: numbers are words.
-/
import Derived.Test.YtppkeabkjabhdabWlk
namespace Go.Proofs.Ytppkeabkjabhdab
open Go.RowKit Flt Dec Cm We Cr Liv Hld
set_option maxRecDepth 100000 in
set_option maxHeartbeats 8000000 in
theorem iDriftWalk_any (dr wi : Nat) (s0 c0 : Int) (w : World) (hdr : dr < 4294967296) (hwi : wi < 4294967296) :
    Calls Try.prog 15 #[.float .f32 dr, .float .f32 wi, .int .i64 s0, .int .i64 c0] w fun e w' => (∃ a' c', e = .returned (.tuple #[.slice a' (dwA dr wi s0 c0).length c', .int .i64 (dwS dr wi s0 c0), .bool (dwB dr wi s0 c0)]) ∧ FRow w' a' (dwA dr wi s0 c0).length (dwA dr wi s0 c0) ∧ Dec.Own w' w.heap.size a' (dwA dr wi s0 c0).length 22) ∧ Below w.heap.size w w' := by
  have HB0 : Hid (Below w.heap.size w (w.alloc (.cells #[.int .i64 s0] 2))) := (Below.refl _ _).alloc (Nat.le_refl _) _
  have HS0 : Hid (Blk.Blk (w.alloc (.cells #[.int .i64 s0] 2)) w.heap.size [.int .i64 s0] 2) := Blk.Blk.new _ _ _
  have hsc0 := cell_of HS0.out
  have HR2 : Hid (FRow ((w.alloc (.cells #[.int .i64 s0] 2)).alloc (.cells #[.float .f32 dr, .float .f32 wi] 22)) (some ⟨w.heap.size + 1, 0, none⟩) 2 [dr, wi]) := by
    have := row_two (w.alloc (.cells #[.int .i64 s0] 2)) 22 hdr hwi
    rw [World.size_alloc] at this
    exact this
  go_enter Try.func15, Try.ntmps15
  go_wp2_with fail
  refine (areFinD_any _ 2 2 [dr, wi] _ HR2.out).mono ?_
  rintro e w1 ⟨rfl, d1⟩
  have HB1 := Lib.hid ((HB0.out.alloc HB0.out.size _).trans (d1.below _))
  have HS1 := Lib.hid (blk_drawn (HS0.out.alloc _) d1)
  clear d1
  rw [all_two]
  have hsc1 := cell_of HS1.out
  cases h1 : (fin .f32 dr && fin .f32 wi) with
  | false =>
    have HM := Lib.hid (dw_no (show dw0 dr wi s0 c0 = false by unfold dw0; rw [h1]; simp))
    skip
    go_wp2_with fail
    go_ret3
    rw [HM.out.1, HM.out.2.1, HM.out.2.2]
    first | exact ⟨⟨_, _, rfl, frow_nil _ _, .inl rfl⟩, HB1.out⟩ | exact ⟨⟨_, ⟨_, rfl⟩, frow_nil _ _, .inl rfl⟩, HB1.out⟩
  | true =>
    go_wp2_with fail
    clear hsc0
    refine (iSeed_any s0 _).mono ?_
    rintro e w2 ⟨rfl, rfl⟩
    have HB2 := HB1
    have HS2 := HS1
    have hsc2 := cell_of HS2.out
    cases h2 : isSd s0 with
    | false =>
      have HM := Lib.hid (dw_no (show dw0 dr wi s0 c0 = false by unfold dw0; rw [h2]; simp))
      skip
      go_wp2_with fail
      go_ret3
      rw [HM.out.1, HM.out.2.1, HM.out.2.2]
      first | exact ⟨⟨_, _, rfl, frow_nil _ _, .inl rfl⟩, HB2.out⟩ | exact ⟨⟨_, ⟨_, rfl⟩, frow_nil _ _, .inl rfl⟩, HB2.out⟩
    | true =>
      by_cases h3 : 1 ≤ c0 ∧ c0 ≤ 48
      · have hq1 : ¬ (c0 < 1) := by omega
        have hq2 : ¬ (c0 > 48) := by omega
        have h0 : dw0 dr wi s0 c0 = true := by unfold dw0; rw [h1, h2, decide_eq_true h3]; rfl
        have h2 := of_decide_eq_true h2
        rw [Bool.and_eq_true] at h1
        obtain ⟨s, rfl⟩ : ∃ n : Nat, s0 = n := ⟨s0.toNat, by omega⟩
        obtain ⟨c, rfl⟩ : ∃ n : Nat, c0 = n := ⟨c0.toNat, by omega⟩
        have hs : s < 4294967296 := by omega
        have HDI := Lib.hid (fin_isN h1.1 hdr)
        have HWI := Lib.hid (fin_isN h1.2 hwi)
        have HEND := Lib.hid (fun (Z : List Nat) (hl : Z.length = c) g => dw_end h0 hl g)
        have eg : ∀ args w, (callFunc 63 args).run Try.prog w = .ok (.enter 63 args) w := by intro args w; kernel_rfl
        have hmk : ∀ w, (Instr.makeSlice 23 (.int .i64 (c : Int)) (.int .i64 (c : Int))).run Try.prog w = .ok (.slice (some ⟨w.heap.size, 0, none⟩) c c) (w.alloc (.cells (madeCells (Value.float .f32 0).cells (c * 1)) 22)) := by
          intro w
          obtain ⟨i, hi, hz0, hz1, hz2⟩ := info_parts (show (Try.prog.info? 22).map (fun i => (i.zero, i.size, i.bytes)) = some (some (.float .f32 0), 1, 4) by kernel_rfl)
          have := run_make (P := Try.prog) w 23 22 i (.float .f32 0) Try.underlying23 hi hz0 .i64 .i64 (c : Int) (c : Int) (by omega) (Int.le_refl _) (by rw [hz2]; omega) (by omega)
          rw [hz1, Int.toNat_natCast] at this
          exact this
        have HMD : Hid (∀ w : World, Hld.FHd 22 (w.alloc (.cells (madeCells (Value.float .f32 0).cells (c * 1)) 22)) w.heap.size c (List.replicate c 0)) := Lib.hid fun w => Hld.FHd.made w 22 c
        generalize madeCells (Value.float .f32 0).cells (c * 1) = C0 at *
        clear h0 h1 h2 HB0 HS0 hsc2 hsc1
        go_wp2_with fail
        refine (iSteps_any w.heap.size dr wi _ HS1.out.lt).mono ?_
        rintro e w5 ⟨⟨b7, b4, b5, b1, rfl, hclo⟩, hb5⟩
        have HB5 := Lib.hid (HB1.out.trans (hb5.mono HB1.out.size))
        have HS5 := Lib.hid (HS1.out.keep hb5)
        have HGB : Hid (w.heap.size < w5.heap.size) := HS5.out.lt
        have HGE : Hid (w.heap.size ≤ w5.heap.size) := HB5.out.size
        have HB6 : Hid (Below w.heap.size w (w5.alloc (.cells C0 22))) := Lib.hid (HB5.out.alloc HGE.out _)
        have HS6 := Lib.hid (HS5.out.alloc (.cells C0 22))
        have HC6 := Lib.hid (hclo.below ((Below.refl w5.heap.size w5).alloc (Nat.le_refl _) (.cells C0 22)))
        have HM6 := Lib.hid (HMD.out w5)
        clear hb5 hclo HB1 HB2 HS1 HS2
        go_wp2_with fail
        go_loopg [13, 40] c (fun q v13 v40 wr => ∃ (k x : Nat) (L : List Nat), v13 = .float .f32 x ∧ v40 = .int .i64 (k : Int) ∧ Hid (k + q = c) ∧ k ≤ c ∧ Hid (FHd 22 wr w5.heap.size c L) ∧ Hid (∀ j, j < c → (j < k → F32.Is (dwO dr wi s j) (L.getD j 0)) ∧ L.getD j 0 < 4294967296) ∧ Hid (F32.Is (dwP dr wi s k) x) ∧ Hid (Blk.Blk wr w.heap.size [.int .i64 ((nxk s (4 * k) : Nat) : Int)] 2) ∧ Hid (Clo wr w.heap.size dr wi b7 b4 b5 b1 w5.heap.size) ∧ Hid (Below w.heap.size w wr))
        case atStart => exact ⟨0, 0, _, rfl, rfl, by show _ = _; omega, Nat.zero_le _, HM6.out, (show Hid _ from fun j hj => ⟨fun h => absurd h (Nat.not_lt_zero _), by simp [List.getD, hj]⟩), zero_is, HS6.out, HC6.out, HB6.out⟩
        case round =>
          clear HB5 HB6 HS5 HS6 HC6 HM6 HMD
          obtain ⟨k, x, L, rfl, rfl, hk, hkl, hF, hI, hX, hG0, hCL, hB0⟩ := hrel
          by_cases hlt : k < c
          · have HJ : Hid (k + 1 + (gk - 1) = c) := by have := hk.out; show _ = _; omega
            have HG : Hid (gk - 1 < gk) := by have := hk.out; show _ < _; omega
            go_wp2_with fail
            refine (iStep_any w.heap.size (nxk s (4 * k)) x dr wi b7 b4 b5 b1 w5.heap.size _ _ (nxk_lt hs _) hG0.out hCL.out hX.out HDI.out HWI.out).mono ?_
            rintro e w6 ⟨⟨y, rfl, iy, ly⟩, hs6, ho6⟩
            have HX : Hid (F32.Is (dwO dr wi s k) y ∧ y < 4294967296) := ⟨iy, ly⟩
            have hS := Lib.hid (fhd_only hF.out ho6 (by have := HGB.out; omega))
            have hB := Lib.hid (hB0.out.trans (only_below ho6 (Nat.le_refl _)))
            rw [nxk_add, show 4 * k + 4 = 4 * (k + 1) by omega] at hs6
            have hG := Lib.hid hs6
            have HC2 := Lib.hid (hCL.out.only ho6)
            have DV := Lib.hid (Drawn.refl w6)
            clear hF hB0 hG0 hCL ho6 hs6 iy ly hX
            have hs4 := Cr.fhd_drawn hS.out DV.out
            have HB4 := Lib.hid (hB.out.trans (DV.out.below w.heap.size))
            obtain ⟨u4, hu4⟩ := hs4.1.cell (show k < c by omega)
            have hfr4 := hs4.1.frozen (k)
            have HS5 := Lib.hid (hs4.set (show k < c by omega) y)
            have HB5 := Lib.hid (HB4.out.setCell (p := ⟨w5.heap.size, k, none⟩) HGE.out (.float .f32 y))
            have HLL := Lib.hid hs4.2.1
            have HI5 : Hid (∀ j, j < c → (j < k + 1 → F32.Is (dwO dr wi s j) ((L.set (k) y).getD j 0)) ∧ (L.set (k) y).getD j 0 < 4294967296) := by
              show ∀ j, _
              intro j hj
              by_cases ej : j = k
              · have : (L.set (k) y).getD (k) 0 = y := by simp [List.getD, show k < L.length by rw [HLL.out]; omega]
                rw [ej, this]; exact ⟨fun _ => HX.out.1, HX.out.2⟩
              · have : (L.set (k) y).getD j 0 = L.getD j 0 := by simp [List.getD, show ¬ k = j by omega]
                rw [this]; exact ⟨fun h => (hI.out j hj).1 (by omega), (hI.out j hj).2⟩
            clear hS hB hs4 HB4
            have HG5 := Lib.hid (hG.out.other (k := w5.heap.size) k (.float .f32 y) (by have := HGB.out; omega))
            have HC5 := Lib.hid (HC2.out.below ((Below.refl w5.heap.size w6).setCell (p := ⟨w5.heap.size, k, none⟩) (Nat.le_refl _) (.float .f32 y)))
            go_wp2_with fail
            go_roundg (gk - 1)
            case measure => exact HG.out
            case rel => exact ⟨k + 1, y, L.set k y, rfl, by go_num, HJ, by omega, HS5.out, HI5.out, HX.out.1, HG5.out, HC5.out, HB5.out⟩
          · obtain rfl : k = c := by omega
            clear hlt hX hCL
            have hS2 := hF
            have hS := hG0
            have hB := hB0
            clear hF hG0 hB0
            have HR := Lib.hid (hS2.out.row (by omega) (lt_mem hS2.out.2.1 fun j hj => (hI.out j hj).2))
            have HE := Lib.hid (HEND.out L hS2.out.2.1 (fun j hj => (hI.out j hj).1 hj))
            have HAL := Lib.hid (F32.all_is hS2.out.2.1 (fun j hj => (hI.out j hj).1 hj)).1
            have HSL := Lib.hid hS2.out.1
            have HYL := Lib.hid hS2.out.2.1
            have hsce := cell_of hS.out
            generalize wr = w5 at *
            clear hS2 hk hS
            go_wp2_with fail
            refine (onlyDrawn_any _ k k L _ _ HR.out).mono ?_
            rintro e w7 ⟨rfl, d7⟩
            rw [HAL.out]
            have R7 := Lib.hid (frow_drawn HR.out d7)
            have S7 := Lib.hid (HSL.out.keep (d7.below _))
            have B7 := Lib.hid (hB.out.trans (d7.below w.heap.size))
            clear d7 hB
            cases hq : F32.oks (dwO dr wi s) k with
            | true =>
              have HY := Lib.hid (HE.out.1 hq)
              clear hq
              rw [if_pos rfl]
              go_wp2_with fail
              go_ret3
              rw [HY.out.1, HY.out.2.1, HY.out.2.2, HYL.out]
              first | exact ⟨⟨_, _, rfl, R7.out, .inr ⟨_, rfl, HGE.out, S7.out⟩⟩, B7.out⟩ | exact ⟨⟨_, ⟨_, rfl⟩, R7.out, .inr ⟨_, rfl, HGE.out, S7.out⟩⟩, B7.out⟩
            | false =>
              have HY := Lib.hid (HE.out.2 hq)
              clear hq
              rw [if_neg (by decide)]
              go_wp2_with fail
              go_ret3
              rw [HY.out.1, HY.out.2.1, HY.out.2.2]
              first | exact ⟨⟨_, _, rfl, frow_nil _ _, .inl rfl⟩, B7.out⟩ | exact ⟨⟨_, ⟨_, rfl⟩, frow_nil _ _, .inl rfl⟩, B7.out⟩
      · have HM := Lib.hid (dw_no (show dw0 dr wi s0 c0 = false by unfold dw0; rw [decide_eq_false h3]; simp))
        by_cases hq1 : c0 < 1
        all_goals
          go_wp2_with fail
          go_ret3
          rw [HM.out.1, HM.out.2.1, HM.out.2.2]
          first | exact ⟨⟨_, _, rfl, frow_nil _ _, .inl rfl⟩, HB2.out⟩ | exact ⟨⟨_, ⟨_, rfl⟩, frow_nil _ _, .inl rfl⟩, HB2.out⟩
end Go.Proofs.Ytppkeabkjabhdab
