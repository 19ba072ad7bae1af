/-
  Moved particles, in the program. Conditions: numbers are words.
-/
import Derived.Test.YtppkeabkjabhdabWlk
namespace Go.Proofs.Ytppkeabkjabhdab
open Go.RowKit Flt Dec Cm We Cr Liv Hld
set_option maxRecDepth 100000 in
set_option maxHeartbeats 8000000 in
theorem iMovedParticles_any (a : Option Addr) (len cap : Nat) (L0 : List Nat) (dr wi : Nat) (s0 : Int) (w : World) (hL : FRow w a len L0) (_hc : len ≤ cap) (hdr : dr < 4294967296) (hwi : wi < 4294967296) :
    Calls Try.prog 18 #[.slice a len cap, .float .f32 dr, .float .f32 wi, .int .i64 s0] w fun e w' => (∃ a' c', e = .returned (.tuple #[.slice a' (mvA L0 dr wi s0).length c', .int .i64 (mvS L0 dr wi s0), .bool (mvB L0 dr wi s0)]) ∧ FRow w' a' (mvA L0 dr wi s0).length (mvA L0 dr wi s0) ∧ Dec.Own w' w.heap.size a' (mvA L0 dr wi s0).length 22) ∧ Below w.heap.size w w' := by
  have HL := Lib.hid hL
  clear hL
  have HB0 : Hid (Below w.heap.size w (w.alloc (.cells #[.int .i64 s0] 2))) := (Below.refl _ _).alloc (Nat.le_refl _) _
  have HS0 : Hid (Blk.Blk (w.alloc (.cells #[.int .i64 s0] 2)) w.heap.size [.int .i64 s0] 2) := Blk.Blk.new _ _ _
  have hsc0 := cell_of HS0.out
  go_enter Try.func18, Try.ntmps18
  go_wp2_with fail
  refine (iCloud_any a len cap L0 _ (HL.out.keep HB0.out)).mono ?_
  rintro e w1 ⟨rfl, d1⟩
  have HB1 := Lib.hid (HB0.out.trans (d1.below _))
  have HS1 := Lib.hid (blk_drawn HS0.out d1)
  clear d1
  have hsc1 := cell_of HS1.out
  cases h1 : cl0 L0 with
  | false =>
    have HM := Lib.hid (mv_no (show mv0 L0 dr wi s0 = false by unfold mv0; rw [h1]; simp))
    skip
    go_wp2_with fail
    go_ret3
    rw [HM.out.1, HM.out.2.1, HM.out.2.2]
    first | exact ⟨⟨_, _, rfl, frow_nil _ _, .inl rfl⟩, HB1.out⟩ | exact ⟨⟨_, ⟨_, rfl⟩, frow_nil _ _, .inl rfl⟩, HB1.out⟩
  | true =>
    have hr2 := row_two w1 22 hdr hwi
    go_wp2_with fail
    clear hsc0
    refine (areFinD_any _ 2 2 [dr, wi] _ hr2).mono ?_
    rintro e w2 ⟨rfl, d2⟩
    have HB2 := Lib.hid ((HB1.out.alloc HB1.out.size _).trans (d2.below _))
    have HS2 := Lib.hid (blk_drawn (HS1.out.alloc _) d2)
    clear d2
    rw [all_two]
    have hsc2 := cell_of HS2.out
    cases h2 : (fin .f32 dr && fin .f32 wi) with
    | false =>
      have HM := Lib.hid (mv_no (show mv0 L0 dr wi s0 = false by unfold mv0; rw [h2]; simp))
      skip
      go_wp2_with fail
      go_ret3
      rw [HM.out.1, HM.out.2.1, HM.out.2.2]
      first | exact ⟨⟨_, _, rfl, frow_nil _ _, .inl rfl⟩, HB2.out⟩ | exact ⟨⟨_, ⟨_, rfl⟩, frow_nil _ _, .inl rfl⟩, HB2.out⟩
    | true =>
      go_wp2_with fail
      clear hsc1
      refine (iSeed_any s0 _).mono ?_
      rintro e w3 ⟨rfl, rfl⟩
      have HB3 := HB2
      have HS3 := HS2
      have hsc3 := cell_of HS3.out
      cases h3 : isSd s0 with
      | false =>
        have HM := Lib.hid (mv_no (show mv0 L0 dr wi s0 = false by unfold mv0; rw [h3]; simp))
        skip
        go_wp2_with fail
        go_ret3
        rw [HM.out.1, HM.out.2.1, HM.out.2.2]
        first | exact ⟨⟨_, _, rfl, frow_nil _ _, .inl rfl⟩, HB3.out⟩ | exact ⟨⟨_, ⟨_, rfl⟩, frow_nil _ _, .inl rfl⟩, HB3.out⟩
      | true =>
        have h0 : mv0 L0 dr wi s0 = true := by unfold mv0; rw [h1, h2, h3]; rfl
        have h3 := of_decide_eq_true h3
        rw [Bool.and_eq_true] at h2
        obtain ⟨k4, k5⟩ := cl_parts h1
        rw [HL.out.1] at k4
        obtain ⟨s, rfl⟩ : ∃ n : Nat, s0 = n := ⟨s0.toNat, by omega⟩
        have hs : s < 4294967296 := by omega
        have HDI := Lib.hid (fin_isN h2.1 hdr)
        have HWI := Lib.hid (fin_isN h2.2 hwi)
        have HLI : Hid (∀ k, k < len → F32.Is (at_ L0 k) (L0.getD k 0)) := Lib.hid fun k hk => at_is k5 HL.out hk
        have HEND := Lib.hid (fun (Z : List Nat) (hl : Z.length = len) g => mv_end h0 HL.out.1 hl g)
        have eg : ∀ args w, (callFunc 63 args).run Try.prog w = .ok (.enter 63 args) w := by intro args w; kernel_rfl
        have hmk : ∀ w, (Instr.makeSlice 23 (.int .i64 (len : Int)) (.int .i64 (len : Int))).run Try.prog w = .ok (.slice (some ⟨w.heap.size, 0, none⟩) len len) (w.alloc (.cells (madeCells (Value.float .f32 0).cells (len * 1)) 22)) := by
          intro w
          obtain ⟨i, hi, hz0, hz1, hz2⟩ := info_parts (show (Try.prog.info? 22).map (fun i => (i.zero, i.size, i.bytes)) = some (some (.float .f32 0), 1, 4) by kernel_rfl)
          have := run_make (P := Try.prog) w 23 22 i (.float .f32 0) Try.underlying23 hi hz0 .i64 .i64 (len : Int) (len : Int) (by omega) (Int.le_refl _) (by rw [hz2]; omega) (by omega)
          rw [hz1, Int.toNat_natCast] at this
          exact this
        have HMD : Hid (∀ w : World, Hld.FHd 22 (w.alloc (.cells (madeCells (Value.float .f32 0).cells (len * 1)) 22)) w.heap.size len (List.replicate len 0)) := Lib.hid fun w => Hld.FHd.made w 22 len
        generalize madeCells (Value.float .f32 0).cells (len * 1) = C0 at *
        clear h0 h1 h2 h3 k5 hr2 HB0 HB1 HS0 HS1 hsc3 hsc2
        go_wp2_with fail
        refine (iSteps_any w.heap.size dr wi _ HS2.out.lt).mono ?_
        rintro e w5 ⟨⟨b7, b4, b5, b1, rfl, hclo⟩, hb5⟩
        have HB5 := Lib.hid (HB2.out.trans (hb5.mono HB2.out.size))
        have HS5 := Lib.hid (HS2.out.keep hb5)
        have HGB : Hid (w.heap.size < w5.heap.size) := HS5.out.lt
        have HGE : Hid (w.heap.size ≤ w5.heap.size) := HB5.out.size
        have HB6 : Hid (Below w.heap.size w (w5.alloc (.cells C0 22))) := Lib.hid (HB5.out.alloc HGE.out _)
        have HS6 := Lib.hid (HS5.out.alloc (.cells C0 22))
        have HC6 := Lib.hid (hclo.below ((Below.refl w5.heap.size w5).alloc (Nat.le_refl _) (.cells C0 22)))
        have HM6 := Lib.hid (HMD.out w5)
        clear hb5 hclo HB2 HB3 HS2 HS3
        go_wp2_with fail
        go_loopg [38] len (fun q v38 wr => ∃ (k : Nat) (L : List Nat), v38 = .int .i64 (k : Int) ∧ Hid (k + q = len) ∧ k ≤ len ∧ Hid (FHd 22 wr w5.heap.size len L) ∧ Hid (∀ j, j < len → (j < k → F32.Is (mvO L0 dr wi s j) (L.getD j 0)) ∧ L.getD j 0 < 4294967296) ∧ Hid (Blk.Blk wr w.heap.size [.int .i64 ((nxk s (4 * k) : Nat) : Int)] 2) ∧ Hid (Clo wr w.heap.size dr wi b7 b4 b5 b1 w5.heap.size) ∧ Hid (Below w.heap.size w wr))
        case atStart => exact ⟨0, _, rfl, by show _ = _; omega, Nat.zero_le _, HM6.out, (show Hid _ from fun j hj => ⟨fun h => absurd h (Nat.not_lt_zero _), by simp [List.getD, hj]⟩), HS6.out, HC6.out, HB6.out⟩
        case round =>
          clear HB5 HB6 HS5 HS6 HC6 HM6 HMD
          obtain ⟨k, L, rfl, hk, hkl, hF, hI, hG0, hCL, hB0⟩ := hrel
          by_cases hlt : k < len
          · have HJ : Hid (k + 1 + (gk - 1) = len) := by have := hk.out; show _ = _; omega
            have HG : Hid (gk - 1 < gk) := by have := hk.out; show _ < _; omega
            obtain ⟨bl, ol, rfl, hbl, hc⟩ := (HL.out.keep hB0.out).2.2.2 k hlt
            have hz := HLI.out k hlt
            generalize L0.getD k 0 = z at *
            clear hbl
            go_wp2_with fail
            refine (iStep_any w.heap.size (nxk s (4 * k)) z dr wi b7 b4 b5 b1 w5.heap.size _ _ (nxk_lt hs _) hG0.out hCL.out hz HDI.out HWI.out).mono ?_
            rintro e w6 ⟨⟨y, rfl, iy, ly⟩, hs6, ho6⟩
            have HX : Hid (F32.Is (mvO L0 dr wi s k) y ∧ y < 4294967296) := ⟨iy, ly⟩
            have hS := Lib.hid (fhd_only hF.out ho6 (by have := HGB.out; omega))
            have hB := Lib.hid (hB0.out.trans (only_below ho6 (Nat.le_refl _)))
            rw [nxk_add, show 4 * k + 4 = 4 * (k + 1) by omega] at hs6
            have hG := Lib.hid hs6
            have HC2 := Lib.hid (hCL.out.only ho6)
            have DV := Lib.hid (Drawn.refl w6)
            clear hF hB0 hG0 hCL ho6 hs6 iy ly hz hc
            have hs4 := Cr.fhd_drawn hS.out DV.out
            have HB4 := Lib.hid (hB.out.trans (DV.out.below w.heap.size))
            obtain ⟨u4, hu4⟩ := hs4.1.cell (show k < len by omega)
            have hfr4 := hs4.1.frozen (k)
            have HS5 := Lib.hid (hs4.set (show k < len by omega) y)
            have HB5 := Lib.hid (HB4.out.setCell (p := ⟨w5.heap.size, k, none⟩) HGE.out (.float .f32 y))
            have HLL := Lib.hid hs4.2.1
            have HI5 : Hid (∀ j, j < len → (j < k + 1 → F32.Is (mvO L0 dr wi s j) ((L.set (k) y).getD j 0)) ∧ (L.set (k) y).getD j 0 < 4294967296) := by
              show ∀ j, _
              intro j hj
              by_cases ej : j = k
              · have : (L.set (k) y).getD (k) 0 = y := by simp [List.getD, show k < L.length by rw [HLL.out]; omega]
                rw [ej, this]; exact ⟨fun _ => HX.out.1, HX.out.2⟩
              · have : (L.set (k) y).getD j 0 = L.getD j 0 := by simp [List.getD, show ¬ k = j by omega]
                rw [this]; exact ⟨fun h => (hI.out j hj).1 (by omega), (hI.out j hj).2⟩
            clear hS hB hs4 HB4
            have HG5 := Lib.hid (hG.out.other (k := w5.heap.size) k (.float .f32 y) (by have := HGB.out; omega))
            have HC5 := Lib.hid (HC2.out.below ((Below.refl w5.heap.size w6).setCell (p := ⟨w5.heap.size, k, none⟩) (Nat.le_refl _) (.float .f32 y)))
            go_wp2_with fail
            go_roundg (gk - 1)
            case measure => exact HG.out
            case rel => exact ⟨k + 1, L.set k y, by go_num, HJ, by omega, HS5.out, HI5.out, HG5.out, HC5.out, HB5.out⟩
          · obtain rfl : k = len := by omega
            clear hlt hCL
            have hS2 := hF
            have hS := hG0
            have hB := hB0
            clear hF hG0 hB0
            have HR := Lib.hid (hS2.out.row (by omega) (lt_mem hS2.out.2.1 fun j hj => (hI.out j hj).2))
            have HE := Lib.hid (HEND.out L hS2.out.2.1 (fun j hj => (hI.out j hj).1 hj))
            have HAL := Lib.hid (F32.all_is hS2.out.2.1 (fun j hj => (hI.out j hj).1 hj)).1
            have HSL := Lib.hid hS2.out.1
            have HYL := Lib.hid hS2.out.2.1
            have hsce := cell_of hS.out
            generalize wr = w5 at *
            clear hS2 hk hS
            go_wp2_with fail
            refine (onlyDrawn_any _ k k L _ _ HR.out).mono ?_
            rintro e w7 ⟨rfl, d7⟩
            rw [HAL.out]
            have R7 := Lib.hid (frow_drawn HR.out d7)
            have S7 := Lib.hid (HSL.out.keep (d7.below _))
            have B7 := Lib.hid (hB.out.trans (d7.below w.heap.size))
            clear d7 hB
            cases hq : F32.oks (mvO L0 dr wi s) k with
            | true =>
              have HY := Lib.hid (HE.out.1 hq)
              clear hq
              rw [if_pos rfl]
              go_wp2_with fail
              go_ret3
              rw [HY.out.1, HY.out.2.1, HY.out.2.2, HYL.out]
              first | exact ⟨⟨_, _, rfl, R7.out, .inr ⟨_, rfl, HGE.out, S7.out⟩⟩, B7.out⟩ | exact ⟨⟨_, ⟨_, rfl⟩, R7.out, .inr ⟨_, rfl, HGE.out, S7.out⟩⟩, B7.out⟩
            | false =>
              have HY := Lib.hid (HE.out.2 hq)
              clear hq
              rw [if_neg (by decide)]
              go_wp2_with fail
              go_ret3
              rw [HY.out.1, HY.out.2.1, HY.out.2.2]
              first | exact ⟨⟨_, _, rfl, frow_nil _ _, .inl rfl⟩, B7.out⟩ | exact ⟨⟨_, ⟨_, rfl⟩, frow_nil _ _, .inl rfl⟩, B7.out⟩
end Go.Proofs.Ytppkeabkjabhdab
