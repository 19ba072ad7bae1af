/-
  Moved particles, in the model. Conditions: numbers are words.
-/
import Derived.Test.YtppkeabkjabhdabWlk
import Derived.Test.YtppkeabkjabhdabTwo
namespace Go.Proofs.Ytppkeabkjabhdab
open Go.RowKit Flt Dec Cm We Cr Liv Hld
def mvV (wr : World) (bl ol k c3 len cap z dr wi : Nat) (a3 : Option Addr) (ok nn : Option Nat) : Nat → Value → Prop
  | 0, v => v = .slice a3 k c3
  | 1, v => v = .slice (some ⟨bl, ol, none⟩) len cap
  | 2, v => v = .int .i64 (k : Int)
  | 3, v => v = .pointer (some ⟨bl, ol + k, none⟩)
  | 4, v => v = .float .f32 z
  | 5, v => v = .float .f32 dr
  | 6, v => ∃ zz, v = .float .f32 zz ∧ F32.Is (F32.opO .add ok (some dr)) zz ∧ zz < 4294967296
  | 7, v => v = .float .f32 wi
  | 8, v => ∃ zz, v = .float .f32 zz ∧ F32.Is nn zz ∧ zz < 4294967296
  | 9, v => ∃ zz, v = .float .f32 zz ∧ F32.Is (F32.opO .mul (some wi) nn) zz ∧ zz < 4294967296
  | 10, v => ∃ zz, v = .float .f32 zz ∧ F32.Is (F32.opO .add (F32.opO .add ok (some dr)) (F32.opO .mul (some wi) nn)) zz ∧ zz < 4294967296
  | 11, v => v = .slice (some ⟨wr.heap.size, 0, none⟩) 1 1
  | _, _ => True
set_option maxRecDepth 100000 in
set_option maxHeartbeats 8000000 in
theorem sMovedParticles_any (a : Option Addr) (len cap : Nat) (L0 : List Nat) (dr wi : Nat) (s0 : Int) (w : World) (hL : FRow w a len L0) (hdr : dr < 4294967296) (hwi : wi < 4294967296) :
    Calls Try.prog 16 #[.slice a len cap, .float .f32 dr, .float .f32 wi, .int .i64 s0] w fun e w' => (∃ a' c', e = .returned (.tuple #[.slice a' (mvA L0 dr wi s0).length c', .int .i64 (mvS L0 dr wi s0), .bool (mvB L0 dr wi s0)]) ∧ FRow w' a' (mvA L0 dr wi s0).length (mvA L0 dr wi s0)) ∧ Below w.heap.size w w' := by
  obtain ⟨i0, hi, hz0, hz1, hz2⟩ := info_parts (show (Try.prog.info? 22).map (fun i => (i.zero, i.size, i.bytes)) = some (some (.float .f32 0), 1, 4) by kernel_rfl)
  have HL := Lib.hid hL
  clear hL
  have HB0 : Hid (Below w.heap.size w (w.alloc (.cells #[.int .i64 s0] 2))) := (Below.refl _ _).alloc (Nat.le_refl _) _
  have HS0 : Hid (Blk.Blk (w.alloc (.cells #[.int .i64 s0] 2)) w.heap.size [.int .i64 s0] 2) := Blk.Blk.new _ _ _
  have hsc0 := cell_of HS0.out
  go_enter Try.func16, Try.ntmps16
  go_wp2_with fail
  refine (sCloud_any a len cap L0 _ (HL.out.keep HB0.out)).mono ?_
  rintro e w1 ⟨rfl, d1⟩
  have HB1 := Lib.hid (HB0.out.trans (d1.below _))
  have HS1 := Lib.hid (blk_drawn HS0.out d1)
  clear d1
  have hsc1 := cell_of HS1.out
  cases h1 : cl0 L0 with
  | false =>
    have HM := Lib.hid (mv_no (show mv0 L0 dr wi s0 = false by unfold mv0; rw [h1]; simp))
    skip
    go_wp2_with fail
    go_ret3
    rw [HM.out.1, HM.out.2.1, HM.out.2.2]
    first | exact ⟨⟨_, _, rfl, frow_nil _ _⟩, HB1.out⟩ | exact ⟨⟨_, ⟨_, rfl⟩, frow_nil _ _⟩, HB1.out⟩
  | true =>
    go_wp2_with fail
    clear hsc0
    refine (specFinite_any dr _).mono ?_
    rintro e w2 ⟨rfl, d2⟩
    have HB2 := Lib.hid (HB1.out.trans (d2.below _))
    have HS2 := Lib.hid (blk_drawn HS1.out d2)
    clear d2
    have hsc2 := cell_of HS2.out
    cases h2 : fin .f32 dr with
    | false =>
      have HM := Lib.hid (mv_no (show mv0 L0 dr wi s0 = false by unfold mv0; rw [h2]; simp))
      skip
      go_wp2_with fail
      go_ret3
      rw [HM.out.1, HM.out.2.1, HM.out.2.2]
      first | exact ⟨⟨_, _, rfl, frow_nil _ _⟩, HB2.out⟩ | exact ⟨⟨_, ⟨_, rfl⟩, frow_nil _ _⟩, HB2.out⟩
    | true =>
      go_wp2_with fail
      clear hsc1
      refine (specFinite_any wi _).mono ?_
      rintro e w3 ⟨rfl, d3⟩
      have HB3 := Lib.hid (HB2.out.trans (d3.below _))
      have HS3 := Lib.hid (blk_drawn HS2.out d3)
      clear d3
      have hsc3 := cell_of HS3.out
      cases h3 : fin .f32 wi with
      | false =>
        have HM := Lib.hid (mv_no (show mv0 L0 dr wi s0 = false by unfold mv0; rw [h3]; simp))
        skip
        go_wp2_with fail
        go_ret3
        rw [HM.out.1, HM.out.2.1, HM.out.2.2]
        first | exact ⟨⟨_, _, rfl, frow_nil _ _⟩, HB3.out⟩ | exact ⟨⟨_, ⟨_, rfl⟩, frow_nil _ _⟩, HB3.out⟩
      | true =>
        go_wp2_with fail
        clear hsc2
        refine (sSeed_any s0 _).mono ?_
        rintro e w4 ⟨rfl, rfl⟩
        have HB4 := HB3
        have HS4 := HS3
        have hsc4 := cell_of HS4.out
        cases h4 : isSd s0 with
        | false =>
          have HM := Lib.hid (mv_no (show mv0 L0 dr wi s0 = false by unfold mv0; rw [h4]; simp))
          skip
          go_wp2_with fail
          go_ret3
          rw [HM.out.1, HM.out.2.1, HM.out.2.2]
          first | exact ⟨⟨_, _, rfl, frow_nil _ _⟩, HB4.out⟩ | exact ⟨⟨_, ⟨_, rfl⟩, frow_nil _ _⟩, HB4.out⟩
        | true =>
          have h0 : mv0 L0 dr wi s0 = true := by unfold mv0; rw [h1, h2, h3, h4]; rfl
          have h4 := of_decide_eq_true h4
          obtain ⟨k4, k5⟩ := cl_parts h1
          rw [HL.out.1] at k4
          obtain ⟨s, rfl⟩ : ∃ n : Nat, s0 = n := ⟨s0.toNat, by omega⟩
          have hs : s < 4294967296 := by omega
          have HDI := Lib.hid (fin_isN h2 hdr)
          have HWI := Lib.hid (fin_isN h3 hwi)
          have HDF := Lib.hid h2
          have HLI : Hid (∀ k, k < len → F32.Is (at_ L0 k) (L0.getD k 0)) := Lib.hid fun k hk => at_is k5 HL.out hk
          have HEND := Lib.hid (fun (Z : List Nat) (hl : Z.length = len) g => mv_end h0 HL.out.1 hl g)
          have HGE : Hid (w.heap.size ≤ w3.heap.size) := HB4.out.size
          have HGB : Hid (w.heap.size < w3.heap.size) := HS4.out.lt
          have HB5 : Hid (Below w.heap.size w (w3.alloc (.cells #[] 22))) := Lib.hid (HB4.out.alloc HGE.out _)
          have HS5 := Lib.hid (HS4.out.alloc (.cells #[] 22))
          clear h0 h1 h2 h3 k5 hsc3 hsc4 HB0 HB1 HB2 HB3 HS0 HS1 HS2 HS3
          go_wp2_with fail
          go_loopg [11, 34] len (fun q v11 v34 wr => ∃ (k c3 : Nat) (a3 : Option Addr) (zs : List Nat), v11 = .slice a3 k c3 ∧ v34 = .int .i64 (k : Int) ∧ Hid (k + q = len) ∧ k ≤ len ∧ Hid (zs.length = k) ∧ Hid (∀ j, j < k → F32.Is (mvO L0 dr wi s j) (zs.getD j 0) ∧ zs.getD j 0 < 4294967296) ∧ Hid (wr.ownsRow w3.heap.size 22 1 (.slice a3 k c3) k (fv zs)) ∧ Hid (w3.heap.size ≤ wr.heap.size) ∧ Hid (Blk.Blk wr w.heap.size [.int .i64 ((nxk s (4 * k) : Nat) : Int)] 2) ∧ Hid (Below w.heap.size w wr))
          case atStart => exact ⟨0, _, _, [], rfl, rfl, by show _ = _; omega, Nat.zero_le _, rfl, (show Hid _ from fun j hj => absurd hj (Nat.not_lt_zero _)), World.ownsRow_made w3 #[] 0 (Nat.le_refl _) (Nat.zero_le _) rfl, (by show _ ≤ _; simp), HS5.out, HB5.out⟩
          case round =>
            clear HB4 HB5 HS4 HS5
            obtain ⟨k, c3, a3, zs, rfl, rfl, hk, hkl, hzl, hI, hO, HBB, hS, hB⟩ := hrel
            by_cases hlt : k < len
            · have HJ : Hid (k + 1 + (gk - 1) = len) := by have := hk.out; show _ = _; omega
              have HG : Hid (gk - 1 < gk) := by have := hk.out; show _ < _; omega
              obtain ⟨bl, ol, rfl, hbl, hc⟩ := (HL.out.keep hB.out).2.2.2 k hlt
              obtain ⟨bl2, ol2, hbe, hblw, _⟩ := HL.out.2.2.2 k hlt
              cases hbe
              have HBL := Lib.hid hblw
              have hz := HLI.out k hlt
              obtain ⟨z, hze⟩ : ∃ z, L0.getD k 0 = z := ⟨_, rfl⟩
              rw [hze] at hz hc
              have HAT : Hid (at_ L0 k = some z) := by show some _ = _; rw [hze]
              have HSD : Hid (∀ W, Drawn wr W → Calls Try.prog 40 #[.pointer (some ⟨w.heap.size, 0, none⟩)] W fun e w' => (∃ y, e = .returned (.float .f32 y) ∧ F32.Is (nmO (nxk s (4 * k))) y ∧ y < 4294967296) ∧ Blk.Blk w' w.heap.size [.int .i64 ((nxk s (4 * (k + 1)) : Nat) : Int)] 2 ∧ Only w.heap.size wr w') := Lib.hid fun W dW => (sNormal_any w.heap.size (nxk s (4 * k)) W (nxk_lt hs _) (blk_drawn hS.out dW)).mono fun e w' ⟨h1, h2, h3⟩ => ⟨h1, by rw [nxk_add, show 4 * k + 4 = 4 * (k + 1) by omega] at h2; exact h2, only_trans (drawn_only dW) h3⟩
              have hcn : wr.cell? ⟨bl, ol + k, none⟩ = some (.float .f32 z) := hc
              have HBN : Hid (bl < wr.heap.size) := Lib.hid (Nat.lt_of_lt_of_le HBL.out hB.out.size)
              have HNG : Hid (bl ≠ w.heap.size) := by show _ ≠ _; have := HBL.out; omega
              have HWG : Hid (w.heap.size < wr.heap.size) := by show _ < _; have h1 := HGB.out; have h2 := HBB.out; omega
              clear hze hbl hblw hc
              go_wp2_with fail
              refine wp_region_head2 12 (C := We.twoC wr w.heap.size [.int .i64 ((nxk s (4 * (k + 1)) : Nat) : Int)] 2 22 (mvO L0 dr wi s k)) (V := mvV wr bl ol k c3 len cap z dr wi a3 (at_ L0 k) (nmO (nxk s (4 * k)))) (by kernel_rfl) (We.twoC_none (Drawn.one wr)) (by kernel_rfl) ?_ ?_
              · intro i o hin ho A W L hLi hC hLd hdep hbase
                have m0 : W.cell? ⟨bl, ol + k, none⟩ = some (.float .f32 z) := by rw [We.twoC_cell hC HNG.out HBN.out]; exact hcn
                have hWG := HWG.out
                rcases i with _ | _ | _ | _ | _ | _ | _ | _ | _ | _ | _ | _ | i
                · obtain rfl := Option.some.inj ho
                  have b0 : A.tmps.getD 11 undef = .slice a3 k c3 := hbase 11 (by kernel_rfl)
                  refine stepH2 (.slice a3 k c3) W rfl (We.twoC_keep hC (Drawn.refl _) 0 (by decide) (by decide) (fun e => absurd e (by decide)) (fun e => absurd e (by decide))) fun K hK => ?_
                  simp only [Array.getD_eq_getD_getElem?] at b0
                  unfold Oper.wp
                  go_simp
                  exact hK
                · obtain rfl := Option.some.inj ho
                  have b0 : A.tmps.getD 0 undef = .slice (some ⟨bl, ol, none⟩) len cap := hbase 0 (by kernel_rfl)
                  refine stepH2 (.slice (some ⟨bl, ol, none⟩) len cap) W rfl (We.twoC_keep hC (Drawn.refl _) 1 (by decide) (by decide) (fun e => absurd e (by decide)) (fun e => absurd e (by decide))) fun K hK => ?_
                  simp only [Array.getD_eq_getD_getElem?] at b0
                  unfold Oper.wp
                  go_simp
                  exact hK
                · obtain rfl := Option.some.inj ho
                  have b0 : A.tmps.getD 12 undef = .int .i64 (k : Int) := hbase 12 (by kernel_rfl)
                  refine stepH2 (.int .i64 (k : Int)) W rfl (We.twoC_keep hC (Drawn.refl _) 2 (by decide) (by decide) (fun e => absurd e (by decide)) (fun e => absurd e (by decide))) fun K hK => ?_
                  simp only [Array.getD_eq_getD_getElem?] at b0
                  unfold Oper.wp
                  go_simp
                  exact hK
                · obtain rfl := Option.some.inj ho
                  have b0 : A.tmps.getD 38 undef = .slice (some ⟨bl, ol, none⟩) len cap := hdep ⟨1, .data⟩ (by simp) rfl 38 rfl
                  have b1 : A.tmps.getD 39 undef = .int .i64 (k : Int) := hdep ⟨2, .data⟩ (by simp) rfl 39 rfl
                  refine stepH2 (.pointer (some ⟨bl, ol + k, none⟩)) W rfl (We.twoC_keep hC (Drawn.refl _) 3 (by decide) (by decide) (fun e => absurd e (by decide)) (fun e => absurd e (by decide))) fun K hK => ?_
                  simp only [Array.getD_eq_getD_getElem?] at b0 b1
                  unfold Oper.wp
                  go_simp
                  exact hK
                · obtain rfl := Option.some.inj ho
                  have b0 : A.tmps.getD 40 undef = .pointer (some ⟨bl, ol + k, none⟩) := hdep ⟨3, .data⟩ (by simp) rfl 40 rfl
                  refine stepH2 (.float .f32 z) W rfl (We.twoC_keep hC (Drawn.refl _) 4 (by decide) (by decide) (fun e => absurd e (by decide)) (fun e => absurd e (by decide))) fun K hK => ?_
                  simp only [Array.getD_eq_getD_getElem?] at b0
                  unfold Oper.wp
                  go_simp
                  exact hK
                · obtain rfl := Option.some.inj ho
                  have b0 : A.tmps.getD 1 undef = .float .f32 dr := hbase 1 (by kernel_rfl)
                  refine stepH2 (.float .f32 dr) W rfl (We.twoC_keep hC (Drawn.refl _) 5 (by decide) (by decide) (fun e => absurd e (by decide)) (fun e => absurd e (by decide))) fun K hK => ?_
                  simp only [Array.getD_eq_getD_getElem?] at b0
                  unfold Oper.wp
                  go_simp
                  exact hK
                · obtain rfl := Option.some.inj ho
                  have b0 : A.tmps.getD 41 undef = .float .f32 z := hdep ⟨4, .data⟩ (by simp) rfl 41 rfl
                  have b1 : A.tmps.getD 42 undef = .float .f32 dr := hdep ⟨5, .data⟩ (by simp) rfl 42 rfl
                  obtain ⟨zr, W', hr, iz, lz, dz⟩ := F32.arith_ex (P := Try.prog) (op := .add) (.inl rfl) 22 (hz) (HDI.out) W
                  refine stepH2 (.float .f32 zr) W' ⟨zr, rfl, iz, lz⟩ (We.twoC_keep hC dz 6 (by decide) (by decide) (fun e => absurd e (by decide)) (fun e => absurd e (by decide))) fun K hK => ?_
                  simp only [Array.getD_eq_getD_getElem?] at b0 b1
                  unfold Oper.wp
                  go_simp
                  exact hK
                · obtain rfl := Option.some.inj ho
                  have b0 : A.tmps.getD 2 undef = .float .f32 wi := hbase 2 (by kernel_rfl)
                  refine stepH2 (.float .f32 wi) W rfl (We.twoC_keep hC (Drawn.refl _) 7 (by decide) (by decide) (fun e => absurd e (by decide)) (fun e => absurd e (by decide))) fun K hK => ?_
                  simp only [Array.getD_eq_getD_getElem?] at b0
                  unfold Oper.wp
                  go_simp
                  exact hK
                · obtain rfl := Option.some.inj ho
                  have b0 : A.tmps.getD 7 undef = .pointer (some ⟨w.heap.size, 0, none⟩) := hbase 7 (by kernel_rfl)
                  simp only [Array.getD_eq_getD_getElem?] at b0
                  unfold Oper.wp
                  go_simp
                  refine (HSD.out _ (We.twoC_pre hC hLi)).mono ?_
                  rintro e w9 ⟨⟨v, rfl, hi, hlt⟩, hs2, ho2⟩
                  exact ⟨_, ⟨v, rfl, hi, hlt⟩, We.twoC_call hC hLi ⟨hs2, ho2⟩, rfl⟩
                · obtain rfl := Option.some.inj ho
                  have b0 : A.tmps.getD 44 undef = .float .f32 wi := hdep ⟨7, .data⟩ (by simp) rfl 44 rfl
                  obtain ⟨y1, b1, j1, k1⟩ := hdep ⟨8, .data⟩ (by simp) rfl 45 rfl
                  obtain ⟨zr, W', hr, iz, lz, dz⟩ := F32.arith_ex (P := Try.prog) (op := .mul) (.inr (.inr (.inl rfl))) 22 (HWI.out) j1 W
                  refine stepH2 (.float .f32 zr) W' ⟨zr, rfl, iz, lz⟩ (We.twoC_keep hC dz 9 (by decide) (by decide) (fun _ => hLd ⟨8, .data⟩ (by simp) rfl) (fun e => absurd e (by decide))) fun K hK => ?_
                  simp only [Array.getD_eq_getD_getElem?] at b0 b1
                  unfold Oper.wp
                  go_simp
                  exact hK
                · obtain rfl := Option.some.inj ho
                  obtain ⟨y0, b0, j0, k0⟩ := hdep ⟨6, .data⟩ (by simp) rfl 43 rfl
                  obtain ⟨y1, b1, j1, k1⟩ := hdep ⟨9, .data⟩ (by simp) rfl 46 rfl
                  obtain ⟨zr, W', hr, iz, lz, dz⟩ := F32.arith_ex (P := Try.prog) (op := .add) (.inl rfl) 22 j0 j1 W
                  refine stepH2 (.float .f32 zr) W' ⟨zr, rfl, iz, lz⟩ (We.twoC_keep hC dz 10 (by decide) (by decide) (fun e => absurd e (by decide)) (fun _ => hLd ⟨9, .data⟩ (by simp) rfl)) fun K hK => ?_
                  simp only [Array.getD_eq_getD_getElem?] at b0 b1
                  unfold Oper.wp
                  go_simp
                  exact hK
                · obtain rfl := Option.some.inj ho
                  obtain ⟨y0, b0, j0, k0⟩ := hdep ⟨10, .data⟩ (by simp) rfl 47 rfl
                  have hsz := We.only_size (We.twoC_ahead hC hLi (hLd ⟨10, .data⟩ (by simp) rfl)).2 hWG
                  refine stepH2 (.slice (some ⟨wr.heap.size, 0, none⟩) 1 1) (W.alloc (.cells #[.float .f32 y0] 22)) rfl (We.twoC_made hC hLi (hLd ⟨10, .data⟩ (by simp) rfl) j0 k0) fun K hK => ?_
                  simp only [Array.getD_eq_getD_getElem?] at b0
                  unfold Oper.wp
                  go_simp
                  exact hK
                · exact absurd hin (by omega)
              · intro vals W hC hlen hV
                match vals, hlen with
                | [v0, v1, v2, v3, v4, v5, v6, v7, v8, v9, v10, v11], _ =>
                  obtain rfl : v0 = _ := hV 0 (by simp)
                  obtain rfl : v1 = _ := hV 1 (by simp)
                  obtain rfl : v2 = _ := hV 2 (by simp)
                  obtain rfl : v3 = _ := hV 3 (by simp)
                  obtain rfl : v4 = _ := hV 4 (by simp)
                  obtain rfl : v5 = _ := hV 5 (by simp)
                  have h6 : mvV wr bl ol k c3 len cap z dr wi a3 (at_ L0 k) (nmO (nxk s (4 * k))) 6 v6 := hV 6 (by simp)
                  obtain ⟨x6, rfl, i6, l6⟩ := h6
                  obtain rfl : v7 = _ := hV 7 (by simp)
                  have h8 : mvV wr bl ol k c3 len cap z dr wi a3 (at_ L0 k) (nmO (nxk s (4 * k))) 8 v8 := hV 8 (by simp)
                  obtain ⟨x8, rfl, i8, l8⟩ := h8
                  have h9 : mvV wr bl ol k c3 len cap z dr wi a3 (at_ L0 k) (nmO (nxk s (4 * k))) 9 v9 := hV 9 (by simp)
                  obtain ⟨x9, rfl, i9, l9⟩ := h9
                  have h10 : mvV wr bl ol k c3 len cap z dr wi a3 (at_ L0 k) (nmO (nxk s (4 * k))) 10 v10 := hV 10 (by simp)
                  obtain ⟨x10, rfl, i10, l10⟩ := h10
                  obtain rfl : v11 = _ := hV 11 (by simp)
                  clear hV hlen
                  simp only [puts, Act.put, List.zip_cons_cons, List.zip_nil_right, List.take_succ_cons, List.take_zero, List.drop_succ_cons, List.drop_zero, List.foldl_cons, List.foldl_nil, List.setIfInBounds_toArray, List.set_cons_zero, List.set_cons_succ]
                  obtain ⟨W1, x3, ⟨hs5, ho5⟩, ix, lx, hdW⟩ := We.twoC_end hC
                  have hsz := We.only_size ho5 HWG.out
                  obtain ⟨nn, rfl⟩ := hdW
                  have HX : Hid (F32.Is (mvO L0 dr wi s k) x3 ∧ x3 < 4294967296) := ⟨ix, lx⟩
                  have HCELL : Hid (∀ (q : Nat) (u : Value), [Value.float .f32 x3][q]? = some u → ((W1.alloc (.cells #[.float .f32 x3] 22)).drewN nn).cell? ((⟨wr.heap.size, 0, none⟩ : Addr).add q) = some u) := Lib.hid (by rw [← hsz]; exact Cm.cell_new1 W1 22 (.float .f32 x3))
                  have HO1 : Hid (((W1.alloc (.cells #[.float .f32 x3] 22)).drewN nn).ownsRow w3.heap.size 22 1 (.slice a3 k c3) k (fv zs)) := Lib.hid ((owns_only hO.out ho5 HGB.out).alloc (.cells #[.float .f32 x3] 22))
                  have hsw : w.heap.size ≤ W1.heap.size := by rw [hsz]; exact Nat.le_of_lt HWG.out
                  have HB1 : Hid (Below w.heap.size w ((W1.alloc (.cells #[.float .f32 x3] 22)).drewN nn)) := Lib.hid (below_drewN ((hB.out.trans (only_below ho5 (Nat.le_refl _))).alloc hsw (.cells #[.float .f32 x3] 22)) nn)
                  have HS1 : Hid (Blk.Blk ((W1.alloc (.cells #[.float .f32 x3] 22)).drewN nn) w.heap.size [.int .i64 ((nxk s (4 * (k + 1)) : Nat) : Int)] 2) := Lib.hid (blk_drawn (hs5.alloc _) ⟨nn, rfl⟩)
                  have HBS : Hid (w3.heap.size ≤ ((W1.alloc (.cells #[.float .f32 x3] 22)).drewN nn).heap.size) := by
                    show w3.heap.size ≤ (W1.alloc (.cells #[.float .f32 x3] 22)).heap.size
                    rw [World.size_alloc, hsz]
                    exact Nat.le_succ_of_le HBB.out
                  have HLE2 : Hid (k + 1 ≤ maxLen ∧ (k + 1) * 4 ≤ 140737488355328) := (show k + 1 ≤ maxLen ∧ (k + 1) * 4 ≤ 140737488355328 from ⟨(by unfold maxLen; omega), (by omega)⟩)
                  clear hC ix lx hs5 ho5 hsz hsw HSD HBN HNG HWG hcn hO hB hS HBB i6 l6 i8 l8 i9 l9 i10 l10
                  generalize (W1.alloc (.cells #[.float .f32 x3] 22)).drewN nn = wa at *
                  go_wp2_with (at_builtin; refine wpList_append_own _ rfl _ _ 23 rfl w3.heap.size 22 i0 (.float .f32 0) 1 4 Try.underlying23 hi hz0 hz1 hz2 rfl (by decide) (.slice a3 k c3) k (fv zs) rfl HO1.out ⟨wr.heap.size, 0, none⟩ 1 1 [.float .f32 x3] rfl rfl HCELL.out (by intro u hu; simp at hu; subst hu; rfl) HLE2.out.1 HLE2.out.2 HBS.out ?_)
                  intro v' w6 hown' hgrow _
                  have HO3 : Hid (w6.ownsRow w3.heap.size 22 1 v' (k + 1) (fv (zs ++ [x3]))) := by
                    show World.ownsRow _ _ _ _ _ _ _
                    rw [Cm.fv_snoc]; exact hown'
                  have HB3 : Hid (Below w.heap.size w w6) := Lib.hid (HB1.out.grown hgrow HB1.out.size (fun q hq => Nat.le_trans HGE.out (HO1.out.lt q hq).1))
                  have HS3 : Hid (Blk.Blk w6 (w.heap.size) [.int .i64 ((nxk s (4 * (k + 1)) : Nat) : Int)] 2) := Lib.hid (blk_grown HS1.out hgrow (fun hq => by have h1 := (HO1.out.lt _ hq).1; have h2 := HGB.out; omega))
                  have HBB3 : Hid (w3.heap.size ≤ w6.heap.size) := Lib.hid (Nat.le_trans HBS.out hgrow.size)
                  clear hown' hgrow HO1 HB1 HCELL HBS HS1
                  obtain ⟨a5, lc, rfl⟩ := Cm.owns_shape HO3.out
                  have HZ2 : Hid ((zs ++ [x3]).length = k + 1) := by show _ = _; rw [List.length_append, hzl.out]; rfl
                  have HI2 : Hid (∀ j, j < k + 1 → F32.Is (mvO L0 dr wi s j) ((zs ++ [x3]).getD j 0) ∧ (zs ++ [x3]).getD j 0 < 4294967296) := by
                    show ∀ j, _
                    intro j hj
                    by_cases ej : j = k
                    · rw [ej, snoc_last zs x3 hzl.out]; exact HX.out
                    · rw [snoc_old zs x3 (by rw [hzl.out]; omega)]; exact hI.out j (by omega)
                  go_wp2_with fail
                  go_roundg (gk - 1)
                  case measure => exact HG.out
                  case rel => exact ⟨k + 1, lc, a5, zs ++ [x3], rfl, by go_num, HJ, by omega, HZ2.out, HI2.out, HO3.out, HBB3.out, HS3.out, HB3.out⟩
            · obtain rfl : k = len := by omega
              clear hlt
              have hrow := Cm.row_owned hO.out hzl.out (by omega) (lt_mem hzl.out fun j hj => (hI.out j hj).2)
              have HR := Lib.hid hrow
              have HE := Lib.hid (HEND.out zs hzl.out (fun j hj => (hI.out j hj).1))
              have HAL := Lib.hid (F32.all_is hzl.out (fun j hj => (hI.out j hj).1)).1
              generalize wr = w5 at *
              clear hO hrow hk
              go_wp2_with fail
              refine (specFinD_any a3 k c3 zs _ HR.out (by omega)).mono ?_
              rintro e w7 ⟨rfl, d7⟩
              rw [HAL.out]
              have R7 := Lib.hid (frow_drawn HR.out d7)
              have S7 := Lib.hid (blk_drawn hS.out d7)
              have B7 := Lib.hid (hB.out.trans (d7.below w.heap.size))
              clear d7 hB hS
              cases hq : F32.oks (mvO L0 dr wi s) k with
              | true =>
                have HY := Lib.hid (HE.out.1 hq)
                have hcm : ∀ m, (w7.drewN m).cell? ⟨w.heap.size, 0, none⟩ = some (.int .i64 ((nxk s (4 * k) : Nat) : Int)) := fun m => cell_of S7.out
                have hcm0 := hcm 0
                clear hq
                go_wp2_with fail
                go_quiet (fail)
                go_wp2_with fail
                go_ret3
                rw [HY.out.1, HY.out.2.1, HY.out.2.2, hzl.out]
                first | exact ⟨⟨_, _, rfl, frow_drawn R7.out ⟨_, rfl⟩⟩, B7.out.trans (Drawn.below ⟨_, rfl⟩ _)⟩ | exact ⟨⟨_, ⟨_, rfl⟩, frow_drawn R7.out ⟨_, rfl⟩⟩, B7.out.trans (Drawn.below ⟨_, rfl⟩ _)⟩
              | false =>
                have HY := Lib.hid (HE.out.2 hq)
                clear hq
                go_wp2_with fail
                go_ret3
                rw [HY.out.1, HY.out.2.1, HY.out.2.2]
                first | exact ⟨⟨_, _, rfl, frow_nil _ _⟩, B7.out⟩ | exact ⟨⟨_, ⟨_, rfl⟩, frow_nil _ _⟩, B7.out⟩
end Go.Proofs.Ytppkeabkjabhdab
