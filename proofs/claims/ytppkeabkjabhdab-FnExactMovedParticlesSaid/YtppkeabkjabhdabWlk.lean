/-
  Walks, moved particles and particles, in both. Conditions: numbers are words; the list reads as a list of numbers.
-/
import Derived.Test.YtppkeabkjabhdabSdI
import Derived.Test.YtppkeabkjabhdabDra
namespace We
open Go Flt Dec F32 Cm Liv
def dwP (dr wi s : Nat) : Nat → Option Nat
  | 0 => some 0
  | k + 1 => stO (dwP dr wi s k) dr wi (nxk s (4 * k))
def dwO (dr wi s k : Nat) : Option Nat := dwP dr wi s (k + 1)
def mvO (L : List Nat) (dr wi s k : Nat) : Option Nat := stO (at_ L k) dr wi (nxk s (4 * k))
def ptO (lo hi s k : Nat) : Option Nat := F32.opO .add (some lo) (F32.opO .mul (F32.opO .sub (some hi) (some lo)) (drO (nxk s (k + 1))))
def dw0 (dr wi : Nat) (s c : Int) : Bool := (fin .f32 dr && fin .f32 wi) && (isSd s && decide (1 ≤ c ∧ c ≤ 48))
def mv0 (L : List Nat) (dr wi : Nat) (s : Int) : Bool := cl0 L && ((fin .f32 dr && fin .f32 wi) && isSd s)
def pt0 (c s : Int) (lo hi : Nat) : Bool := decide (1 ≤ c ∧ c ≤ 64) && (isSd s && ((fin .f32 lo && fin .f32 hi) && leW lo hi))
def dwA (dr wi : Nat) (s c : Int) : List Nat := okA (dw0 dr wi s c) (dwO dr wi s.toNat) c.toNat
def dwB (dr wi : Nat) (s c : Int) : Bool := okL (dw0 dr wi s c) (dwO dr wi s.toNat) c.toNat
def dwS (dr wi : Nat) (s c : Int) : Int := if dwB dr wi s c then ((nxk s.toNat (4 * c.toNat) : Nat) : Int) else 0
def mvA (L : List Nat) (dr wi : Nat) (s : Int) : List Nat := okA (mv0 L dr wi s) (mvO L dr wi s.toNat) L.length
def mvB (L : List Nat) (dr wi : Nat) (s : Int) : Bool := okL (mv0 L dr wi s) (mvO L dr wi s.toNat) L.length
def mvS (L : List Nat) (dr wi : Nat) (s : Int) : Int := if mvB L dr wi s then ((nxk s.toNat (4 * L.length) : Nat) : Int) else 0
def ptA (c s : Int) (lo hi : Nat) : List Nat := okA (pt0 c s lo hi) (ptO lo hi s.toNat) c.toNat
def ptB (c s : Int) (lo hi : Nat) : Bool := okL (pt0 c s lo hi) (ptO lo hi s.toNat) c.toNat
def ptS (c s : Int) (lo hi : Nat) : Int := if ptB c s lo hi then ((nxk s.toNat c.toNat : Nat) : Int) else 0
theorem ok_small {c : Bool} {O : Nat → Option Nat} {n : Nat} (h : c = true → n ≤ 64) : (okA c O n).length ≤ 1023 := by
  unfold okA
  split
  · rename_i g
    rw [Bool.and_eq_true] at g
    have := h g.1
    rw [outs_len]; omega
  · exact Nat.zero_le _
theorem dwA_len (dr wi : Nat) (s c : Int) : (dwA dr wi s c).length ≤ 1023 := ok_small fun h => by
  unfold dw0 at h; simp only [Bool.and_eq_true, decide_eq_true_eq] at h; omega
theorem mvA_len (L : List Nat) (dr wi : Nat) (s : Int) : (mvA L dr wi s).length ≤ 1023 := ok_small fun h => by
  unfold mv0 at h; simp only [Bool.and_eq_true] at h; exact (cl_parts h.1).1.2
theorem ptA_len (c s : Int) (lo hi : Nat) : (ptA c s lo hi).length ≤ 1023 := ok_small fun h => by
  unfold pt0 at h; simp only [Bool.and_eq_true, decide_eq_true_eq] at h; omega
theorem dw_no {dr wi : Nat} {s c : Int} (h : dw0 dr wi s c = false) : dwA dr wi s c = [] ∧ dwB dr wi s c = false ∧ dwS dr wi s c = 0 := by
  have hb := (okl_no h (dwO dr wi s.toNat) c.toNat)
  exact ⟨hb.2, hb.1, by unfold dwS; rw [show dwB dr wi s c = false from hb.1]; rfl⟩
theorem mv_no {L : List Nat} {dr wi : Nat} {s : Int} (h : mv0 L dr wi s = false) : mvA L dr wi s = [] ∧ mvB L dr wi s = false ∧ mvS L dr wi s = 0 := by
  have hb := (okl_no h (mvO L dr wi s.toNat) L.length)
  exact ⟨hb.2, hb.1, by unfold mvS; rw [show mvB L dr wi s = false from hb.1]; rfl⟩
theorem pt_no {c s : Int} {lo hi : Nat} (h : pt0 c s lo hi = false) : ptA c s lo hi = [] ∧ ptB c s lo hi = false ∧ ptS c s lo hi = 0 := by
  have hb := (okl_no h (ptO lo hi s.toNat) c.toNat)
  exact ⟨hb.2, hb.1, by unfold ptS; rw [show ptB c s lo hi = false from hb.1]; rfl⟩
/-- what comes of it, where all that is asked holds -/
theorem dw_end {dr wi s c : Nat} (h : dw0 dr wi s c = true) {Z : List Nat} (hl : Z.length = c) (g : ∀ j, j < c → Is (dwO dr wi s j) (Z.getD j 0)) :
    (oks (dwO dr wi s) c = true → dwA dr wi s c = Z ∧ dwB dr wi s c = true ∧ dwS dr wi s c = ((nxk s (4 * c) : Nat) : Int)) ∧ (oks (dwO dr wi s) c = false → dwA dr wi s c = [] ∧ dwB dr wi s c = false ∧ dwS dr wi s c = 0) := by
  unfold dwS dwA dwB
  simp only [Int.toNat_natCast]
  refine ⟨fun q => ?_, fun q => ?_⟩
  · obtain ⟨e1, e2⟩ := okl_yes h q
    rw [e1, e2]
    exact ⟨((all_is hl g).2 q).symm, rfl, rfl⟩
  · obtain ⟨e1, e2⟩ := okl_bad (c := dw0 dr wi s c) q
    rw [e1, e2]
    exact ⟨rfl, rfl, rfl⟩
theorem mv_end {L : List Nat} {dr wi s n : Nat} (h : mv0 L dr wi s = true) (hn : L.length = n) {Z : List Nat} (hl : Z.length = n) (g : ∀ j, j < n → Is (mvO L dr wi s j) (Z.getD j 0)) :
    (oks (mvO L dr wi s) n = true → mvA L dr wi s = Z ∧ mvB L dr wi s = true ∧ mvS L dr wi s = ((nxk s (4 * n) : Nat) : Int)) ∧ (oks (mvO L dr wi s) n = false → mvA L dr wi s = [] ∧ mvB L dr wi s = false ∧ mvS L dr wi s = 0) := by
  unfold mvS mvA mvB
  simp only [Int.toNat_natCast, hn]
  refine ⟨fun q => ?_, fun q => ?_⟩
  · obtain ⟨e1, e2⟩ := okl_yes h q
    rw [e1, e2]
    exact ⟨((all_is hl g).2 q).symm, rfl, rfl⟩
  · obtain ⟨e1, e2⟩ := okl_bad (c := mv0 L dr wi s) q
    rw [e1, e2]
    exact ⟨rfl, rfl, rfl⟩
theorem pt_end {c s lo hi : Nat} (h : pt0 c s lo hi = true) {Z : List Nat} (hl : Z.length = c) (g : ∀ j, j < c → Is (ptO lo hi s j) (Z.getD j 0)) :
    (oks (ptO lo hi s) c = true → ptA c s lo hi = Z ∧ ptB c s lo hi = true ∧ ptS c s lo hi = ((nxk s c : Nat) : Int)) ∧ (oks (ptO lo hi s) c = false → ptA c s lo hi = [] ∧ ptB c s lo hi = false ∧ ptS c s lo hi = 0) := by
  unfold ptS ptA ptB
  simp only [Int.toNat_natCast]
  refine ⟨fun q => ?_, fun q => ?_⟩
  · obtain ⟨e1, e2⟩ := okl_yes h q
    rw [e1, e2]
    exact ⟨((all_is hl g).2 q).symm, rfl, rfl⟩
  · obtain ⟨e1, e2⟩ := okl_bad (c := pt0 c s lo hi) q
    rw [e1, e2]
    exact ⟨rfl, rfl, rfl⟩
end We
namespace Go.Proofs.Ytppkeabkjabhdab
open Go.RowKit Flt Dec Cm We Cr Liv Hld
set_option maxRecDepth 100000 in
set_option maxHeartbeats 8000000 in
theorem sDriftWalk_any (dr wi : Nat) (s0 c0 : Int) (w : World) (hdr : dr < 4294967296) (hwi : wi < 4294967296) :
    Calls Try.prog 14 #[.float .f32 dr, .float .f32 wi, .int .i64 s0, .int .i64 c0] w fun e w' => (∃ a' c', e = .returned (.tuple #[.slice a' (dwA dr wi s0 c0).length c', .int .i64 (dwS dr wi s0 c0), .bool (dwB dr wi s0 c0)]) ∧ FRow w' a' (dwA dr wi s0 c0).length (dwA dr wi s0 c0)) ∧ Below w.heap.size w w' := by
  obtain ⟨i0, hi, hz0, hz1, hz2⟩ := info_parts (show (Try.prog.info? 22).map (fun i => (i.zero, i.size, i.bytes)) = some (some (.float .f32 0), 1, 4) by kernel_rfl)
  have HB0 : Hid (Below w.heap.size w (w.alloc (.cells #[.int .i64 s0] 2))) := (Below.refl _ _).alloc (Nat.le_refl _) _
  have HS0 : Hid (Blk.Blk (w.alloc (.cells #[.int .i64 s0] 2)) w.heap.size [.int .i64 s0] 2) := Blk.Blk.new _ _ _
  have hsc0 := cell_of HS0.out
  go_enter Try.func14, Try.ntmps14
  go_wp2_with fail
  refine (specFinite_any dr _).mono ?_
  rintro e w1 ⟨rfl, d1⟩
  have HB1 := Lib.hid (HB0.out.trans (d1.below _))
  have HS1 := Lib.hid (blk_drawn HS0.out d1)
  clear d1
  have hsc1 := cell_of HS1.out
  cases h1 : fin .f32 dr with
  | false =>
    have HM := Lib.hid (dw_no (show dw0 dr wi s0 c0 = false by unfold dw0; rw [h1]; simp))
    skip
    go_wp2_with fail
    go_ret3
    rw [HM.out.1, HM.out.2.1, HM.out.2.2]
    first | exact ⟨⟨_, _, rfl, frow_nil _ _⟩, HB1.out⟩ | exact ⟨⟨_, ⟨_, rfl⟩, frow_nil _ _⟩, HB1.out⟩
  | true =>
    go_wp2_with fail
    clear hsc0
    refine (specFinite_any wi _).mono ?_
    rintro e w2 ⟨rfl, d2⟩
    have HB2 := Lib.hid (HB1.out.trans (d2.below _))
    have HS2 := Lib.hid (blk_drawn HS1.out d2)
    clear d2
    have hsc2 := cell_of HS2.out
    cases h2 : fin .f32 wi with
    | false =>
      have HM := Lib.hid (dw_no (show dw0 dr wi s0 c0 = false by unfold dw0; rw [h2]; simp))
      skip
      go_wp2_with fail
      go_ret3
      rw [HM.out.1, HM.out.2.1, HM.out.2.2]
      first | exact ⟨⟨_, _, rfl, frow_nil _ _⟩, HB2.out⟩ | exact ⟨⟨_, ⟨_, rfl⟩, frow_nil _ _⟩, HB2.out⟩
    | true =>
      go_wp2_with fail
      clear hsc1
      refine (sSeed_any s0 _).mono ?_
      rintro e w3 ⟨rfl, rfl⟩
      have HB3 := HB2
      have HS3 := HS2
      have hsc3 := cell_of HS3.out
      cases h3 : isSd s0 with
      | false =>
        have HM := Lib.hid (dw_no (show dw0 dr wi s0 c0 = false by unfold dw0; rw [h3]; simp))
        skip
        go_wp2_with fail
        go_ret3
        rw [HM.out.1, HM.out.2.1, HM.out.2.2]
        first | exact ⟨⟨_, _, rfl, frow_nil _ _⟩, HB3.out⟩ | exact ⟨⟨_, ⟨_, rfl⟩, frow_nil _ _⟩, HB3.out⟩
      | true =>
        go_wp2_with fail
        clear hsc2
        refine (c_In c0 1 48 _).mono ?_
        rintro e w4 ⟨rfl, rfl⟩
        have HB4 := HB3
        have HS4 := HS3
        have hsc4 := cell_of HS4.out
        cases h4 : decide (1 ≤ c0 ∧ c0 ≤ 48) with
        | false =>
          have HM := Lib.hid (dw_no (show dw0 dr wi s0 c0 = false by unfold dw0; rw [h4]; simp))
          skip
          go_wp2_with fail
          go_ret3
          rw [HM.out.1, HM.out.2.1, HM.out.2.2]
          first | exact ⟨⟨_, _, rfl, frow_nil _ _⟩, HB4.out⟩ | exact ⟨⟨_, ⟨_, rfl⟩, frow_nil _ _⟩, HB4.out⟩
        | true =>
          have h0 : dw0 dr wi s0 c0 = true := by unfold dw0; rw [h1, h2, h3, h4]; rfl
          have h3 := of_decide_eq_true h3
          have h4 := of_decide_eq_true h4
          obtain ⟨s, rfl⟩ : ∃ n : Nat, s0 = n := ⟨s0.toNat, by omega⟩
          obtain ⟨c, rfl⟩ : ∃ n : Nat, c0 = n := ⟨c0.toNat, by omega⟩
          have hs : s < 4294967296 := by omega
          have HDI := Lib.hid (fin_isN h1 hdr)
          have HWI := Lib.hid (fin_isN h2 hwi)
          have HEND := Lib.hid (fun (Z : List Nat) (hl : Z.length = c) g => dw_end h0 hl g)
          have HGE : Hid (w.heap.size ≤ w2.heap.size) := HB4.out.size
          have HGB : Hid (w.heap.size < w2.heap.size) := HS4.out.lt
          have HB5 : Hid (Below w.heap.size w (w2.alloc (.cells #[] 22))) := Lib.hid (HB4.out.alloc HGE.out _)
          have HS5 := Lib.hid (HS4.out.alloc (.cells #[] 22))
          obtain ⟨A, hA⟩ : ∃ l, dwA dr wi (s : Int) (c : Int) = l := ⟨_, rfl⟩
          clear hA
          clear h0 h1 h2 h3 hsc3 hsc4 HB0 HB1 HB2 HB3 HS0 HS1 HS2 HS3
          go_wp2_with fail
          go_loopg [3, 11, 12] c (fun q v3 v11 v12 wr => ∃ (k x c3 : Nat) (a3 : Option Addr) (zs : List Nat), v3 = .int .i64 ((c : Int) - (k : Int)) ∧ v11 = .slice a3 k c3 ∧ v12 = .float .f32 x ∧ Hid (k + q = c) ∧ k ≤ c ∧ Hid (zs.length = k) ∧ Hid (∀ j, j < k → F32.Is (dwO dr wi s j) (zs.getD j 0) ∧ zs.getD j 0 < 4294967296) ∧ Hid (F32.Is (dwP dr wi s k) x) ∧ Hid (wr.ownsRow w2.heap.size 22 1 (.slice a3 k c3) k (fv zs)) ∧ Hid (w2.heap.size ≤ wr.heap.size) ∧ Hid (Blk.Blk wr w.heap.size [.int .i64 ((nxk s (4 * k) : Nat) : Int)] 2) ∧ Hid (Below w.heap.size w wr))
          case atStart => exact ⟨0, 0, _, _, [], by simp, rfl, rfl, by show _ = _; omega, Nat.zero_le _, rfl, (show Hid _ from fun j hj => absurd hj (Nat.not_lt_zero _)), zero_is, World.ownsRow_made w2 #[] 0 (Nat.le_refl _) (Nat.zero_le _) rfl, (by show _ ≤ _; simp), HS5.out, HB5.out⟩
          case round =>
            clear HB4 HB5 HS4 HS5
            obtain ⟨k, x, c3, a3, zs, rfl, rfl, rfl, hk, hkl, hzl, hI, hX, hO, HBB, hS, hB⟩ := hrel
            by_cases hlt : k < c
            · have HJ : Hid (k + 1 + (gk - 1) = c) := by have := hk.out; show _ = _; omega
              have HG : Hid (gk - 1 < gk) := by have := hk.out; show _ < _; omega
              have hcz : (c : Int) - (k : Int) > 0 := by omega
              have hcz1 : (c : Int) - (k : Int) - 1 = (c : Int) - ((k + 1 : Nat) : Int) := by omega
              obtain ⟨x1, v1, r1, j1, l1, e1⟩ := F32.arith_ex (P := Try.prog) (op := .add) (.inl rfl) 22 hX.out HDI.out wr
              have DA := Lib.hid e1
              have hX1 := j1
              have hSv := blk_drawn hS.out e1
              go_wp2_with fail
              refine (sNormal_any w.heap.size (nxk s (4 * k)) _ (nxk_lt hs _) hSv).mono ?_
              rintro e w5 ⟨⟨y, rfl, iy, ly⟩, hs5, ho5⟩
              clear r1
              obtain ⟨x2, v2, r2, j2, l2, e2⟩ := F32.arith_ex (P := Try.prog) (op := .mul) (.inr (.inr (.inl rfl))) 22 HWI.out iy w5
              obtain ⟨x3, v3, r3, j3, l3, e3⟩ := F32.arith_ex (P := Try.prog) (op := .add) (.inl rfl) 22 hX1 j2 v2
              have DC := Lib.hid (e2.trans e3)
              have HX : Hid (F32.Is (dwO dr wi s k) x3 ∧ x3 < 4294967296) := ⟨j3, l3⟩
              have hon := only_drawn (only_trans (drawn_only (g := w.heap.size) DA.out) ho5) DC.out
              have hO2 := Lib.hid (owns_only hO.out hon HGB.out)
              have hB2 := Lib.hid (hB.out.trans (only_below hon (Nat.le_refl _)))
              have HBB2 : Hid (w2.heap.size ≤ v3.heap.size) := Nat.le_trans HBB.out hon.size
              have hs5' := blk_drawn hs5 DC.out
              rw [nxk_add, show 4 * k + 4 = 4 * (k + 1) by omega] at hs5'
              have hS2 := Lib.hid hs5'
              clear hO hB HBB hS hon hs5 ho5 hs5' hSv iy ly hX1 hX
              clear j2 l2 e2 j3 l3 e3
              clear j1 l1 e1 DA DC
              have hO := hO2
              have hB := hB2
              have HBB := HBB2
              have hS := hS2
              clear hO2 hB2 HBB2 hS2
              have DV := Lib.hid (Drawn.refl v3)
              have HO4 := Lib.hid (owned_drawn hO.out DV.out)
              have HB4 := Lib.hid (hB.out.trans (DV.out.below w.heap.size))
              have HCELL : Hid (∀ (j : Nat) (u : Value), [Value.float .f32 x3][j]? = some u → (v3.alloc (.cells #[.float .f32 x3] 22)).cell? ((⟨v3.heap.size, 0, none⟩ : Addr).add j) = some u) := Lib.hid (Cm.cell_new1 v3 22 (.float .f32 x3))
              have HO1 := Lib.hid (HO4.out.alloc (.cells #[.float .f32 x3] 22))
              have HB1 := Lib.hid (HB4.out.alloc HB4.out.size (.cells #[.float .f32 x3] 22))
              have HBS : Hid (w2.heap.size ≤ (v3.alloc (.cells #[.float .f32 x3] 22)).heap.size) := by show _ ≤ _; obtain ⟨nd, hnd⟩ := DV.out; rw [hnd]; simp; exact Nat.le_trans HBB.out (Nat.le_succ _)
              have HLE : Hid (k + 1 ≤ maxLen ∧ (k + 1) * 4 ≤ 140737488355328) := by show _ ∧ _; unfold maxLen; omega
              clear hO hB HO4 HB4 
              go_wp2_with (at_builtin; refine wpList_append_own _ rfl _ _ 23 rfl (w2.heap.size) 22 i0 (.float .f32 0) 1 4 Try.underlying23 hi hz0 hz1 hz2 rfl (by decide) (.slice a3 k c3) k (fv zs) rfl HO1.out ⟨v3.heap.size, 0, none⟩ 1 1 [.float .f32 x3] rfl rfl HCELL.out (by intro u hu; simp at hu; subst hu; rfl) HLE.out.1 HLE.out.2 HBS.out ?_)
              intro v' w6 hown' hgrow _
              have HO3 : Hid (w6.ownsRow (w2.heap.size) 22 1 v' (k + 1) (fv (zs ++ [x3]))) := by
                show World.ownsRow _ _ _ _ _ _ _
                rw [Cm.fv_snoc]; exact hown'
              have HB3 : Hid (Below w.heap.size w w6) := Lib.hid (HB1.out.grown hgrow HB1.out.size (fun q hq => Nat.le_trans HGE.out (HO1.out.lt q hq).1))
              have HS3 : Hid (Blk.Blk w6 (w.heap.size) [.int .i64 ((nxk s (4 * (k + 1)) : Nat) : Int)] 2) := Lib.hid (blk_grown (hS.out.alloc _) hgrow (fun hq => by have h1 := (HO1.out.lt _ hq).1; have h2 := HGB.out; omega))
              have HBB3 : Hid (w2.heap.size ≤ w6.heap.size) := Lib.hid (Nat.le_trans HBS.out hgrow.size)
              clear hown' hgrow HO1 HB1 HCELL HBS HBB
              obtain ⟨a5, c5, rfl⟩ := Cm.owns_shape HO3.out
              have HZ2 : Hid ((zs ++ [x3]).length = k + 1) := by show _ = _; rw [List.length_append, hzl.out]; rfl
              have HI2 : Hid (∀ j, j < k + 1 → F32.Is (dwO dr wi s j) ((zs ++ [x3]).getD j 0) ∧ (zs ++ [x3]).getD j 0 < 4294967296) := by
                show ∀ j, _
                intro j hj
                by_cases ej : j = k
                · subst ej; rw [snoc_last zs x3 hzl.out]; exact HX.out
                · rw [snoc_old zs x3 (by rw [hzl.out]; omega)]; exact hI.out j (by omega)
              go_wp2_with fail
              go_roundg (gk - 1)
              case measure => exact HG.out
              case rel => exact ⟨k + 1, x3, c5, a5, zs ++ [x3], by go_num, rfl, rfl, HJ, by omega, HZ2.out, HI2.out, HX.out.1, HO3.out, HBB3.out, HS3.out, HB3.out⟩
            · obtain rfl : k = c := by omega
              have hz : ¬ ((k : Int) - (k : Int) > 0) := by omega
              clear hlt
              have hrow := Cm.row_owned hO.out hzl.out (by omega) (lt_mem hzl.out fun j hj => (hI.out j hj).2)
              have HR := Lib.hid hrow
              have HE := Lib.hid (HEND.out zs hzl.out (fun j hj => (hI.out j hj).1))
              have HAL := Lib.hid (F32.all_is hzl.out (fun j hj => (hI.out j hj).1)).1
              generalize wr = w5 at *
              clear hO hrow hk
              go_wp2_with fail
              refine (specFinD_any a3 k c3 zs _ HR.out (by omega)).mono ?_
              rintro e w7 ⟨rfl, d7⟩
              rw [HAL.out]
              have R7 := Lib.hid (frow_drawn HR.out d7)
              have S7 := Lib.hid (blk_drawn hS.out d7)
              have B7 := Lib.hid (hB.out.trans (d7.below w.heap.size))
              clear d7 hB hS
              cases hq : F32.oks (dwO dr wi s) k with
              | true =>
                have HY := Lib.hid (HE.out.1 hq)
                have hcm : ∀ m, (w7.drewN m).cell? ⟨w.heap.size, 0, none⟩ = some (.int .i64 ((nxk s (4 * k) : Nat) : Int)) := fun m => cell_of S7.out
                have hcm0 := hcm 0
                clear hq
                go_wp2_with fail
                go_quiet (fail)
                go_wp2_with fail
                go_ret3
                rw [HY.out.1, HY.out.2.1, HY.out.2.2, hzl.out]
                first | exact ⟨⟨_, _, rfl, frow_drawn R7.out ⟨_, rfl⟩⟩, B7.out.trans (Drawn.below ⟨_, rfl⟩ _)⟩ | exact ⟨⟨_, ⟨_, rfl⟩, frow_drawn R7.out ⟨_, rfl⟩⟩, B7.out.trans (Drawn.below ⟨_, rfl⟩ _)⟩
              | false =>
                have HY := Lib.hid (HE.out.2 hq)
                clear hq
                go_wp2_with fail
                go_ret3
                rw [HY.out.1, HY.out.2.1, HY.out.2.2]
                first | exact ⟨⟨_, _, rfl, frow_nil _ _⟩, B7.out⟩ | exact ⟨⟨_, ⟨_, rfl⟩, frow_nil _ _⟩, B7.out⟩
end Go.Proofs.Ytppkeabkjabhdab
