/-
  What becomes of shares by steps, in the program. Conditions: the lists read as lists of 32-bit numbers.
-/
import Derived.Test.YtiebbmgehhcdmaaStpS
import Derived.Test.YtiebbmgehhcdmaaCrI
namespace Flt.Stp
open Go Flt F32
theorem sub_get (zs : List Nat) (m p i : Nat) (hi : i < p) (_hm : m + p ≤ zs.length) : ((zs.drop m).take p).getD i 0 = zs.getD (m + i) 0 := by
  simp only [List.getD, List.getElem?_take_of_lt hi, List.getElem?_drop]
theorem sub_len (zs : List Nat) (m p : Nat) (hm : m + p ≤ zs.length) : ((zs.drop m).take p).length = p := by
  rw [List.length_take, List.length_drop]; omega
theorem sub_row {w : World} {b off len m p : Nat} {zs : List Nat} (h : FRow w (some ⟨b, off, none⟩) len zs) (hm : m + p ≤ len) : FRow w (some ⟨b, off + m, none⟩) p ((zs.drop m).take p) := by
  obtain ⟨h1, h2, h3, h4⟩ := h
  refine ⟨sub_len zs m p (by omega), by omega, fun z hz => h3 z (List.mem_of_mem_drop (List.mem_of_mem_take hz)), fun i hi => ?_⟩
  obtain ⟨_, _, e, hl, hc⟩ := h4 (m + i) (by omega)
  cases e
  refine ⟨b, off + m, rfl, hl, ?_⟩
  rw [sub_get zs m p i hi (by omega), Nat.add_assoc]
  exact hc
theorem sub_sum {zs : List Nat} {k p : Nat} (hm : k * p + p ≤ zs.length) (hz : ∀ j, j < zs.length → nan .f32 (zs.getD j 0) = false ∧ zs.getD j 0 < 4294967296) : Flt.sumO ((zs.drop (k * p)).take p) = outS p zs k p := by
  have := F32.sum_is (U := fun i => some (zs.getD (k * p + i) 0)) (S := outS p zs k) rfl (fun _ => rfl) ((zs.drop (k * p)).take p) (fun i hi => by
    rw [sub_len zs _ p hm] at hi
    rw [sub_get zs _ p i hi hm]
    have := hz (k * p + i) (by omega)
    exact ⟨rfl, this.1, this.2⟩)
  rw [this, sub_len zs _ p hm]
end Flt.Stp
namespace Go.Proofs.Ytiebbmgehhcdmaa
open Go.RowKit Dec Flt Syl Sep Cha Cm Liv Stp Cr Hld
theorem rowOf_any (b off len cap r p rp : Nat) (w : World) (hp : 1 ≤ p) (hrp : r * p = rp) (hc : rp + p ≤ cap) (hb : r ≤ 4096 ∧ p ≤ 4096) (hcb : cap ≤ maxLen) :
    Calls Try.prog 82 #[.slice (some ⟨b, off, none⟩) len cap, .int .i64 (r : Int), .int .i64 (p : Int)] w fun e w' => e = .returned (.slice (some ⟨b, off + rp, none⟩) p p) ∧ w = w' := by
  have hcm : cap ≤ 9223372036854775807 := by unfold maxLen at hcb; exact hcb
  have hle : rp ≤ 16777216 := by rw [← hrp]; exact Nat.mul_le_mul hb.1 hb.2
  have e1 : (r : Int) * (p : Int) = (rp : Int) := by rw [← hrp]; simp
  have e2 : ((r : Int) + 1) * (p : Int) = ((rp + p : Nat) : Int) := by rw [Int.add_mul, e1, Int.one_mul]; omega
  have q1 : IntKind.i64.wrap ((r : Int) * (p : Int)) = (rp : Int) := by rw [e1]; exact IntWalk.i64_in _ (by omega)
  have q2 : IntKind.i64.wrap (((r : Int) + 1) * (p : Int)) = ((rp + p : Nat) : Int) := by rw [e2]; exact IntWalk.i64_in _ (by omega)
  have hr := hb.1
  have hp2 := hb.2
  have hne : ¬ cap = rp := by omega
  clear hrp hb
  go_enter Try.func82, Try.ntmps82
  go_wp2_with fail
  go_ret
  exact ⟨by simp, rfl⟩
set_option maxHeartbeats 1600000 in
theorem rateFrom_any (p k b off len cap : Nat) (zs : List Nat) (w : World) (h : FRow w (some ⟨b, off, none⟩) len zs) (hcap : len ≤ cap) (hcb : cap ≤ maxLen) (hp : p ≤ 8) (hk : k < p) (hl : len = p * p) (hz : ∀ j, j < len → nan .f32 (zs.getD j 0) = false) :
    Calls Try.prog 75 #[.agg #[.int .i64 (p : Int), .slice (some ⟨b, off, none⟩) len cap], .int .i64 (k : Int)] w fun e w' => (∃ v, e = .returned (.float .f32 v) ∧ F32.Is (outS p zs k p) v) ∧ Below w.heap.size w w' := by
  have hkp : k * p + p ≤ len := by rw [hl]; have := Nat.mul_le_mul_right p hk; rw [Nat.succ_mul] at this; exact this
  have HS := Lib.hid (sub_sum (zs := zs) (k := k) (p := p) (by rw [h.1]; exact hkp) (fun j hj => ⟨hz j (by rw [← h.1]; exact hj), h.2.2.1 _ (by simp [List.getD, hj])⟩))
  have HR := Lib.hid (sub_row h hkp)
  have HC : Hid (k * p + p ≤ cap) := Nat.le_trans hkp hcap
  clear h hl hz hkp
  go_enter Try.func75, Try.ntmps75
  go_wp2_with fail
  have b0 : Below w.heap.size w (w.alloc (.cells #[.int .i64 (p : Int), .slice (some ⟨b, off, none⟩) len cap] 44)) := (Below.refl _ _).alloc (Nat.le_refl _) _
  refine (rowOf_any b off len cap k p (k * p) _ (by omega) rfl HC.out ⟨by omega, by omega⟩ hcb).mono ?_
  rintro e w1 ⟨rfl, rfl⟩
  have B0 := Lib.hid b0
  clear b0
  go_wp2_with fail
  refine (sumOf_is _ p p _ _ _ (HR.out.keep B0.out) (by omega) HS.out).mono ?_
  rintro e w2 ⟨⟨v, rfl, hv⟩, d2⟩
  have HV := Lib.hid hv
  have B2 := Lib.hid (B0.out.trans (d2.below _))
  clear hv d2
  go_wp2_with fail
  go_ret
  exact ⟨⟨v, rfl, HV.out⟩, B2.out⟩
set_option maxRecDepth 40000 in
set_option maxHeartbeats 3000000 in
theorem nextShares_any (p : Nat) (b off len cap : Nat) (zs : List Nat) (a10 : Option Addr) (c10 : Nat) (L : List Nat) (N : Nat → Option Nat) (h : Nat) (w : World) (hzr : FRow w (some ⟨b, off, none⟩) len zs) (hcap : len ≤ cap) (hcb : cap ≤ maxLen) (hp1 : 1 ≤ p) (hp : p ≤ 8) (hl : len = p * p)
    (hz : ∀ j, j < len → nan .f32 (zs.getD j 0) = false) (hL : FRow w a10 p L) (hN : ∀ j, j < p → F32.Is (N j) (L.getD j 0)) (hh : F32.Is (some h) h) :
    Calls Try.prog 62 #[.agg #[.int .i64 (p : Int), .slice (some ⟨b, off, none⟩) len cap], .slice a10 p c10, .float .f32 h] w fun e w' => (∃ (g : Nat) (M : List Nat), e = .returned (.slice (some ⟨g, 0, none⟩) p p) ∧ w.heap.size ≤ g ∧ FHd 22 w' g p M ∧ ∀ j, j < p → F32.Is (nxO p zs h N j) (M.getD j 0) ∧ M.getD j 0 < 4294967296) ∧ Below w.heap.size w w' := by
  have HZ := Lib.hid hzr
  have HL := Lib.hid hL
  have HN := Lib.hid hN
  have HH := Lib.hid hh
  have HNM := Lib.hid hz
  have hsq := sq_le hp
  have hlb : len ≤ 64 := by omega
  have HLE := Lib.hid hl
  have HPL : Hid (∀ i k, i < p → k < p → i * p + k < len) := Lib.hid fun i k hi hk => by rw [hl]; exact place_lt hi hk
  have HSM : Hid (∀ k i, smO p zs N k (i + 1) = F32.opO .add (smO p zs N k i) (F32.opO .mul (N i) (some (zs.getD (i * p + k) 0)))) := Lib.hid fun _ _ => rfl
  have HNX : Hid (∀ k, nxO p zs h N k = F32.opO .add (N k) (F32.opO .mul (some h) (F32.opO .sub (smO p zs N k p) (F32.opO .mul (N k) (outS p zs k p))))) := Lib.hid fun _ => rfl
  have hmk : ∀ w, (Instr.makeSlice 23 (.int .i64 (p : Int)) (.int .i64 (p : Int))).run Try.prog w = .ok (.slice (some ⟨w.heap.size, 0, none⟩) p p) (w.alloc (.cells (madeCells (Value.float .f32 0).cells (p * 1)) 22)) := by
    intro w
    obtain ⟨i, hi, hz0, hz1, hz2⟩ := info_parts (show (Try.prog.info? 22).map (fun i => (i.zero, i.size, i.bytes)) = some (some (.float .f32 0), 1, 4) by kernel_rfl)
    have := run_make (P := Try.prog) w 23 22 i (.float .f32 0) Try.underlying23 hi hz0 .i64 .i64 p p (by omega) (Int.le_refl _) (by rw [hz2]; omega) (by omega)
    rw [this, hz1, Int.toNat_natCast]
  have HMD : Hid (∀ w : World, FHd 22 (w.alloc (.cells (madeCells (Value.float .f32 0).cells (p * 1)) 22)) w.heap.size p (List.replicate p 0)) := Lib.hid fun w => FHd.made w 22 p
  generalize madeCells (Value.float .f32 0).cells (p * 1) = C0 at *
  clear hzr hL hN hh hz hsq hl
  go_enter Try.func62, Try.ntmps62
  go_wp2_with fail
  obtain ⟨W0, hW0⟩ : ∃ W0, W0 = w.alloc (.cells #[.int .i64 (p : Int), .slice (some ⟨b, off, none⟩) len cap] 44) := ⟨_, rfl⟩
  have K0 : Hid (CVar 44 W0 w.heap.size (p : Int) (some ⟨b, off, none⟩) len cap) := by rw [hW0]; exact Blk.Blk.new _ _ _
  have B0 : Hid (Below w.heap.size w W0) := by rw [hW0]; exact (Below.refl _ _).alloc (Nat.le_refl _) _
  have HW : Hid (W0.heap.size = w.heap.size + 1) := by rw [hW0]; show _ = _; simp
  have hW1 : w.heap.size + 1 = W0.heap.size := HW.out.symm
  rw [← hW0]
  try rw [hW1]
  clear hW0 hW1
  have HM0 := Lib.hid (HMD.out W0)
  have hB1 : Below W0.heap.size W0 (W0.alloc (.cells C0 22)) := (Below.refl _ _).alloc (Nat.le_refl _) _
  have B1 := Lib.hid hB1
  clear hB1
  go_loopg [19] p (fun q i wr => ∃ (k : Nat) (M : List Nat), i = .int .i64 (k : Int) ∧ Hid (k + q = p) ∧ k ≤ p ∧ Hid (FHd 22 wr W0.heap.size p M) ∧ Hid (∀ j, j < k → F32.Is (nxO p zs h N j) (M.getD j 0) ∧ M.getD j 0 < 4294967296) ∧ Hid (Below W0.heap.size W0 wr))
  case atStart => exact ⟨0, List.replicate p 0, rfl, by show _ = _; omega, Nat.zero_le _, HM0.out, (show Hid _ from fun j hj => absurd hj (Nat.not_lt_zero _)), B1.out⟩
  case round =>
    obtain ⟨k, M, rfl, hk, hkl, hS, hM, hB⟩ := hrel
    by_cases hkt : k < p
    · have hkz : (k : Int) < (p : Int) := by omega
      have HJ : Hid (k + 1 + (gk - 1) = p) := by have := hk.out; show _ = _; omega
      have HG : Hid (gk - 1 < gk) := by have := hk.out; show _ < _; omega
      obtain ⟨gq1, hgq⟩ : ∃ x, gk - 1 = x := ⟨_, rfl⟩
      rw [hgq] at HJ HG
      have HLM := Lib.hid ((HL.out.keep B0.out).keep hB.out)
      have HZM := Lib.hid ((HZ.out.keep B0.out).keep hB.out)
      have HVM := Lib.hid (K0.out.keep hB.out)
      obtain ⟨bn, on, rfl, _, hcn⟩ := HLM.out.2.2.2 k hkt
      have HSM0 : Hid (F32.Is (smO p zs N k 0) 0) := ⟨rfl, by decide, by decide⟩
      have HNK := Lib.hid (HN.out k hkt)
      clear hk hgq
      obtain ⟨u, hu⟩ : ∃ u, L.getD k 0 = u := ⟨_, rfl⟩
      rw [hu] at hcn HNK
      clear hu
      generalize gk = gk1 at *
      generalize wr = wi at *
      go_wp2_with fail
      clear hcn
      go_loopg [10, 26] p (fun q s i ws => ∃ j x : Nat, s = .float .f32 x ∧ i = .int .i64 (j : Int) ∧ Hid (j + q = p) ∧ j ≤ p ∧ Hid (F32.Is (smO p zs N k j) x ∧ x < 4294967296) ∧ Hid (Drawn wi ws))
      case atStart => exact ⟨0, 0, rfl, rfl, by show _ = _; omega, Nat.zero_le _, ⟨HSM0.out, by decide⟩, Drawn.refl _⟩
      case round =>
        obtain ⟨j, x, rfl, rfl, hj, hjl, hX, hDr⟩ := hrel
        obtain ⟨v0, v1⟩ := ((HVM.out.keep (hDr.out.below _)).two).1
        by_cases hjt : j < p
        · have hjz : (j : Int) < (p : Int) := by omega
          have HJ2 : Hid (j + 1 + (gk - 1) = p) := by have := hj.out; show _ = _; omega
          have HG2 : Hid (gk - 1 < gk) := by have := hj.out; show _ < _; omega
          obtain ⟨jp, hjp⟩ : ∃ jp, j * p = jp := ⟨_, rfl⟩
          obtain ⟨y, hy⟩ : ∃ y, jp + k = y := ⟨_, rfl⟩
          have hyl : y < len := by rw [← hy, ← hjp]; exact HPL.out j k hjt hkt
          have q1 : IntKind.i64.wrap ((j : Int) * (p : Int)) = (jp : Int) := by
            have e : (j : Int) * (p : Int) = (jp : Int) := by rw [← hjp]; simp
            rw [e]; exact IntWalk.i64_in _ (by omega)
          have q2 : IntKind.i64.wrap ((jp : Int) + (k : Int)) = (y : Int) := by
            have e : (jp : Int) + (k : Int) = (y : Int) := by rw [← hy]; simp
            rw [e]; exact IntWalk.i64_in _ (by omega)
          have q3 : (j : Int) * (p : Int) = (jp : Int) := by rw [← hjp]; simp
          have q4 : (jp : Int) + (k : Int) = (y : Int) := by rw [← hy]; simp
          obtain ⟨_, _, e1, _, hcz⟩ := (HZM.out.keep (hDr.out.below _)).2.2.2 y hyl
          cases e1
          obtain ⟨_, _, e1, _, hcn⟩ := (HLM.out.keep (hDr.out.below _)).2.2.2 j hjt
          cases e1
          have hZI : F32.Is (some (zs.getD y 0)) (zs.getD y 0) := ⟨rfl, HNM.out y hyl, HZ.out.2.2.1 _ (by simp [List.getD, HZ.out.1, hyl])⟩
          have hNI := HN.out j hjt
          obtain ⟨x1, u1, r1, j1, l1, d1⟩ := F32.arith_ex (P := Try.prog) (op := .mul) (.inr (.inr (.inl rfl))) 22 hNI hZI wr
          obtain ⟨x2, u2, r2, j2, l2, d2⟩ := F32.arith_ex (P := Try.prog) (op := .add) (.inl rfl) 22 hX.out.1 j1 u1
          have HX2 : Hid (F32.Is (smO p zs N k (j + 1)) x2 ∧ x2 < 4294967296) := by show _ ∧ _; rw [HSM.out, hjp, hy]; exact ⟨j2, l2⟩
          have HD2 := Lib.hid ((hDr.out.trans d1).trans d2)
          generalize zs.getD y 0 = z at *
          generalize L.getD j 0 = uu at *
          clear hjp hy hZI hNI j1 j2 l1 l2 d1 d2 hX hDr
          go_wp2_with fail
          go_roundg (gk - 1)
          case measure => exact HG2.out
          case rel => exact ⟨j + 1, x2, rfl, by go_num, HJ2, by omega, HX2.out, HD2.out⟩
        · obtain rfl : j = p := by omega
          have HZS := Lib.hid (HZM.out.keep (hDr.out.below _))
          have HVS := Lib.hid (HVM.out.keep (hDr.out.below _))
          have HSS := Lib.hid (fhd_drawn hS.out hDr.out)
          have HBS := Lib.hid (hB.out.trans (hDr.out.below W0.heap.size))
          clear hjt hj hS hB hDr
          go_wp2_with fail
          refine (rateFrom_any j k b off len cap zs wr HZS.out hcap hcb hp hkt HLE.out HNM.out).mono ?_
          rintro e w3 ⟨⟨v, rfl, hv⟩, b3⟩
          obtain ⟨x1, u1, r1, j1, l1, d1⟩ := F32.arith_ex (P := Try.prog) (op := .mul) (.inr (.inr (.inl rfl))) 22 HNK.out hv w3
          obtain ⟨x2, u2, r2, j2, l2, d2⟩ := F32.arith_ex (P := Try.prog) (op := .sub) (.inr (.inl rfl)) 22 hX.out.1 j1 u1
          obtain ⟨x3, u3, r3, j3, l3, d3⟩ := F32.arith_ex (P := Try.prog) (op := .mul) (.inr (.inr (.inl rfl))) 22 HH.out j2 u2
          obtain ⟨x4, u4, r4, j4, l4, d4⟩ := F32.arith_ex (P := Try.prog) (op := .add) (.inl rfl) 22 HNK.out j3 u3
          rw [← HNX.out] at j4
          have J4 := Lib.hid j4
          have L4 := Lib.hid l4
          have D4 := Lib.hid (((d1.trans d2).trans d3).trans d4)
          have hs4 := fhd_drawn (HSS.out.keep b3) D4.out
          have HB4 := Lib.hid ((HBS.out.trans (b3.mono HBS.out.size)).trans (D4.out.below W0.heap.size))
          obtain ⟨uc, huc⟩ := hs4.1.cell hkt
          have hfr := hs4.1.frozen k
          have HS5 := Lib.hid (hs4.set hkt x4)
          have HB5 := Lib.hid (HB4.out.setCell (p := ⟨W0.heap.size, k, none⟩) (Nat.le_refl _) (.float .f32 x4))
          have HLL := Lib.hid hs4.2.1
          have HI5 : Hid (∀ q, q < k + 1 → F32.Is (nxO j zs h N q) ((M.set k x4).getD q 0) ∧ (M.set k x4).getD q 0 < 4294967296) := by
            show ∀ q : Nat, _
            intro q hq
            by_cases eq : q = k
            · subst eq
              have : (M.set q x4).getD q 0 = x4 := by simp [List.getD, show q < M.length by rw [HLL.out]; exact hkt]
              rw [this]; exact ⟨J4.out, L4.out⟩
            · have : (M.set k x4).getD q 0 = M.getD q 0 := by simp [List.getD, show ¬ k = q by omega]
              rw [this]; exact hM.out q (by omega)
          clear hv b3 j1 j2 j3 j4 l1 l2 l3 l4 d1 d2 d3 d4 hs4 HB4 HSS HBS
          go_wp2_with fail
          go_roundg gq1
          case measure => exact HG.out
          case rel => exact ⟨k + 1, M.set k x4, by go_num, HJ, by omega, HS5.out, HI5.out, HB5.out⟩
    · obtain rfl : k = p := by omega
      have HBE := Lib.hid (B0.out.trans (hB.out.mono B0.out.size))
      have HGE : Hid (w.heap.size ≤ W0.heap.size) := B0.out.size
      clear hkt
      go_wp2_with fail
      go_ret
      exact ⟨⟨_, M, rfl, HGE.out, hS.out, hM.out⟩, HBE.out⟩
end Go.Proofs.Ytiebbmgehhcdmaa
