/-
  What becomes of shares by steps, in the model. Conditions: the lists read as lists of 32-bit numbers.
-/
import Derived.Test.YtiebbmgehhcdmaaStpP
namespace Flt.Stp
open Go Flt F32
def sumV (w : World) (bn on c10 b off y len cap len1 k j jp x u z : Nat) (o oj : Option Nat) : Nat → Value → Prop
  | 0, v => v = .float .f32 x
  | 1, v => v = .slice (some ⟨bn, on, none⟩) len1 c10
  | 2, v => v = .int .i64 (j : Int)
  | 3, v => v = .pointer (some ⟨bn, on + j, none⟩)
  | 4, v => v = .float .f32 u
  | 5, v => v = .pointer (some ⟨w.heap.size, 1, none⟩)
  | 6, v => v = .slice (some ⟨b, off, none⟩) len cap
  | 7, v => v = .int .i64 (j : Int)
  | 8, v => v = .pointer (some ⟨w.heap.size, 0, none⟩)
  | 9, v => v = .int .i64 (len1 : Int)
  | 10, v => v = .int .i64 (jp : Int)
  | 11, v => v = .int .i64 (k : Int)
  | 12, v => v = .int .i64 (y : Int)
  | 13, v => v = .pointer (some ⟨b, off + y, none⟩)
  | 14, v => v = .float .f32 z
  | 15, v => ∃ zz, v = .float .f32 zz ∧ F32.Is (F32.opO .mul oj (some z)) zz ∧ zz < 4294967296
  | 16, v => ∃ zz, v = .float .f32 zz ∧ F32.Is (F32.opO .add o (F32.opO .mul oj (some z))) zz ∧ zz < 4294967296
  | 17, v => ∃ zz, v = .float .f32 zz ∧ F32.Is (F32.opO .add o (F32.opO .mul oj (some z))) zz ∧ zz < 4294967296
  | _, _ => True
def nxtV (wr : World) (bn on c10 c12 j k x u h : Nat) (a12 : Option Addr) (o ok ou : Option Nat) : Nat → Value → Prop
  | 0, v => v = .slice a12 k c12
  | 1, v => v = .slice (some ⟨bn, on, none⟩) j c10
  | 2, v => v = .int .i64 (k : Int)
  | 3, v => v = .pointer (some ⟨bn, on + k, none⟩)
  | 4, v => v = .float .f32 u
  | 5, v => v = .float .f32 h
  | 6, v => v = .float .f32 x
  | 7, v => v = .slice (some ⟨bn, on, none⟩) j c10
  | 8, v => v = .int .i64 (k : Int)
  | 9, v => v = .pointer (some ⟨bn, on + k, none⟩)
  | 10, v => v = .float .f32 u
  | 11, v => v = .int .i64 (k : Int)
  | 12, v => ∃ zz, v = .float .f32 zz ∧ F32.Is ou zz ∧ zz < 4294967296
  | 13, v => ∃ zz, v = .float .f32 zz ∧ F32.Is (F32.opO .mul ok ou) zz ∧ zz < 4294967296
  | 14, v => ∃ zz, v = .float .f32 zz ∧ F32.Is (F32.opO .sub o (F32.opO .mul ok ou)) zz ∧ zz < 4294967296
  | 15, v => ∃ zz, v = .float .f32 zz ∧ F32.Is (F32.opO .mul (some h) (F32.opO .sub o (F32.opO .mul ok ou))) zz ∧ zz < 4294967296
  | 16, v => ∃ zz, v = .float .f32 zz ∧ F32.Is (F32.opO .add ok (F32.opO .mul (some h) (F32.opO .sub o (F32.opO .mul ok ou)))) zz ∧ zz < 4294967296
  | 17, v => v = .slice (some ⟨wr.heap.size, 0, none⟩) 1 1
  | _, _ => True
end Flt.Stp
namespace Go.Proofs.Ytiebbmgehhcdmaa
open Go.RowKit Dec Flt Syl Sep Cha Cm Liv Stp Cr
set_option maxRecDepth 100000 in
set_option maxHeartbeats 3000000 in
theorem sStepsYes_any (p : Nat) (a : Option Addr) (len cap : Nat) (zs : List Nat) (a1 : Option Addr) (len1 cap1 : Nat) (ys : List Nat) (h n : Nat) (w : World) (hz : FRow w a len zs) (hy : FRow w a1 len1 ys) (hh : h < 4294967296) (h0 : st0 p zs ys h n = true) :
    Calls Try.prog 25 #[.agg #[.int .i64 (p : Int), .slice a len cap], .slice a1 len1 cap1, .float .f32 h, .int .i64 (n : Int)] w fun e w' => (∃ a' c', e = .returned (.tuple #[.slice a' (stpA p zs ys h n).length c', .bool (stpB p zs ys h n)]) ∧ FRow w' a' (stpA p zs ys h n).length (stpA p zs ys h n)) ∧ Below w.heap.size w w' := by
  obtain ⟨hc0, hs0, hp0, hn0⟩ := st0_parts h0
  obtain ⟨hp8, hlen, hnn⟩ := chB_parts hc0
  obtain ⟨hys, hyl⟩ := shs_parts hs0
  have HZ := Lib.hid hz
  have HY := Lib.hid hy
  have HCB := Lib.hid hc0
  have HSB := Lib.hid hs0
  have HPB := Lib.hid hp0
  have HAT := Lib.hid (stpB_at h0)
  have HD : Hid (decide ((1 : Int) ≤ (n : Int) ∧ (n : Int) ≤ 256) = true) := decide_eq_true hn0
  have hp1 : 1 ≤ p := by omega
  have hp2 : p ≤ 8 := by omega
  have hn256 : n ≤ 256 := by omega
  have hl : len = p * p := by rw [hz.1] at hlen; exact_mod_cast hlen
  have hl1 : len1 = p := by rw [hy.1] at hyl; exact_mod_cast hyl
  subst hl1
  have hsq := sq_le hp2
  have hlb : len ≤ 64 := by omega
  have HNM : Hid (∀ j, j < len → nan .f32 (zs.getD j 0) = false) := Lib.hid fun j hj => nng_num (hnn j (by rw [hz.1]; exact hj))
  have HYN : Hid (∀ j, j < len1 → nan .f32 (ys.getD j 0) = false) := Lib.hid fun j hj => nng_num (hys j (by rw [hy.1]; exact hj))
  have HHI : Hid (F32.Is (some h) h) := pos_is hp0 hh
  have HPL : Hid (∀ i k, i < len1 → k < len1 → i * len1 + k < len) := Lib.hid fun i k hi hk => by rw [hl]; exact place_lt hi hk
  have HLE : Hid (len = len1 * len1) := hl
  have HSM : Hid (∀ N k i, smO len1 zs N k (i + 1) = F32.opO .add (smO len1 zs N k i) (F32.opO .mul (N i) (some (zs.getD (i * len1 + k) 0)))) := Lib.hid fun _ _ _ => rfl
  have HNX : Hid (∀ N k, nxO len1 zs h N k = F32.opO .add (N k) (F32.opO .mul (some h) (F32.opO .sub (smO len1 zs N k len1) (F32.opO .mul (N k) (outS len1 zs k len1))))) := Lib.hid fun _ _ => rfl
  have HNW : Hid (∀ t, nwO len1 zs h ys (t + 1) = nxO len1 zs h (nwO len1 zs h ys t)) := Lib.hid fun _ => rfl
  obtain ⟨i0, hi, hz0, hz1, hz2⟩ := info_parts (show (Try.prog.info? 22).map (fun i => (i.zero, i.size, i.bytes)) = some (some (.float .f32 0), 1, 4) by kernel_rfl)
  obtain ⟨b1, o1, rfl, _, _⟩ := hy.2.2.2 0 (by omega)
  clear h0 hc0 hs0 hp0 hn0 hp8 hlen hnn hys hyl hl hsq hz hy
  go_enter Try.func25, Try.ntmps25
  go_wp2_with fail
  obtain ⟨W0, hW0⟩ : ∃ W0, W0 = w.alloc (.cells #[.int .i64 (len1 : Int), .slice a len cap] 44) := ⟨_, rfl⟩
  have K0 : Hid (CVar 44 W0 w.heap.size (len1 : Int) a len cap) := by rw [hW0]; exact Blk.Blk.new _ _ _
  have B0 : Hid (Below w.heap.size w W0) := by rw [hW0]; exact (Below.refl _ _).alloc (Nat.le_refl _) _
  rw [← hW0]
  clear hW0
  refine (l04Is_any w.heap.size (len1 : Int) a len cap zs _ K0.out (HZ.out.keep B0.out)).mono ?_
  rintro e w1 ⟨rfl, d1⟩
  rw [HCB.out]
  have D1 := Lib.hid d1
  clear d1
  go_wp2_with fail
  refine (l04Shares_any w.heap.size (len1 : Int) a len cap (some ⟨b1, o1, none⟩) len1 cap1 ys _ (K0.out.keep (D1.out.below _)) ((HY.out.keep B0.out).keep (D1.out.below _))).mono ?_
  rintro e w2 ⟨rfl, d2⟩
  rw [HSB.out]
  have D2 := Lib.hid (D1.out.trans d2)
  clear d2 D1
  go_wp2_with fail
  refine (c_specAbove h _).mono ?_
  rintro e w3 ⟨rfl, d3⟩
  rw [HPB.out]
  have D3 := Lib.hid (D2.out.trans d3)
  clear d3 D2
  go_wp2_with fail
  refine (c_In _ _ _ _).mono ?_
  rintro e w4 ⟨rfl, rfl⟩
  rw [HD.out]
  have HY3 := Lib.hid ((HY.out.keep B0.out).keep (D3.out.below _))
  have hlen1 : len1 ≤ 1048576 := by omega
  go_wp2_with (at_builtin; refine wpList_append_own _ rfl _ _ 23 rfl w3.heap.size 22 i0 (.float .f32 0) 1 4 Try.underlying23 hi hz0 hz1 hz2 rfl (by decide) _ _ _ rfl (World.ownsRow_made w3 #[] 0 (Nat.le_refl _) (Nat.zero_le _) rfl) ⟨b1, o1, none⟩ len1 cap1 (fv ys) rfl ?qc1 ?qc2 ?qc3 ?qc4 ?qc5 ?qc6 ?_)
  case qc1 => simp [fv, HY3.out.1]
  case qc2 =>
    intro j u hj
    have hjn : j < (fv ys).length := (List.getElem?_eq_some_iff.1 hj).1
    have hjl : j < ys.length := by simpa [fv] using hjn
    rw [Addr.add_lit]
    refine Lib.cell?_alloc_some _ ?_
    obtain ⟨b', off', e1, _, q1⟩ := HY3.out.2.2.2 j (by rw [← HY3.out.1]; exact hjl)
    cases e1
    have : (fv ys)[j]? = some (.float .f32 (ys.getD j 0)) := by simp [fv, List.getD, hjl]
    rw [this] at hj; cases hj; exact q1
  case qc3 => intro u hu; unfold fv at hu; obtain ⟨x, _, rfl⟩ := List.mem_map.1 hu; rfl
  case qc4 => unfold maxLen; omega
  case qc5 => omega
  case qc6 => simp
  intro v' w5 hown hgrow _
  have HO5 : Hid (w5.ownsRow w3.heap.size 22 1 v' len1 (fv ys)) := by
    first | exact hown | simpa using hown
  have B5 : Hid (Below w3.heap.size w3 w5) := ((Below.refl _ w3).alloc (Nat.le_refl _) _).grown hgrow (by simp) (by intro k hk; simp [Value.ownBlock] at hk; omega)
  clear hown hgrow
  obtain ⟨a5, c5, rfl⟩ := Cm.owns_shape HO5.out
  have HR5 := Lib.hid (Cm.row_owned HO5.out HY3.out.1 hlen1 HY3.out.2.2.1)
  have D5 := Lib.hid ((D3.out.below W0.heap.size).trans (B5.out.mono (D3.out.below W0.heap.size).size))
  clear HO5 D3 B5 HY3 hlen1
  go_wp2_with fail
  go_loopg [10, 11] n (fun q v10 i wr => ∃ (t c : Nat) (a10 : Option Addr) (L : List Nat), v10 = .slice a10 len1 c ∧ i = .int .i64 (t : Int) ∧ Hid (t + q = n) ∧ t ≤ n ∧ Hid (FRow wr a10 len1 L) ∧ Hid (∀ j, j < len1 → F32.Is (nwO len1 zs h ys t j) (L.getD j 0)) ∧ Hid (Below W0.heap.size W0 wr))
  case atStart => exact ⟨0, c5, a5, ys, rfl, rfl, by show _ = _; omega, Nat.zero_le _, HR5.out, (show Hid _ from fun j hj => ⟨rfl, HYN.out j hj, HR5.out.2.2.1 _ (by simp [List.getD, HR5.out.1, hj])⟩), D5.out⟩
  case round =>
    obtain ⟨t, c10, a10, L, rfl, rfl, ht, htl, hL, hN, hB⟩ := hrel
    by_cases hlt : t < n
    · have htz : (t : Int) < (n : Int) := by omega
      have HT2 : Hid (t + 1 + (gk - 1) = n) := by have := ht.out; show _ = _; omega
      have HTG : Hid (gk - 1 < gk) := by have := ht.out; show _ < _; omega
      obtain ⟨gq0, hgq⟩ : ∃ x, gk - 1 = x := ⟨_, rfl⟩
      rw [hgq] at HT2 HTG
      obtain ⟨bn, on, rfl, _, _⟩ := hL.out.2.2.2 0 (by omega)
      have HRT : Hid (FRow wr a len zs) := (HZ.out.keep B0.out).keep hB.out
      obtain ⟨b, off, rfl, _, _⟩ := HRT.out.2.2.2 0 (by have := HPL.out 0 0 (by omega) (by omega); omega)
      have HKV : Hid (CVar 44 wr w.heap.size (len1 : Int) (some ⟨b, off, none⟩) len cap) := K0.out.keep hB.out
      obtain ⟨N, hNe⟩ : ∃ N, nwO len1 zs h ys t = N := ⟨_, rfl⟩
      rw [hNe] at hN
      have HNE : Hid (nwO len1 zs h ys (t + 1) = nxO len1 zs h N) := by show _ = _; rw [HNW.out, hNe]
      clear ht hgq hNe
      generalize gk = gk0 at *
      generalize wr = wo at *
      go_wp2_with fail
      go_loopg [12, 13] len1 (fun q v12 i wm => ∃ (k c : Nat) (a12 : Option Addr) (M : List Nat), v12 = .slice a12 k c ∧ i = .int .i64 (k : Int) ∧ Hid (k + q = len1) ∧ k ≤ len1 ∧ Hid (M.length = k) ∧ Hid (∀ j, j < k → F32.Is (nxO len1 zs h N j) (M.getD j 0) ∧ M.getD j 0 < 4294967296) ∧ Hid (wm.ownsRow wo.heap.size 22 1 (.slice a12 k c) k (fv M)) ∧ Hid (Below wo.heap.size wo wm))
      case atStart => exact ⟨0, _, _, [], rfl, rfl, by show _ = _; omega, Nat.zero_le _, rfl, (show Hid _ from fun j hj => absurd hj (Nat.not_lt_zero _)), World.ownsRow_made wo #[] 0 (Nat.le_refl _) (Nat.zero_le _) rfl, (Below.refl _ wo).alloc (Nat.le_refl _) _⟩
      case round =>
        obtain ⟨k, c12, a12, M, rfl, rfl, hk, hkl, hML, hM, hO, hBm⟩ := hrel
        obtain ⟨v0, v1⟩ := ((HKV.out.keep hBm.out).two).1
        by_cases hkt : k < len1
        · have hkz : (k : Int) < (len1 : Int) := by omega
          have HJ : Hid (k + 1 + (gk - 1) = len1) := by have := hk.out; show _ = _; omega
          have HG : Hid (gk - 1 < gk) := by have := hk.out; show _ < _; omega
          obtain ⟨gq1, hgq⟩ : ∃ x, gk - 1 = x := ⟨_, rfl⟩
          rw [hgq] at HJ HG
          have HLM := Lib.hid (hL.out.keep hBm.out)
          have HZM := Lib.hid (HRT.out.keep hBm.out)
          have HVM := Lib.hid (HKV.out.keep hBm.out)
          have HM0 : Hid (F32.Is (smO len1 zs N k 0) 0) := ⟨rfl, by decide, by decide⟩
          clear hk hgq
          generalize gk = gk1 at *
          generalize wr = wi at *
          go_wp2_with fail
          clear v0 v1
          go_loopg [14, 15] len1 (fun q s i ws => ∃ j x : Nat, s = .float .f32 x ∧ i = .int .i64 (j : Int) ∧ Hid (j + q = len1) ∧ j ≤ len1 ∧ Hid (F32.Is (smO len1 zs N k j) x ∧ x < 4294967296) ∧ Hid (Drawn wi ws))
          case atStart => exact ⟨0, 0, rfl, rfl, by show _ = _; omega, Nat.zero_le _, ⟨HM0.out, by decide⟩, Drawn.refl _⟩
          case round =>
            obtain ⟨j, x, rfl, rfl, hj, hjl, hX, hDr⟩ := hrel
            obtain ⟨v0, v1⟩ := ((HVM.out.keep (hDr.out.below _)).two).1
            by_cases hjt : j < len1
            · have hjz : (j : Int) < (len1 : Int) := by omega
              have HJ2 : Hid (j + 1 + (gk - 1) = len1) := by have := hj.out; show _ = _; omega
              have HG2 : Hid (gk - 1 < gk) := by have := hj.out; show _ < _; omega
              obtain ⟨jp, hjp⟩ : ∃ jp, j * len1 = jp := ⟨_, rfl⟩
              obtain ⟨y, hy⟩ : ∃ y, jp + k = y := ⟨_, rfl⟩
              have hyl : y < len := by rw [← hy, ← hjp]; exact HPL.out j k hjt hkt
              have HQ1 : Hid (IntKind.i64.wrap ((j : Int) * (len1 : Int)) = (jp : Int)) := by
                show _ = _
                have e : (j : Int) * (len1 : Int) = (jp : Int) := by rw [← hjp]; simp
                rw [e]; exact IntWalk.i64_in _ (by omega)
              have HQ2 : Hid (IntKind.i64.wrap ((jp : Int) + (k : Int)) = (y : Int)) := by
                show _ = _
                have e : (jp : Int) + (k : Int) = (y : Int) := by rw [← hy]; simp
                rw [e]; exact IntWalk.i64_in _ (by omega)
              obtain ⟨_, _, e1, _, hcz⟩ := (HZM.out.keep (hDr.out.below _)).2.2.2 y hyl
              cases e1
              obtain ⟨_, _, e1, _, hcn⟩ := (HLM.out.keep (hDr.out.below _)).2.2.2 j hjt
              cases e1
              have HZI : Hid (F32.Is (some (zs.getD y 0)) (zs.getD y 0)) := ⟨rfl, HNM.out y hyl, HZ.out.2.2.1 _ (by simp [List.getD, HZ.out.1, hyl])⟩
              have HNI := Lib.hid (hN.out j hjt)
              have HSJ : Hid (smO len1 zs N k (j + 1) = F32.opO .add (smO len1 zs N k j) (F32.opO .mul (N j) (some (zs.getD y 0)))) := by show _ = _; rw [HSM.out, hjp, hy]
              generalize zs.getD y 0 = z at *
              generalize L.getD j 0 = u at *
              have hDd : Drawn wr wr.drew := Drawn.one wr
              clear hjp hy
              go_wp2_with fail
              refine wp_region_vals (C := fun w' => Drawn wr w') (V := sumV w bn on c10 b off y len cap len1 k j jp x u z (smO len1 zs N k j) (N j)) (by kernel_rfl) hDd (by kernel_rfl) ?_ ?_
              · intro i o ho A W hC hdep hbase
                have m0 : W.cell? ⟨w.heap.size, 1, none⟩ = some (.slice (some ⟨b, off, none⟩) len cap) := by rw [hC.cell]; exact v1
                have m1 : W.cell? ⟨w.heap.size, 0, none⟩ = some (.int .i64 (len1 : Int)) := by rw [hC.cell]; exact v0
                have m2 : W.cell? ⟨b, off + y, none⟩ = some (.float .f32 z) := by rw [hC.cell]; exact hcz
                have m3 : W.cell? ⟨bn, on + j, none⟩ = some (.float .f32 u) := by rw [hC.cell]; exact hcn
                have q1 := HQ1.out
                have q2 := HQ2.out
                rcases i with _ | _ | _ | _ | _ | _ | _ | _ | _ | _ | _ | _ | _ | _ | _ | _ | _ | _ | i
                · obtain rfl := Option.some.inj ho
                  have b0 : A.tmps.getD 14 undef = .float .f32 x := hbase 14 (by kernel_rfl)
                  refine stepK (.float .f32 x) W rfl hC fun K hK => ?_
                  simp only [Array.getD_eq_getD_getElem?] at b0
                  unfold Oper.wp
                  go_simp
                  exact hK
                · obtain rfl := Option.some.inj ho
                  have b0 : A.tmps.getD 10 undef = .slice (some ⟨bn, on, none⟩) len1 c10 := hbase 10 (by kernel_rfl)
                  refine stepK (.slice (some ⟨bn, on, none⟩) len1 c10) W rfl hC fun K hK => ?_
                  simp only [Array.getD_eq_getD_getElem?] at b0
                  unfold Oper.wp
                  go_simp
                  exact hK
                · obtain rfl := Option.some.inj ho
                  have b0 : A.tmps.getD 15 undef = .int .i64 (j : Int) := hbase 15 (by kernel_rfl)
                  refine stepK (.int .i64 (j : Int)) W rfl hC fun K hK => ?_
                  simp only [Array.getD_eq_getD_getElem?] at b0
                  unfold Oper.wp
                  go_simp
                  exact hK
                · obtain rfl := Option.some.inj ho
                  have b0 : A.tmps.getD 55 undef = .slice (some ⟨bn, on, none⟩) len1 c10 := hdep ⟨1, .data⟩ (by simp) rfl 55 rfl
                  have b1 : A.tmps.getD 56 undef = .int .i64 (j : Int) := hdep ⟨2, .data⟩ (by simp) rfl 56 rfl
                  refine stepK (.pointer (some ⟨bn, on + j, none⟩)) W rfl hC fun K hK => ?_
                  simp only [Array.getD_eq_getD_getElem?] at b0 b1
                  unfold Oper.wp
                  go_simp
                  exact hK
                · obtain rfl := Option.some.inj ho
                  have b0 : A.tmps.getD 57 undef = .pointer (some ⟨bn, on + j, none⟩) := hdep ⟨3, .data⟩ (by simp) rfl 57 rfl
                  refine stepK (.float .f32 u) W rfl hC fun K hK => ?_
                  simp only [Array.getD_eq_getD_getElem?] at b0
                  unfold Oper.wp
                  go_simp
                  exact hK
                · obtain rfl := Option.some.inj ho
                  have b0 : A.tmps.getD 4 undef = .pointer (some ⟨w.heap.size, 0, none⟩) := hbase 4 (by kernel_rfl)
                  refine stepK (.pointer (some ⟨w.heap.size, 1, none⟩)) W rfl hC fun K hK => ?_
                  simp only [Array.getD_eq_getD_getElem?] at b0
                  unfold Oper.wp
                  go_simp
                  exact hK
                · obtain rfl := Option.some.inj ho
                  have b0 : A.tmps.getD 59 undef = .pointer (some ⟨w.heap.size, 1, none⟩) := hdep ⟨5, .data⟩ (by simp) rfl 59 rfl
                  refine stepK (.slice (some ⟨b, off, none⟩) len cap) W rfl hC fun K hK => ?_
                  simp only [Array.getD_eq_getD_getElem?] at b0
                  unfold Oper.wp
                  go_simp
                  exact hK
                · obtain rfl := Option.some.inj ho
                  have b0 : A.tmps.getD 15 undef = .int .i64 (j : Int) := hbase 15 (by kernel_rfl)
                  refine stepK (.int .i64 (j : Int)) W rfl hC fun K hK => ?_
                  simp only [Array.getD_eq_getD_getElem?] at b0
                  unfold Oper.wp
                  go_simp
                  exact hK
                · obtain rfl := Option.some.inj ho
                  have b0 : A.tmps.getD 4 undef = .pointer (some ⟨w.heap.size, 0, none⟩) := hbase 4 (by kernel_rfl)
                  refine stepK (.pointer (some ⟨w.heap.size, 0, none⟩)) W rfl hC fun K hK => ?_
                  simp only [Array.getD_eq_getD_getElem?] at b0
                  unfold Oper.wp
                  go_simp
                  exact hK
                · obtain rfl := Option.some.inj ho
                  have b0 : A.tmps.getD 62 undef = .pointer (some ⟨w.heap.size, 0, none⟩) := hdep ⟨8, .data⟩ (by simp) rfl 62 rfl
                  refine stepK (.int .i64 (len1 : Int)) W rfl hC fun K hK => ?_
                  simp only [Array.getD_eq_getD_getElem?] at b0
                  unfold Oper.wp
                  go_simp
                  exact hK
                · obtain rfl := Option.some.inj ho
                  have b0 : A.tmps.getD 61 undef = .int .i64 (j : Int) := hdep ⟨7, .data⟩ (by simp) rfl 61 rfl
                  have b1 : A.tmps.getD 63 undef = .int .i64 (len1 : Int) := hdep ⟨9, .data⟩ (by simp) rfl 63 rfl
                  refine stepK (.int .i64 (jp : Int)) W rfl hC fun K hK => ?_
                  simp only [Array.getD_eq_getD_getElem?] at b0 b1
                  unfold Oper.wp
                  go_simp
                  exact hK
                · obtain rfl := Option.some.inj ho
                  have b0 : A.tmps.getD 13 undef = .int .i64 (k : Int) := hbase 13 (by kernel_rfl)
                  refine stepK (.int .i64 (k : Int)) W rfl hC fun K hK => ?_
                  simp only [Array.getD_eq_getD_getElem?] at b0
                  unfold Oper.wp
                  go_simp
                  exact hK
                · obtain rfl := Option.some.inj ho
                  have b0 : A.tmps.getD 64 undef = .int .i64 (jp : Int) := hdep ⟨10, .data⟩ (by simp) rfl 64 rfl
                  have b1 : A.tmps.getD 65 undef = .int .i64 (k : Int) := hdep ⟨11, .data⟩ (by simp) rfl 65 rfl
                  refine stepK (.int .i64 (y : Int)) W rfl hC fun K hK => ?_
                  simp only [Array.getD_eq_getD_getElem?] at b0 b1
                  unfold Oper.wp
                  go_simp
                  exact hK
                · obtain rfl := Option.some.inj ho
                  have b0 : A.tmps.getD 60 undef = .slice (some ⟨b, off, none⟩) len cap := hdep ⟨6, .data⟩ (by simp) rfl 60 rfl
                  have b1 : A.tmps.getD 66 undef = .int .i64 (y : Int) := hdep ⟨12, .data⟩ (by simp) rfl 66 rfl
                  refine stepK (.pointer (some ⟨b, off + y, none⟩)) W rfl hC fun K hK => ?_
                  simp only [Array.getD_eq_getD_getElem?] at b0 b1
                  unfold Oper.wp
                  go_simp
                  exact hK
                · obtain rfl := Option.some.inj ho
                  have b0 : A.tmps.getD 67 undef = .pointer (some ⟨b, off + y, none⟩) := hdep ⟨13, .data⟩ (by simp) rfl 67 rfl
                  refine stepK (.float .f32 z) W rfl hC fun K hK => ?_
                  simp only [Array.getD_eq_getD_getElem?] at b0
                  unfold Oper.wp
                  go_simp
                  exact hK
                · obtain rfl := Option.some.inj ho
                  have b0 : A.tmps.getD 58 undef = .float .f32 u := hdep ⟨4, .data⟩ (by simp) rfl 58 rfl
                  have b1 : A.tmps.getD 68 undef = .float .f32 z := hdep ⟨14, .data⟩ (by simp) rfl 68 rfl
                  obtain ⟨zr, W', hr, iz, lz, dz⟩ := F32.arith_ex (P := Try.prog) (op := .mul) (.inr (.inr (.inl rfl))) 22 (HNI.out) (HZI.out) W
                  refine stepK (.float .f32 zr) W' ⟨zr, rfl, iz, lz⟩ (hC.trans dz) fun K hK => ?_
                  simp only [Array.getD_eq_getD_getElem?] at b0 b1
                  unfold Oper.wp
                  go_simp
                  exact hK
                · obtain rfl := Option.some.inj ho
                  have b0 : A.tmps.getD 54 undef = .float .f32 x := hdep ⟨0, .data⟩ (by simp) rfl 54 rfl
                  obtain ⟨y1, b1, j1, k1⟩ := hdep ⟨15, .data⟩ (by simp) rfl 69 rfl
                  obtain ⟨zr, W', hr, iz, lz, dz⟩ := F32.arith_ex (P := Try.prog) (op := .add) (.inl rfl) 22 (hX.out.1) j1 W
                  refine stepK (.float .f32 zr) W' ⟨zr, rfl, iz, lz⟩ (hC.trans dz) fun K hK => ?_
                  simp only [Array.getD_eq_getD_getElem?] at b0 b1
                  unfold Oper.wp
                  go_simp
                  exact hK
                · obtain rfl := Option.some.inj ho
                  obtain ⟨y0, b0, j0, k0⟩ := hdep ⟨16, .data⟩ (by simp) rfl 70 rfl
                  refine stepK (.float .f32 y0) W ⟨y0, rfl, j0, k0⟩ hC fun K hK => ?_
                  simp only [Array.getD_eq_getD_getElem?] at b0
                  unfold Oper.wp
                  go_simp
                  exact hK
                · have := (Array.getElem?_eq_some_iff.1 ho).1
                  simp at this
                  omega
              · intro vals W hC hlen hV
                match vals, hlen with
                | [v0, v1, v2, v3, v4, v5, v6, v7, v8, v9, v10, v11, v12, v13, v14, v15, v16, v17], _ =>
                  obtain rfl : v0 = _ := hV 0 (by simp)
                  obtain rfl : v1 = _ := hV 1 (by simp)
                  obtain rfl : v2 = _ := hV 2 (by simp)
                  obtain rfl : v3 = _ := hV 3 (by simp)
                  obtain rfl : v4 = _ := hV 4 (by simp)
                  obtain rfl : v5 = _ := hV 5 (by simp)
                  obtain rfl : v6 = _ := hV 6 (by simp)
                  obtain rfl : v7 = _ := hV 7 (by simp)
                  obtain rfl : v8 = _ := hV 8 (by simp)
                  obtain rfl : v9 = _ := hV 9 (by simp)
                  obtain rfl : v10 = _ := hV 10 (by simp)
                  obtain rfl : v11 = _ := hV 11 (by simp)
                  obtain rfl : v12 = _ := hV 12 (by simp)
                  obtain rfl : v13 = _ := hV 13 (by simp)
                  obtain rfl : v14 = _ := hV 14 (by simp)
                  have h15 : sumV w bn on c10 b off y len cap len1 k j jp x u z (smO len1 zs N k j) (N j) 15 v15 := hV 15 (by simp)
                  obtain ⟨x15, rfl, i15, l15⟩ := h15
                  have h16 : sumV w bn on c10 b off y len cap len1 k j jp x u z (smO len1 zs N k j) (N j) 16 v16 := hV 16 (by simp)
                  obtain ⟨x16, rfl, i16, l16⟩ := h16
                  have h17 : sumV w bn on c10 b off y len cap len1 k j jp x u z (smO len1 zs N k j) (N j) 17 v17 := hV 17 (by simp)
                  obtain ⟨x17, rfl, i17, l17⟩ := h17
                  clear hV hlen
                  simp only [puts, Act.put, List.zip_cons_cons, List.zip_nil_right, List.foldl_cons, List.foldl_nil, List.setIfInBounds_toArray, List.set_cons_zero, List.set_cons_succ]
                  have HX2 : Hid (F32.Is (smO len1 zs N k (j + 1)) x17 ∧ x17 < 4294967296) := by show _ ∧ _; rw [HSJ.out]; exact ⟨i17, l17⟩
                  have HD2 := Lib.hid (hDr.out.trans hC)
                  clear i15 l15 i16 l16 i17 l17 hC hX hDr
                  go_wp2_with fail
                  go_roundg (gk - 1)
                  case measure => exact HG2.out
                  case rel => exact ⟨j + 1, x17, rfl, by go_num, HJ2, by omega, HX2.out, HD2.out⟩
            · obtain rfl : j = len1 := by omega
              obtain ⟨_, _, e1, hbn, hcn⟩ := (HLM.out.keep (hDr.out.below _)).2.2.2 k hkt
              cases e1
              have HVS := Lib.hid (HVM.out.keep (hDr.out.below _))
              have HZS := Lib.hid (HZM.out.keep (hDr.out.below _))
              have HNI := Lib.hid (hN.out k hkt)
              have HNK := Lib.hid (HNX.out N k)
              have HOS := Lib.hid (owned_drawn hO.out hDr.out)
              have HBS := Lib.hid (hBm.out.trans (hDr.out.below wo.heap.size))
              have HBN := Lib.hid hbn
              generalize L.getD k 0 = u at *
              have hDd : Drawn wr wr.drew := Drawn.one wr
              clear hjt hbn hj hO hBm hDr
              go_wp2_with fail
              refine wp_region_head 18 17 (C := F32.allC wr 22 (F32.opO .add (N k) (F32.opO .mul (some h) (F32.opO .sub (smO j zs N k j) (F32.opO .mul (N k) (outS j zs k j)))))) (V := nxtV wr bn on c10 c12 j k x u h a12 (smO j zs N k j) (N k) (outS j zs k j)) (by kernel_rfl) hDd (by kernel_rfl) ?_ ?_
              · intro i o hin ho A W bb hbb hC hdep hbase
                have m0 : W.cell? ⟨bn, on + k, none⟩ = some (.float .f32 u) := by rw [F32.allC_cell hC (p := ⟨bn, on + k, none⟩) HBN.out]; exact hcn
                have hVW := HVS.out.keep (F32.allC_below hC)
                have hZW := HZS.out.keep (F32.allC_below hC)
                rcases i with _ | _ | _ | _ | _ | _ | _ | _ | _ | _ | _ | _ | _ | _ | _ | _ | _ | _ | i
                · obtain rfl := Option.some.inj ho
                  have b0 : A.tmps.getD 12 undef = .slice a12 k c12 := hbase 12 (by kernel_rfl)
                  refine stepH (.slice a12 k c12) W rfl hC fun K hK => ?_
                  simp only [Array.getD_eq_getD_getElem?] at b0
                  unfold Oper.wp
                  go_simp
                  exact hK
                · obtain rfl := Option.some.inj ho
                  have b0 : A.tmps.getD 10 undef = .slice (some ⟨bn, on, none⟩) j c10 := hbase 10 (by kernel_rfl)
                  refine stepH (.slice (some ⟨bn, on, none⟩) j c10) W rfl hC fun K hK => ?_
                  simp only [Array.getD_eq_getD_getElem?] at b0
                  unfold Oper.wp
                  go_simp
                  exact hK
                · obtain rfl := Option.some.inj ho
                  have b0 : A.tmps.getD 13 undef = .int .i64 (k : Int) := hbase 13 (by kernel_rfl)
                  refine stepH (.int .i64 (k : Int)) W rfl hC fun K hK => ?_
                  simp only [Array.getD_eq_getD_getElem?] at b0
                  unfold Oper.wp
                  go_simp
                  exact hK
                · obtain rfl := Option.some.inj ho
                  have b0 : A.tmps.getD 72 undef = .slice (some ⟨bn, on, none⟩) j c10 := hdep ⟨1, .data⟩ (by simp) rfl 72 rfl
                  have b1 : A.tmps.getD 73 undef = .int .i64 (k : Int) := hdep ⟨2, .data⟩ (by simp) rfl 73 rfl
                  refine stepH (.pointer (some ⟨bn, on + k, none⟩)) W rfl hC fun K hK => ?_
                  simp only [Array.getD_eq_getD_getElem?] at b0 b1
                  unfold Oper.wp
                  go_simp
                  exact hK
                · obtain rfl := Option.some.inj ho
                  have b0 : A.tmps.getD 74 undef = .pointer (some ⟨bn, on + k, none⟩) := hdep ⟨3, .data⟩ (by simp) rfl 74 rfl
                  refine stepH (.float .f32 u) W rfl hC fun K hK => ?_
                  simp only [Array.getD_eq_getD_getElem?] at b0
                  unfold Oper.wp
                  go_simp
                  exact hK
                · obtain rfl := Option.some.inj ho
                  have b0 : A.tmps.getD 2 undef = .float .f32 h := hbase 2 (by kernel_rfl)
                  refine stepH (.float .f32 h) W rfl hC fun K hK => ?_
                  simp only [Array.getD_eq_getD_getElem?] at b0
                  unfold Oper.wp
                  go_simp
                  exact hK
                · obtain rfl := Option.some.inj ho
                  have b0 : A.tmps.getD 14 undef = .float .f32 x := hbase 14 (by kernel_rfl)
                  refine stepH (.float .f32 x) W rfl hC fun K hK => ?_
                  simp only [Array.getD_eq_getD_getElem?] at b0
                  unfold Oper.wp
                  go_simp
                  exact hK
                · obtain rfl := Option.some.inj ho
                  have b0 : A.tmps.getD 10 undef = .slice (some ⟨bn, on, none⟩) j c10 := hbase 10 (by kernel_rfl)
                  refine stepH (.slice (some ⟨bn, on, none⟩) j c10) W rfl hC fun K hK => ?_
                  simp only [Array.getD_eq_getD_getElem?] at b0
                  unfold Oper.wp
                  go_simp
                  exact hK
                · obtain rfl := Option.some.inj ho
                  have b0 : A.tmps.getD 13 undef = .int .i64 (k : Int) := hbase 13 (by kernel_rfl)
                  refine stepH (.int .i64 (k : Int)) W rfl hC fun K hK => ?_
                  simp only [Array.getD_eq_getD_getElem?] at b0
                  unfold Oper.wp
                  go_simp
                  exact hK
                · obtain rfl := Option.some.inj ho
                  have b0 : A.tmps.getD 78 undef = .slice (some ⟨bn, on, none⟩) j c10 := hdep ⟨7, .data⟩ (by simp) rfl 78 rfl
                  have b1 : A.tmps.getD 79 undef = .int .i64 (k : Int) := hdep ⟨8, .data⟩ (by simp) rfl 79 rfl
                  refine stepH (.pointer (some ⟨bn, on + k, none⟩)) W rfl hC fun K hK => ?_
                  simp only [Array.getD_eq_getD_getElem?] at b0 b1
                  unfold Oper.wp
                  go_simp
                  exact hK
                · obtain rfl := Option.some.inj ho
                  have b0 : A.tmps.getD 80 undef = .pointer (some ⟨bn, on + k, none⟩) := hdep ⟨9, .data⟩ (by simp) rfl 80 rfl
                  refine stepH (.float .f32 u) W rfl hC fun K hK => ?_
                  simp only [Array.getD_eq_getD_getElem?] at b0
                  unfold Oper.wp
                  go_simp
                  exact hK
                · obtain rfl := Option.some.inj ho
                  have b0 : A.tmps.getD 13 undef = .int .i64 (k : Int) := hbase 13 (by kernel_rfl)
                  refine stepH (.int .i64 (k : Int)) W rfl hC fun K hK => ?_
                  simp only [Array.getD_eq_getD_getElem?] at b0
                  unfold Oper.wp
                  go_simp
                  exact hK
                · obtain rfl := Option.some.inj ho
                  have b0 : A.tmps.getD 4 undef = .pointer (some ⟨w.heap.size, 0, none⟩) := hbase 4 (by kernel_rfl)
                  have b1 : A.tmps.getD 82 undef = .int .i64 (k : Int) := hdep ⟨11, .data⟩ (by simp) rfl 82 rfl
                  simp only [Array.getD_eq_getD_getElem?] at b0 b1
                  unfold Oper.wp
                  go_simp
                  refine (l04Out_any w.heap.size j k (some ⟨b, off, none⟩) len cap zs W hVW hZW hp2 hkt HLE.out HNM.out).mono ?_
                  rintro e w' ⟨⟨v, rfl, hi, hlt⟩, hd2⟩
                  exact ⟨_, ⟨v, rfl, hi, hlt⟩, F32.allC_trans hC hd2, rfl⟩
                · obtain rfl := Option.some.inj ho
                  have b0 : A.tmps.getD 81 undef = .float .f32 u := hdep ⟨10, .data⟩ (by simp) rfl 81 rfl
                  obtain ⟨y1, b1, j1, k1⟩ := hdep ⟨12, .data⟩ (by simp) rfl 83 rfl
                  obtain ⟨zr, W', hr, iz, lz, dz⟩ := F32.arith_ex (P := Try.prog) (op := .mul) (.inr (.inr (.inl rfl))) 22 (HNI.out) j1 W
                  refine stepH (.float .f32 zr) W' ⟨zr, rfl, iz, lz⟩ (F32.allC_trans hC dz) fun K hK => ?_
                  simp only [Array.getD_eq_getD_getElem?] at b0 b1
                  unfold Oper.wp
                  go_simp
                  exact hK
                · obtain rfl := Option.some.inj ho
                  have b0 : A.tmps.getD 77 undef = .float .f32 x := hdep ⟨6, .data⟩ (by simp) rfl 77 rfl
                  obtain ⟨y1, b1, j1, k1⟩ := hdep ⟨13, .data⟩ (by simp) rfl 84 rfl
                  obtain ⟨zr, W', hr, iz, lz, dz⟩ := F32.arith_ex (P := Try.prog) (op := .sub) (.inr (.inl rfl)) 22 (hX.out.1) j1 W
                  refine stepH (.float .f32 zr) W' ⟨zr, rfl, iz, lz⟩ (F32.allC_trans hC dz) fun K hK => ?_
                  simp only [Array.getD_eq_getD_getElem?] at b0 b1
                  unfold Oper.wp
                  go_simp
                  exact hK
                · obtain rfl := Option.some.inj ho
                  have b0 : A.tmps.getD 76 undef = .float .f32 h := hdep ⟨5, .data⟩ (by simp) rfl 76 rfl
                  obtain ⟨y1, b1, j1, k1⟩ := hdep ⟨14, .data⟩ (by simp) rfl 85 rfl
                  obtain ⟨zr, W', hr, iz, lz, dz⟩ := F32.arith_ex (P := Try.prog) (op := .mul) (.inr (.inr (.inl rfl))) 22 (HHI.out) j1 W
                  refine stepH (.float .f32 zr) W' ⟨zr, rfl, iz, lz⟩ (F32.allC_trans hC dz) fun K hK => ?_
                  simp only [Array.getD_eq_getD_getElem?] at b0 b1
                  unfold Oper.wp
                  go_simp
                  exact hK
                · obtain rfl := Option.some.inj ho
                  have b0 : A.tmps.getD 75 undef = .float .f32 u := hdep ⟨4, .data⟩ (by simp) rfl 75 rfl
                  obtain ⟨y1, b1, j1, k1⟩ := hdep ⟨15, .data⟩ (by simp) rfl 86 rfl
                  obtain ⟨zr, W', hr, iz, lz, dz⟩ := F32.arith_ex (P := Try.prog) (op := .add) (.inl rfl) 22 (HNI.out) j1 W
                  refine stepH (.float .f32 zr) W' ⟨zr, rfl, iz, lz⟩ (F32.allC_trans hC dz) fun K hK => ?_
                  simp only [Array.getD_eq_getD_getElem?] at b0 b1
                  unfold Oper.wp
                  go_simp
                  exact hK
                · obtain rfl := Option.some.inj ho
                  obtain ⟨y0, b0, j0, k0⟩ := hdep ⟨16, .data⟩ (by simp) rfl 87 rfl
                  obtain rfl := hbb rfl
                  have hsz := F32.allC_size hC
                  refine stepH (.slice (some ⟨wr.heap.size, 0, none⟩) 1 1) (W.alloc (.cells #[.float .f32 y0] 22)) rfl (F32.allC_made hC j0 k0) fun K hK => ?_
                  simp only [Array.getD_eq_getD_getElem?] at b0
                  unfold Oper.wp
                  go_simp
                  exact hK
                · exact absurd hin (by omega)
              · intro vals W hC hlen hV
                match vals, hlen with
                | [v0, v1, v2, v3, v4, v5, v6, v7, v8, v9, v10, v11, v12, v13, v14, v15, v16, v17], _ =>
                  obtain rfl : v0 = _ := hV 0 (by simp)
                  obtain rfl : v1 = _ := hV 1 (by simp)
                  obtain rfl : v2 = _ := hV 2 (by simp)
                  obtain rfl : v3 = _ := hV 3 (by simp)
                  obtain rfl : v4 = _ := hV 4 (by simp)
                  obtain rfl : v5 = _ := hV 5 (by simp)
                  obtain rfl : v6 = _ := hV 6 (by simp)
                  obtain rfl : v7 = _ := hV 7 (by simp)
                  obtain rfl : v8 = _ := hV 8 (by simp)
                  obtain rfl : v9 = _ := hV 9 (by simp)
                  obtain rfl : v10 = _ := hV 10 (by simp)
                  obtain rfl : v11 = _ := hV 11 (by simp)
                  have h12 : nxtV wr bn on c10 c12 j k x u h a12 (smO j zs N k j) (N k) (outS j zs k j) 12 v12 := hV 12 (by simp)
                  obtain ⟨x12, rfl, i12, l12⟩ := h12
                  have h13 : nxtV wr bn on c10 c12 j k x u h a12 (smO j zs N k j) (N k) (outS j zs k j) 13 v13 := hV 13 (by simp)
                  obtain ⟨x13, rfl, i13, l13⟩ := h13
                  have h14 : nxtV wr bn on c10 c12 j k x u h a12 (smO j zs N k j) (N k) (outS j zs k j) 14 v14 := hV 14 (by simp)
                  obtain ⟨x14, rfl, i14, l14⟩ := h14
                  have h15 : nxtV wr bn on c10 c12 j k x u h a12 (smO j zs N k j) (N k) (outS j zs k j) 15 v15 := hV 15 (by simp)
                  obtain ⟨x15, rfl, i15, l15⟩ := h15
                  have h16 : nxtV wr bn on c10 c12 j k x u h a12 (smO j zs N k j) (N k) (outS j zs k j) 16 v16 := hV 16 (by simp)
                  obtain ⟨x16, rfl, i16, l16⟩ := h16
                  obtain rfl : v17 = _ := hV 17 (by simp)
                  clear hV hlen
                  simp only [puts, Act.put, List.zip_cons_cons, List.zip_nil_right, List.take_succ_cons, List.take_zero, List.drop_succ_cons, List.drop_zero, List.foldl_cons, List.foldl_nil, List.setIfInBounds_toArray, List.set_cons_zero, List.set_cons_succ]
                  obtain ⟨xx, ix, lx, hdW⟩ := (show F32.allC wr 22 (F32.opO .add (N k) (F32.opO .mul (some h) (F32.opO .sub (smO j zs N k j) (F32.opO .mul (N k) (outS j zs k j))))) true W from hC)
                  obtain ⟨nn, rfl⟩ := hdW
                  rw [← HNK.out] at ix
                  have IX := Lib.hid ix
                  have LX := Lib.hid lx
                  have HCELL : Hid (∀ (q : Nat) (u : Value), [Value.float .f32 xx][q]? = some u → ((wr.alloc (.cells #[.float .f32 xx] 22)).drewN nn).cell? ((⟨wr.heap.size, 0, none⟩ : Addr).add q) = some u) := Lib.hid (Cm.cell_new1 wr 22 (.float .f32 xx))
                  have HO1 : Hid (((wr.alloc (.cells #[.float .f32 xx] 22)).drewN nn).ownsRow wo.heap.size 22 1 (.slice a12 k c12) k (fv M)) := Lib.hid (HOS.out.alloc (.cells #[.float .f32 xx] 22))
                  have HB1 : Hid (Below wo.heap.size wo ((wr.alloc (.cells #[.float .f32 xx] 22)).drewN nn)) := Lib.hid (below_drewN (HBS.out.alloc HBS.out.size (.cells #[.float .f32 xx] 22)) nn)
                  have HLE2 : Hid (k + 1 ≤ maxLen ∧ (k + 1) * 4 ≤ 140737488355328) := by show _ ∧ _; unfold maxLen; omega
                  clear hC ix lx i12 l12 i13 l13 i14 l14 i15 l15 i16 l16 HOS HBS
                  generalize (wr.alloc (.cells #[.float .f32 xx] 22)).drewN nn = wa at *
                  go_wp2_with (at_builtin; refine wpList_append_own _ rfl _ _ 23 rfl wo.heap.size 22 i0 (.float .f32 0) 1 4 Try.underlying23 hi hz0 hz1 hz2 rfl (by decide) (.slice a12 k c12) k (fv M) rfl HO1.out ⟨wr.heap.size, 0, none⟩ 1 1 [.float .f32 xx] rfl rfl HCELL.out (by intro u hu; simp at hu; subst hu; rfl) HLE2.out.1 HLE2.out.2 HB1.out.size ?_)
                  intro v' w6 hown' hgrow _
                  have HO3 : Hid (w6.ownsRow wo.heap.size 22 1 v' (k + 1) (fv (M ++ [xx]))) := by
                    show World.ownsRow _ _ _ _ _ _ _
                    rw [Cm.fv_snoc]; exact hown'
                  have HB3 : Hid (Below wo.heap.size wo w6) := Lib.hid (HB1.out.grown hgrow HB1.out.size (fun q hq => (HO1.out.lt q hq).1))
                  clear hown' hgrow HO1 HB1 HCELL
                  obtain ⟨a5, c5, rfl⟩ := Cm.owns_shape HO3.out
                  have HZ2 : Hid ((M ++ [xx]).length = k + 1) := by show _ = _; rw [List.length_append, hML.out]; rfl
                  have HI2 : Hid (∀ q, q < k + 1 → F32.Is (nxO j zs h N q) ((M ++ [xx]).getD q 0) ∧ (M ++ [xx]).getD q 0 < 4294967296) := by
                    show ∀ q : Nat, _
                    intro q hq
                    by_cases eq : q = k
                    · subst eq; rw [snoc_last M xx hML.out]; exact ⟨IX.out, LX.out⟩
                    · rw [snoc_old M xx (by rw [hML.out]; omega)]; exact hM.out q (by omega)
                  go_wp2_with fail
                  go_roundg gq1
                  case measure => exact HG.out
                  case rel => exact ⟨k + 1, c5, a5, M ++ [xx], rfl, by go_num, HJ, by omega, HZ2.out, HI2.out, HO3.out, HB3.out⟩
        · obtain rfl : k = len1 := by omega
          have HR2 := Lib.hid (Cm.row_owned hO.out hML.out (by omega) (lt_mem hML.out fun j hj => (hM.out j hj).2))
          have HN2 : Hid (∀ j, j < k → F32.Is (nwO k zs h ys (t + 1) j) (M.getD j 0)) := by rw [HNE.out]; exact fun j hj => (hM.out j hj).1
          have HB2 := Lib.hid (hB.out.trans (hBm.out.mono hB.out.size))
          clear hkt hO hBm
          go_wp2_with fail
          go_roundg gq0
          case measure => exact HTG.out
          case rel => exact ⟨t + 1, c12, a12, M, rfl, by go_num, HT2, by omega, HR2.out, HN2.out, HB2.out⟩
    · obtain rfl : t = n := by omega
      have BE := Lib.hid (B0.out.trans (hB.out.mono B0.out.size))
      obtain ⟨g1, g2⟩ := F32.all_is hL.out.1 hN.out
      have G1 := Lib.hid g1
      have G2 := Lib.hid g2
      clear hlt hB g1 g2
      go_wp2_with fail
      refine (specList_any a10 len1 c10 L _ hL.out (by omega)).mono ?_
      rintro e w7 ⟨rfl, b7⟩
      rw [G1.out]
      have R7 := Lib.hid (hL.out.keep b7)
      have B7 := Lib.hid (BE.out.trans (b7.mono BE.out.size))
      clear b7
      cases hq : F32.oks (nwO len1 zs h ys t) len1 with
      | true =>
        have HYY : Hid (stpA len1 zs ys h t = L ∧ stpB len1 zs ys h t = true) := by
          have hb : stpB len1 zs ys h t = true := by rw [HAT.out, hq]
          exact ⟨by rw [stpA_at hb, G2.out hq], hb⟩
        rw [if_pos rfl]
        go_wp2_with fail
        go_ret2
        rw [HYY.out.1, HYY.out.2, R7.out.1]
        first | exact ⟨⟨_, _, rfl, R7.out⟩, B7.out⟩ | exact ⟨⟨_, ⟨_, rfl⟩, R7.out⟩, B7.out⟩
      | false =>
        have HYY : Hid (stpA len1 zs ys h t = [] ∧ stpB len1 zs ys h t = false) := by
          have hb : stpB len1 zs ys h t = false := by rw [HAT.out, hq]
          refine ⟨?_, hb⟩
          unfold stpA; rw [hb]; rfl
        rw [if_neg (by decide)]
        go_wp2_with fail
        go_ret2
        rw [HYY.out.1, HYY.out.2]
        first | exact ⟨⟨_, _, rfl, frow_nil _ _⟩, B7.out⟩ | exact ⟨⟨_, ⟨_, rfl⟩, frow_nil _ _⟩, B7.out⟩
end Go.Proofs.Ytiebbmgehhcdmaa
