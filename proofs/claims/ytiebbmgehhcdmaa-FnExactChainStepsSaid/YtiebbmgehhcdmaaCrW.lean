/-
  How likely so many machines are down: contracts of both. Conditions: numbers are words of 32 bits.
-/
import Derived.Test.YtiebbmgehhcdmaaCrP
import Derived.Test.YtiebbmgehhcdmaaFinW
import Derived.Test.YtiebbmgehhcdmaaHld
namespace Flt.Cr
open Go Flt F32 Dec
theorem owned_drawn {w w' : World} {B : Nat} {e : TypeId} {v : Value} {n : Nat} {xs : List Value} (h : w.ownsRow B e 1 v n xs) (d : Drawn w w') : w'.ownsRow B e 1 v n xs := by obtain ⟨n, rfl⟩ := d; exact h
theorem fhd_drawn {w w' : World} {e : TypeId} {g n : Nat} {zs : List Nat} (h : Hld.FHd e w g n zs) (d : Drawn w w') : Hld.FHd e w' g n zs := by obtain ⟨n, rfl⟩ := d; exact h
theorem set_made0 (w : World) (e : TypeId) (cs : Array Value) (v : Value) : (w.alloc (.cells cs e)).setCell ⟨w.heap.size, 0, none⟩ v = w.alloc (.cells (cs.setIfInBounds 0 v) e) := by simp [go_sem]
theorem snoc_last (zs : List Nat) (z : Nat) {n : Nat} (h : zs.length = n) : (zs ++ [z]).getD n 0 = z := by subst h; simp [List.getD]
theorem snoc_old (zs : List Nat) (z : Nat) {j : Nat} (h : j < zs.length) : (zs ++ [z]).getD j 0 = zs.getD j 0 := by simp [List.getD, List.getElem?_append_left h]
theorem lt_mem {zs : List Nat} {n : Nat} (hl : zs.length = n) (h : ∀ j, j < n → zs.getD j 0 < 4294967296) : ∀ z ∈ zs, z < 4294967296 := by
  intro z hz
  obtain ⟨j, hj, rfl⟩ := List.mem_iff_getElem.1 hz
  have := h j (by omega)
  rw [show zs.getD j 0 = zs[j] from by simp [List.getD, hj]] at this
  exact this
theorem cr0_m {m c : Int} {f p : Nat} (h : ¬ (1 ≤ m ∧ m ≤ 16)) : cr0 m c f p = false := by unfold cr0; rw [decide_eq_false h, Bool.false_and]
theorem cr0_c {m c : Int} {f p : Nat} (h : ¬ (1 ≤ c ∧ c ≤ m)) : cr0 m c f p = false := by unfold cr0; rw [decide_eq_false h, Bool.false_and, Bool.and_false]
theorem cr0_f {m c : Int} {f p : Nat} (h : Cm.nng f = false) : cr0 m c f p = false := by unfold cr0; rw [h]; simp
theorem cr0_p {m c : Int} {f p : Nat} (h : Cm.pos p = false) : cr0 m c f p = false := by unfold cr0; rw [h]; simp
theorem cr0_yes {m c : Int} {f p : Nat} (h1 : 1 ≤ m ∧ m ≤ 16) (h2 : 1 ≤ c ∧ c ≤ m) (h3 : Cm.nng f = true) (h4 : Cm.pos p = true) : cr0 m c f p = true := by unfold cr0; rw [decide_eq_true h1, decide_eq_true h2, h3, h4]; rfl
end Flt.Cr
namespace Go.Proofs.Ytiebbmgehhcdmaa
open Go.RowKit Flt Dec Cm Liv Cr Hld
theorem c_Min1 (k c m : Nat) (hm : min (k + 1) c = m) (w : World) : Calls Try.prog 50 #[.int .i64 ((k : Int) + 1), .int .i64 (c : Int)] w fun e w' => e = .returned (.int .i64 (m : Int)) ∧ w = w' := by
  by_cases h : (k : Int) + 1 < (c : Int)
  · have HE : Hid (Ending.returned (.int .i64 ((k : Int) + 1)) = .returned (.int .i64 (m : Int))) := by show _ = _; rw [← hm, Nat.min_eq_left (by omega)]; rfl
    clear hm
    go_enter Try.func50, Try.ntmps50
    go_wp2_with fail
    go_ret
    exact ⟨HE.out, rfl⟩
  · have HE : Hid (Ending.returned (.int .i64 (c : Int)) = .returned (.int .i64 (m : Int))) := by show _ = _; rw [← hm, Nat.min_eq_right (by omega)]
    clear hm
    go_enter Try.func50, Try.ntmps50
    go_wp2_with fail
    go_ret
    exact ⟨HE.out, rfl⟩
set_option maxRecDepth 100000 in
set_option maxHeartbeats 8000000 in
theorem sCrewYes_any (n c f p : Nat) (w : World) (hf : f < 4294967296) (hp : p < 4294967296) (h0 : cr0 n c f p = true) :
    Calls Try.prog 20 #[.int .i64 (n : Int), .int .i64 (c : Int), .float .f32 f, .float .f32 p] w fun e w' => (∃ a' c', e = .returned (.tuple #[.slice a' (crA n c f p).length c', .bool (crB n c f p)]) ∧ FRow w' a' (crA n c f p).length (crA n c f p)) ∧ Below w.heap.size w w' := by
  obtain ⟨h1, h2, h3, h4⟩ := cr0_parts h0
  have HD1 : Hid (decide ((1 : Int) ≤ (n : Int) ∧ (n : Int) ≤ 16) = true) := decide_eq_true h1
  have HD2 : Hid (decide ((1 : Int) ≤ (c : Int) ∧ (c : Int) ≤ (n : Int)) = true) := decide_eq_true h2
  have HF3 := Lib.hid h3
  have HP4 := Lib.hid h4
  have HFI := Lib.hid (nng_is h3 hf)
  have HPI := Lib.hid (pos_is h4 hp)
  have HCB := Lib.hid (crB_at h0)
  have hn16 : n ≤ 16 := by omega
  have hcn : c ≤ n := by omega
  have HU0 : Hid (F32.Is (crU n c f p 0) 1065353216) := ⟨rfl, by decide, by decide⟩
  have HS0 : Hid (F32.Is (crS n c f p (0 + 1)) 1065353216) := by show F32.Is _ _; rw [crS_one]; exact ⟨rfl, by decide, by decide⟩
  have HUS : Hid (∀ k, crU n c f p (k + 1) = F32.opO .quo (F32.opO .mul (F32.opO .mul (crU n c f p k) (some (Go.floatOfInt .f32 ((n - k : Nat) : Int)))) (some f)) (F32.opO .mul (some (Go.floatOfInt .f32 ((min (k + 1) c : Nat) : Int))) (some p))) := Lib.hid fun _ => rfl
  have HSS : Hid (∀ k, crS n c f p (k + 1) = F32.opO .add (crS n c f p k) (crU n c f p k)) := Lib.hid fun _ => rfl
  obtain ⟨i0, hi, hz0, hz1, hz2⟩ := info_parts (show (Try.prog.info? 22).map (fun i => (i.zero, i.size, i.bytes)) = some (some (.float .f32 0), 1, 4) by kernel_rfl)
  have HO0 : Hid ((w.alloc (.cells #[.float .f32 1065353216] 22)).ownsRow w.heap.size 22 1 (.slice (some ⟨w.heap.size, 0, none⟩) 1 1) 1 (fv [1065353216])) := Cm.owned_first w _ _
  clear h0 h1 h2 h3 h4
  go_enter Try.func20, Try.ntmps20
  go_wp2_with fail
  refine (c_In _ _ _ _).mono ?_
  rintro e w1 ⟨rfl, rfl⟩
  rw [HD1.out]
  go_wp2_with fail
  refine (c_In _ _ _ _).mono ?_
  rintro e w1 ⟨rfl, rfl⟩
  rw [HD2.out]
  go_wp2_with fail
  refine (c_specLeast f _).mono ?_
  rintro e w1 ⟨rfl, d1⟩
  rw [HF3.out]
  have D1 := Lib.hid d1
  clear d1
  go_wp2_with fail
  refine (c_specAbove p _).mono ?_
  rintro e w2 ⟨rfl, d2⟩
  rw [HP4.out]
  have B2 := Lib.hid ((D1.out.trans d2).below w.heap.size)
  have HO2 : Hid ((w2.alloc (.cells #[.float .f32 1065353216] 22)).ownsRow w2.heap.size 22 1 (.slice (some ⟨w2.heap.size, 0, none⟩) 1 1) 1 (fv [1065353216])) := Cm.owned_first w2 _ _
  clear d2 HO0
  go_wp2_with fail
  go_loopg [10, 11, 12] n (fun q v10 s i wr => ∃ (k c3 x : Nat) (a3 : Option Addr) (zs : List Nat), v10 = .slice a3 (k + 1) c3 ∧ s = .float .f32 x ∧ i = .int .i64 ((k : Int) + 1) ∧ Hid (k + q = n) ∧ k ≤ n ∧ Hid (zs.length = k + 1) ∧ Hid (∀ j, j < k + 1 → F32.Is (crU n c f p j) (zs.getD j 0) ∧ zs.getD j 0 < 4294967296) ∧ Hid (F32.Is (crS n c f p (k + 1)) x) ∧ Hid (wr.ownsRow w2.heap.size 22 1 (.slice a3 (k + 1) c3) (k + 1) (fv zs)) ∧ Hid (Below w2.heap.size w2 wr))
  case atStart => exact ⟨0, _, _, _, [1065353216], rfl, rfl, rfl, by show _ = _; omega, Nat.zero_le _, rfl, (show Hid _ from fun j hj => by obtain rfl : j = 0 := (by omega); exact ⟨HU0.out, by decide⟩), HS0.out, HO2.out, (Below.refl _ w2).alloc (Nat.le_refl _) _⟩
  case round =>
    obtain ⟨k, c3, x, a3, zs, rfl, rfl, rfl, hk, hkl, hzl, hI, hX, hO, hB⟩ := hrel
    by_cases hlt : k < n
    · have hlz : (k : Int) + 1 ≤ (n : Int) := by omega
      have HJ : Hid (k + 1 + (gk - 1) = n) := by have := hk.out; show _ = _; omega
      have HG : Hid (gk - 1 < gk) := by have := hk.out; show _ < _; omega
      have hrow := Cm.row_owned hO.out hzl.out (by omega) (lt_mem hzl.out fun j hj => (hI.out j hj).2)
      obtain ⟨b, off, rfl, hbl, hc⟩ := hrow.2.2.2 k (by omega)
      have hnk : ((n : Int) - ((k : Int) + 1) + 1) = ((n - k : Nat) : Int) := by omega
      obtain ⟨mk, hmk⟩ : ∃ mk, min (k + 1) c = mk := ⟨_, rfl⟩
      have hmk16 : mk ≤ 64 := by omega
      have hu := (hI.out k (by omega)).1
      obtain ⟨nk, hnk2⟩ : ∃ nk, n - k = nk := ⟨_, rfl⟩
      rw [hnk2] at hnk
      obtain ⟨x1, v1, r1, j1, l1, d1⟩ := F32.arith_ex (P := Try.prog) (op := .mul) (.inr (.inr (.inl rfl))) 22 hu (whole_is nk (by omega)) wr
      obtain ⟨x2, v2, r2, j2, l2, d2⟩ := F32.arith_ex (P := Try.prog) (op := .mul) (.inr (.inr (.inl rfl))) 22 j1 HFI.out v1
      obtain ⟨x3, v3, r3, j3, l3, d3⟩ := F32.arith_ex (P := Try.prog) (op := .mul) (.inr (.inr (.inl rfl))) 22 (whole_is mk hmk16) HPI.out v2
      obtain ⟨x4, v4, r4, j4, l4, d4⟩ := F32.arith_ex (P := Try.prog) (op := .quo) (.inr (.inr (.inr rfl))) 22 j2 j3 v3
      rw [← hnk2, ← hmk, ← HUS.out] at j4
      have HMK := Lib.hid hmk
      have J4 := Lib.hid j4
      have L4 := Lib.hid l4
      have D4 := Lib.hid (((d1.trans d2).trans d3).trans d4)
      have HO4 := Lib.hid (owned_drawn hO.out D4.out)
      have HB4 := Lib.hid (hB.out.trans (D4.out.below w2.heap.size))
      have HCELL : Hid (∀ (j : Nat) (u : Value), [Value.float .f32 x4][j]? = some u → (v4.alloc (.cells #[.float .f32 x4] 22)).cell? ((⟨v4.heap.size, 0, none⟩ : Addr).add j) = some u) := Lib.hid (Cm.cell_new1 v4 22 (.float .f32 x4))
      have HO1 := Lib.hid (HO4.out.alloc (.cells #[.float .f32 x4] 22))
      have HB1 := Lib.hid (HB4.out.alloc HB4.out.size (.cells #[.float .f32 x4] 22))
      have HLE : Hid (k + 1 + 1 ≤ maxLen ∧ (k + 1 + 1) * 4 ≤ 140737488355328) := by show _ ∧ _; unfold maxLen; omega
      generalize zs.getD k 0 = u at *
      clear hO hB hrow hu j1 j2 j3 j4 l1 l2 l3 l4 d1 d2 d3 d4 hmk hnk2 HO4 HB4
      go_wp2_with fail
      refine (c_Min1 k c mk HMK.out _).mono ?_
      rintro e w5 ⟨rfl, rfl⟩
      go_wp2_with (at_builtin; refine wpList_append_own _ rfl _ _ 23 rfl w2.heap.size 22 i0 (.float .f32 0) 1 4 Try.underlying23 hi hz0 hz1 hz2 rfl (by decide) (.slice (some ⟨b, off, none⟩) (k + 1) c3) (k + 1) (fv zs) rfl HO1.out ⟨v4.heap.size, 0, none⟩ 1 1 [.float .f32 x4] rfl rfl HCELL.out (by intro u hu; simp at hu; subst hu; rfl) HLE.out.1 HLE.out.2 HB1.out.size ?_)
      intro v' w6 hown' hgrow _
      have HO3 : Hid (w6.ownsRow w2.heap.size 22 1 v' (k + 1 + 1) (fv (zs ++ [x4]))) := by
        show World.ownsRow _ _ _ _ _ _ _
        rw [Cm.fv_snoc]; exact hown'
      have HB3 : Hid (Below w2.heap.size w2 w6) := Lib.hid (HB1.out.grown hgrow HB1.out.size (fun q hq => (HO1.out.lt q hq).1))
      clear hown' hgrow HO1 HB1 HCELL
      obtain ⟨a5, c5, rfl⟩ := Cm.owns_shape HO3.out
      have HZ2 : Hid ((zs ++ [x4]).length = k + 1 + 1) := by show _ = _; rw [List.length_append, hzl.out]; rfl
      have HI2 : Hid (∀ j, j < k + 1 + 1 → F32.Is (crU n c f p j) ((zs ++ [x4]).getD j 0) ∧ (zs ++ [x4]).getD j 0 < 4294967296) := by
        show ∀ j, _
        intro j hj
        by_cases ej : j = k + 1
        · subst ej; rw [snoc_last zs x4 hzl.out]; exact ⟨J4.out, L4.out⟩
        · rw [snoc_old zs x4 (by rw [hzl.out]; omega)]; exact hI.out j (by omega)
      have hrow2 := Cm.row_owned HO3.out HZ2.out (by omega) (lt_mem HZ2.out fun j hj => (HI2.out j hj).2)
      obtain ⟨b2, off2, rfl, hbl2, hc2⟩ := hrow2.2.2.2 (k + 1) (by omega)
      rw [snoc_last zs x4 hzl.out] at hc2
      obtain ⟨x6, v7, r6, j6, l6, d6⟩ := F32.arith_ex (P := Try.prog) (op := .add) (.inl rfl) 22 hX.out J4.out w6
      rw [← HSS.out] at j6
      have J6 := Lib.hid j6
      have HO7 := Lib.hid (owned_drawn HO3.out d6)
      have HB7 := Lib.hid (HB3.out.trans (d6.below w2.heap.size))
      clear j6 l6 d6 HO3 HB3 hrow2
      go_wp2_with fail
      go_roundg (gk - 1)
      case measure => exact HG.out
      case rel => exact ⟨k + 1, c5, x6, _, zs ++ [x4], rfl, rfl, by go_num, HJ, by omega, HZ2.out, HI2.out, J6.out, HO7.out, HB7.out⟩
    · obtain rfl : k = n := by have := hk.out; omega
      have hrow := Cm.row_owned hO.out hzl.out (by omega) (lt_mem hzl.out fun j hj => (hI.out j hj).2)
      have HR := Lib.hid hrow
      have B3 := Lib.hid (B2.out.trans (hB.out.mono B2.out.size))
      clear hlt hO hB hrow hk
      generalize wr = w3 at *
      go_wp2_with fail
      go_loopg [14, 15] (k + 1) (fun q v14 i wr => ∃ (t c3 : Nat) (a4 : Option Addr) (ys : List Nat), v14 = .slice a4 t c3 ∧ i = .int .i64 (t : Int) ∧ Hid (t + q = k + 1) ∧ t ≤ k + 1 ∧ Hid (ys.length = t) ∧ Hid (∀ j, j < t → F32.Is (crO k c f p j) (ys.getD j 0) ∧ ys.getD j 0 < 4294967296) ∧ Hid (wr.ownsRow w3.heap.size 22 1 (.slice a4 t c3) t (fv ys)) ∧ Hid (Below w3.heap.size w3 wr))
      case atStart => exact ⟨0, _, _, [], rfl, rfl, by show _ = _; omega, Nat.zero_le _, rfl, (show Hid _ from fun j hj => absurd hj (Nat.not_lt_zero _)), World.ownsRow_made w3 #[] 0 (Nat.le_refl _) (Nat.zero_le _) rfl, (Below.refl _ w3).alloc (Nat.le_refl _) _⟩
      case round =>
        obtain ⟨t, c4, a4, ys, rfl, rfl, ht, htl, hyl, hJ, hO, hB⟩ := hrel
        by_cases hlt : t < k + 1
        · have hlz : (t : Int) ≤ (k : Int) := by omega
          have HJ : Hid (t + 1 + (gk - 1) = k + 1) := by have := ht.out; show _ = _; omega
          have HG : Hid (gk - 1 < gk) := by have := ht.out; show _ < _; omega
          obtain ⟨b, off, rfl, hbl, hc⟩ := (HR.out.keep hB.out).2.2.2 t hlt
          have hu := (hI.out t hlt).1
          obtain ⟨x1, v1, r1, j1, l1, d1⟩ := F32.arith_ex (P := Try.prog) (op := .quo) (.inr (.inr (.inr rfl))) 22 hu hX.out wr
          have J1 : Hid (F32.Is (crO k c f p t) x1) := j1
          have L1 := Lib.hid l1
          have HO4 := Lib.hid (owned_drawn hO.out d1)
          have HB4 := Lib.hid (hB.out.trans (d1.below w3.heap.size))
          have HCELL : Hid (∀ (j : Nat) (u : Value), [Value.float .f32 x1][j]? = some u → (v1.alloc (.cells #[.float .f32 x1] 22)).cell? ((⟨v1.heap.size, 0, none⟩ : Addr).add j) = some u) := Lib.hid (Cm.cell_new1 v1 22 (.float .f32 x1))
          have HO1 := Lib.hid (HO4.out.alloc (.cells #[.float .f32 x1] 22))
          have HB1 := Lib.hid (HB4.out.alloc HB4.out.size (.cells #[.float .f32 x1] 22))
          have HLE : Hid (t + 1 ≤ maxLen ∧ (t + 1) * 4 ≤ 140737488355328) := by show _ ∧ _; unfold maxLen; omega
          generalize zs.getD t 0 = u at *
          clear hO hB hu j1 l1 d1 HO4 HB4
          go_wp2_with (at_builtin; refine wpList_append_own _ rfl _ _ 23 rfl w3.heap.size 22 i0 (.float .f32 0) 1 4 Try.underlying23 hi hz0 hz1 hz2 rfl (by decide) (.slice a4 t c4) t (fv ys) rfl HO1.out ⟨v1.heap.size, 0, none⟩ 1 1 [.float .f32 x1] rfl rfl HCELL.out (by intro u hu; simp at hu; subst hu; rfl) HLE.out.1 HLE.out.2 HB1.out.size ?_)
          intro v' w6 hown' hgrow _
          have HO3 : Hid (w6.ownsRow w3.heap.size 22 1 v' (t + 1) (fv (ys ++ [x1]))) := by
            show World.ownsRow _ _ _ _ _ _ _
            rw [Cm.fv_snoc]; exact hown'
          have HB3 : Hid (Below w3.heap.size w3 w6) := Lib.hid (HB1.out.grown hgrow HB1.out.size (fun q hq => (HO1.out.lt q hq).1))
          clear hown' hgrow HO1 HB1 HCELL
          obtain ⟨a5, c5, rfl⟩ := Cm.owns_shape HO3.out
          have HZ2 : Hid ((ys ++ [x1]).length = t + 1) := by show _ = _; rw [List.length_append, hyl.out]; rfl
          have HI2 : Hid (∀ j, j < t + 1 → F32.Is (crO k c f p j) ((ys ++ [x1]).getD j 0) ∧ (ys ++ [x1]).getD j 0 < 4294967296) := by
            show ∀ j, _
            intro j hj
            by_cases ej : j = t
            · subst ej; rw [snoc_last ys x1 hyl.out]; exact ⟨J1.out, L1.out⟩
            · rw [snoc_old ys x1 (by rw [hyl.out]; omega)]; exact hJ.out j (by omega)
          go_wp2_with fail
          go_roundg (gk - 1)
          case measure => exact HG.out
          case rel => exact ⟨t + 1, c5, a5, ys ++ [x1], rfl, by go_num, HJ, by omega, HZ2.out, HI2.out, HO3.out, HB3.out⟩
        · obtain rfl : t = k + 1 := by omega
          have hrow2 := Cm.row_owned hO.out hyl.out (by omega) (lt_mem hyl.out fun j hj => (hJ.out j hj).2)
          have HR2 := Lib.hid hrow2
          have B4 := Lib.hid (B3.out.trans (hB.out.mono B3.out.size))
          obtain ⟨g1, g2⟩ := F32.all_is hyl.out (fun j hj => (hJ.out j hj).1)
          have G1 := Lib.hid g1
          have G2 := Lib.hid g2
          clear hlt hO hB hrow2 g1 g2
          go_wp2_with fail
          refine (specList_any a4 (k + 1) c4 ys _ HR2.out (by omega)).mono ?_
          rintro e w7 ⟨rfl, b7⟩
          rw [G1.out]
          have R7 := Lib.hid (HR2.out.keep b7)
          have B7 := Lib.hid (B4.out.trans (b7.mono B4.out.size))
          clear b7
          cases hq : F32.oks (crO k c f p) (k + 1) with
          | true =>
            have HY : Hid (crA k c f p = ys ∧ crB k c f p = true) := by
              have hb : crB k c f p = true := by rw [HCB.out, hq]
              exact ⟨by rw [crA_at hb, G2.out hq], hb⟩
            rw [if_pos rfl]
            go_wp2_with fail
            go_ret2
            rw [HY.out.1, HY.out.2, hyl.out]
            first | exact ⟨⟨_, _, rfl, R7.out⟩, B7.out⟩ | exact ⟨⟨_, ⟨_, rfl⟩, R7.out⟩, B7.out⟩
          | false =>
            have HY : Hid (crA k c f p = [] ∧ crB k c f p = false) := by
              have hb : crB k c f p = false := by rw [HCB.out, hq]
              refine ⟨?_, hb⟩
              unfold crA; rw [hb]; rfl
            rw [if_neg (by decide)]
            go_wp2_with fail
            go_ret2
            rw [HY.out.1, HY.out.2]
            first | exact ⟨⟨_, _, rfl, frow_nil _ _⟩, B7.out⟩ | exact ⟨⟨_, ⟨_, rfl⟩, frow_nil _ _⟩, B7.out⟩
end Go.Proofs.Ytiebbmgehhcdmaa
