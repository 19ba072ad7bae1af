/-
  Survivors behind failures: how both tell them. Conditions: all of them are lives.
-/
import Derived.Test.YtplfmdjccmhclabSurP
namespace Liv
open Go
theorem load3 {P : Program} {w : World} {b o : Nat} {u v x : Value} (h1 : w.cell? ⟨b, o, none⟩ = some u) (h2 : w.cell? ⟨b, o + 1, none⟩ = some v) (h3 : w.cell? ⟨b, o + 2, none⟩ = some x) :
    Sem.run P (loadCellsFrom ⟨b, o, none⟩ 0 3 #[]) w = .ok #[u, v, x] w := by
  have := run_loadCells_list (P := P) (w := w) ⟨b, o, none⟩ [u, v, x] (by
    intro j y hj
    match j, hj with
    | 0, hj => simp at hj; subst hj; simpa [Addr.add] using h1
    | 1, hj => simp at hj; subst hj; simpa [Addr.add] using h2
    | 2, hj => simp at hj; subst hj; simpa [Addr.add] using h3)
  simpa [loadCells] using this
open Flt Dec in
theorem FHead.snoc {w : World} {g n : Nat} {e : TypeId} {l : List Nat} (h : FHead w g l) (hs : Slots w g n e) (hk : l.length < n) (x : Nat) : FHead (w.setCell ⟨g, l.length, none⟩ (.float .f32 x)) g (l ++ [x]) := by
  obtain ⟨u, hu⟩ := hs.cell hk
  intro j hj
  rw [List.length_append] at hj
  by_cases hjl : j = l.length
  · subst hjl
    rw [World.cell?_setCell_same _ _ _ hu]
    simp [List.getD]
  · have hj2 : j < l.length := by simp at hj; omega
    rw [World.cell?_setCell_other _ _ _ _ (by intro e; injection e with _ e2 _; omega), h j hj2]
    simp [List.getD, List.getElem?_append_left hj2]
end Liv
namespace Go.Proofs.Ytplfmdjccmhclab
open Go.RowKit Liv Flt Dec
set_option maxHeartbeats 4000000 in
theorem survivorsAt_any (g n : Nat) (zs : List (Nat × Bool)) (w : World) (hM : MHas w g n zs (tS zs)) (hg : g < w.heap.size) (hn : n = (tS zs).length) (hL : livB zs = true) (hV : ∀ z ∈ zs, VL z) :
    Calls Try.prog 59 #[.slice (some ⟨g, 0, none⟩) n n] w fun e w' => (∃ g2, e = .returned (.slice (some ⟨g2, 0, none⟩) n n) ∧ w.heap.size ≤ g2 ∧ Slots w' g2 n 23 ∧ FHead w' g2 (tab zs (tS zs) n)) ∧ Below w.heap.size w w' := by
  have hts := tS_len zs
  have hn48 : n ≤ 48 := by have := (liv_len hL).2; omega
  have HM := Lib.hid hM
  have HG0 := Lib.hid hg
  have HNX : Hid (∀ k, k < n → Go.floatBits .mul .f32 (sv zs (tS zs) k) (yT zs ((tS zs).getD k 0)) = some (sv zs (tS zs) (k + 1))) := Lib.hid fun k hk => sv_next hL hV (by omega)
  have HQ : Hid (∀ k, k < n → Go.floatBits .quo .f32 (fN zs ((tS zs).getD k 0)) (rN zs ((tS zs).getD k 0)) = some (qT zs ((tS zs).getD k 0)) ∧ Go.floatBits .sub .f32 1065353216 (qT zs ((tS zs).getD k 0)) = some (yT zs ((tS zs).getD k 0))) := Lib.hid fun k hk => by
    have := q_good hL hV (getD_mem (show k < (tS zs).length by omega))
    exact ⟨this.1, this.2.1⟩
  have hmk : ∀ w, (Instr.makeSlice 33 (.int .i64 (n : Int)) (.int .i64 (n : Int))).run Try.prog w = .ok (.slice (some ⟨w.heap.size, 0, none⟩) n n) (w.alloc (.cells (madeCells (Value.float .f32 0).cells (n * 1)) 23)) := by
    intro w
    obtain ⟨i, hi, hz0, hz1, hz2⟩ := info_parts (show (Try.prog.info? 23).map (fun i => (i.zero, i.size, i.bytes)) = some (some (.float .f32 0), 1, 4) by kernel_rfl)
    have := run_make (P := Try.prog) w 33 23 i (.float .f32 0) Try.underlying33 hi hz0 .i64 .i64 n n (by omega) (Int.le_refl _) (by rw [hz2]; omega) (by omega)
    rw [this, hz1, Int.toNat_natCast]
  have HMD : Hid (∀ w : World, Slots (w.alloc (.cells (madeCells (Value.float .f32 0).cells (n * 1)) 23)) w.heap.size n 23) := Lib.hid fun w => Slots.made w 23 _ n (by simp [madeCells])
  generalize madeCells (Value.float .f32 0).cells (n * 1) = C at *
  have HS0 := Lib.hid (HMD.out w)
  clear hM hg hn hL hV hts HMD
  go_enter Try.func59, Try.ntmps59
  go_wp2_with fail
  go_loopg [4, 12] n (fun q s i wr => ∃ k : Nat, s = .float .f32 (sv zs (tS zs) k) ∧ i = .int .i64 k ∧ Hid (k + q = n) ∧ k ≤ n ∧ Hid (Slots wr w.heap.size n 23) ∧ Hid (FHead wr w.heap.size (tab zs (tS zs) k)) ∧ Hid (Below w.heap.size w wr))
  case atStart => exact ⟨0, rfl, rfl, by show _ = _; omega, Nat.zero_le _, HS0.out, fun j hj => absurd hj (by simp [tab]), (Below.refl _ _).alloc (Nat.le_refl _) _⟩
  case round =>
    obtain ⟨k, rfl, rfl, hk, hkl, hS, hF, hB⟩ := hrel
    by_cases hlt : k < n
    · obtain ⟨hc0, hc1, hc2⟩ := (HM.out.keep HG0.out hB.out) k hlt
      have HJ : Hid (k + 1 + (gk - 1) = n) := by have := hk.out; show _ = _; omega
      have HG : Hid (gk - 1 < gk) := by have := hk.out; show _ < _; omega
      obtain ⟨hq, hy⟩ := HQ.out k hlt
      have hs := HNX.out k hlt
      have HTS : Hid (tab zs (tS zs) (k + 1) = tab zs (tS zs) k ++ [sv zs (tS zs) (k + 1)]) := tab_snoc _ _ _
      generalize (tS zs).getD k 0 = t at *
      generalize fN zs t = F at *
      generalize rN zs t = R at *
      generalize qT zs t = Q at *
      generalize yT zs t = Y at *
      have hld := load3 (P := Try.prog) hc0 hc1 hc2
      have hr1 : ∀ w, (binOp .quo 23 (.float .f32 F) (.float .f32 R)).run Try.prog w = .ok (.float .f32 Q) w := fun w => run_float_arith w .quo 23 .f32 _ _ Q hq
      have hr2 : ∀ w, (binOp .sub 23 (.float .f32 1065353216) (.float .f32 Q)).run Try.prog w = .ok (.float .f32 Y) w := fun w => run_float_arith w .sub 23 .f32 _ _ Y hy
      have hr3 : ∀ w, (binOp .mul 23 (.float .f32 (sv zs (tS zs) k)) (.float .f32 Y)).run Try.prog w = .ok (.float .f32 (sv zs (tS zs) (k + 1))) w := fun w => run_float_arith w .mul 23 .f32 _ _ _ hs
      obtain ⟨o, ho⟩ : ∃ o, o = (Obj.cells #[.float .f32 t, .float .f32 F, .float .f32 R] 70) := ⟨_, rfl⟩
      have bA : Below wr.heap.size wr (wr.alloc o) := (Below.refl _ wr).alloc (Nat.le_refl _) o
      have sA := hS.out.keep bA
      have fA := hF.out.keep hS.out.lt bA
      obtain ⟨u, hu⟩ := sA.cell hlt
      have hfr := sA.frozen k
      have HS3 := Lib.hid (sA.set k (.float .f32 (sv zs (tS zs) (k + 1))))
      have HF3 : Hid (FHead ((wr.alloc o).setCell ⟨w.heap.size, k, none⟩ (.float .f32 (sv zs (tS zs) (k + 1)))) w.heap.size (tab zs (tS zs) (k + 1))) := by
        have := FHead.snoc fA sA (by rw [tab_len]; exact hlt) (sv zs (tS zs) (k + 1))
        rw [tab_len, ← HTS.out] at this
        exact this
      have HB3 := Lib.hid ((hB.out.trans (bA.mono hB.out.size)).setCell (p := ⟨w.heap.size, k, none⟩) (Nat.le_refl _) (.float .f32 (sv zs (tS zs) (k + 1))))
      subst ho
      clear hS hF hB bA sA fA hq hy hs HTS
      go_wp2_with fail
      go_roundg (gk - 1)
      case measure => exact HG.out
      case rel => exact ⟨k + 1, by go_num, by go_num, HJ, by omega, HS3.out, HF3.out, HB3.out⟩
    · obtain rfl : k = n := by have := hk.out; omega
      clear hlt
      go_wp2_with fail
      go_ret
      exact ⟨⟨_, rfl, Nat.le_refl _, hS.out, hF.out⟩, hB.out⟩
set_option maxHeartbeats 1600000 in
theorem specQuot_any (a : Option Addr) (len cap t q : Nat) (zs : List (Nat × Bool)) (w : World) (h : LRow w a len zs) (hn : len ≤ 1048576) (hq : Go.floatBits .quo .f32 (fN zs t) (rN zs t) = some q) :
    Calls Try.prog 61 #[.slice a len cap, .float .f32 t] w fun e w' => e = .returned (.float .f32 q) ∧ w = w' := by
  have H := Lib.hid h
  have hr1 : ∀ w, (binOp .quo 23 (.float .f32 (fN zs t)) (.float .f32 (rN zs t))).run Try.prog w = .ok (.float .f32 q) w := fun w => run_float_arith w .quo 23 .f32 _ _ q hq
  have HR := Lib.hid hr1
  have HF : Hid (Go.floatOfInt .f32 (zs.countP (fellP t)) = fN zs t) := rfl
  have HG : Hid (Go.floatOfInt .f32 (zs.countP (riskP t)) = rN zs t) := rfl
  clear h hq hr1
  go_enter Try.func61, Try.ntmps61
  go_wp2_with fail
  refine (specFell_any a len cap t zs _ H.out hn).mono ?_
  rintro e w1 ⟨rfl, rfl⟩
  go_wp2_with fail
  refine (specRisk_any a len cap t zs _ H.out hn).mono ?_
  rintro e w1 ⟨rfl, rfl⟩
  have hr1 := HR.out
  unfold fN rN at hr1
  go_wp2_with fail
  go_ret
  exact ⟨rfl, rfl⟩
set_option maxHeartbeats 4000000 in
set_option maxRecDepth 100000 in
theorem specTable_any (a : Option Addr) (len cap : Nat) (zs : List (Nat × Bool)) (w : World) (h : LRow w a len zs) (hL : livB zs = true) :
    Calls Try.prog 54 #[.slice a len cap] w fun e w' => (∃ a c, e = .returned (.slice a (tS zs).length c) ∧ FRow w' a (tS zs).length (tab zs (tS zs) (tS zs).length)) ∧ Below w.heap.size w w' := by
  have H := Lib.hid h
  have HLV := Lib.hid hL
  have hV := liv_VL h hL
  have hl := liv_len hL
  rw [h.1] at hl
  have hts := tS_len zs
  rw [h.1] at hts
  have H0 : Hid (len ≤ 1048576) := by show _ ≤ _; omega
  obtain ⟨n, hn⟩ : ∃ n, (tS zs).length = n := ⟨_, rfl⟩
  have HNX : Hid (∀ k, k < n → Go.floatBits .mul .f32 (sv zs (tS zs) k) (yT zs ((tS zs).getD k 0)) = some (sv zs (tS zs) (k + 1))) := Lib.hid fun k hk => sv_next hL hV (by omega)
  have HQ : Hid (∀ k, k < n → Go.floatBits .quo .f32 (fN zs ((tS zs).getD k 0)) (rN zs ((tS zs).getD k 0)) = some (qT zs ((tS zs).getD k 0)) ∧ Go.floatBits .sub .f32 1065353216 (qT zs ((tS zs).getD k 0)) = some (yT zs ((tS zs).getD k 0))) := Lib.hid fun k hk => by
    have := q_good hL hV (getD_mem (show k < (tS zs).length by omega))
    exact ⟨this.1, this.2.1⟩
  have HLE1 : Hid (∀ k, k ≤ n → sv zs (tS zs) k ≤ 1065353216) := Lib.hid fun k hk => sv_le hL hV k (by omega)
  have HN := Lib.hid hn
  rw [hn] at hts
  have hn48 : n ≤ 48 := by omega
  clear h hL hV hl hn hts
  obtain ⟨i0, hi, hz0, hz1, hz2⟩ := info_parts (show (Try.prog.info? 23).map (fun i => (i.zero, i.size, i.bytes)) = some (some (.float .f32 0), 1, 4) by kernel_rfl)
  go_enter Try.func54, Try.ntmps54
  go_wp2_with fail
  refine (specTimes_any a len cap zs _ H.out HLV.out).mono ?_
  rintro e w1 ⟨⟨a1, c1, rfl, hr⟩, b1⟩
  rw [HN.out] at hr
  rw [HN.out]
  have R1 := Lib.hid hr
  have B1 := Lib.hid b1
  clear hr b1
  go_wp2_with fail
  go_loopg [4, 5, 6] n (fun q v4 s i wr => ∃ (k c3 : Nat) (a3 : Option Addr), v4 = .slice a3 k c3 ∧ s = .float .f32 (sv zs (tS zs) k) ∧ i = .int .i64 k ∧ Hid (k + q = n) ∧ k ≤ n ∧ Hid (wr.ownsRow w1.heap.size 23 1 (.slice a3 k c3) k (fv (tab zs (tS zs) k))) ∧ Hid (Below w1.heap.size w1 wr))
  case atStart => exact ⟨0, _, _, rfl, rfl, rfl, by show _ = _; omega, Nat.zero_le _, World.ownsRow_made w1 #[] 0 (Nat.le_refl _) (Nat.zero_le _) rfl, (Below.refl _ w1).alloc (Nat.le_refl _) _⟩
  case round =>
    obtain ⟨k, c3, a3, rfl, rfl, rfl, hk, hkl, hO, hB⟩ := hrel
    by_cases hlt : k < n
    · have hlz : (k : Int) < (n : Int) := by omega
      obtain ⟨b, off, rfl, _, hc⟩ := (R1.out.keep hB.out).2.2.2 k hlt
      have HJ : Hid (k + 1 + (gk - 1) = n) := by have := hk.out; show _ = _; omega
      have HG : Hid (gk - 1 < gk) := by have := hk.out; show _ < _; omega
      have HTS : Hid (tab zs (tS zs) (k + 1) = tab zs (tS zs) k ++ [sv zs (tS zs) (k + 1)]) := tab_snoc _ _ _
      obtain ⟨hq, hy⟩ := HQ.out k hlt
      have hs := HNX.out k hlt
      generalize (tS zs).getD k 0 = t at *
      have HQ1 := Lib.hid hq
      generalize qT zs t = Q at *
      generalize yT zs t = Y at *
      have hr2 : ∀ w, (binOp .sub 23 (.float .f32 1065353216) (.float .f32 Q)).run Try.prog w = .ok (.float .f32 Y) w := fun w => run_float_arith w .sub 23 .f32 _ _ Y hy
      have hr3 : ∀ w, (binOp .mul 23 (.float .f32 (sv zs (tS zs) k)) (.float .f32 Y)).run Try.prog w = .ok (.float .f32 (sv zs (tS zs) (k + 1))) w := fun w => run_float_arith w .mul 23 .f32 _ _ _ hs
      obtain ⟨x, hx⟩ : ∃ x, sv zs (tS zs) (k + 1) = x := ⟨_, rfl⟩
      have HX := Lib.hid hx
      rw [hx] at hr3 HTS
      have HCELL : Hid (∀ (j : Nat) (u : Value), [Value.float .f32 x][j]? = some u → (wr.alloc (.cells #[.float .f32 x] 23)).cell? ((⟨wr.heap.size, 0, none⟩ : Addr).add j) = some u) := Lib.hid (cell_new1 wr 23 (.float .f32 x))
      have HO1 := Lib.hid (hO.out.alloc (.cells #[.float .f32 x] 23))
      have HB1 := Lib.hid (hB.out.alloc hB.out.size (.cells #[.float .f32 x] 23))
      have HLE : Hid (k + 1 ≤ maxLen ∧ (k + 1) * 4 ≤ 140737488355328) := by show _ ∧ _; unfold maxLen; omega
      have HLR : Hid (LRow wr a len zs) := H.out.keep (B1.out.trans (hB.out.mono B1.out.size))
      clear hO hB hq hy hs hx
      go_wp2_with fail
      refine (specQuot_any a len cap t Q zs _ HLR.out H0.out HQ1.out).mono ?_
      rintro e w2 ⟨rfl, rfl⟩
      go_wp2_with (at_builtin; refine wpList_append_own _ rfl _ _ 33 rfl w1.heap.size 23 i0 (.float .f32 0) 1 4 Try.underlying33 hi hz0 hz1 hz2 rfl (by decide) (.slice a3 k c3) k (fv (tab zs (tS zs) k)) rfl HO1.out ⟨wr.heap.size, 0, none⟩ 1 1 [.float .f32 x] rfl rfl HCELL.out (by intro u hu; simp at hu; subst hu; rfl) HLE.out.1 HLE.out.2 HB1.out.size ?_)
      intro v' w3 hown' hgrow _
      have HO3 : Hid (w3.ownsRow w1.heap.size 23 1 v' (k + 1) (fv (tab zs (tS zs) (k + 1)))) := by
        show World.ownsRow _ _ _ _ _ _ _
        rw [HTS.out, fv_snoc]; exact hown'
      have HB3 : Hid (Below w1.heap.size w1 w3) := Lib.hid (HB1.out.grown hgrow HB1.out.size (fun q hq => (HO1.out.lt q hq).1))
      clear hown' hgrow HO1 HB1 HCELL
      obtain ⟨a5, c5, rfl⟩ := owns_shape HO3.out
      go_wp2_with fail
      go_roundg (gk - 1)
      case measure => exact HG.out
      case rel => exact ⟨k + 1, c5, a5, rfl, by rw [HX.out], by go_num, HJ, by omega, HO3.out, HB3.out⟩
    · obtain rfl : k = n := by have := hk.out; omega
      have HF : Hid (FRow wr a3 k (tab zs (tS zs) k)) := by
        by_cases h0 : 0 < k
        · obtain ⟨g, cc, he, hg, _, hA⟩ := farr_of_owned (l := tab zs (tS zs) k) hO.out (tab_len _ _ _) h0
          cases he
          refine ⟨tab_len _ _ _, by unfold maxLen; omega, fun z hz => ?_, fun i hi => ⟨g, 0, rfl, hA.1.lt, ?_⟩⟩
          · unfold tab at hz
            obtain ⟨j, hj, rfl⟩ := List.mem_map.1 hz
            have := HLE1.out (j + 1) (by have := List.mem_range.1 hj; omega)
            omega
          · have hi' : i < (tab zs (tS zs) k).length := by rw [tab_len]; exact hi
            have := hA.2 i (by simpa using hi')
            rw [getElem!_pos (tab zs (tS zs) k).toArray i (by simpa using hi')] at this
            rw [Nat.zero_add]
            simpa [List.getD, hi'] using this
        · have hc0 : k = 0 := by omega
          subst hc0
          exact ⟨rfl, by decide, fun z hz => by simp [tab] at hz, fun i hi => absurd hi (Nat.not_lt_zero _)⟩
      have B2 := Lib.hid (B1.out.trans (hB.out.mono B1.out.size))
      clear hO hB hlt
      go_wp2_with fail
      go_ret
      rw [HN.out]
      exact ⟨⟨_, _, rfl, HF.out⟩, B2.out⟩
end Go.Proofs.Ytplfmdjccmhclab
