/-
  Contracts: the different times of failures, in the program. Conditions: all of them are lives.
-/
import Derived.Test.YtplfmdjccmhclabTimN
namespace Liv
open Go Go.Sort Dec Flt
theorem tS_none : Go.Lib.compact (ordF []) = [] := by simp [ordF, Go.Lib.compact, Go.Lib.compactUpTo]
theorem fv_snoc (l : List Nat) (t : Nat) : fv (l ++ [t]) = fv l ++ [.float .f32 t] := by simp [fv]
theorem cell_new1 (w : World) (t : TypeId) (v : Value) : ∀ j u, [v][j]? = some u → (w.alloc (.cells #[v] t)).cell? ((⟨w.heap.size, 0, none⟩ : Addr).add j) = some u := by
  intro j u hj
  match j, hj with
  | 0, hj => simp at hj; subst hj; rw [Addr.add_lit, World.cell?_alloc_mark]; rfl
  | j + 1, hj => simp at hj
end Liv
namespace Go.Proofs.Ytplfmdjccmhclab
open Go.RowKit Liv Flt Go.Sort Stb Dec
set_option maxHeartbeats 4000000 in
set_option maxRecDepth 100000 in
theorem timesOf_any (a : Option Addr) (len cap : Nat) (zs : List (Nat × Bool)) (w : World) (h : LRow w a len zs) (hL : livB zs = true) :
    Calls Try.prog 95 #[.slice a len cap] w fun e w' => (∃ a c, e = .returned (.slice a (tS zs).length c) ∧ FRow w' a (tS zs).length (tS zs) ∧ Own w' w.heap.size a (tS zs).length 23) ∧ Below w.heap.size w w' := by
  have H := Lib.hid h
  have HLV := Lib.hid hL
  have hl := liv_len hL
  rw [h.1] at hl
  have hn : len ≤ 48 := hl.2
  have HVT : Hid (∀ t ∈ fT zs, VF t) := Lib.hid fun t ht => by
    obtain ⟨z, hz, rfl⟩ := fT_mem ht
    exact liv_VL h hL z hz
  clear h hL hl
  obtain ⟨i0, hi, hz0, hz1, hz2⟩ := info_parts (show (Try.prog.info? 23).map (fun i => (i.zero, i.size, i.bytes)) = some (some (.float .f32 0), 1, 4) by kernel_rfl)
  have hO0 : w.ownsRow w.heap.size 23 1 (.slice none 0 0) 0 (fv []) := ⟨by simp [fv], .inl ⟨rfl, rfl⟩⟩
  have HO0 := Lib.hid hO0
  clear hO0
  go_enter Try.func95, Try.ntmps95
  go_wp2_with fail
  go_loopg [3, 8] len (fun q v3 v8 wr => ∃ (k c : Nat), v8 = .int .i64 k ∧ Hid (k + q = len) ∧ k ≤ len ∧ c ≤ k ∧ Hid (c = (fT (zs.take k)).length) ∧ Hid (c = 0 → v3 = .slice none 0 0) ∧ Hid (wr.ownsRow w.heap.size 23 1 v3 c (fv (fT (zs.take k)))) ∧ Hid (Below w.heap.size w wr))
  case atStart => exact ⟨0, 0, rfl, by show _ = _; omega, Nat.zero_le _, Nat.le_refl _, rfl, Lib.hid fun _ => rfl, HO0.out, Below.refl _ _⟩
  case round =>
    clear HO0
    obtain ⟨k, c, rfl, hk, hkl, hck, hcl, hz, hO, hB⟩ := hrel
    by_cases hlt : k < len
    · obtain ⟨b, off, rfl, hbl, hc, hd⟩ := (H.out.keep hB.out).2.2.2 k hlt
      have HJ : Hid (k + 1 + (gk - 1) = len) := by have := hk.out; show _ = _; omega
      have HG : Hid (gk - 1 < gk) := by have := hk.out; show _ < _; omega
      have HN := Lib.hid (fT_next zs k (by rw [H.out.1]; exact hlt))
      obtain ⟨t, ht⟩ : ∃ t, t = tm zs k := ⟨_, rfl⟩
      rw [← ht] at hc HN
      clear ht
      cases hf : fl zs k with
      | true =>
        rw [hf] at hd HN
        have hcell : ∀ (j : Nat) (u : Value), [Value.float .f32 t][j]? = some u → ((wr.alloc (.cells #[.float .f32 t, .bool true] 63)).alloc (.cells #[.float .f32 t] 23)).cell? ((⟨wr.heap.size + 1, 0, none⟩ : Addr).add j) = some u := fun j u hj => by
          have := cell_new1 (wr.alloc (.cells #[.float .f32 t, .bool true] 63)) 23 (.float .f32 t) j u hj
          simpa using this
        have HCELL := Lib.hid hcell
        have HO1 := Lib.hid ((hO.out.alloc (.cells #[.float .f32 t, .bool true] 63)).alloc (.cells #[.float .f32 t] 23))
        have HB1 := Lib.hid ((hB.out.alloc hB.out.size (.cells #[.float .f32 t, .bool true] 63)).alloc (hB.out.alloc hB.out.size (.cells #[.float .f32 t, .bool true] 63)).size (.cells #[.float .f32 t] 23))
        have HLE : Hid (c + 1 ≤ maxLen ∧ (c + 1) * 4 ≤ 140737488355328) := by show _ ∧ _; unfold maxLen; omega
        clear hcell
        have HCN : Hid (c + 1 = (fT (zs.take (k + 1))).length) := by show _ = _; rw [HN.out, hcl.out]; simp
        clear hO hB hf
        go_wp2_with (at_builtin; refine wpList_append_own _ rfl _ _ 33 rfl w.heap.size 23 i0 (.float .f32 0) 1 4 Try.underlying33 hi hz0 hz1 hz2 rfl (by decide) u3 c (fv (fT (zs.take k))) rfl HO1.out ⟨wr.heap.size + 1, 0, none⟩ 1 1 [.float .f32 t] rfl rfl HCELL.out (by intro u hu; simp at hu; subst hu; rfl) HLE.out.1 HLE.out.2 HB1.out.size ?_)
        intro v' w3 hown' hgrow _
        have HO3 : Hid (w3.ownsRow w.heap.size 23 1 v' (c + 1) (fv (fT (zs.take (k + 1))))) := by
          show World.ownsRow _ _ _ _ _ _ _
          have e1 : fT (zs.take (k + 1)) = fT (zs.take k) ++ [t] := by simpa using HN.out
          rw [e1, fv_snoc]; exact hown'
        have HB3 : Hid (Below w.heap.size w w3) := Lib.hid (HB1.out.grown hgrow HB1.out.size (fun q hq => (HO1.out.lt q hq).1))
        clear hown' hgrow HO1 HB1 HCELL
        go_wp2_with fail
        go_roundg (gk - 1)
        case measure => exact HG.out
        case rel => exact ⟨k + 1, c + 1, by go_num, HJ, by omega, by omega, HCN.out, Lib.hid (fun h => absurd h (by omega)), HO3.out, HB3.out⟩
      | false =>
        rw [hf] at hd HN
        have HN2 : Hid (fT (zs.take (k + 1)) = fT (zs.take k)) := by show _ = _; rw [HN.out]; simp
        have HO1 : Hid (∀ o, (wr.alloc o).ownsRow w.heap.size 23 1 u3 c (fv (fT (zs.take (k + 1))))) := Lib.hid (fun o => by rw [HN2.out]; exact hO.out.alloc o)
        have HB1 := Lib.hid (fun (o : Obj) => hB.out.alloc hB.out.size o)
        have HCN : Hid (c = (fT (zs.take (k + 1))).length) := by show _ = _; rw [HN2.out]; exact hcl.out
        clear hO hB hf
        go_wp2_with fail
        go_roundg (gk - 1)
        case measure => exact HG.out
        case rel => exact ⟨k + 1, c, by go_num, HJ, by omega, by omega, HCN.out, hz, HO1.out _, HB1.out _⟩
    · have hke : k = len := by have := hk.out; omega
      have HT : Hid (zs.take k = zs) := by show _ = _; rw [hke, ← H.out.1, List.take_length]
      rw [HT.out] at hcl hO
      by_cases h0 : 0 < c
      · obtain ⟨g, cc, rfl, hg, _, hA⟩ := farr_of_owned (l := fT zs) hO.out hcl.out.symm h0
        have HR : Hid (FRow wr (some ⟨g, 0, none⟩) c (fT zs)) := by
          refine ⟨hcl.out.symm, by unfold maxLen; omega, fun z hz => (HVT.out z hz).2, fun i hi => ⟨g, 0, rfl, hA.1.lt, ?_⟩⟩
          have hi' : i < (fT zs).length := by rw [← hcl.out]; exact hi
          have := hA.2 i (by simpa using hi')
          rw [getElem!_pos (fT zs).toArray i (by simpa using hi')] at this
          rw [Nat.zero_add]
          simpa [List.getD, hi'] using this
        clear hO hg hA HT
        go_wp2_with fail
        refine (differentF_any _ c cc (fT zs) _ HR.out h0 (by omega) HVT.out).mono ?_
        rintro e w2 ⟨⟨g2, c2, rfl, hg2, hh2, hs2⟩, b2⟩
        have HF : Hid (FRow w2 (some ⟨g2, 0, none⟩) (tS zs).length (tS zs) ∧ Own w2 w.heap.size (some ⟨g2, 0, none⟩) (tS zs).length 23) := by
          refine ⟨hh2.row hs2.lt ?_ ?_, .inr ⟨g2, rfl, Nat.le_trans hB.out.size hg2, hs2⟩⟩
          · have q1 := tS_len zs
            have q2 := H.out.1
            show (tS zs).length ≤ _
            unfold maxLen; omega
          · intro z hz
            have hz2 : z ∈ tS zs := hz
            exact (HVT.out z ((ordF_perm _).mem_iff.1 (compact_mem hz2))).2
        have B2 := Lib.hid (hB.out.trans (b2.mono hB.out.size))
        have HRW : Hid (Go.Lib.compact (ordF (fT zs)) = tS zs) := rfl
        rw [HRW.out]
        clear hg2 hh2 hs2 b2 hB
        go_wp2_with fail
        go_ret
        first
          | exact ⟨⟨_, _, rfl, HF.out.1, HF.out.2⟩, B2.out⟩
          | exact ⟨⟨_, ⟨_, rfl⟩, HF.out.1, HF.out.2⟩, B2.out⟩
      · have hc0 : c = 0 := by omega
        subst hc0
        obtain rfl := hz.out rfl
        have HE : Hid (tS zs = []) := by
          have e0 : fT zs = [] := List.eq_nil_of_length_eq_zero hcl.out.symm
          show tS zs = []
          unfold tS
          rw [e0]
          exact tS_none
        clear hO hcl HT hz h0
        go_wp2_with fail
        refine (differentN_any _).mono ?_
        rintro e w2 ⟨rfl, rfl⟩
        go_wp2_with fail
        go_ret
        rw [HE.out]
        refine ⟨⟨none, 0, rfl, ⟨rfl, by decide, by intro z hz; simp at hz, fun i hi => absurd hi (by simp)⟩, .inl rfl⟩, hB.out⟩
end Go.Proofs.Ytplfmdjccmhclab
