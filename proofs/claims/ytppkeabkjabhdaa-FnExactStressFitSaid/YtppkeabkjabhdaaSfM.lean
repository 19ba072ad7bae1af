/-
  The line of lives over stresses, in the model, for each kind. Conditions: the lists read as lists of numbers, of the same length of at most 2^20.
-/
import Derived.Test.YtppkeabkjabhdaaSfS
import Derived.Test.YtppkeabkjabhdaaCrW
import Derived.Maps.AppendAt
import Derived.OwnWalk
namespace Go.Proofs.Ytppkeabkjabhdaa
open Go.RowKit Flt Dec Cm We Cr
theorem sf_neg1 {kd : Int} {S L : List Nat} {k : Nat} (hk : k < S.length) (h : pos (S.getD k 0) = false) : sf0 kd S L = false := by
  unfold sf0; rw [all_false hk h]; simp
theorem sf_neg2 {kd : Int} {S L : List Nat} {k : Nat} (hk : k < L.length) (h : pos (L.getD k 0) = false) : sf0 kd S L = false := by
  unfold sf0; rw [all_false hk h]; simp
set_option maxRecDepth 100000 in
set_option maxHeartbeats 8000000 in
theorem sSfYes0_any (a : Option Addr) (n ca : Nat) (S : List Nat) (b : Option Addr) (cb : Nat) (L : List Nat) (w : World) (h : FRow w a n S) (g : FRow w b n L) (hn : n ≤ 1048576) :
    Calls Try.prog 47 #[.int .i64 0, .slice a n ca, .slice b n cb] w fun e w' => e = .returned (.tuple #[.float .f32 (sfB 0 S L), .float .f32 (sfM 0 S L), .bool (sfC 0 S L)]) ∧ Below w.heap.size w w' := by
  obtain ⟨i0, hi, hz0, hz1, hz2⟩ := info_parts (show (Try.prog.info? 31).map (fun i => (i.zero, i.size, i.bytes)) = some (some (.float .f32 0), 1, 4) by kernel_rfl)
  have hSL : S.length = n := h.1
  have hLL : L.length = n := g.1
  have HS := Lib.hid h
  have HL := Lib.hid g
  have HNS : Hid (∀ k, k < n → pos (S.getD k 0) = false → sfC 0 S L = false ∧ sfB 0 S L = 0 ∧ sfM 0 S L = 0) := Lib.hid fun k hk hq => sf_no (sf_neg1 (by rw [hSL]; exact hk) hq)
  have HNL : Hid (∀ k, k < n → pos (L.getD k 0) = false → sfC 0 S L = false ∧ sfB 0 S L = 0 ∧ sfM 0 S L = 0) := Lib.hid fun k hk hq => sf_no (sf_neg2 (by rw [hLL]; exact hk) hq)
  have HEND : Hid ((∀ k, k < n → pos (S.getD k 0) = true) → (∀ k, k < n → pos (L.getD k 0) = true) → ∀ X Y : List Nat, X.length = n → Y.length = n → (∀ j, j < n → F32.Is (sfp 0 S j) (X.getD j 0)) → (∀ j, j < n → F32.Is (sfp 1 L j) (Y.getD j 0)) → sfC 0 S L = plC X Y ∧ sfB 0 S L = (if plC X Y then (plB X Y).getD 0 else 0) ∧ sfM 0 S L = (if plC X Y then (plS X Y).getD 0 else 0)) := Lib.hid fun k1 k2 X Y hx hy gx gy => sf_end (by unfold sf0; rw [hSL, hLL, all_from (by rw [hSL]; exact k1), all_from (by rw [hLL]; exact k2)]; simp) hSL hx hy gx gy
  have HKN : Hid (n ≤ 1048576) := hn
  have HX0 : Hid (((w.alloc (.cells #[] 31)).alloc (.cells #[] 31)).ownsRow w.heap.size 31 1 (.slice (some ⟨w.heap.size, 0, none⟩) 0 0) 0 (fv [])) := Lib.hid ((World.ownsRow_made w #[] 0 (Nat.le_refl _) (Nat.zero_le _) rfl).alloc _)
  have HY0 : Hid (((w.alloc (.cells #[] 31)).alloc (.cells #[] 31)).ownsRow w.heap.size 31 1 (.slice (some ⟨w.heap.size + 1, 0, none⟩) 0 0) 0 (fv [])) := by
    have := World.ownsRow_made (e := 31) (size := 1) (base := w.heap.size) (w.alloc (.cells #[] 31)) #[] 0 (by rw [World.size_alloc]; exact Nat.le_succ _) (Nat.zero_le _) rfl
    rw [World.size_alloc] at this
    exact this
  have HB0 : Hid (Below w.heap.size w ((w.alloc (.cells #[] 31)).alloc (.cells #[] 31))) := Lib.hid (((Below.refl _ w).alloc (Nat.le_refl _) _).alloc (by rw [World.size_alloc]; exact Nat.le_succ _) _)
  have hxx : ((n : Int) != (n : Int)) = false := by simp
  obtain ⟨ya, hya⟩ : ∃ y, sfB 0 S L = y := ⟨_, rfl⟩
  obtain ⟨yb, hyb⟩ : ∃ y, sfM 0 S L = y := ⟨_, rfl⟩
  obtain ⟨yc, hyc⟩ : ∃ y, sfC 0 S L = y := ⟨_, rfl⟩
  rw [hya, hyb, hyc] at HNS HNL HEND
  rw [hya, hyb, hyc]
  clear h g hSL hLL hya hyb hyc hn
  go_enter Try.func47, Try.ntmps47
  go_wp2_with fail
  refine (c_In 0 0 2 _).mono ?_
  rintro e w0 ⟨rfl, rfl⟩
  rw [show decide ((0 : Int) ≤ 0 ∧ (0 : Int) ≤ 2) = true by decide]
  go_wp2_with fail
  go_loopg [9, 10, 31] n (fun q vx vy vi wr => ∃ (k : Nat) (ax ay : Option Addr) (cx cy : Nat) (X Y : List Nat), vx = .slice ax k cx ∧ vy = .slice ay k cy ∧ vi = .int .i64 (k : Int) ∧ Hid (k + q = n) ∧ k ≤ n ∧ Hid (X.length = k) ∧ Hid (Y.length = k) ∧ Hid (∀ j, j < k → F32.Is (sfp 0 S j) (X.getD j 0) ∧ X.getD j 0 < 4294967296) ∧ Hid (∀ j, j < k → F32.Is (sfp 1 L j) (Y.getD j 0) ∧ Y.getD j 0 < 4294967296) ∧ Hid (∀ j, j < k → pos (S.getD j 0) = true ∧ pos (L.getD j 0) = true) ∧ Hid (wr.ownsRow w.heap.size 31 1 (.slice ax k cx) k (fv X)) ∧ Hid (wr.ownsRow w.heap.size 31 1 (.slice ay k cy) k (fv Y)) ∧ Hid (∀ q, (Value.slice ax k cx).ownBlock = some q → (Value.slice ay k cy).ownBlock ≠ some q) ∧ Hid (Below w.heap.size w wr))
  case atStart => exact ⟨0, _, _, _, _, [], [], rfl, rfl, rfl, by show _ = _; omega, Nat.zero_le _, rfl, rfl, (show Hid _ from fun j hj => absurd hj (Nat.not_lt_zero _)), (show Hid _ from fun j hj => absurd hj (Nat.not_lt_zero _)), (show Hid _ from fun j hj => absurd hj (Nat.not_lt_zero _)), HX0.out, HY0.out, (show Hid _ from fun q h1 h2 => by simp [Value.ownBlock] at h1 h2; omega), HB0.out⟩
  case round =>
    clear HX0 HY0 HB0
    obtain ⟨k, ax, ay, cx, cy, X, Y, rfl, rfl, rfl, hk, hkl, hX, hY, hIX, hIY, hP, hOX, hOY, hDJ, hB⟩ := hrel
    by_cases hlt : k < n
    · have HJ : Hid (k + 1 + (gk - 1) = n) := by have := hk.out; show _ = _; omega
      have HG : Hid (gk - 1 < gk) := by have := hk.out; show _ < _; omega
      obtain ⟨b1, o1, rfl, hb1, hc1⟩ := (HS.out.keep hB.out).2.2.2 k hlt
      obtain ⟨b2, o2, rfl, hb2, hc2⟩ := (HL.out.keep hB.out).2.2.2 k hlt
      have HSW := Lib.hid (lt_at HS.out hlt)
      have HLW := Lib.hid (lt_at HL.out hlt)
      obtain ⟨b1', o1', e1', hb1w, _⟩ := HS.out.2.2.2 k hlt
      cases e1'
      obtain ⟨b2', o2', e2', hb2w, _⟩ := HL.out.2.2.2 k hlt
      cases e2'
      have HB2 := Lib.hid hb2w
      have HNSK := Lib.hid (HNS.out k hlt)
      have HNLK := Lib.hid (HNL.out k hlt)
      have HPK : Hid (pos (S.getD k 0) = true → pos (L.getD k 0) = true → ∀ j, j < k + 1 → pos (S.getD j 0) = true ∧ pos (L.getD j 0) = true) := Lib.hid fun p1 p2 j hj => by
        by_cases e : j = k
        · subst e; exact ⟨p1, p2⟩
        · exact hP.out j (by omega)
      have HPV : Hid (sfp 0 S k = F32.opO .quo (some 1065353216) (some (S.getD k 0))) := Lib.hid rfl
      have HPL : Hid (sfp 1 L k = logOut (L.getD k 0)) := Lib.hid rfl
      generalize S.getD k 0 = s at *
      generalize L.getD k 0 = l at *
      clear hb1 hb2 hb1w hb2w hk hP
      go_wp2_with fail
      refine (c_specAbove s _).mono ?_
      rintro e w1 ⟨rfl, d1⟩
      have D1 := Lib.hid d1
      have hc3 := (d1.cell _).trans hc1
      have hc4 := (d1.cell _).trans hc2
      clear d1
      cases hp1 : pos s with
      | false =>
        have HM := Lib.hid (HNSK.out hp1)
        clear hp1
        go_wp2_with fail
        go_returns
        rw [HM.out.1, HM.out.2.1, HM.out.2.2]
        exact ⟨rfl, hB.out.trans (D1.out.below _)⟩
      | true =>
        have HP1 := Lib.hid hp1
        clear hp1
        go_wp2_with fail
        refine (c_specAbove l _).mono ?_
        rintro e w2 ⟨rfl, d2⟩
        have D2 := Lib.hid (D1.out.trans d2)
        have hc5 := (d2.cell _).trans hc3
        have hc6 := (d2.cell _).trans hc4
        clear d2 D1 hc3 hc4 hc1 hc2
        cases hp2 : pos l with
        | false =>
          have HM := Lib.hid (HNLK.out hp2)
          clear hp2
          go_wp2_with fail
          go_returns
          rw [HM.out.1, HM.out.2.1, HM.out.2.2]
          exact ⟨rfl, hB.out.trans (D2.out.below _)⟩
        | true =>
          have HP2 := Lib.hid hp2
          have HPN := Lib.hid (HPK.out HP1.out hp2)
          clear hp2 HPK HNSK HNLK
          have h1I : F32.Is (some 1065353216) 1065353216 := ⟨rfl, by decide, by decide⟩
          obtain ⟨x, v3, r3, j3, l3, d3⟩ := F32.arith_ex (P := Try.prog) (op := .quo) (.inr (.inr (.inr rfl))) 31 h1I (fin_isN (pos_fin HP1.out) HSW.out) w2
          have D3 := Lib.hid d3
          have JX : Hid (F32.Is (sfp 0 S k) x ∧ x < 4294967296) := by show F32.Is _ _ ∧ _; rw [HPV.out]; exact ⟨j3, l3⟩
          clear d3 j3 l3 h1I
          have HLIV : Hid (v3.cell? ⟨b2, o2 + k, none⟩ = some (.float .f32 l)) := Lib.hid ((D3.out.cell _).trans hc6)
          have HOX3 := Lib.hid (owned_drawn (owned_drawn hOX.out D2.out) D3.out)
          have HOY3 := Lib.hid (owned_drawn (owned_drawn hOY.out D2.out) D3.out)
          have HB3 := Lib.hid ((hB.out.trans (D2.out.below _)).trans (D3.out.below _))
          have HOX1 := Lib.hid (HOX3.out.alloc (.cells #[.float .f32 x] 31))
          have HOY1 := Lib.hid (HOY3.out.alloc (.cells #[.float .f32 x] 31))
          have HB1 := Lib.hid (HB3.out.alloc HB3.out.size (.cells #[.float .f32 x] 31))
          have HCELL := Lib.hid (Cm.cell_new1 v3 31 (.float .f32 x))
          have HLE2 : Hid (k + 1 ≤ maxLen ∧ (k + 1) * 4 ≤ 140737488355328) := (show k + 1 ≤ maxLen ∧ (k + 1) * 4 ≤ 140737488355328 from by have := HKN.out; exact ⟨(by unfold maxLen; omega), (by omega)⟩)
          have HCL1 : Hid ((v3.alloc (.cells #[.float .f32 x] 31)).cell? ⟨b2, o2 + k, none⟩ = some (.float .f32 l)) := Lib.hid ((((Below.refl v3.heap.size v3).alloc (Nat.le_refl _) (.cells #[.float .f32 x] 31)).cell (Nat.lt_of_lt_of_le HB2.out HB3.out.size)).trans HLIV.out)
          clear hc6 D2 D3 hOX hOY hB HOX3 HOY3 HB3 HLIV
          go_wp2_with (at_builtin; refine wpList_append_own_at _ rfl _ _ 30 rfl w.heap.size 31 i0 (.float .f32 0) 1 4 Try.underlying30 hi hz0 hz1 hz2 rfl (by decide) (.slice ax k cx) k (fv X) rfl HOX1.out ⟨v3.heap.size, 0, none⟩ 1 1 [.float .f32 x] rfl rfl HCELL.out (by intro u hu; simp at hu; subst hu; rfl) HLE2.out.1 HLE2.out.2 HB1.out.size ?_)
          intro vx w4 hown' hgrow _ hat
          have HOX2 : Hid (w4.ownsRow w.heap.size 31 1 vx (k + 1) (fv (X ++ [x]))) := by
            show World.ownsRow _ _ _ _ _ _ _
            rw [Cm.fv_snoc]; exact hown'
          have hne : (Value.slice ay k cy).ownBlock ≠ (Value.slice ax k cx).ownBlock ∨ (Value.slice ay k cy).ownBlock = none := by
            cases hq : (Value.slice ay k cy).ownBlock with
            | none => exact .inr rfl
            | some q => exact .inl fun e => hDJ.out q e.symm hq
          have HOY2 : Hid (w4.ownsRow w.heap.size 31 1 (.slice ay k cy) k (fv Y)) := Lib.hid (HOY1.out.kept hgrow hne.symm)
          have HDJ2 : Hid (∀ q, vx.ownBlock = some q → (Value.slice ay k cy).ownBlock ≠ some q) := Lib.hid fun q h1 h2 => by
            rcases hat with h3 | h3
            · exact hDJ.out q (h3 ▸ h1) h2
            · rw [h3] at h1
              cases h1
              have := (HOY1.out.lt _ h2).2
              rw [World.size_alloc] at this
              omega
          have HB4 : Hid (Below w.heap.size w w4) := Lib.hid (HB1.out.grown hgrow HB1.out.size (fun q hq => (HOX1.out.lt q hq).1))
          have hcl4 : w4.cell? ⟨b2, o2 + k, none⟩ = some (.float .f32 l) := hgrow.cell HCL1.out (by intro e; have h1 := (HOX1.out.lt _ e.symm).1; have h2 := HB2.out; simp only at h1; omega)
          clear hc5 hown' hgrow hat hne HOX1 HOY1 HB1 HCELL HCL1 hDJ
          obtain ⟨ax', cx', rfl⟩ := Cm.owns_shape HOX2.out
          go_wp2_with fail
          refine (specLogN_any l HLW.out _).mono ?_
          rintro e w5 ⟨y, rfl, iy, d5⟩
          have JY : Hid (F32.Is (sfp 1 L k) y ∧ y < 4294967296) := by
            obtain ⟨v, hv⟩ := log_pos HP2.out HLW.out
            rw [hv] at iy
            show F32.Is _ _ ∧ _
            rw [HPL.out, hv]
            exact ⟨iy, iy.2.2⟩
          have HOX5 := Lib.hid ((owned_drawn HOX2.out d5).alloc (.cells #[.float .f32 y] 31))
          have HOY5 := Lib.hid ((owned_drawn HOY2.out d5).alloc (.cells #[.float .f32 y] 31))
          have HB5 := Lib.hid ((HB4.out.trans (d5.below _)).alloc (HB4.out.trans (d5.below _)).size (.cells #[.float .f32 y] 31))
          have HCELL := Lib.hid (Cm.cell_new1 w5 31 (.float .f32 y))
          clear d5 iy hcl4 HOX2 HOY2 HB4
          go_wp2_with (at_builtin; refine wpList_append_own_at _ rfl _ _ 30 rfl w.heap.size 31 i0 (.float .f32 0) 1 4 Try.underlying30 hi hz0 hz1 hz2 rfl (by decide) (.slice ay k cy) k (fv Y) rfl HOY5.out ⟨w5.heap.size, 0, none⟩ 1 1 [.float .f32 y] rfl rfl HCELL.out (by intro u hu; simp at hu; subst hu; rfl) HLE2.out.1 HLE2.out.2 HB5.out.size ?_)
          intro vy w6 hown' hgrow _ hat
          have HOY6 : Hid (w6.ownsRow w.heap.size 31 1 vy (k + 1) (fv (Y ++ [y]))) := by
            show World.ownsRow _ _ _ _ _ _ _
            rw [Cm.fv_snoc]; exact hown'
          have hne : (Value.slice ax' (k + 1) cx').ownBlock = none ∨ (Value.slice ax' (k + 1) cx').ownBlock ≠ (Value.slice ay k cy).ownBlock := by
            cases hq : (Value.slice ax' (k + 1) cx').ownBlock with
            | none => exact .inl rfl
            | some q => exact .inr fun e => HDJ2.out q hq e.symm
          have HOX6 : Hid (w6.ownsRow w.heap.size 31 1 (.slice ax' (k + 1) cx') (k + 1) (fv (X ++ [x]))) := Lib.hid (HOX5.out.kept hgrow hne)
          have HDJ6 : Hid (∀ q, (Value.slice ax' (k + 1) cx').ownBlock = some q → vy.ownBlock ≠ some q) := Lib.hid fun q h1 h2 => by
            rcases hat with h3 | h3
            · exact HDJ2.out q h1 (h3 ▸ h2)
            · rw [h3] at h2
              cases h2
              have := (HOX5.out.lt _ h1).2
              rw [World.size_alloc] at this
              omega
          have HB6 : Hid (Below w.heap.size w w6) := Lib.hid (HB5.out.grown hgrow HB5.out.size (fun q hq => (HOY5.out.lt q hq).1))
          clear hown' hgrow hat hne HOX5 HOY5 HB5 HCELL HDJ2
          obtain ⟨ay', cy', rfl⟩ := Cm.owns_shape HOY6.out
          have HZX : Hid ((X ++ [x]).length = k + 1) := by show _ = _; rw [List.length_append, hX.out]; rfl
          have HZY : Hid ((Y ++ [y]).length = k + 1) := by show _ = _; rw [List.length_append, hY.out]; rfl
          have HIX2 : Hid (∀ j, j < k + 1 → F32.Is (sfp 0 S j) ((X ++ [x]).getD j 0) ∧ (X ++ [x]).getD j 0 < 4294967296) := by
            show ∀ j, _
            intro j hj
            by_cases ej : j = k
            · rw [ej, snoc_last X x hX.out]; exact JX.out
            · rw [snoc_old X x (by rw [hX.out]; omega)]; exact hIX.out j (by omega)
          have HIY2 : Hid (∀ j, j < k + 1 → F32.Is (sfp 1 L j) ((Y ++ [y]).getD j 0) ∧ (Y ++ [y]).getD j 0 < 4294967296) := by
            show ∀ j, _
            intro j hj
            by_cases ej : j = k
            · rw [ej, snoc_last Y y hY.out]; exact JY.out
            · rw [snoc_old Y y (by rw [hY.out]; omega)]; exact hIY.out j (by omega)
          have hnn : n ≤ 1048576 := HKN.out
          go_wp2_with fail
          go_roundg (gk - 1)
          case measure => exact HG.out
          case rel => exact ⟨k + 1, ax', ay', cx', cy', X ++ [x], Y ++ [y], rfl, rfl, by go_num, HJ, by omega, HZX.out, HZY.out, HIX2.out, HIY2.out, HPN.out, HOX6.out, HOY6.out, HDJ6.out, HB6.out⟩
    · obtain rfl : k = n := by omega
      have HRX := Lib.hid (Cm.row_owned hOX.out hX.out HKN.out (lt_mem hX.out fun j hj => (hIX.out j hj).2))
      have HRY := Lib.hid (Cm.row_owned hOY.out hY.out HKN.out (lt_mem hY.out fun j hj => (hIY.out j hj).2))
      have HE := Lib.hid (HEND.out (fun j hj => (hP.out j hj).1) (fun j hj => (hP.out j hj).2) X Y hX.out hY.out (fun j hj => (hIX.out j hj).1) (fun j hj => (hIY.out j hj).1))
      clear hk hkl hlt hOX hOY
      go_wp2_with fail
      refine (sLine_any ax k cx X ay k cy Y _ HRX.out HRY.out).mono ?_
      rintro e w1 ⟨⟨x, y, z, rfl, hx⟩, d1⟩
      have HX := Lib.hid hx
      have HD := Lib.hid (hB.out.trans (d1.below _))
      clear d1 hx
      obtain ⟨hc, hb, hm⟩ := HE.out
      cases hq : plC X Y with
      | false =>
        rw [hq] at hc hb hm
        have HC := Lib.hid hc
        have HBB := Lib.hid (hb.trans (if_neg (show ¬ (false = true) by decide)))
        have HMM := Lib.hid (hm.trans (if_neg (show ¬ (false = true) by decide)))
        clear hc hb hm hq
        go_wp2_with fail
        go_returns
        rw [HC.out, HBB.out, HMM.out]
        exact ⟨rfl, HD.out⟩
      | true =>
        rw [hq] at hc hb hm
        have HC := Lib.hid hc
        have HBB := Lib.hid (hb.trans ((if_pos rfl).trans (HX.out hq).1.symm))
        have HMM := Lib.hid (hm.trans ((if_pos rfl).trans (HX.out hq).2.1.symm))
        clear hc hb hm hq
        go_wp2_with fail
        go_returns
        rw [HC.out, HBB.out, HMM.out]
        exact ⟨rfl, HD.out⟩
set_option maxRecDepth 100000 in
set_option maxHeartbeats 8000000 in
theorem sSfYes1_any (a : Option Addr) (n ca : Nat) (S : List Nat) (b : Option Addr) (cb : Nat) (L : List Nat) (w : World) (h : FRow w a n S) (g : FRow w b n L) (hn : n ≤ 1048576) :
    Calls Try.prog 47 #[.int .i64 1, .slice a n ca, .slice b n cb] w fun e w' => e = .returned (.tuple #[.float .f32 (sfB 1 S L), .float .f32 (sfM 1 S L), .bool (sfC 1 S L)]) ∧ Below w.heap.size w w' := by
  obtain ⟨i0, hi, hz0, hz1, hz2⟩ := info_parts (show (Try.prog.info? 31).map (fun i => (i.zero, i.size, i.bytes)) = some (some (.float .f32 0), 1, 4) by kernel_rfl)
  have hSL : S.length = n := h.1
  have hLL : L.length = n := g.1
  have HS := Lib.hid h
  have HL := Lib.hid g
  have HNS : Hid (∀ k, k < n → pos (S.getD k 0) = false → sfC 1 S L = false ∧ sfB 1 S L = 0 ∧ sfM 1 S L = 0) := Lib.hid fun k hk hq => sf_no (sf_neg1 (by rw [hSL]; exact hk) hq)
  have HNL : Hid (∀ k, k < n → pos (L.getD k 0) = false → sfC 1 S L = false ∧ sfB 1 S L = 0 ∧ sfM 1 S L = 0) := Lib.hid fun k hk hq => sf_no (sf_neg2 (by rw [hLL]; exact hk) hq)
  have HEND : Hid ((∀ k, k < n → pos (S.getD k 0) = true) → (∀ k, k < n → pos (L.getD k 0) = true) → ∀ X Y : List Nat, X.length = n → Y.length = n → (∀ j, j < n → F32.Is (sfp 1 S j) (X.getD j 0)) → (∀ j, j < n → F32.Is (sfp 1 L j) (Y.getD j 0)) → sfC 1 S L = plC X Y ∧ sfB 1 S L = (if plC X Y then (plB X Y).getD 0 else 0) ∧ sfM 1 S L = (if plC X Y then (plS X Y).getD 0 else 0)) := Lib.hid fun k1 k2 X Y hx hy gx gy => sf_end (by unfold sf0; rw [hSL, hLL, all_from (by rw [hSL]; exact k1), all_from (by rw [hLL]; exact k2)]; simp) hSL hx hy gx gy
  have HKN : Hid (n ≤ 1048576) := hn
  have HX0 : Hid (((w.alloc (.cells #[] 31)).alloc (.cells #[] 31)).ownsRow w.heap.size 31 1 (.slice (some ⟨w.heap.size, 0, none⟩) 0 0) 0 (fv [])) := Lib.hid ((World.ownsRow_made w #[] 0 (Nat.le_refl _) (Nat.zero_le _) rfl).alloc _)
  have HY0 : Hid (((w.alloc (.cells #[] 31)).alloc (.cells #[] 31)).ownsRow w.heap.size 31 1 (.slice (some ⟨w.heap.size + 1, 0, none⟩) 0 0) 0 (fv [])) := by
    have := World.ownsRow_made (e := 31) (size := 1) (base := w.heap.size) (w.alloc (.cells #[] 31)) #[] 0 (by rw [World.size_alloc]; exact Nat.le_succ _) (Nat.zero_le _) rfl
    rw [World.size_alloc] at this
    exact this
  have HB0 : Hid (Below w.heap.size w ((w.alloc (.cells #[] 31)).alloc (.cells #[] 31))) := Lib.hid (((Below.refl _ w).alloc (Nat.le_refl _) _).alloc (by rw [World.size_alloc]; exact Nat.le_succ _) _)
  have hxx : ((n : Int) != (n : Int)) = false := by simp
  obtain ⟨ya, hya⟩ : ∃ y, sfB 1 S L = y := ⟨_, rfl⟩
  obtain ⟨yb, hyb⟩ : ∃ y, sfM 1 S L = y := ⟨_, rfl⟩
  obtain ⟨yc, hyc⟩ : ∃ y, sfC 1 S L = y := ⟨_, rfl⟩
  rw [hya, hyb, hyc] at HNS HNL HEND
  rw [hya, hyb, hyc]
  clear h g hSL hLL hya hyb hyc hn
  go_enter Try.func47, Try.ntmps47
  go_wp2_with fail
  refine (c_In 1 0 2 _).mono ?_
  rintro e w0 ⟨rfl, rfl⟩
  rw [show decide ((0 : Int) ≤ 1 ∧ (1 : Int) ≤ 2) = true by decide]
  go_wp2_with fail
  go_loopg [9, 10, 31] n (fun q vx vy vi wr => ∃ (k : Nat) (ax ay : Option Addr) (cx cy : Nat) (X Y : List Nat), vx = .slice ax k cx ∧ vy = .slice ay k cy ∧ vi = .int .i64 (k : Int) ∧ Hid (k + q = n) ∧ k ≤ n ∧ Hid (X.length = k) ∧ Hid (Y.length = k) ∧ Hid (∀ j, j < k → F32.Is (sfp 1 S j) (X.getD j 0) ∧ X.getD j 0 < 4294967296) ∧ Hid (∀ j, j < k → F32.Is (sfp 1 L j) (Y.getD j 0) ∧ Y.getD j 0 < 4294967296) ∧ Hid (∀ j, j < k → pos (S.getD j 0) = true ∧ pos (L.getD j 0) = true) ∧ Hid (wr.ownsRow w.heap.size 31 1 (.slice ax k cx) k (fv X)) ∧ Hid (wr.ownsRow w.heap.size 31 1 (.slice ay k cy) k (fv Y)) ∧ Hid (∀ q, (Value.slice ax k cx).ownBlock = some q → (Value.slice ay k cy).ownBlock ≠ some q) ∧ Hid (Below w.heap.size w wr))
  case atStart => exact ⟨0, _, _, _, _, [], [], rfl, rfl, rfl, by show _ = _; omega, Nat.zero_le _, rfl, rfl, (show Hid _ from fun j hj => absurd hj (Nat.not_lt_zero _)), (show Hid _ from fun j hj => absurd hj (Nat.not_lt_zero _)), (show Hid _ from fun j hj => absurd hj (Nat.not_lt_zero _)), HX0.out, HY0.out, (show Hid _ from fun q h1 h2 => by simp [Value.ownBlock] at h1 h2; omega), HB0.out⟩
  case round =>
    clear HX0 HY0 HB0
    obtain ⟨k, ax, ay, cx, cy, X, Y, rfl, rfl, rfl, hk, hkl, hX, hY, hIX, hIY, hP, hOX, hOY, hDJ, hB⟩ := hrel
    by_cases hlt : k < n
    · have HJ : Hid (k + 1 + (gk - 1) = n) := by have := hk.out; show _ = _; omega
      have HG : Hid (gk - 1 < gk) := by have := hk.out; show _ < _; omega
      obtain ⟨b1, o1, rfl, hb1, hc1⟩ := (HS.out.keep hB.out).2.2.2 k hlt
      obtain ⟨b2, o2, rfl, hb2, hc2⟩ := (HL.out.keep hB.out).2.2.2 k hlt
      have HSW := Lib.hid (lt_at HS.out hlt)
      have HLW := Lib.hid (lt_at HL.out hlt)
      obtain ⟨b1', o1', e1', hb1w, _⟩ := HS.out.2.2.2 k hlt
      cases e1'
      obtain ⟨b2', o2', e2', hb2w, _⟩ := HL.out.2.2.2 k hlt
      cases e2'
      have HB2 := Lib.hid hb2w
      have HNSK := Lib.hid (HNS.out k hlt)
      have HNLK := Lib.hid (HNL.out k hlt)
      have HPK : Hid (pos (S.getD k 0) = true → pos (L.getD k 0) = true → ∀ j, j < k + 1 → pos (S.getD j 0) = true ∧ pos (L.getD j 0) = true) := Lib.hid fun p1 p2 j hj => by
        by_cases e : j = k
        · subst e; exact ⟨p1, p2⟩
        · exact hP.out j (by omega)
      have HPV : Hid (sfp 1 S k = logOut (S.getD k 0)) := Lib.hid rfl
      have HPL : Hid (sfp 1 L k = logOut (L.getD k 0)) := Lib.hid rfl
      generalize S.getD k 0 = s at *
      generalize L.getD k 0 = l at *
      clear hb1 hb2 hb1w hb2w hk hP
      go_wp2_with fail
      refine (c_specAbove s _).mono ?_
      rintro e w1 ⟨rfl, d1⟩
      have D1 := Lib.hid d1
      have hc3 := (d1.cell _).trans hc1
      have hc4 := (d1.cell _).trans hc2
      clear d1
      cases hp1 : pos s with
      | false =>
        have HM := Lib.hid (HNSK.out hp1)
        clear hp1
        go_wp2_with fail
        go_returns
        rw [HM.out.1, HM.out.2.1, HM.out.2.2]
        exact ⟨rfl, hB.out.trans (D1.out.below _)⟩
      | true =>
        have HP1 := Lib.hid hp1
        clear hp1
        go_wp2_with fail
        refine (c_specAbove l _).mono ?_
        rintro e w2 ⟨rfl, d2⟩
        have D2 := Lib.hid (D1.out.trans d2)
        have hc5 := (d2.cell _).trans hc3
        have hc6 := (d2.cell _).trans hc4
        clear d2 D1 hc3 hc4 hc1 hc2
        cases hp2 : pos l with
        | false =>
          have HM := Lib.hid (HNLK.out hp2)
          clear hp2
          go_wp2_with fail
          go_returns
          rw [HM.out.1, HM.out.2.1, HM.out.2.2]
          exact ⟨rfl, hB.out.trans (D2.out.below _)⟩
        | true =>
          have HP2 := Lib.hid hp2
          have HPN := Lib.hid (HPK.out HP1.out hp2)
          clear hp2 HPK HNSK HNLK
          go_wp2_with fail
          refine (specLogN_any s HSW.out _).mono ?_
          rintro e v3 ⟨x, rfl, ix, d3⟩
          have D3 := Lib.hid d3
          have JX : Hid (F32.Is (sfp 1 S k) x ∧ x < 4294967296) := by
            obtain ⟨v, hv⟩ := log_pos HP1.out HSW.out
            rw [hv] at ix
            show F32.Is _ _ ∧ _
            rw [HPV.out, hv]
            exact ⟨ix, ix.2.2⟩
          clear d3 ix
          have HLIV : Hid (v3.cell? ⟨b2, o2 + k, none⟩ = some (.float .f32 l)) := Lib.hid ((D3.out.cell _).trans hc6)
          have HOX3 := Lib.hid (owned_drawn (owned_drawn hOX.out D2.out) D3.out)
          have HOY3 := Lib.hid (owned_drawn (owned_drawn hOY.out D2.out) D3.out)
          have HB3 := Lib.hid ((hB.out.trans (D2.out.below _)).trans (D3.out.below _))
          have HOX1 := Lib.hid (HOX3.out.alloc (.cells #[.float .f32 x] 31))
          have HOY1 := Lib.hid (HOY3.out.alloc (.cells #[.float .f32 x] 31))
          have HB1 := Lib.hid (HB3.out.alloc HB3.out.size (.cells #[.float .f32 x] 31))
          have HCELL := Lib.hid (Cm.cell_new1 v3 31 (.float .f32 x))
          have HLE2 : Hid (k + 1 ≤ maxLen ∧ (k + 1) * 4 ≤ 140737488355328) := (show k + 1 ≤ maxLen ∧ (k + 1) * 4 ≤ 140737488355328 from by have := HKN.out; exact ⟨(by unfold maxLen; omega), (by omega)⟩)
          have HCL1 : Hid ((v3.alloc (.cells #[.float .f32 x] 31)).cell? ⟨b2, o2 + k, none⟩ = some (.float .f32 l)) := Lib.hid ((((Below.refl v3.heap.size v3).alloc (Nat.le_refl _) (.cells #[.float .f32 x] 31)).cell (Nat.lt_of_lt_of_le HB2.out HB3.out.size)).trans HLIV.out)
          clear hc6 D2 D3 hOX hOY hB HOX3 HOY3 HB3 HLIV
          go_wp2_with (at_builtin; refine wpList_append_own_at _ rfl _ _ 30 rfl w.heap.size 31 i0 (.float .f32 0) 1 4 Try.underlying30 hi hz0 hz1 hz2 rfl (by decide) (.slice ax k cx) k (fv X) rfl HOX1.out ⟨v3.heap.size, 0, none⟩ 1 1 [.float .f32 x] rfl rfl HCELL.out (by intro u hu; simp at hu; subst hu; rfl) HLE2.out.1 HLE2.out.2 HB1.out.size ?_)
          intro vx w4 hown' hgrow _ hat
          have HOX2 : Hid (w4.ownsRow w.heap.size 31 1 vx (k + 1) (fv (X ++ [x]))) := by
            show World.ownsRow _ _ _ _ _ _ _
            rw [Cm.fv_snoc]; exact hown'
          have hne : (Value.slice ay k cy).ownBlock ≠ (Value.slice ax k cx).ownBlock ∨ (Value.slice ay k cy).ownBlock = none := by
            cases hq : (Value.slice ay k cy).ownBlock with
            | none => exact .inr rfl
            | some q => exact .inl fun e => hDJ.out q e.symm hq
          have HOY2 : Hid (w4.ownsRow w.heap.size 31 1 (.slice ay k cy) k (fv Y)) := Lib.hid (HOY1.out.kept hgrow hne.symm)
          have HDJ2 : Hid (∀ q, vx.ownBlock = some q → (Value.slice ay k cy).ownBlock ≠ some q) := Lib.hid fun q h1 h2 => by
            rcases hat with h3 | h3
            · exact hDJ.out q (h3 ▸ h1) h2
            · rw [h3] at h1
              cases h1
              have := (HOY1.out.lt _ h2).2
              rw [World.size_alloc] at this
              omega
          have HB4 : Hid (Below w.heap.size w w4) := Lib.hid (HB1.out.grown hgrow HB1.out.size (fun q hq => (HOX1.out.lt q hq).1))
          have hcl4 : w4.cell? ⟨b2, o2 + k, none⟩ = some (.float .f32 l) := hgrow.cell HCL1.out (by intro e; have h1 := (HOX1.out.lt _ e.symm).1; have h2 := HB2.out; simp only at h1; omega)
          clear hc5 hown' hgrow hat hne HOX1 HOY1 HB1 HCELL HCL1 hDJ
          obtain ⟨ax', cx', rfl⟩ := Cm.owns_shape HOX2.out
          go_wp2_with fail
          refine (specLogN_any l HLW.out _).mono ?_
          rintro e w5 ⟨y, rfl, iy, d5⟩
          have JY : Hid (F32.Is (sfp 1 L k) y ∧ y < 4294967296) := by
            obtain ⟨v, hv⟩ := log_pos HP2.out HLW.out
            rw [hv] at iy
            show F32.Is _ _ ∧ _
            rw [HPL.out, hv]
            exact ⟨iy, iy.2.2⟩
          have HOX5 := Lib.hid ((owned_drawn HOX2.out d5).alloc (.cells #[.float .f32 y] 31))
          have HOY5 := Lib.hid ((owned_drawn HOY2.out d5).alloc (.cells #[.float .f32 y] 31))
          have HB5 := Lib.hid ((HB4.out.trans (d5.below _)).alloc (HB4.out.trans (d5.below _)).size (.cells #[.float .f32 y] 31))
          have HCELL := Lib.hid (Cm.cell_new1 w5 31 (.float .f32 y))
          clear d5 iy hcl4 HOX2 HOY2 HB4
          go_wp2_with (at_builtin; refine wpList_append_own_at _ rfl _ _ 30 rfl w.heap.size 31 i0 (.float .f32 0) 1 4 Try.underlying30 hi hz0 hz1 hz2 rfl (by decide) (.slice ay k cy) k (fv Y) rfl HOY5.out ⟨w5.heap.size, 0, none⟩ 1 1 [.float .f32 y] rfl rfl HCELL.out (by intro u hu; simp at hu; subst hu; rfl) HLE2.out.1 HLE2.out.2 HB5.out.size ?_)
          intro vy w6 hown' hgrow _ hat
          have HOY6 : Hid (w6.ownsRow w.heap.size 31 1 vy (k + 1) (fv (Y ++ [y]))) := by
            show World.ownsRow _ _ _ _ _ _ _
            rw [Cm.fv_snoc]; exact hown'
          have hne : (Value.slice ax' (k + 1) cx').ownBlock = none ∨ (Value.slice ax' (k + 1) cx').ownBlock ≠ (Value.slice ay k cy).ownBlock := by
            cases hq : (Value.slice ax' (k + 1) cx').ownBlock with
            | none => exact .inl rfl
            | some q => exact .inr fun e => HDJ2.out q hq e.symm
          have HOX6 : Hid (w6.ownsRow w.heap.size 31 1 (.slice ax' (k + 1) cx') (k + 1) (fv (X ++ [x]))) := Lib.hid (HOX5.out.kept hgrow hne)
          have HDJ6 : Hid (∀ q, (Value.slice ax' (k + 1) cx').ownBlock = some q → vy.ownBlock ≠ some q) := Lib.hid fun q h1 h2 => by
            rcases hat with h3 | h3
            · exact HDJ2.out q h1 (h3 ▸ h2)
            · rw [h3] at h2
              cases h2
              have := (HOX5.out.lt _ h1).2
              rw [World.size_alloc] at this
              omega
          have HB6 : Hid (Below w.heap.size w w6) := Lib.hid (HB5.out.grown hgrow HB5.out.size (fun q hq => (HOY5.out.lt q hq).1))
          clear hown' hgrow hat hne HOX5 HOY5 HB5 HCELL HDJ2
          obtain ⟨ay', cy', rfl⟩ := Cm.owns_shape HOY6.out
          have HZX : Hid ((X ++ [x]).length = k + 1) := by show _ = _; rw [List.length_append, hX.out]; rfl
          have HZY : Hid ((Y ++ [y]).length = k + 1) := by show _ = _; rw [List.length_append, hY.out]; rfl
          have HIX2 : Hid (∀ j, j < k + 1 → F32.Is (sfp 1 S j) ((X ++ [x]).getD j 0) ∧ (X ++ [x]).getD j 0 < 4294967296) := by
            show ∀ j, _
            intro j hj
            by_cases ej : j = k
            · rw [ej, snoc_last X x hX.out]; exact JX.out
            · rw [snoc_old X x (by rw [hX.out]; omega)]; exact hIX.out j (by omega)
          have HIY2 : Hid (∀ j, j < k + 1 → F32.Is (sfp 1 L j) ((Y ++ [y]).getD j 0) ∧ (Y ++ [y]).getD j 0 < 4294967296) := by
            show ∀ j, _
            intro j hj
            by_cases ej : j = k
            · rw [ej, snoc_last Y y hY.out]; exact JY.out
            · rw [snoc_old Y y (by rw [hY.out]; omega)]; exact hIY.out j (by omega)
          have hnn : n ≤ 1048576 := HKN.out
          go_wp2_with fail
          go_roundg (gk - 1)
          case measure => exact HG.out
          case rel => exact ⟨k + 1, ax', ay', cx', cy', X ++ [x], Y ++ [y], rfl, rfl, by go_num, HJ, by omega, HZX.out, HZY.out, HIX2.out, HIY2.out, HPN.out, HOX6.out, HOY6.out, HDJ6.out, HB6.out⟩
    · obtain rfl : k = n := by omega
      have HRX := Lib.hid (Cm.row_owned hOX.out hX.out HKN.out (lt_mem hX.out fun j hj => (hIX.out j hj).2))
      have HRY := Lib.hid (Cm.row_owned hOY.out hY.out HKN.out (lt_mem hY.out fun j hj => (hIY.out j hj).2))
      have HE := Lib.hid (HEND.out (fun j hj => (hP.out j hj).1) (fun j hj => (hP.out j hj).2) X Y hX.out hY.out (fun j hj => (hIX.out j hj).1) (fun j hj => (hIY.out j hj).1))
      clear hk hkl hlt hOX hOY
      go_wp2_with fail
      refine (sLine_any ax k cx X ay k cy Y _ HRX.out HRY.out).mono ?_
      rintro e w1 ⟨⟨x, y, z, rfl, hx⟩, d1⟩
      have HX := Lib.hid hx
      have HD := Lib.hid (hB.out.trans (d1.below _))
      clear d1 hx
      obtain ⟨hc, hb, hm⟩ := HE.out
      cases hq : plC X Y with
      | false =>
        rw [hq] at hc hb hm
        have HC := Lib.hid hc
        have HBB := Lib.hid (hb.trans (if_neg (show ¬ (false = true) by decide)))
        have HMM := Lib.hid (hm.trans (if_neg (show ¬ (false = true) by decide)))
        clear hc hb hm hq
        go_wp2_with fail
        go_returns
        rw [HC.out, HBB.out, HMM.out]
        exact ⟨rfl, HD.out⟩
      | true =>
        rw [hq] at hc hb hm
        have HC := Lib.hid hc
        have HBB := Lib.hid (hb.trans ((if_pos rfl).trans (HX.out hq).1.symm))
        have HMM := Lib.hid (hm.trans ((if_pos rfl).trans (HX.out hq).2.1.symm))
        clear hc hb hm hq
        go_wp2_with fail
        go_returns
        rw [HC.out, HBB.out, HMM.out]
        exact ⟨rfl, HD.out⟩
set_option maxRecDepth 100000 in
set_option maxHeartbeats 8000000 in
theorem sSfYes2_any (a : Option Addr) (n ca : Nat) (S : List Nat) (b : Option Addr) (cb : Nat) (L : List Nat) (w : World) (h : FRow w a n S) (g : FRow w b n L) (hn : n ≤ 1048576) :
    Calls Try.prog 47 #[.int .i64 2, .slice a n ca, .slice b n cb] w fun e w' => e = .returned (.tuple #[.float .f32 (sfB 2 S L), .float .f32 (sfM 2 S L), .bool (sfC 2 S L)]) ∧ Below w.heap.size w w' := by
  obtain ⟨i0, hi, hz0, hz1, hz2⟩ := info_parts (show (Try.prog.info? 31).map (fun i => (i.zero, i.size, i.bytes)) = some (some (.float .f32 0), 1, 4) by kernel_rfl)
  have hSL : S.length = n := h.1
  have hLL : L.length = n := g.1
  have HS := Lib.hid h
  have HL := Lib.hid g
  have HNS : Hid (∀ k, k < n → pos (S.getD k 0) = false → sfC 2 S L = false ∧ sfB 2 S L = 0 ∧ sfM 2 S L = 0) := Lib.hid fun k hk hq => sf_no (sf_neg1 (by rw [hSL]; exact hk) hq)
  have HNL : Hid (∀ k, k < n → pos (L.getD k 0) = false → sfC 2 S L = false ∧ sfB 2 S L = 0 ∧ sfM 2 S L = 0) := Lib.hid fun k hk hq => sf_no (sf_neg2 (by rw [hLL]; exact hk) hq)
  have HEND : Hid ((∀ k, k < n → pos (S.getD k 0) = true) → (∀ k, k < n → pos (L.getD k 0) = true) → ∀ X Y : List Nat, X.length = n → Y.length = n → (∀ j, j < n → F32.Is (sfp 2 S j) (X.getD j 0)) → (∀ j, j < n → F32.Is (sfp 1 L j) (Y.getD j 0)) → sfC 2 S L = plC X Y ∧ sfB 2 S L = (if plC X Y then (plB X Y).getD 0 else 0) ∧ sfM 2 S L = (if plC X Y then (plS X Y).getD 0 else 0)) := Lib.hid fun k1 k2 X Y hx hy gx gy => sf_end (by unfold sf0; rw [hSL, hLL, all_from (by rw [hSL]; exact k1), all_from (by rw [hLL]; exact k2)]; simp) hSL hx hy gx gy
  have HKN : Hid (n ≤ 1048576) := hn
  have HX0 : Hid (((w.alloc (.cells #[] 31)).alloc (.cells #[] 31)).ownsRow w.heap.size 31 1 (.slice (some ⟨w.heap.size, 0, none⟩) 0 0) 0 (fv [])) := Lib.hid ((World.ownsRow_made w #[] 0 (Nat.le_refl _) (Nat.zero_le _) rfl).alloc _)
  have HY0 : Hid (((w.alloc (.cells #[] 31)).alloc (.cells #[] 31)).ownsRow w.heap.size 31 1 (.slice (some ⟨w.heap.size + 1, 0, none⟩) 0 0) 0 (fv [])) := by
    have := World.ownsRow_made (e := 31) (size := 1) (base := w.heap.size) (w.alloc (.cells #[] 31)) #[] 0 (by rw [World.size_alloc]; exact Nat.le_succ _) (Nat.zero_le _) rfl
    rw [World.size_alloc] at this
    exact this
  have HB0 : Hid (Below w.heap.size w ((w.alloc (.cells #[] 31)).alloc (.cells #[] 31))) := Lib.hid (((Below.refl _ w).alloc (Nat.le_refl _) _).alloc (by rw [World.size_alloc]; exact Nat.le_succ _) _)
  have hxx : ((n : Int) != (n : Int)) = false := by simp
  obtain ⟨ya, hya⟩ : ∃ y, sfB 2 S L = y := ⟨_, rfl⟩
  obtain ⟨yb, hyb⟩ : ∃ y, sfM 2 S L = y := ⟨_, rfl⟩
  obtain ⟨yc, hyc⟩ : ∃ y, sfC 2 S L = y := ⟨_, rfl⟩
  rw [hya, hyb, hyc] at HNS HNL HEND
  rw [hya, hyb, hyc]
  clear h g hSL hLL hya hyb hyc hn
  go_enter Try.func47, Try.ntmps47
  go_wp2_with fail
  refine (c_In 2 0 2 _).mono ?_
  rintro e w0 ⟨rfl, rfl⟩
  rw [show decide ((0 : Int) ≤ 2 ∧ (2 : Int) ≤ 2) = true by decide]
  go_wp2_with fail
  go_loopg [9, 10, 31] n (fun q vx vy vi wr => ∃ (k : Nat) (ax ay : Option Addr) (cx cy : Nat) (X Y : List Nat), vx = .slice ax k cx ∧ vy = .slice ay k cy ∧ vi = .int .i64 (k : Int) ∧ Hid (k + q = n) ∧ k ≤ n ∧ Hid (X.length = k) ∧ Hid (Y.length = k) ∧ Hid (∀ j, j < k → F32.Is (sfp 2 S j) (X.getD j 0) ∧ X.getD j 0 < 4294967296) ∧ Hid (∀ j, j < k → F32.Is (sfp 1 L j) (Y.getD j 0) ∧ Y.getD j 0 < 4294967296) ∧ Hid (∀ j, j < k → pos (S.getD j 0) = true ∧ pos (L.getD j 0) = true) ∧ Hid (wr.ownsRow w.heap.size 31 1 (.slice ax k cx) k (fv X)) ∧ Hid (wr.ownsRow w.heap.size 31 1 (.slice ay k cy) k (fv Y)) ∧ Hid (∀ q, (Value.slice ax k cx).ownBlock = some q → (Value.slice ay k cy).ownBlock ≠ some q) ∧ Hid (Below w.heap.size w wr))
  case atStart => exact ⟨0, _, _, _, _, [], [], rfl, rfl, rfl, by show _ = _; omega, Nat.zero_le _, rfl, rfl, (show Hid _ from fun j hj => absurd hj (Nat.not_lt_zero _)), (show Hid _ from fun j hj => absurd hj (Nat.not_lt_zero _)), (show Hid _ from fun j hj => absurd hj (Nat.not_lt_zero _)), HX0.out, HY0.out, (show Hid _ from fun q h1 h2 => by simp [Value.ownBlock] at h1 h2; omega), HB0.out⟩
  case round =>
    clear HX0 HY0 HB0
    obtain ⟨k, ax, ay, cx, cy, X, Y, rfl, rfl, rfl, hk, hkl, hX, hY, hIX, hIY, hP, hOX, hOY, hDJ, hB⟩ := hrel
    by_cases hlt : k < n
    · have HJ : Hid (k + 1 + (gk - 1) = n) := by have := hk.out; show _ = _; omega
      have HG : Hid (gk - 1 < gk) := by have := hk.out; show _ < _; omega
      obtain ⟨b1, o1, rfl, hb1, hc1⟩ := (HS.out.keep hB.out).2.2.2 k hlt
      obtain ⟨b2, o2, rfl, hb2, hc2⟩ := (HL.out.keep hB.out).2.2.2 k hlt
      have HSW := Lib.hid (lt_at HS.out hlt)
      have HLW := Lib.hid (lt_at HL.out hlt)
      obtain ⟨b1', o1', e1', hb1w, _⟩ := HS.out.2.2.2 k hlt
      cases e1'
      obtain ⟨b2', o2', e2', hb2w, _⟩ := HL.out.2.2.2 k hlt
      cases e2'
      have HB2 := Lib.hid hb2w
      have HNSK := Lib.hid (HNS.out k hlt)
      have HNLK := Lib.hid (HNL.out k hlt)
      have HPK : Hid (pos (S.getD k 0) = true → pos (L.getD k 0) = true → ∀ j, j < k + 1 → pos (S.getD j 0) = true ∧ pos (L.getD j 0) = true) := Lib.hid fun p1 p2 j hj => by
        by_cases e : j = k
        · subst e; exact ⟨p1, p2⟩
        · exact hP.out j (by omega)
      have HPV : Hid (sfp 2 S k = some (S.getD k 0)) := Lib.hid rfl
      have HPL : Hid (sfp 1 L k = logOut (L.getD k 0)) := Lib.hid rfl
      generalize S.getD k 0 = s at *
      generalize L.getD k 0 = l at *
      clear hb1 hb2 hb1w hb2w hk hP
      go_wp2_with fail
      refine (c_specAbove s _).mono ?_
      rintro e w1 ⟨rfl, d1⟩
      have D1 := Lib.hid d1
      have hc3 := (d1.cell _).trans hc1
      have hc4 := (d1.cell _).trans hc2
      clear d1
      cases hp1 : pos s with
      | false =>
        have HM := Lib.hid (HNSK.out hp1)
        clear hp1
        go_wp2_with fail
        go_returns
        rw [HM.out.1, HM.out.2.1, HM.out.2.2]
        exact ⟨rfl, hB.out.trans (D1.out.below _)⟩
      | true =>
        have HP1 := Lib.hid hp1
        clear hp1
        go_wp2_with fail
        refine (c_specAbove l _).mono ?_
        rintro e w2 ⟨rfl, d2⟩
        have D2 := Lib.hid (D1.out.trans d2)
        have hc5 := (d2.cell _).trans hc3
        have hc6 := (d2.cell _).trans hc4
        clear d2 D1 hc3 hc4 hc1 hc2
        cases hp2 : pos l with
        | false =>
          have HM := Lib.hid (HNLK.out hp2)
          clear hp2
          go_wp2_with fail
          go_returns
          rw [HM.out.1, HM.out.2.1, HM.out.2.2]
          exact ⟨rfl, hB.out.trans (D2.out.below _)⟩
        | true =>
          have HP2 := Lib.hid hp2
          have HPN := Lib.hid (HPK.out HP1.out hp2)
          clear hp2 HPK HNSK HNLK
          obtain ⟨x, hx⟩ : ∃ x, x = s := ⟨s, rfl⟩
          obtain ⟨v3, hv3⟩ : ∃ v, v = w2 := ⟨w2, rfl⟩
          have D3 : Hid (Drawn w2 v3) := by show Drawn _ _; rw [hv3]; exact Drawn.refl _
          have JX : Hid (F32.Is (sfp 2 S k) x ∧ x < 4294967296) := by show F32.Is _ _ ∧ _; rw [HPV.out, hx]; exact ⟨fin_isN (pos_fin HP1.out) HSW.out, HSW.out⟩
          subst hx hv3
          have HLIV : Hid (v3.cell? ⟨b2, o2 + k, none⟩ = some (.float .f32 l)) := Lib.hid ((D3.out.cell _).trans hc6)
          have HOX3 := Lib.hid (owned_drawn (owned_drawn hOX.out D2.out) D3.out)
          have HOY3 := Lib.hid (owned_drawn (owned_drawn hOY.out D2.out) D3.out)
          have HB3 := Lib.hid ((hB.out.trans (D2.out.below _)).trans (D3.out.below _))
          have HOX1 := Lib.hid (HOX3.out.alloc (.cells #[.float .f32 x] 31))
          have HOY1 := Lib.hid (HOY3.out.alloc (.cells #[.float .f32 x] 31))
          have HB1 := Lib.hid (HB3.out.alloc HB3.out.size (.cells #[.float .f32 x] 31))
          have HCELL := Lib.hid (Cm.cell_new1 v3 31 (.float .f32 x))
          have HLE2 : Hid (k + 1 ≤ maxLen ∧ (k + 1) * 4 ≤ 140737488355328) := (show k + 1 ≤ maxLen ∧ (k + 1) * 4 ≤ 140737488355328 from by have := HKN.out; exact ⟨(by unfold maxLen; omega), (by omega)⟩)
          have HCL1 : Hid ((v3.alloc (.cells #[.float .f32 x] 31)).cell? ⟨b2, o2 + k, none⟩ = some (.float .f32 l)) := Lib.hid ((((Below.refl v3.heap.size v3).alloc (Nat.le_refl _) (.cells #[.float .f32 x] 31)).cell (Nat.lt_of_lt_of_le HB2.out HB3.out.size)).trans HLIV.out)
          clear hc6 D2 D3 hOX hOY hB HOX3 HOY3 HB3 HLIV
          go_wp2_with (at_builtin; refine wpList_append_own_at _ rfl _ _ 30 rfl w.heap.size 31 i0 (.float .f32 0) 1 4 Try.underlying30 hi hz0 hz1 hz2 rfl (by decide) (.slice ax k cx) k (fv X) rfl HOX1.out ⟨v3.heap.size, 0, none⟩ 1 1 [.float .f32 x] rfl rfl HCELL.out (by intro u hu; simp at hu; subst hu; rfl) HLE2.out.1 HLE2.out.2 HB1.out.size ?_)
          intro vx w4 hown' hgrow _ hat
          have HOX2 : Hid (w4.ownsRow w.heap.size 31 1 vx (k + 1) (fv (X ++ [x]))) := by
            show World.ownsRow _ _ _ _ _ _ _
            rw [Cm.fv_snoc]; exact hown'
          have hne : (Value.slice ay k cy).ownBlock ≠ (Value.slice ax k cx).ownBlock ∨ (Value.slice ay k cy).ownBlock = none := by
            cases hq : (Value.slice ay k cy).ownBlock with
            | none => exact .inr rfl
            | some q => exact .inl fun e => hDJ.out q e.symm hq
          have HOY2 : Hid (w4.ownsRow w.heap.size 31 1 (.slice ay k cy) k (fv Y)) := Lib.hid (HOY1.out.kept hgrow hne.symm)
          have HDJ2 : Hid (∀ q, vx.ownBlock = some q → (Value.slice ay k cy).ownBlock ≠ some q) := Lib.hid fun q h1 h2 => by
            rcases hat with h3 | h3
            · exact hDJ.out q (h3 ▸ h1) h2
            · rw [h3] at h1
              cases h1
              have := (HOY1.out.lt _ h2).2
              rw [World.size_alloc] at this
              omega
          have HB4 : Hid (Below w.heap.size w w4) := Lib.hid (HB1.out.grown hgrow HB1.out.size (fun q hq => (HOX1.out.lt q hq).1))
          have hcl4 : w4.cell? ⟨b2, o2 + k, none⟩ = some (.float .f32 l) := hgrow.cell HCL1.out (by intro e; have h1 := (HOX1.out.lt _ e.symm).1; have h2 := HB2.out; simp only at h1; omega)
          clear hc5 hown' hgrow hat hne HOX1 HOY1 HB1 HCELL HCL1 hDJ
          obtain ⟨ax', cx', rfl⟩ := Cm.owns_shape HOX2.out
          go_wp2_with fail
          refine (specLogN_any l HLW.out _).mono ?_
          rintro e w5 ⟨y, rfl, iy, d5⟩
          have JY : Hid (F32.Is (sfp 1 L k) y ∧ y < 4294967296) := by
            obtain ⟨v, hv⟩ := log_pos HP2.out HLW.out
            rw [hv] at iy
            show F32.Is _ _ ∧ _
            rw [HPL.out, hv]
            exact ⟨iy, iy.2.2⟩
          have HOX5 := Lib.hid ((owned_drawn HOX2.out d5).alloc (.cells #[.float .f32 y] 31))
          have HOY5 := Lib.hid ((owned_drawn HOY2.out d5).alloc (.cells #[.float .f32 y] 31))
          have HB5 := Lib.hid ((HB4.out.trans (d5.below _)).alloc (HB4.out.trans (d5.below _)).size (.cells #[.float .f32 y] 31))
          have HCELL := Lib.hid (Cm.cell_new1 w5 31 (.float .f32 y))
          clear d5 iy hcl4 HOX2 HOY2 HB4
          go_wp2_with (at_builtin; refine wpList_append_own_at _ rfl _ _ 30 rfl w.heap.size 31 i0 (.float .f32 0) 1 4 Try.underlying30 hi hz0 hz1 hz2 rfl (by decide) (.slice ay k cy) k (fv Y) rfl HOY5.out ⟨w5.heap.size, 0, none⟩ 1 1 [.float .f32 y] rfl rfl HCELL.out (by intro u hu; simp at hu; subst hu; rfl) HLE2.out.1 HLE2.out.2 HB5.out.size ?_)
          intro vy w6 hown' hgrow _ hat
          have HOY6 : Hid (w6.ownsRow w.heap.size 31 1 vy (k + 1) (fv (Y ++ [y]))) := by
            show World.ownsRow _ _ _ _ _ _ _
            rw [Cm.fv_snoc]; exact hown'
          have hne : (Value.slice ax' (k + 1) cx').ownBlock = none ∨ (Value.slice ax' (k + 1) cx').ownBlock ≠ (Value.slice ay k cy).ownBlock := by
            cases hq : (Value.slice ax' (k + 1) cx').ownBlock with
            | none => exact .inl rfl
            | some q => exact .inr fun e => HDJ2.out q hq e.symm
          have HOX6 : Hid (w6.ownsRow w.heap.size 31 1 (.slice ax' (k + 1) cx') (k + 1) (fv (X ++ [x]))) := Lib.hid (HOX5.out.kept hgrow hne)
          have HDJ6 : Hid (∀ q, (Value.slice ax' (k + 1) cx').ownBlock = some q → vy.ownBlock ≠ some q) := Lib.hid fun q h1 h2 => by
            rcases hat with h3 | h3
            · exact HDJ2.out q h1 (h3 ▸ h2)
            · rw [h3] at h2
              cases h2
              have := (HOX5.out.lt _ h1).2
              rw [World.size_alloc] at this
              omega
          have HB6 : Hid (Below w.heap.size w w6) := Lib.hid (HB5.out.grown hgrow HB5.out.size (fun q hq => (HOY5.out.lt q hq).1))
          clear hown' hgrow hat hne HOX5 HOY5 HB5 HCELL HDJ2
          obtain ⟨ay', cy', rfl⟩ := Cm.owns_shape HOY6.out
          have HZX : Hid ((X ++ [x]).length = k + 1) := by show _ = _; rw [List.length_append, hX.out]; rfl
          have HZY : Hid ((Y ++ [y]).length = k + 1) := by show _ = _; rw [List.length_append, hY.out]; rfl
          have HIX2 : Hid (∀ j, j < k + 1 → F32.Is (sfp 2 S j) ((X ++ [x]).getD j 0) ∧ (X ++ [x]).getD j 0 < 4294967296) := by
            show ∀ j, _
            intro j hj
            by_cases ej : j = k
            · rw [ej, snoc_last X x hX.out]; exact JX.out
            · rw [snoc_old X x (by rw [hX.out]; omega)]; exact hIX.out j (by omega)
          have HIY2 : Hid (∀ j, j < k + 1 → F32.Is (sfp 1 L j) ((Y ++ [y]).getD j 0) ∧ (Y ++ [y]).getD j 0 < 4294967296) := by
            show ∀ j, _
            intro j hj
            by_cases ej : j = k
            · rw [ej, snoc_last Y y hY.out]; exact JY.out
            · rw [snoc_old Y y (by rw [hY.out]; omega)]; exact hIY.out j (by omega)
          have hnn : n ≤ 1048576 := HKN.out
          go_wp2_with fail
          go_roundg (gk - 1)
          case measure => exact HG.out
          case rel => exact ⟨k + 1, ax', ay', cx', cy', X ++ [x], Y ++ [y], rfl, rfl, by go_num, HJ, by omega, HZX.out, HZY.out, HIX2.out, HIY2.out, HPN.out, HOX6.out, HOY6.out, HDJ6.out, HB6.out⟩
    · obtain rfl : k = n := by omega
      have HRX := Lib.hid (Cm.row_owned hOX.out hX.out HKN.out (lt_mem hX.out fun j hj => (hIX.out j hj).2))
      have HRY := Lib.hid (Cm.row_owned hOY.out hY.out HKN.out (lt_mem hY.out fun j hj => (hIY.out j hj).2))
      have HE := Lib.hid (HEND.out (fun j hj => (hP.out j hj).1) (fun j hj => (hP.out j hj).2) X Y hX.out hY.out (fun j hj => (hIX.out j hj).1) (fun j hj => (hIY.out j hj).1))
      clear hk hkl hlt hOX hOY
      go_wp2_with fail
      refine (sLine_any ax k cx X ay k cy Y _ HRX.out HRY.out).mono ?_
      rintro e w1 ⟨⟨x, y, z, rfl, hx⟩, d1⟩
      have HX := Lib.hid hx
      have HD := Lib.hid (hB.out.trans (d1.below _))
      clear d1 hx
      obtain ⟨hc, hb, hm⟩ := HE.out
      cases hq : plC X Y with
      | false =>
        rw [hq] at hc hb hm
        have HC := Lib.hid hc
        have HBB := Lib.hid (hb.trans (if_neg (show ¬ (false = true) by decide)))
        have HMM := Lib.hid (hm.trans (if_neg (show ¬ (false = true) by decide)))
        clear hc hb hm hq
        go_wp2_with fail
        go_returns
        rw [HC.out, HBB.out, HMM.out]
        exact ⟨rfl, HD.out⟩
      | true =>
        rw [hq] at hc hb hm
        have HC := Lib.hid hc
        have HBB := Lib.hid (hb.trans ((if_pos rfl).trans (HX.out hq).1.symm))
        have HMM := Lib.hid (hm.trans ((if_pos rfl).trans (HX.out hq).2.1.symm))
        clear hc hb hm hq
        go_wp2_with fail
        go_returns
        rw [HC.out, HBB.out, HMM.out]
        exact ⟨rfl, HD.out⟩
end Go.Proofs.Ytppkeabkjabhdaa
