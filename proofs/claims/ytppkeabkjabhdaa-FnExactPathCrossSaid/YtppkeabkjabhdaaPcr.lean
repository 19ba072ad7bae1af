/-
  When a path is at a limit, in the model. Conditions: the lists read as lists of numbers.
-/
import Derived.Test.YtppkeabkjabhdaaLinI
import Derived.Test.YtppkeabkjabhdaaAsc
import Derived.Test.YtppkeabkjabhdaaRgt
namespace We
open Go Flt Dec F32 Cm
def px0 (T V : List Nat) (l : Nat) : Bool := pl0 T V && (ascW T && fin .f32 l)
def pxC (T V : List Nat) (l : Nat) : Bool := px0 T V l && V.any (geB l)
theorem px_p {T V : List Nat} {l : Nat} (h : pl0 T V = false) : pxC T V l = false := by unfold pxC px0; rw [h]; rfl
theorem px_a {T V : List Nat} {l : Nat} (h : ascW T = false) : pxC T V l = false := by unfold pxC px0; rw [h]; simp
theorem px_l {T V : List Nat} {l : Nat} (h : fin .f32 l = false) : pxC T V l = false := by unfold pxC px0; rw [h]; simp
theorem px_yes {T V : List Nat} {l : Nat} (h1 : pl0 T V = true) (h2 : ascW T = true) (h3 : fin .f32 l = true) : pxC T V l = V.any (geB l) := by unfold pxC px0; rw [h1, h2, h3]; rfl
theorem any_none {p : Nat → Bool} {Z : List Nat} {n : Nat} (hl : Z.length = n) (h : ∀ j, j < n → p (Z.getD j 0) = false) : Z.any p = false := by
  rw [Bool.eq_false_iff]
  intro hc
  obtain ⟨x, hx, hp⟩ := List.any_eq_true.1 hc
  obtain ⟨i, hi, rfl⟩ := List.getElem_of_mem hx
  have := h i (by omega)
  rw [show Z.getD i 0 = Z[i] by simp [List.getD, hi]] at this
  rw [this] at hp; cases hp
theorem any_some {p : Nat → Bool} {Z : List Nat} {k : Nat} (hk : k < Z.length) (h : p (Z.getD k 0) = true) : Z.any p = true := by
  refine List.any_eq_true.2 ⟨Z[k], List.getElem_mem hk, ?_⟩
  rw [show Z.getD k 0 = Z[k] by simp [List.getD, hk]] at h
  exact h
theorem fst_at {p : Nat → Bool} {Z : List Nat} {k : Nat} (hk : k < Z.length) (h : p (Z.getD k 0) = true) (g : ∀ j, j < k → p (Z.getD j 0) = false) : fst p Z = k := by
  unfold fst
  rw [List.findIdx_eq hk]
  refine ⟨?_, fun j hj => ?_⟩
  · rw [show Z.getD k 0 = Z[k] by simp [List.getD, hk]] at h; exact h
  · have hjl : j < Z.length := by omega
    have := g j hj
    rw [show Z.getD j 0 = Z[j] by simp [List.getD, hjl]] at this
    rw [this]
/-- the number that is told behind a crossing at k -/
theorem px_at {T V : List Nat} {l k : Nat} (h0 : px0 T V l = true) (hk : k < V.length) (h : geB l (V.getD k 0) = true) (g : ∀ j, j < k → geB l (V.getD j 0) = false) :
    okB (pxC T V l) (pcR T V l) = finO (pcO T V l k) ∧ okV (pxC T V l) (pcR T V l) = if finO (pcO T V l k) then (pcO T V l k).getD 0 else 0 := by
  have hc : pxC T V l = true := by unfold pxC; rw [h0, any_some hk h]; rfl
  have := ok_yes hc (pcR T V l)
  unfold pcR at this ⊢
  rw [fst_at hk h g] at this ⊢
  exact this
theorem px_none {T V : List Nat} {l n : Nat} (hl : V.length = n) (h : ∀ j, j < n → geB l (V.getD j 0) = false) : pxC T V l = false := by unfold pxC; rw [any_none hl h]; simp
theorem pcO_0 (T V : List Nat) (l : Nat) : pcO T V l 0 = at_ T 0 := if_pos rfl
theorem pcO_s (T V : List Nat) (l m : Nat) : pcO T V l (m + 1) = F32.opO .add (at_ T m) (F32.opO .mul (F32.opO .quo (F32.opO .sub (some l) (at_ V m)) (F32.opO .sub (at_ V (m + 1)) (at_ V m))) (F32.opO .sub (at_ T (m + 1)) (at_ T m))) := if_neg (Nat.succ_ne_zero m)
def pcqV (bv o2 k cb m l va vb : Nat) (p0 p1 : Option Nat) : Nat → Value → Prop
  | 0, v => v = .float .f32 l
  | 1, v => v = .slice (some ⟨bv, o2, none⟩) k cb
  | 2, v => v = .int .i64 ((m : Int) + 1)
  | 3, v => v = .int .i64 (m : Int)
  | 4, v => v = .pointer (some ⟨bv, o2 + m, none⟩)
  | 5, v => v = .float .f32 va
  | 6, v => ∃ zz, v = .float .f32 zz ∧ F32.Is (F32.opO .sub (some l) p0) zz ∧ zz < 4294967296
  | 7, v => v = .slice (some ⟨bv, o2, none⟩) k cb
  | 8, v => v = .int .i64 ((m : Int) + 1)
  | 9, v => v = .pointer (some ⟨bv, o2 + (m + 1), none⟩)
  | 10, v => v = .float .f32 vb
  | 11, v => v = .slice (some ⟨bv, o2, none⟩) k cb
  | 12, v => v = .int .i64 ((m : Int) + 1)
  | 13, v => v = .int .i64 (m : Int)
  | 14, v => v = .pointer (some ⟨bv, o2 + m, none⟩)
  | 15, v => v = .float .f32 va
  | 16, v => ∃ zz, v = .float .f32 zz ∧ F32.Is (F32.opO .sub p1 p0) zz ∧ zz < 4294967296
  | 17, v => ∃ zz, v = .float .f32 zz ∧ F32.Is (F32.opO .quo (F32.opO .sub (some l) p0) (F32.opO .sub p1 p0)) zz ∧ zz < 4294967296
  | 18, v => ∃ zz, v = .float .f32 zz ∧ F32.Is (F32.opO .quo (F32.opO .sub (some l) p0) (F32.opO .sub p1 p0)) zz ∧ zz < 4294967296
  | _, _ => True
def pcrV (bt o1 k ca m xs ta tb ya : Nat) (yb : Bool) (p0 p1 q : Option Nat) : Nat → Value → Prop
  | 0, v => v = .slice (some ⟨bt, o1, none⟩) k ca
  | 1, v => v = .int .i64 ((m : Int) + 1)
  | 2, v => v = .int .i64 (m : Int)
  | 3, v => v = .pointer (some ⟨bt, o1 + m, none⟩)
  | 4, v => v = .float .f32 ta
  | 5, v => v = .float .f32 xs
  | 6, v => v = .slice (some ⟨bt, o1, none⟩) k ca
  | 7, v => v = .int .i64 ((m : Int) + 1)
  | 8, v => v = .pointer (some ⟨bt, o1 + (m + 1), none⟩)
  | 9, v => v = .float .f32 tb
  | 10, v => v = .slice (some ⟨bt, o1, none⟩) k ca
  | 11, v => v = .int .i64 ((m : Int) + 1)
  | 12, v => v = .int .i64 (m : Int)
  | 13, v => v = .pointer (some ⟨bt, o1 + m, none⟩)
  | 14, v => v = .float .f32 ta
  | 15, v => ∃ zz, v = .float .f32 zz ∧ F32.Is (F32.opO .sub p1 p0) zz ∧ zz < 4294967296
  | 16, v => ∃ zz, v = .float .f32 zz ∧ F32.Is (F32.opO .mul q (F32.opO .sub p1 p0)) zz ∧ zz < 4294967296
  | 17, v => ∃ zz, v = .float .f32 zz ∧ F32.Is (F32.opO .add p0 (F32.opO .mul q (F32.opO .sub p1 p0))) zz ∧ zz < 4294967296
  | 18, v => v = .tuple #[.float .f32 ya, .bool yb]
  | 19, v => v = .float .f32 ya
  | 20, v => v = .bool yb
  | _, _ => True
end We
namespace Go.Proofs.Ytppkeabkjabhdaa
open Go.RowKit Flt Dec Cm We Cr
theorem cNum_at {o : Option Nat} {x ya : Nat} {yb : Bool} (hm : yb = F32.finO o ∧ ya = if F32.finO o then o.getD 0 else 0) (h : F32.Is o x) (W : World) : Calls Try.prog 65 #[.float .f32 x] W fun e w' => e = .returned (.tuple #[.float .f32 ya, .bool yb]) ∧ Drawn W w' := by
  refine (c_Number x W).mono ?_
  rintro e w' ⟨rfl, d⟩
  rw [(F32.fin_is h).2, (F32.fin_is h).1, hm.1, hm.2]
  exact ⟨rfl, d⟩
set_option maxRecDepth 100000 in
set_option maxHeartbeats 8000000 in
theorem sCrossYes_any (bt o1 bv o2 n ca cb : Nat) (T V : List Nat) (l : Nat) (w : World) (h : FRow w (some ⟨bt, o1, none⟩) n T) (g : FRow w (some ⟨bv, o2, none⟩) n V) (hll : l < 4294967296) (hn : 2 ≤ n ∧ n ≤ 48) (h1 : (T.all fun z => fin .f32 z) = true) (h2 : (V.all fun z => fin .f32 z) = true) (h3 : fin .f32 l = true) :
    Calls Try.prog 31 #[.slice (some ⟨bt, o1, none⟩) n ca, .slice (some ⟨bv, o2, none⟩) n cb, .float .f32 l] w fun e w' => e = .returned (.tuple #[.float .f32 (okV (pxC T V l) (pcR T V l)), .bool (okB (pxC T V l) (pcR T V l))]) ∧ Drawn w w' := by
  have hTL : T.length = n := h.1
  have hVL : V.length = n := g.1
  have HT := Lib.hid h
  have HV := Lib.hid g
  have H1 := Lib.hid h1
  have H2 := Lib.hid h2
  have H3 := Lib.hid h3
  have hp := pl_yes (T := T) (V := V) (by rw [hTL]; exact hn) (by rw [hTL, hVL]) h1 h2
  have HA : Hid (∀ m, m + 1 < n → gtW (T.getD (m + 1) 0) (T.getD m 0) = false → okB (pxC T V l) (pcR T V l) = false ∧ okV (pxC T V l) (pcR T V l) = 0) := Lib.hid fun m hm hq => ok_no (px_a (ascW_no (i := m + 1) (by omega) (by rw [hTL]; exact hm) hq)) _
  have HX : Hid ((∀ i, 1 ≤ i → i < n → gtW (T.getD i 0) (T.getD (i - 1) 0) = true) → ∀ k, k < n → geB l (V.getD k 0) = true → (∀ j, j < k → geB l (V.getD j 0) = false) → okB (pxC T V l) (pcR T V l) = F32.finO (pcO T V l k) ∧ okV (pxC T V l) (pcR T V l) = if F32.finO (pcO T V l k) then (pcO T V l k).getD 0 else 0) := Lib.hid fun ha k hk hg hj => px_at (by unfold px0; rw [hp, ascW_yes (by rw [hTL]; exact ha), h3]; rfl) (by rw [hVL]; exact hk) hg hj
  have HN : Hid ((∀ j, j < n → geB l (V.getD j 0) = false) → okB (pxC T V l) (pcR T V l) = false ∧ okV (pxC T V l) (pcR T V l) = 0) := Lib.hid fun hj => ok_no (px_none hVL hj) _
  have HTI : Hid (∀ k, k < n → F32.Is (at_ T k) (T.getD k 0)) := Lib.hid fun k hk => at_is h1 h hk
  have HVI : Hid (∀ k, k < n → F32.Is (at_ V k) (V.getD k 0)) := Lib.hid fun k hk => at_is h2 g hk
  have HLI : Hid (F32.Is (some l) l) := Lib.hid (fin_isN h3 hll)
  obtain ⟨ya, hy1⟩ : ∃ y, okV (pxC T V l) (pcR T V l) = y := ⟨_, rfl⟩
  obtain ⟨yb, hy2⟩ : ∃ y, okB (pxC T V l) (pcR T V l) = y := ⟨_, rfl⟩
  rw [hy1, hy2] at HA HX HN
  rw [hy1, hy2]
  have q1 : ¬ ((n : Int) < 2) := by omega
  have q2 : ¬ ((n : Int) > 48) := by omega
  have q3 : ((n : Int) != (n : Int)) = false := by simp
  clear h g h1 h2 h3 hTL hVL hp hy1 hy2
  go_enter Try.func31, Try.ntmps31
  go_wp2_with fail
  refine (specFinD_any _ n ca T _ HT.out (by omega)).mono ?_
  rintro e w1 ⟨rfl, d1⟩
  rw [H1.out]
  have D1 := Lib.hid d1
  clear d1
  go_wp2_with fail
  refine (specFinD_any _ n cb V _ (frow_drawn HV.out D1.out) (by omega)).mono ?_
  rintro e w2 ⟨rfl, d2⟩
  rw [H2.out]
  have D2 := Lib.hid (D1.out.trans d2)
  clear d2 D1
  go_wp2_with fail
  refine (specFinite_any l _).mono ?_
  rintro e w3 ⟨rfl, d3⟩
  rw [H3.out]
  have D3 := Lib.hid (D2.out.trans d3)
  clear d3 D2 q1 q2 q3
  go_wp2_with fail
  go_loopg [9] n (fun q i wr => ∃ k : Nat, i = .int .i64 (k : Int) ∧ Hid (k + q = n + 1) ∧ 1 ≤ k ∧ k ≤ n ∧ Hid (∀ i, 1 ≤ i → i < k → gtW (T.getD i 0) (T.getD (i - 1) 0) = true) ∧ Hid (Drawn w wr))
  case atStart => exact ⟨1, rfl, by show _ = _; omega, Nat.le_refl _, by omega, (show Hid _ from fun i h1 h2 => absurd h2 (by omega)), D3.out⟩
  case round =>
    clear D3
    obtain ⟨k, rfl, hk, hk1, hkl, hA, hD⟩ := hrel
    by_cases hlt : k < n
    · obtain ⟨m, rfl⟩ : ∃ m, k = m + 1 := ⟨k - 1, by omega⟩
      have HJ : Hid (m + 1 + 1 + (gk - 1) = n + 1) := by have := hk.out; show _ = _; omega
      have HG : Hid (gk - 1 < gk) := by have := hk.out; show _ < _; omega
      obtain ⟨b3, o3, he3, hbl3, hc3⟩ := (frow_drawn HT.out hD.out).2.2.2 (m + 1) hlt
      cases he3
      obtain ⟨b4, o4, he4, hbl4, hc4⟩ := (frow_drawn HT.out hD.out).2.2.2 m (by omega)
      cases he4
      have HNB := Lib.hid (HA.out m hlt)
      have HAY : Hid (gtW (T.getD (m + 1) 0) (T.getD m 0) = true → ∀ i, 1 ≤ i → i < m + 1 + 1 → gtW (T.getD i 0) (T.getD (i - 1) 0) = true) := Lib.hid fun hq i h1 h2 => by
        by_cases e : i = m + 1
        · subst e; exact hq
        · exact hA.out i h1 (by omega)
      clear hbl3 hbl4 hA
      generalize T.getD (m + 1) 0 = zt at *
      generalize T.getD m 0 = zp at *
      cases hq2 : gtW zt zp with
      | false =>
        have HM := Lib.hid (HNB.out hq2)
        unfold gtW at hq2
        clear HNB HAY hk HJ HG
        go_wp2_with fail
        go_quiet (fail)
        go_wp2_with fail
        go_ret2
        rw [HM.out.1, HM.out.2]
        exact ⟨rfl, hD.out.trans ⟨_, rfl⟩⟩
      | true =>
        have HAX := Lib.hid (HAY.out hq2)
        unfold gtW at hq2
        clear HNB HAY hk
        go_wp2_with fail
        go_quiet (fail)
        go_wp2_with fail
        go_roundg (gk - 1)
        case measure => exact HG.out
        case rel => exact ⟨m + 1 + 1, by go_num, HJ, by omega, by omega, HAX.out, hD.out.trans ⟨_, rfl⟩⟩
    · obtain rfl : k = n := by omega
      have HX2 := Lib.hid (HX.out hA.out)
      clear hk hk1 hkl hlt hA HA HX
      obtain ⟨b4, o4, he4, hbl4, hc4⟩ := (frow_drawn HV.out hD.out).2.2.2 0 (by omega)
      cases he4
      obtain ⟨b3, o3, he3, hbl3, hc3⟩ := (frow_drawn HT.out hD.out).2.2.2 0 (by omega)
      cases he3
      rw [Nat.add_zero] at hc3 hc4
      have HX0 := Lib.hid (HX2.out 0 (by omega))
      have HT0 := Lib.hid (HTI.out 0 (by omega))
      have HF0 : Hid (geB l (V.getD 0 0) = false → ∀ j, j < 1 → geB l (V.getD j 0) = false) := Lib.hid fun hq j hj => by
        have : j = 0 := by omega
        subst this; exact hq
      have HFO : Hid (fin .f32 (T.getD 0 0) = true) := Lib.hid (all_get H1.out (by rw [HT.out.1]; omega))
      have HO : Hid (pcO T V l 0 = some (T.getD 0 0)) := Lib.hid (pcO_0 T V l)
      generalize T.getD 0 0 = zt at *
      generalize V.getD 0 0 = zv at *
      generalize wr = wq at *
      clear hbl3 hbl4
      cases hq : geB l zv with
      | true =>
        have HM := Lib.hid (HX0.out hq (fun j hj => absurd hj (by omega)))
        unfold geB at hq
        clear HX0 HF0
        go_wp2_with fail
        go_ret2
        rw [HM.out.1, HM.out.2, HO.out, show F32.finO (some zt) = fin .f32 zt from rfl, HFO.out]
        exact ⟨rfl, hD.out⟩
      | false =>
        have HFX := Lib.hid (HF0.out hq)
        unfold geB at hq
        clear HX0 HF0 HT0 HO HFO
        go_wp2_with fail
        clear hc3 hc4 hq
        have hn1 : 1 ≤ k := by omega
        go_loopg [10] k (fun q i wr => ∃ p : Nat, i = .int .i64 (p : Int) ∧ Hid (p + q = k + 1) ∧ 1 ≤ p ∧ p ≤ k ∧ Hid (∀ j, j < p → geB l (V.getD j 0) = false) ∧ Hid (Drawn w wr))
        case atStart => exact ⟨1, rfl, by show _ = _; omega, Nat.le_refl _, hn1, HFX.out, hD.out⟩
        case round =>
          clear HFX hD
          obtain ⟨p, rfl, hk, hk1, hkl, hF, hD⟩ := hrel
          by_cases hlt : p < k
          · obtain ⟨m, rfl⟩ : ∃ m, p = m + 1 := ⟨p - 1, by omega⟩
            have hmk : m < k := by omega
            have HJ : Hid (m + 1 + 1 + (gk - 1) = k + 1) := by have := hk.out; show _ = _; omega
            have HG : Hid (gk - 1 < gk) := by have := hk.out; show _ < _; omega
            obtain ⟨b3, o3, he3, hbl3, hc3⟩ := (frow_drawn HV.out hD.out).2.2.2 (m + 1) hlt
            cases he3
            obtain ⟨b4, o4, he4, hbl4, hc4⟩ := (frow_drawn HV.out hD.out).2.2.2 m hmk
            cases he4
            obtain ⟨b5, o5, he5, hbl5, hc5⟩ := (frow_drawn HT.out hD.out).2.2.2 (m + 1) hlt
            cases he5
            obtain ⟨b6, o6, he6, hbl6, hc6⟩ := (frow_drawn HT.out hD.out).2.2.2 m hmk
            cases he6
            have HX0 := Lib.hid (HX2.out (m + 1) hlt)
            have HV1 := Lib.hid (HVI.out (m + 1) hlt)
            have HV0 := Lib.hid (HVI.out m hmk)
            have HT1 := Lib.hid (HTI.out (m + 1) hlt)
            have HT0 := Lib.hid (HTI.out m hmk)
            have HFY : Hid (geB l (V.getD (m + 1) 0) = false → ∀ j, j < m + 1 + 1 → geB l (V.getD j 0) = false) := Lib.hid fun hq j hj => by
              by_cases e : j = m + 1
              · subst e; exact hq
              · exact hF.out j (by omega)
            generalize V.getD (m + 1) 0 = vb at *
            generalize V.getD m 0 = va at *
            generalize T.getD (m + 1) 0 = tb at *
            generalize T.getD m 0 = ta at *
            clear hbl3 hbl4 hbl5 hbl6 hk
            cases hq : geB l vb with
            | false =>
              have HFX := Lib.hid (HFY.out hq)
              unfold geB at hq
              clear HX0 HFY hF
              go_wp2_with fail
              go_roundg (gk - 1)
              case measure => exact HG.out
              case rel => exact ⟨m + 1 + 1, by go_num, HJ, by omega, by omega, HFX.out, hD.out⟩
            | true =>
              have HM := Lib.hid (HX0.out hq hF.out)
              rw [pcO_s] at HM
              unfold geB at hq
              clear HX0 HFY hF HJ HG
              go_wp2_with fail
              refine wp_region_vals (C := fun w' => Drawn wr w') (V := pcqV bv o2 k cb m l va vb (at_ V m) (at_ V (m + 1))) (by kernel_rfl) (Drawn.one wr) (by kernel_rfl) ?_ ?_
              · intro i o ho A W hC hdep hbase
                have m0 : W.cell? ⟨bv, o2 + m, none⟩ = some (.float .f32 va) := by rw [hC.cell]; exact hc4
                have m1 : W.cell? ⟨bv, o2 + (m + 1), none⟩ = some (.float .f32 vb) := by rw [hC.cell]; exact hc3
                have hwm : IntKind.i64.wrap (m : Int) = (m : Int) := IntWalk.i64_in _ (by omega)
                rcases i with _ | _ | _ | _ | _ | _ | _ | _ | _ | _ | _ | _ | _ | _ | _ | _ | _ | _ | _ | i
                · obtain rfl := Option.some.inj ho
                  have b0 : A.tmps.getD 2 undef = .float .f32 l := hbase 2 (by kernel_rfl)
                  refine stepK (.float .f32 l) W rfl hC fun K hK => ?_
                  simp only [Array.getD_eq_getD_getElem?] at b0
                  unfold Oper.wp
                  go_simp
                  exact hK
                · obtain rfl := Option.some.inj ho
                  have b0 : A.tmps.getD 1 undef = .slice (some ⟨bv, o2, none⟩) k cb := hbase 1 (by kernel_rfl)
                  refine stepK (.slice (some ⟨bv, o2, none⟩) k cb) W rfl hC fun K hK => ?_
                  simp only [Array.getD_eq_getD_getElem?] at b0
                  unfold Oper.wp
                  go_simp
                  exact hK
                · obtain rfl := Option.some.inj ho
                  have b0 : A.tmps.getD 10 undef = .int .i64 ((m : Int) + 1) := hbase 10 (by kernel_rfl)
                  refine stepK (.int .i64 ((m : Int) + 1)) W rfl hC fun K hK => ?_
                  simp only [Array.getD_eq_getD_getElem?] at b0
                  unfold Oper.wp
                  go_simp
                  exact hK
                · obtain rfl := Option.some.inj ho
                  have b0 : A.tmps.getD 78 undef = .int .i64 ((m : Int) + 1) := hdep ⟨2, .data⟩ (by simp) rfl 78 rfl
                  refine stepK (.int .i64 (m : Int)) W rfl hC fun K hK => ?_
                  simp only [Array.getD_eq_getD_getElem?] at b0
                  unfold Oper.wp
                  go_simp
                  exact hK
                · obtain rfl := Option.some.inj ho
                  have b0 : A.tmps.getD 77 undef = .slice (some ⟨bv, o2, none⟩) k cb := hdep ⟨1, .data⟩ (by simp) rfl 77 rfl
                  have b1 : A.tmps.getD 79 undef = .int .i64 (m : Int) := hdep ⟨3, .data⟩ (by simp) rfl 79 rfl
                  refine stepK (.pointer (some ⟨bv, o2 + m, none⟩)) W rfl hC fun K hK => ?_
                  simp only [Array.getD_eq_getD_getElem?] at b0 b1
                  unfold Oper.wp
                  go_simp
                  exact hK
                · obtain rfl := Option.some.inj ho
                  have b0 : A.tmps.getD 80 undef = .pointer (some ⟨bv, o2 + m, none⟩) := hdep ⟨4, .data⟩ (by simp) rfl 80 rfl
                  refine stepK (.float .f32 va) W rfl hC fun K hK => ?_
                  simp only [Array.getD_eq_getD_getElem?] at b0
                  unfold Oper.wp
                  go_simp
                  exact hK
                · obtain rfl := Option.some.inj ho
                  have b0 : A.tmps.getD 76 undef = .float .f32 l := hdep ⟨0, .data⟩ (by simp) rfl 76 rfl
                  have b1 : A.tmps.getD 81 undef = .float .f32 va := hdep ⟨5, .data⟩ (by simp) rfl 81 rfl
                  obtain ⟨zr, W', hr, iz, lz, dz⟩ := F32.arith_ex (P := Try.prog) (op := .sub) (.inr (.inl rfl)) 31 (HLI.out) (HV0.out) W
                  refine stepK (.float .f32 zr) W' ⟨zr, rfl, iz, lz⟩ (hC.trans dz) fun K hK => ?_
                  simp only [Array.getD_eq_getD_getElem?] at b0 b1
                  unfold Oper.wp
                  go_simp
                  exact hK
                · obtain rfl := Option.some.inj ho
                  have b0 : A.tmps.getD 1 undef = .slice (some ⟨bv, o2, none⟩) k cb := hbase 1 (by kernel_rfl)
                  refine stepK (.slice (some ⟨bv, o2, none⟩) k cb) W rfl hC fun K hK => ?_
                  simp only [Array.getD_eq_getD_getElem?] at b0
                  unfold Oper.wp
                  go_simp
                  exact hK
                · obtain rfl := Option.some.inj ho
                  have b0 : A.tmps.getD 10 undef = .int .i64 ((m : Int) + 1) := hbase 10 (by kernel_rfl)
                  refine stepK (.int .i64 ((m : Int) + 1)) W rfl hC fun K hK => ?_
                  simp only [Array.getD_eq_getD_getElem?] at b0
                  unfold Oper.wp
                  go_simp
                  exact hK
                · obtain rfl := Option.some.inj ho
                  have b0 : A.tmps.getD 83 undef = .slice (some ⟨bv, o2, none⟩) k cb := hdep ⟨7, .data⟩ (by simp) rfl 83 rfl
                  have b1 : A.tmps.getD 84 undef = .int .i64 ((m : Int) + 1) := hdep ⟨8, .data⟩ (by simp) rfl 84 rfl
                  refine stepK (.pointer (some ⟨bv, o2 + (m + 1), none⟩)) W rfl hC fun K hK => ?_
                  simp only [Array.getD_eq_getD_getElem?] at b0 b1
                  unfold Oper.wp
                  go_simp
                  exact hK
                · obtain rfl := Option.some.inj ho
                  have b0 : A.tmps.getD 85 undef = .pointer (some ⟨bv, o2 + (m + 1), none⟩) := hdep ⟨9, .data⟩ (by simp) rfl 85 rfl
                  refine stepK (.float .f32 vb) W rfl hC fun K hK => ?_
                  simp only [Array.getD_eq_getD_getElem?] at b0
                  unfold Oper.wp
                  go_simp
                  exact hK
                · obtain rfl := Option.some.inj ho
                  have b0 : A.tmps.getD 1 undef = .slice (some ⟨bv, o2, none⟩) k cb := hbase 1 (by kernel_rfl)
                  refine stepK (.slice (some ⟨bv, o2, none⟩) k cb) W rfl hC fun K hK => ?_
                  simp only [Array.getD_eq_getD_getElem?] at b0
                  unfold Oper.wp
                  go_simp
                  exact hK
                · obtain rfl := Option.some.inj ho
                  have b0 : A.tmps.getD 10 undef = .int .i64 ((m : Int) + 1) := hbase 10 (by kernel_rfl)
                  refine stepK (.int .i64 ((m : Int) + 1)) W rfl hC fun K hK => ?_
                  simp only [Array.getD_eq_getD_getElem?] at b0
                  unfold Oper.wp
                  go_simp
                  exact hK
                · obtain rfl := Option.some.inj ho
                  have b0 : A.tmps.getD 88 undef = .int .i64 ((m : Int) + 1) := hdep ⟨12, .data⟩ (by simp) rfl 88 rfl
                  refine stepK (.int .i64 (m : Int)) W rfl hC fun K hK => ?_
                  simp only [Array.getD_eq_getD_getElem?] at b0
                  unfold Oper.wp
                  go_simp
                  exact hK
                · obtain rfl := Option.some.inj ho
                  have b0 : A.tmps.getD 87 undef = .slice (some ⟨bv, o2, none⟩) k cb := hdep ⟨11, .data⟩ (by simp) rfl 87 rfl
                  have b1 : A.tmps.getD 89 undef = .int .i64 (m : Int) := hdep ⟨13, .data⟩ (by simp) rfl 89 rfl
                  refine stepK (.pointer (some ⟨bv, o2 + m, none⟩)) W rfl hC fun K hK => ?_
                  simp only [Array.getD_eq_getD_getElem?] at b0 b1
                  unfold Oper.wp
                  go_simp
                  exact hK
                · obtain rfl := Option.some.inj ho
                  have b0 : A.tmps.getD 90 undef = .pointer (some ⟨bv, o2 + m, none⟩) := hdep ⟨14, .data⟩ (by simp) rfl 90 rfl
                  refine stepK (.float .f32 va) W rfl hC fun K hK => ?_
                  simp only [Array.getD_eq_getD_getElem?] at b0
                  unfold Oper.wp
                  go_simp
                  exact hK
                · obtain rfl := Option.some.inj ho
                  have b0 : A.tmps.getD 86 undef = .float .f32 vb := hdep ⟨10, .data⟩ (by simp) rfl 86 rfl
                  have b1 : A.tmps.getD 91 undef = .float .f32 va := hdep ⟨15, .data⟩ (by simp) rfl 91 rfl
                  obtain ⟨zr, W', hr, iz, lz, dz⟩ := F32.arith_ex (P := Try.prog) (op := .sub) (.inr (.inl rfl)) 31 (HV1.out) (HV0.out) W
                  refine stepK (.float .f32 zr) W' ⟨zr, rfl, iz, lz⟩ (hC.trans dz) fun K hK => ?_
                  simp only [Array.getD_eq_getD_getElem?] at b0 b1
                  unfold Oper.wp
                  go_simp
                  exact hK
                · obtain rfl := Option.some.inj ho
                  obtain ⟨y0, b0, j0, k0⟩ := hdep ⟨6, .data⟩ (by simp) rfl 82 rfl
                  obtain ⟨y1, b1, j1, k1⟩ := hdep ⟨16, .data⟩ (by simp) rfl 92 rfl
                  obtain ⟨zr, W', hr, iz, lz, dz⟩ := F32.arith_ex (P := Try.prog) (op := .quo) (.inr (.inr (.inr rfl))) 31 j0 j1 W
                  refine stepK (.float .f32 zr) W' ⟨zr, rfl, iz, lz⟩ (hC.trans dz) fun K hK => ?_
                  simp only [Array.getD_eq_getD_getElem?] at b0 b1
                  unfold Oper.wp
                  go_simp
                  exact hK
                · obtain rfl := Option.some.inj ho
                  obtain ⟨y0, b0, j0, k0⟩ := hdep ⟨17, .data⟩ (by simp) rfl 93 rfl
                  refine stepK (.float .f32 y0) W ⟨y0, rfl, j0, k0⟩ hC fun K hK => ?_
                  simp only [Array.getD_eq_getD_getElem?] at b0
                  unfold Oper.wp
                  go_simp
                  exact hK
                · have := (Array.getElem?_eq_some_iff.1 ho).1
                  simp at this
                  omega
              · intro vals W hC hlen hV
                match vals, hlen with
                | [v0, v1, v2, v3, v4, v5, v6, v7, v8, v9, v10, v11, v12, v13, v14, v15, v16, v17, v18], _ =>
                  obtain rfl : v0 = _ := hV 0 (by simp)
                  obtain rfl : v1 = _ := hV 1 (by simp)
                  obtain rfl : v2 = _ := hV 2 (by simp)
                  obtain rfl : v3 = _ := hV 3 (by simp)
                  obtain rfl : v4 = _ := hV 4 (by simp)
                  obtain rfl : v5 = _ := hV 5 (by simp)
                  have h6 : pcqV bv o2 k cb m l va vb (at_ V m) (at_ V (m + 1)) 6 v6 := hV 6 (by simp)
                  obtain ⟨x6, rfl, i6, l6⟩ := h6
                  obtain rfl : v7 = _ := hV 7 (by simp)
                  obtain rfl : v8 = _ := hV 8 (by simp)
                  obtain rfl : v9 = _ := hV 9 (by simp)
                  obtain rfl : v10 = _ := hV 10 (by simp)
                  obtain rfl : v11 = _ := hV 11 (by simp)
                  obtain rfl : v12 = _ := hV 12 (by simp)
                  obtain rfl : v13 = _ := hV 13 (by simp)
                  obtain rfl : v14 = _ := hV 14 (by simp)
                  obtain rfl : v15 = _ := hV 15 (by simp)
                  have h16 : pcqV bv o2 k cb m l va vb (at_ V m) (at_ V (m + 1)) 16 v16 := hV 16 (by simp)
                  obtain ⟨x16, rfl, i16, l16⟩ := h16
                  have h17 : pcqV bv o2 k cb m l va vb (at_ V m) (at_ V (m + 1)) 17 v17 := hV 17 (by simp)
                  obtain ⟨x17, rfl, i17, l17⟩ := h17
                  have h18 : pcqV bv o2 k cb m l va vb (at_ V m) (at_ V (m + 1)) 18 v18 := hV 18 (by simp)
                  obtain ⟨x18, rfl, i18, l18⟩ := h18
                  clear hV hlen
                  simp only [puts, Act.put, List.zip_cons_cons, List.zip_nil_right, List.foldl_cons, List.foldl_nil, List.setIfInBounds_toArray, List.set_cons_zero, List.set_cons_succ]
                  have D2 := Lib.hid (hD.out.trans hC)
                  have hd5 : W.cell? ⟨bt, o1 + (m + 1), none⟩ = some (.float .f32 tb) := by rw [hC.cell]; exact hc5
                  have hd6 : W.cell? ⟨bt, o1 + m, none⟩ = some (.float .f32 ta) := by rw [hC.cell]; exact hc6
                  have IX := Lib.hid i18
                  clear hC hD hc3 hc4 hc5 hc6 i6 l6 i16 l16 i17 l17 i18 HV0 HV1
                  generalize W = wb at *
                  generalize x18 = xs at *
                  go_wp2_with fail
                  refine wp_region_head 21 21 (C := fun _ w' => Drawn wb w') (V := pcrV bt o1 k ca m xs ta tb ya yb (at_ T m) (at_ T (m + 1)) (F32.opO .quo (F32.opO .sub (some l) (at_ V m)) (F32.opO .sub (at_ V (m + 1)) (at_ V m)))) (by kernel_rfl) (Drawn.one wb) (by kernel_rfl) ?_ ?_
                  · intro i o hin ho A W bb hbb hC hdep hbase
                    have m0 : W.cell? ⟨bt, o1 + m, none⟩ = some (.float .f32 ta) := by rw [hC.cell]; exact hd6
                    have m1 : W.cell? ⟨bt, o1 + (m + 1), none⟩ = some (.float .f32 tb) := by rw [hC.cell]; exact hd5
                    have hwm : IntKind.i64.wrap (m : Int) = (m : Int) := IntWalk.i64_in _ (by omega)
                    rcases i with _ | _ | _ | _ | _ | _ | _ | _ | _ | _ | _ | _ | _ | _ | _ | _ | _ | _ | _ | _ | _ | i
                    · obtain rfl := Option.some.inj ho
                      have b0 : A.tmps.getD 0 undef = .slice (some ⟨bt, o1, none⟩) k ca := hbase 0 (by kernel_rfl)
                      refine stepH (b := bb) (C := fun _ w' => Drawn wb w') (.slice (some ⟨bt, o1, none⟩) k ca) W rfl hC fun K hK => ?_
                      simp only [Array.getD_eq_getD_getElem?] at b0
                      unfold Oper.wp
                      go_simp
                      exact hK
                    · obtain rfl := Option.some.inj ho
                      have b0 : A.tmps.getD 10 undef = .int .i64 ((m : Int) + 1) := hbase 10 (by kernel_rfl)
                      refine stepH (b := bb) (C := fun _ w' => Drawn wb w') (.int .i64 ((m : Int) + 1)) W rfl hC fun K hK => ?_
                      simp only [Array.getD_eq_getD_getElem?] at b0
                      unfold Oper.wp
                      go_simp
                      exact hK
                    · obtain rfl := Option.some.inj ho
                      have b0 : A.tmps.getD 95 undef = .int .i64 ((m : Int) + 1) := hdep ⟨1, .data⟩ (by simp) rfl 95 rfl
                      refine stepH (b := bb) (C := fun _ w' => Drawn wb w') (.int .i64 (m : Int)) W rfl hC fun K hK => ?_
                      simp only [Array.getD_eq_getD_getElem?] at b0
                      unfold Oper.wp
                      go_simp
                      exact hK
                    · obtain rfl := Option.some.inj ho
                      have b0 : A.tmps.getD 94 undef = .slice (some ⟨bt, o1, none⟩) k ca := hdep ⟨0, .data⟩ (by simp) rfl 94 rfl
                      have b1 : A.tmps.getD 96 undef = .int .i64 (m : Int) := hdep ⟨2, .data⟩ (by simp) rfl 96 rfl
                      refine stepH (b := bb) (C := fun _ w' => Drawn wb w') (.pointer (some ⟨bt, o1 + m, none⟩)) W rfl hC fun K hK => ?_
                      simp only [Array.getD_eq_getD_getElem?] at b0 b1
                      unfold Oper.wp
                      go_simp
                      exact hK
                    · obtain rfl := Option.some.inj ho
                      have b0 : A.tmps.getD 97 undef = .pointer (some ⟨bt, o1 + m, none⟩) := hdep ⟨3, .data⟩ (by simp) rfl 97 rfl
                      refine stepH (b := bb) (C := fun _ w' => Drawn wb w') (.float .f32 ta) W rfl hC fun K hK => ?_
                      simp only [Array.getD_eq_getD_getElem?] at b0
                      unfold Oper.wp
                      go_simp
                      exact hK
                    · obtain rfl := Option.some.inj ho
                      have b0 : A.tmps.getD 11 undef = .float .f32 xs := hbase 11 (by kernel_rfl)
                      refine stepH (b := bb) (C := fun _ w' => Drawn wb w') (.float .f32 xs) W rfl hC fun K hK => ?_
                      simp only [Array.getD_eq_getD_getElem?] at b0
                      unfold Oper.wp
                      go_simp
                      exact hK
                    · obtain rfl := Option.some.inj ho
                      have b0 : A.tmps.getD 0 undef = .slice (some ⟨bt, o1, none⟩) k ca := hbase 0 (by kernel_rfl)
                      refine stepH (b := bb) (C := fun _ w' => Drawn wb w') (.slice (some ⟨bt, o1, none⟩) k ca) W rfl hC fun K hK => ?_
                      simp only [Array.getD_eq_getD_getElem?] at b0
                      unfold Oper.wp
                      go_simp
                      exact hK
                    · obtain rfl := Option.some.inj ho
                      have b0 : A.tmps.getD 10 undef = .int .i64 ((m : Int) + 1) := hbase 10 (by kernel_rfl)
                      refine stepH (b := bb) (C := fun _ w' => Drawn wb w') (.int .i64 ((m : Int) + 1)) W rfl hC fun K hK => ?_
                      simp only [Array.getD_eq_getD_getElem?] at b0
                      unfold Oper.wp
                      go_simp
                      exact hK
                    · obtain rfl := Option.some.inj ho
                      have b0 : A.tmps.getD 100 undef = .slice (some ⟨bt, o1, none⟩) k ca := hdep ⟨6, .data⟩ (by simp) rfl 100 rfl
                      have b1 : A.tmps.getD 101 undef = .int .i64 ((m : Int) + 1) := hdep ⟨7, .data⟩ (by simp) rfl 101 rfl
                      refine stepH (b := bb) (C := fun _ w' => Drawn wb w') (.pointer (some ⟨bt, o1 + (m + 1), none⟩)) W rfl hC fun K hK => ?_
                      simp only [Array.getD_eq_getD_getElem?] at b0 b1
                      unfold Oper.wp
                      go_simp
                      exact hK
                    · obtain rfl := Option.some.inj ho
                      have b0 : A.tmps.getD 102 undef = .pointer (some ⟨bt, o1 + (m + 1), none⟩) := hdep ⟨8, .data⟩ (by simp) rfl 102 rfl
                      refine stepH (b := bb) (C := fun _ w' => Drawn wb w') (.float .f32 tb) W rfl hC fun K hK => ?_
                      simp only [Array.getD_eq_getD_getElem?] at b0
                      unfold Oper.wp
                      go_simp
                      exact hK
                    · obtain rfl := Option.some.inj ho
                      have b0 : A.tmps.getD 0 undef = .slice (some ⟨bt, o1, none⟩) k ca := hbase 0 (by kernel_rfl)
                      refine stepH (b := bb) (C := fun _ w' => Drawn wb w') (.slice (some ⟨bt, o1, none⟩) k ca) W rfl hC fun K hK => ?_
                      simp only [Array.getD_eq_getD_getElem?] at b0
                      unfold Oper.wp
                      go_simp
                      exact hK
                    · obtain rfl := Option.some.inj ho
                      have b0 : A.tmps.getD 10 undef = .int .i64 ((m : Int) + 1) := hbase 10 (by kernel_rfl)
                      refine stepH (b := bb) (C := fun _ w' => Drawn wb w') (.int .i64 ((m : Int) + 1)) W rfl hC fun K hK => ?_
                      simp only [Array.getD_eq_getD_getElem?] at b0
                      unfold Oper.wp
                      go_simp
                      exact hK
                    · obtain rfl := Option.some.inj ho
                      have b0 : A.tmps.getD 105 undef = .int .i64 ((m : Int) + 1) := hdep ⟨11, .data⟩ (by simp) rfl 105 rfl
                      refine stepH (b := bb) (C := fun _ w' => Drawn wb w') (.int .i64 (m : Int)) W rfl hC fun K hK => ?_
                      simp only [Array.getD_eq_getD_getElem?] at b0
                      unfold Oper.wp
                      go_simp
                      exact hK
                    · obtain rfl := Option.some.inj ho
                      have b0 : A.tmps.getD 104 undef = .slice (some ⟨bt, o1, none⟩) k ca := hdep ⟨10, .data⟩ (by simp) rfl 104 rfl
                      have b1 : A.tmps.getD 106 undef = .int .i64 (m : Int) := hdep ⟨12, .data⟩ (by simp) rfl 106 rfl
                      refine stepH (b := bb) (C := fun _ w' => Drawn wb w') (.pointer (some ⟨bt, o1 + m, none⟩)) W rfl hC fun K hK => ?_
                      simp only [Array.getD_eq_getD_getElem?] at b0 b1
                      unfold Oper.wp
                      go_simp
                      exact hK
                    · obtain rfl := Option.some.inj ho
                      have b0 : A.tmps.getD 107 undef = .pointer (some ⟨bt, o1 + m, none⟩) := hdep ⟨13, .data⟩ (by simp) rfl 107 rfl
                      refine stepH (b := bb) (C := fun _ w' => Drawn wb w') (.float .f32 ta) W rfl hC fun K hK => ?_
                      simp only [Array.getD_eq_getD_getElem?] at b0
                      unfold Oper.wp
                      go_simp
                      exact hK
                    · obtain rfl := Option.some.inj ho
                      have b0 : A.tmps.getD 103 undef = .float .f32 tb := hdep ⟨9, .data⟩ (by simp) rfl 103 rfl
                      have b1 : A.tmps.getD 108 undef = .float .f32 ta := hdep ⟨14, .data⟩ (by simp) rfl 108 rfl
                      obtain ⟨zr, W', hr, iz, lz, dz⟩ := F32.arith_ex (P := Try.prog) (op := .sub) (.inr (.inl rfl)) 31 (HT1.out) (HT0.out) W
                      refine stepH (b := bb) (C := fun _ w' => Drawn wb w') (.float .f32 zr) W' ⟨zr, rfl, iz, lz⟩ (hC.trans dz) fun K hK => ?_
                      simp only [Array.getD_eq_getD_getElem?] at b0 b1
                      unfold Oper.wp
                      go_simp
                      exact hK
                    · obtain rfl := Option.some.inj ho
                      have b0 : A.tmps.getD 99 undef = .float .f32 xs := hdep ⟨5, .data⟩ (by simp) rfl 99 rfl
                      obtain ⟨y1, b1, j1, k1⟩ := hdep ⟨15, .data⟩ (by simp) rfl 109 rfl
                      obtain ⟨zr, W', hr, iz, lz, dz⟩ := F32.arith_ex (P := Try.prog) (op := .mul) (.inr (.inr (.inl rfl))) 31 (IX.out) j1 W
                      refine stepH (b := bb) (C := fun _ w' => Drawn wb w') (.float .f32 zr) W' ⟨zr, rfl, iz, lz⟩ (hC.trans dz) fun K hK => ?_
                      simp only [Array.getD_eq_getD_getElem?] at b0 b1
                      unfold Oper.wp
                      go_simp
                      exact hK
                    · obtain rfl := Option.some.inj ho
                      have b0 : A.tmps.getD 98 undef = .float .f32 ta := hdep ⟨4, .data⟩ (by simp) rfl 98 rfl
                      obtain ⟨y1, b1, j1, k1⟩ := hdep ⟨16, .data⟩ (by simp) rfl 110 rfl
                      obtain ⟨zr, W', hr, iz, lz, dz⟩ := F32.arith_ex (P := Try.prog) (op := .add) (.inl rfl) 31 (HT0.out) j1 W
                      refine stepH (b := bb) (C := fun _ w' => Drawn wb w') (.float .f32 zr) W' ⟨zr, rfl, iz, lz⟩ (hC.trans dz) fun K hK => ?_
                      simp only [Array.getD_eq_getD_getElem?] at b0 b1
                      unfold Oper.wp
                      go_simp
                      exact hK
                    · obtain rfl := Option.some.inj ho
                      obtain ⟨y0, b0, j0, k0⟩ := hdep ⟨17, .data⟩ (by simp) rfl 111 rfl
                      simp only [Array.getD_eq_getD_getElem?] at b0
                      unfold Oper.wp
                      go_simp
                      refine (cNum_at HM.out j0 W).mono ?_
                      rintro e w9 ⟨rfl, hd2⟩
                      exact ⟨_, rfl, hC.trans hd2, rfl⟩
                    · obtain rfl := Option.some.inj ho
                      have b0 : A.tmps.getD 112 undef = .tuple #[.float .f32 ya, .bool yb] := hdep ⟨18, .data⟩ (by simp) rfl 112 rfl
                      refine stepH (b := bb) (C := fun _ w' => Drawn wb w') (.float .f32 ya) W rfl hC fun K hK => ?_
                      simp only [Array.getD_eq_getD_getElem?] at b0
                      unfold Oper.wp
                      go_simp
                      exact hK
                    · obtain rfl := Option.some.inj ho
                      have b0 : A.tmps.getD 112 undef = .tuple #[.float .f32 ya, .bool yb] := hdep ⟨18, .data⟩ (by simp) rfl 112 rfl
                      refine stepH (b := bb) (C := fun _ w' => Drawn wb w') (.bool yb) W rfl hC fun K hK => ?_
                      simp only [Array.getD_eq_getD_getElem?] at b0
                      unfold Oper.wp
                      go_simp
                      exact hK
                    · exact absurd hin (by omega)
                  · intro vals W hC hlen hV
                    match vals, hlen with
                    | [v0, v1, v2, v3, v4, v5, v6, v7, v8, v9, v10, v11, v12, v13, v14, v15, v16, v17, v18, v19, v20], _ =>
                      obtain rfl : v0 = _ := hV 0 (by simp)
                      obtain rfl : v1 = _ := hV 1 (by simp)
                      obtain rfl : v2 = _ := hV 2 (by simp)
                      obtain rfl : v3 = _ := hV 3 (by simp)
                      obtain rfl : v4 = _ := hV 4 (by simp)
                      obtain rfl : v5 = _ := hV 5 (by simp)
                      obtain rfl : v6 = _ := hV 6 (by simp)
                      obtain rfl : v7 = _ := hV 7 (by simp)
                      obtain rfl : v8 = _ := hV 8 (by simp)
                      obtain rfl : v9 = _ := hV 9 (by simp)
                      obtain rfl : v10 = _ := hV 10 (by simp)
                      obtain rfl : v11 = _ := hV 11 (by simp)
                      obtain rfl : v12 = _ := hV 12 (by simp)
                      obtain rfl : v13 = _ := hV 13 (by simp)
                      obtain rfl : v14 = _ := hV 14 (by simp)
                      have h15 : pcrV bt o1 k ca m xs ta tb ya yb (at_ T m) (at_ T (m + 1)) (F32.opO .quo (F32.opO .sub (some l) (at_ V m)) (F32.opO .sub (at_ V (m + 1)) (at_ V m))) 15 v15 := hV 15 (by simp)
                      obtain ⟨x15, rfl, i15, l15⟩ := h15
                      have h16 : pcrV bt o1 k ca m xs ta tb ya yb (at_ T m) (at_ T (m + 1)) (F32.opO .quo (F32.opO .sub (some l) (at_ V m)) (F32.opO .sub (at_ V (m + 1)) (at_ V m))) 16 v16 := hV 16 (by simp)
                      obtain ⟨x16, rfl, i16, l16⟩ := h16
                      have h17 : pcrV bt o1 k ca m xs ta tb ya yb (at_ T m) (at_ T (m + 1)) (F32.opO .quo (F32.opO .sub (some l) (at_ V m)) (F32.opO .sub (at_ V (m + 1)) (at_ V m))) 17 v17 := hV 17 (by simp)
                      obtain ⟨x17, rfl, i17, l17⟩ := h17
                      obtain rfl : v18 = _ := hV 18 (by simp)
                      obtain rfl : v19 = _ := hV 19 (by simp)
                      obtain rfl : v20 = _ := hV 20 (by simp)
                      clear hV hlen
                      simp only [puts, Act.put, List.zip_cons_cons, List.zip_nil_right, List.take_succ_cons, List.take_zero, List.drop_succ_cons, List.drop_zero, List.foldl_cons, List.foldl_nil, List.setIfInBounds_toArray, List.set_cons_zero, List.set_cons_succ]
                      have D4 := Lib.hid (D2.out.trans hC)
                      clear i15 l15 i16 l16 i17 l17 hC D2
                      go_wp2_with fail
                      go_ret2
                      exact ⟨rfl, D4.out⟩
          · obtain rfl : p = k := by omega
            have HM := Lib.hid (HN.out hF.out)
            clear hlt hF hk
            go_wp2_with fail
            go_ret2
            rw [HM.out.1, HM.out.2]
            exact ⟨rfl, hD.out⟩
end Go.Proofs.Ytppkeabkjabhdaa
