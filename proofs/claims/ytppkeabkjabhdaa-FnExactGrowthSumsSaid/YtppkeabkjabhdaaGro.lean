/-
  Failures of a test, and sums of growth, in both. Conditions: the lists read as lists of numbers.
-/
import Derived.Test.YtppkeabkjabhdaaAsc
import Derived.Test.YtppkeabkjabhdaaFinW
import Derived.Test.YtppkeabkjabhdaaHld
import Derived.Test.YtppkeabkjabhdaaCrW
import Derived.Deep.RegionHeld3
namespace We
open Go Flt Dec F32 Cm
def ltW (a b : Nat) : Bool := FloatKind.f32.format.order a b == some .lt
/-- what is asked of one time -/
def gsOk (T : List Nat) (to i : Nat) : Bool := pos (T.getD i 0) && (!gtW (T.getD i 0) to && (i == 0 || !ltW (T.getD i 0) (T.getD (i - 1) 0)))
def gs0 (T : List Nat) (to : Nat) : Bool := decide (1 ≤ T.length ∧ T.length ≤ 48) && (fin .f32 to && (List.range T.length).all fun i => gsOk T to i)
def gsO (T : List Nat) (k : Nat) : Option Nat := F32.opO .quo (fi (k + 1)) (at_ T k)
def srt (T : List Nat) : Bool := (List.range T.length).all fun i => i == 0 || !ltW (T.getD i 0) (T.getD (i - 1) 0)
theorem rng_at {p : Nat → Bool} {n i : Nat} (h : (List.range n).all p = true) (hi : i < n) : p i = true := List.all_eq_true.1 h i (List.mem_range.2 hi)
theorem rng_yes {p : Nat → Bool} {n : Nat} (h : ∀ i, i < n → p i = true) : (List.range n).all p = true := List.all_eq_true.2 fun i hi => h i (List.mem_range.1 hi)
theorem rng_no {p : Nat → Bool} {n i : Nat} (hi : i < n) (h : p i = false) : (List.range n).all p = false := List.all_eq_false.2 ⟨i, List.mem_range.2 hi, by rw [h]; decide⟩
theorem gs_len {T : List Nat} {to : Nat} (h : ¬ (1 ≤ T.length ∧ T.length ≤ 48)) : gs0 T to = false := by unfold gs0; rw [decide_eq_false h]; rfl
theorem gs_to {T : List Nat} {to : Nat} (h : fin .f32 to = false) : gs0 T to = false := by unfold gs0; rw [h]; simp
theorem gs_at {T : List Nat} {to i : Nat} (hi : i < T.length) (h : gsOk T to i = false) : gs0 T to = false := by unfold gs0; rw [rng_no hi h]; simp
theorem gs_yes {T : List Nat} {to : Nat} (h1 : 1 ≤ T.length ∧ T.length ≤ 48) (h2 : fin .f32 to = true) (h3 : ∀ i, i < T.length → gsOk T to i = true) : gs0 T to = true := by unfold gs0; rw [decide_eq_true h1, h2, rng_yes h3]; rfl
theorem gs_parts {T : List Nat} {to : Nat} (h : gs0 T to = true) : (1 ≤ T.length ∧ T.length ≤ 48) ∧ fin .f32 to = true ∧ ∀ i, i < T.length → gsOk T to i = true := by
  unfold gs0 at h
  simp only [Bool.and_eq_true, decide_eq_true_eq] at h
  exact ⟨h.1, h.2.1, fun i hi => rng_at h.2.2 hi⟩
theorem gs_fin {T : List Nat} {to : Nat} (h : gs0 T to = true) : finL T = true := by
  obtain ⟨_, _, h3⟩ := gs_parts h
  exact all_from fun k hk => by
    have := h3 k hk
    unfold gsOk at this
    rw [Bool.and_eq_true] at this
    exact pos_fin this.1
/-- asked of the first, of the order, and of the last one -/
theorem gs_prog {T : List Nat} {to : Nat} (hl : 1 ≤ T.length ∧ T.length ≤ 48) (hf : finL T = true) (ht : fin .f32 to = true) : gs0 T to = (gtW (T.getD 0 0) 0 && (srt T && leW (T.getD (T.length - 1) 0) to)) := by
  have hn : ∀ i, i < T.length → nan .f32 (T.getD i 0) = false := fun i hi => fin_num (all_get hf hi)
  have hto := fin_num ht
  rw [Bool.eq_iff_iff]
  constructor
  · intro h
    obtain ⟨_, _, h3⟩ := gs_parts h
    have a0 := h3 0 (by omega)
    have al := h3 (T.length - 1) (by omega)
    unfold gsOk at a0 al
    simp only [Bool.and_eq_true] at a0 al
    rw [Bool.and_eq_true, Bool.and_eq_true]
    refine ⟨?_, rng_yes fun i hi => ?_, ?_⟩
    · have := a0.1; unfold pos at this; rw [Bool.and_eq_true] at this; exact this.2
    · have := h3 i hi
      unfold gsOk at this
      simp only [Bool.and_eq_true] at this
      exact this.2.2
    · have := al.2.1
      rw [gt_le (all_get hf (by omega)) ht] at this
      simpa using this
  · intro h
    rw [Bool.and_eq_true, Bool.and_eq_true] at h
    obtain ⟨h1, h2, h3⟩ := h
    have up : ∀ i, i + 1 < T.length → S .f32 (T.getD i 0) ≤ S .f32 (T.getD (i + 1) 0) := fun i hi => by
      have := rng_at h2 hi
      simp only [Bool.or_eq_true, beq_iff_eq, Nat.add_one_ne_zero, false_or, Nat.add_sub_cancel, Bool.not_eq_true'] at this
      unfold ltW at this
      rw [ltB .f32 _ _ (hn (i + 1) hi) (hn i (by omega))] at this
      have := of_decide_eq_false this
      omega
    have lo : ∀ i, i < T.length → S .f32 (T.getD 0 0) ≤ S .f32 (T.getD i 0) := by
      intro i
      induction i with
      | zero => intro _; exact Int.le_refl _
      | succ i ih => intro hi; exact Int.le_trans (ih (by omega)) (up i hi)
    have hi_ : ∀ d i, i + d < T.length → S .f32 (T.getD i 0) ≤ S .f32 (T.getD (i + d) 0) := by
      intro d
      induction d with
      | zero => intro i _; exact Int.le_refl _
      | succ d ih => intro i h; exact Int.le_trans (ih i (by omega)) (up (i + d) h)
    unfold gtW at h1
    rw [gtB .f32 _ 0 (hn 0 (by omega)) (by decide)] at h1
    have h1 := of_decide_eq_true h1
    refine gs_yes hl ht fun i hi => ?_
    have hg : gtW (T.getD i 0) to = false := by
      have hll : leW (T.getD i 0) to = true := by
        have h4 := h3
        unfold leW at h4 ⊢
        rw [ltB .f32 _ _ (hn _ (by omega)) hto, eqB .f32 _ _ (hn _ (by omega)) hto] at h4
        rw [ltB .f32 _ _ (hn _ hi) hto, eqB .f32 _ _ (hn _ hi) hto]
        have := hi_ (T.length - 1 - i) i (by omega)
        rw [show i + (T.length - 1 - i) = T.length - 1 by omega] at this
        simp only [Bool.or_eq_true, decide_eq_true_eq] at h4 ⊢
        omega
      rw [gt_le (all_get hf hi) ht, hll]; rfl
    have hp : pos (T.getD i 0) = true := by
      unfold pos
      rw [show fin .f32 (T.getD i 0) = true from all_get hf hi, gtB .f32 _ 0 (hn i hi) (by decide)]
      have := lo i hi
      exact decide_eq_true (by omega)
    unfold gsOk
    rw [hp, hg, rng_at h2 hi]; rfl
def gsA (T : List Nat) (to : Nat) : List Nat := okA (gs0 T to) (gsO T) T.length
def gsB (T : List Nat) (to : Nat) : Bool := okL (gs0 T to) (gsO T) T.length
theorem gsA_len (T : List Nat) (to : Nat) : (gsA T to).length ≤ 1023 := by
  unfold gsA okA
  split
  · rename_i h
    rw [Bool.and_eq_true] at h
    have := (gs_parts h.1).1
    rw [outs_len]; omega
  · exact Nat.zero_le _
theorem tail_no {T : List Nat} {to : Nat} (h : gs0 T to = false) : gsA T to = [] ∧ gsB T to = false := ⟨(okl_no h _ _).2, (okl_no h _ _).1⟩
end We
namespace Go.Proofs.Ytppkeabkjabhdaa
open Go.RowKit Flt Dec Cm We Cr Liv Hld
theorem isNaNc_any (x : Nat) (w : World) (hx : nan .f32 x = false) : Calls Try.prog 132 #[.float .f32 x] w fun e w' => e = .returned (.bool false) ∧ w = w' := by
  have hq : (FloatKind.f32.format.order x x != some .eq) = false := by rw [order_self]; exact hx
  clear hx
  go_enter Try.func132, Try.ntmps132
  go_wp2_with fail
  go_ret
  exact ⟨rfl, rfl⟩
theorem less_any (x y : Nat) (w : World) (hx : nan .f32 x = false) (_hy : nan .f32 y = false) : Calls Try.prog 125 #[.float .f32 x, .float .f32 y] w fun e w' => e = .returned (.bool (ltW x y)) ∧ w = w' := by
  have HX := Lib.hid hx
  have HL : Hid (ltW x y = (FloatKind.f32.format.order x y == some .lt)) := Lib.hid rfl
  clear hx
  go_enter Try.func125, Try.ntmps125
  go_wp2_with fail
  refine (isNaNc_any x _ HX.out).mono ?_
  rintro e w1 ⟨rfl, rfl⟩
  go_wp2_with fail
  go_ret
  exact ⟨congrArg (fun b => Ending.returned (.bool b)) HL.out.symm, rfl⟩
set_option maxHeartbeats 1600000 in
theorem isSorted_any (a : Option Addr) (len cap : Nat) (T : List Nat) (w : World) (h : FRow w a len T) (hf : finL T = true) (h1 : 1 ≤ len) (hm : len ≤ 1048576) :
    Calls Try.prog 108 #[.slice a len cap] w fun e w' => e = .returned (.bool (srt T)) ∧ Drawn w w' := by
  have H := Lib.hid h
  have HL := Lib.hid h.1
  have HF := Lib.hid hf
  clear h hf
  obtain ⟨n, rfl⟩ : ∃ n, len = n + 1 := ⟨len - 1, by omega⟩
  obtain ⟨b, off, rfl, hbl, _⟩ := H.out.2.2.2 0 (by omega)
  go_enter Try.func108, Try.ntmps108
  go_wp2_with fail
  go_loopg [3] n (fun q i wr => ∃ k : Nat, i = .int .i64 (k : Int) ∧ k ≤ n ∧ Hid (k = q) ∧ Hid (∀ j, k < j → j ≤ n → ltW (T.getD j 0) (T.getD (j - 1) 0) = false) ∧ Hid (Drawn w wr))
  case atStart => exact ⟨n, rfl, Nat.le_refl _, rfl, (show Hid _ from fun j h1 h2 => absurd h1 (by omega)), Drawn.refl _⟩
  case round =>
    obtain ⟨k, rfl, hk, hq, hN, hw⟩ := hrel
    by_cases h0 : k = 0
    · subst h0
      have HS : Hid (srt T = true) := Lib.hid (rng_yes fun i hi => by
        by_cases e : i = 0
        · subst e; rfl
        · rw [hN.out i (by omega) (by rw [HL.out] at hi; omega)]; simp)
      go_wp2_with fail
      go_ret
      exact ⟨congrArg (fun b => Ending.returned (.bool b)) HS.out.symm, hw.out⟩
    · obtain ⟨m, rfl⟩ : ∃ m, k = m + 1 := ⟨k - 1, by omega⟩
      have hz : ((m : Int) + 1) > 0 := by omega
      obtain ⟨b2, o2, he2, hb2, hc2⟩ := (frow_drawn H.out hw.out).2.2.2 (m + 1) (by omega)
      cases he2
      obtain ⟨b3, o3, he3, hb3, hc3⟩ := (frow_drawn H.out hw.out).2.2.2 m (by omega)
      cases he3
      have HG : Hid (gk - 1 < gk ∧ m = gk - 1) := by have := hq.out; show _ ∧ _; omega
      have hx := fin_num (all_get HF.out (show m + 1 < T.length by rw [HL.out]; omega))
      have hy := fin_num (all_get HF.out (show m < T.length by rw [HL.out]; omega))
      have HNO : Hid (ltW (T.getD (m + 1) 0) (T.getD m 0) = true → srt T = false) := Lib.hid fun hl => rng_no (i := m + 1) (by rw [HL.out]; omega) (by
        show (_ || !ltW (T.getD (m + 1) 0) (T.getD m 0)) = false
        rw [hl]; simp)
      have HYE : Hid (ltW (T.getD (m + 1) 0) (T.getD m 0) = false → ∀ j, m < j → j ≤ n → ltW (T.getD j 0) (T.getD (j - 1) 0) = false) := Lib.hid fun hl j h1 h2 => by
        by_cases e : j = m + 1
        · subst e; exact hl
        · exact hN.out j (by omega) h2
      generalize T.getD (m + 1) 0 = z1 at *
      generalize T.getD m 0 = z2 at *
      have HX := Lib.hid hx
      have HY := Lib.hid hy
      clear hx hy hb2 hb3 hbl h0
      cases hl : ltW z1 z2 with
      | true =>
        have HS := Lib.hid (HNO.out hl)
        have HLT := Lib.hid hl
        clear hl
        go_wp2_with fail
        go_quiet ((go_at_call 125; exact Calls.quiet_of_same ((less_any z1 z2 _ HX.out HY.out).mono fun e w' ⟨h1, h2⟩ => ⟨h1.trans (by rw [HLT.out]), h2.symm⟩)))
        go_wp2_with fail
        go_ret
        exact ⟨congrArg (fun b => Ending.returned (.bool b)) HS.out.symm, hw.out.trans ⟨_, rfl⟩⟩
      | false =>
        have HS := Lib.hid (HYE.out hl)
        have HLT := Lib.hid hl
        clear hl
        go_wp2_with fail
        go_quiet ((go_at_call 125; exact Calls.quiet_of_same ((less_any z1 z2 _ HX.out HY.out).mono fun e w' ⟨h1, h2⟩ => ⟨h1.trans (by rw [HLT.out]), h2.symm⟩)))
        go_wp2_with fail
        go_roundg (gk - 1)
        case measure => exact HG.out.1
        case rel => exact ⟨m, by go_num, by omega, HG.out.2, HS.out, hw.out.trans ⟨_, rfl⟩⟩
set_option maxHeartbeats 3200000 in
theorem areFail_any (a : Option Addr) (len cap : Nat) (T : List Nat) (to : Nat) (w : World) (h : FRow w a len T) :
    Calls Try.prog 81 #[.slice a len cap, .float .f32 to] w fun e w' => e = .returned (.bool (gs0 T to)) ∧ Drawn w w' := by
  have HTL := Lib.hid h.1
  have HT := Lib.hid h
  by_cases hl : 1 ≤ len ∧ len ≤ 48
  · have q1 : ¬ ((len : Int) < 1) := by omega
    have q2 : ¬ ((len : Int) > 48) := by omega
    obtain ⟨n, rfl⟩ : ∃ n, len = n + 1 := ⟨len - 1, by omega⟩
    cases h1 : T.all fun z => fin .f32 z with
    | false =>
      have HN : Hid (gs0 T to = false) := by
        show _ = _
        cases hg : gs0 T to with
        | false => rfl
        | true => have := gs_fin hg; rw [show finL T = false from h1] at this; cases this
      have H1 := Lib.hid h1
      clear h h1 hl
      go_enter Try.func81, Try.ntmps81
      go_wp2_with fail
      refine (areFinD_any a (n + 1) cap T _ HT.out).mono ?_
      rintro e w1 ⟨rfl, d1⟩
      rw [H1.out]
      have D1 := Lib.hid d1
      clear d1
      go_wp2_with fail
      go_ret
      exact ⟨congrArg (fun b => Ending.returned (.bool b)) HN.out.symm, D1.out⟩
    | true =>
      have H1 := Lib.hid h1
      cases h2 : fin .f32 to with
      | false =>
        have HN := Lib.hid (gs_to (T := T) h2)
        have H2 := Lib.hid h2
        clear h h1 h2 hl
        go_enter Try.func81, Try.ntmps81
        go_wp2_with fail
        refine (areFinD_any a (n + 1) cap T _ HT.out).mono ?_
        rintro e w1 ⟨rfl, d1⟩
        rw [H1.out]
        have D1 := Lib.hid d1
        clear d1
        go_wp2_with fail
        refine (implIsFinite_any to _).mono ?_
        rintro e w2 ⟨rfl, d2⟩
        rw [H2.out]
        have D2 := Lib.hid (D1.out.trans d2)
        clear d2
        go_wp2_with fail
        go_ret
        exact ⟨congrArg (fun b => Ending.returned (.bool b)) HN.out.symm, D2.out⟩
      | true =>
        have H2 := Lib.hid h2
        have HG := Lib.hid (gs_prog (T := T) (to := to) (by rw [h.1]; exact hl) h1 h2)
        have HLN : Hid (T.length - 1 = n) := by show _ = _; rw [h.1]; omega
        obtain ⟨b1, o1, rfl, hb1, hc1⟩ := h.2.2.2 0 (by omega)
        obtain ⟨b2, o2, he2, hb2, hc2⟩ := h.2.2.2 n (by omega)
        cases he2
        rw [Nat.add_zero] at hc1
        rw [HLN.out] at HG
        have HC1 : Hid (∀ w', Drawn w w' → w'.cell? ⟨b1, o1, none⟩ = some (.float .f32 (T.getD 0 0))) := Lib.hid fun w' d => by rw [d.cell]; exact hc1
        have HC2 : Hid (∀ w', Drawn w w' → w'.cell? ⟨b1, o1 + n, none⟩ = some (.float .f32 (T.getD n 0))) := Lib.hid fun w' d => by rw [d.cell]; exact hc2
        have HFT : Hid (finL T = true) := h1
        generalize T.getD 0 0 = z0 at *
        generalize T.getD n 0 = zn at *
        cases h3 : gtW z0 0 with
        | false =>
          have HN : Hid (gs0 T to = false) := by show _ = _; rw [HG.out, h3]; rfl
          unfold gtW at h3
          clear h h1 h2 hl hb1 hb2 hc1 hc2
          go_enter Try.func81, Try.ntmps81
          go_wp2_with fail
          refine (areFinD_any _ (n + 1) cap T _ HT.out).mono ?_
          rintro e w1 ⟨rfl, d1⟩
          rw [H1.out]
          have D1 := Lib.hid d1
          clear d1
          go_wp2_with fail
          refine (implIsFinite_any to _).mono ?_
          rintro e w2 ⟨rfl, d2⟩
          rw [H2.out]
          have D2 := Lib.hid (D1.out.trans d2)
          clear d2
          have k1 := HC1.out _ D2.out
          go_wp2_with fail
          go_ret
          exact ⟨congrArg (fun b => Ending.returned (.bool b)) HN.out.symm, D2.out⟩
        | true =>
          cases h4 : srt T with
          | false =>
            have HN : Hid (gs0 T to = false) := by show _ = _; rw [HG.out, h4]; simp
            have H4 := Lib.hid h4
            unfold gtW at h3
            clear h h1 h2 h4 hl hb1 hb2 hc1 hc2
            go_enter Try.func81, Try.ntmps81
            go_wp2_with fail
            refine (areFinD_any _ (n + 1) cap T _ HT.out).mono ?_
            rintro e w1 ⟨rfl, d1⟩
            rw [H1.out]
            have D1 := Lib.hid d1
            clear d1
            go_wp2_with fail
            refine (implIsFinite_any to _).mono ?_
            rintro e w2 ⟨rfl, d2⟩
            rw [H2.out]
            have D2 := Lib.hid (D1.out.trans d2)
            clear d2
            have k1 := HC1.out _ D2.out
            go_wp2_with fail
            refine (isSorted_any _ (n + 1) cap T _ (frow_drawn HT.out D2.out) HFT.out (by omega) (by omega)).mono ?_
            rintro e w3 ⟨rfl, d3⟩
            rw [H4.out]
            have D3 := Lib.hid (D2.out.trans d3)
            clear d3
            go_wp2_with fail
            go_ret
            exact ⟨congrArg (fun b => Ending.returned (.bool b)) HN.out.symm, D3.out⟩
          | true =>
            have HN : Hid (gs0 T to = leW zn to) := by show _ = _; rw [HG.out, h3, h4]; rfl
            have H4 := Lib.hid h4
            unfold gtW at h3
            have hle : leW zn to = ((FloatKind.f32.format.order zn to == some .lt) || (FloatKind.f32.format.order zn to == some .eq)) := rfl
            have HLE := Lib.hid (HN.out.trans hle)
            clear h h1 h2 h4 hl hb1 hb2 hc1 hc2 hle
            go_enter Try.func81, Try.ntmps81
            go_wp2_with fail
            refine (areFinD_any _ (n + 1) cap T _ HT.out).mono ?_
            rintro e w1 ⟨rfl, d1⟩
            rw [H1.out]
            have D1 := Lib.hid d1
            clear d1
            go_wp2_with fail
            refine (implIsFinite_any to _).mono ?_
            rintro e w2 ⟨rfl, d2⟩
            rw [H2.out]
            have D2 := Lib.hid (D1.out.trans d2)
            clear d2
            have k1 := HC1.out _ D2.out
            go_wp2_with fail
            refine (isSorted_any _ (n + 1) cap T _ (frow_drawn HT.out D2.out) HFT.out (by omega) (by omega)).mono ?_
            rintro e w3 ⟨rfl, d3⟩
            rw [H4.out]
            have D3 := Lib.hid (D2.out.trans d3)
            clear d3 k1
            have k2 := HC2.out _ D3.out
            go_wp2_with fail
            go_ret
            exact ⟨congrArg (fun b => Ending.returned (.bool b)) HLE.out.symm, D3.out⟩
  · have HN := Lib.hid (gs_len (T := T) (to := to) (by rw [HTL.out]; exact hl))
    clear h
    by_cases q1 : (len : Int) < 1
    all_goals
      go_enter Try.func81, Try.ntmps81
      go_wp2_with fail
      go_ret
      exact ⟨congrArg (fun b => Ending.returned (.bool b)) HN.out.symm, Drawn.refl _⟩
end Go.Proofs.Ytppkeabkjabhdaa
