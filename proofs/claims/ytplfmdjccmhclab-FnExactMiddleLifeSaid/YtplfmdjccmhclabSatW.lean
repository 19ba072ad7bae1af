/-
  Survivors at a time, as the two tell them. Conditions: all of them are lives.
-/
import Derived.Test.YtplfmdjccmhclabMidW
namespace Liv
open Go Flt Dec
theorem leB2 (k : Go.FloatKind) (a b : Nat) (ha : nan k a = false) (hb : nan k b = false) : (k.format.order a b == some .lt || k.format.order a b == some .eq) = decide (S k a ≤ S k b) := by
  rw [ltB k a b ha hb, eqB k a b ha hb, Bool.eq_iff_iff]; simp; omega
/-- at most -/
def lqB (x t : Nat) : Bool := FloatKind.f32.format.order x t == some .lt || FloatKind.f32.format.order x t == some .eq
theorem nng_nan {t : Nat} (h : nngB t = true) : nan .f32 t = false := by
  unfold nngB at h
  rw [Bool.and_eq_true] at h
  exact fin_num h.1
theorem lqB_mono {x y t : Nat} (hx : VF x) (hy : VF y) (ht : nan .f32 t = false) (hxy : x ≤ y) (h : lqB y t = true) : lqB x t = true := by
  obtain ⟨_, _, nx, sx⟩ := pos_bits hx.1 hx.2
  obtain ⟨_, _, ny, sy⟩ := pos_bits hy.1 hy.2
  unfold lqB at *
  rw [leB2 .f32 y t ny ht] at h
  rw [leB2 .f32 x t nx ht]
  have := of_decide_eq_true h
  exact decide_eq_true (by omega)
theorem compact_sorted : ∀ l : List Nat, List.Pairwise (fun a b => a ≤ b) l → List.Pairwise (fun a b => a ≤ b) (Go.Lib.compact l) := by
  suffices h : ∀ n (l : List Nat), l.length = n → List.Pairwise (fun a b => a ≤ b) l → List.Pairwise (fun a b => a ≤ b) (Go.Lib.compact l) from fun l => h _ l rfl
  intro n
  induction n with
  | zero => intro l hl _; have := List.eq_nil_of_length_eq_zero hl; subst this; exact List.Pairwise.nil
  | succ n ih =>
    intro l hl hp
    rcases List.eq_nil_or_concat l with rfl | ⟨m, s, rfl⟩
    · simp at hl
    · have hm : m.length = n := by simpa using hl
      rw [List.concat_eq_append] at hp ⊢
      obtain ⟨h1, _, h3⟩ := List.pairwise_append.1 hp
      rw [compact_snoc]
      split
      · rw [List.append_nil]; exact ih m hm h1
      · refine List.pairwise_append.2 ⟨ih m hm h1, List.pairwise_singleton _ _, fun a ha b hb => h3 a (compact_mem ha) b hb⟩
theorem ordF_sorted (l : List Nat) : List.Pairwise (fun a b => a ≤ b) (ordF l) := by
  have q := List.pairwise_mergeSort (le := fun x y : Nat => !decide (cfF y x < 0)) (by
    intro a b c h1 h2
    simp only [cfF_lt, Bool.not_eq_true', decide_eq_false_iff_not] at *
    omega) (by
    intro a b
    simp only [cfF_lt, Bool.or_eq_true, Bool.not_eq_true', decide_eq_false_iff_not]
    omega) l
  refine List.Pairwise.imp ?_ q
  intro x y h
  simp only [cfF_lt, Bool.not_eq_true', decide_eq_false_iff_not] at h
  omega
theorem tS_le {zs : List (Nat × Bool)} {i j : Nat} (hij : i ≤ j) (hj : j < (tS zs).length) : (tS zs).getD i 0 ≤ (tS zs).getD j 0 := by
  have h := compact_sorted _ (ordF_sorted (fT zs))
  rcases Nat.lt_or_ge i j with h1 | h1
  · have hi : i < (tS zs).length := by omega
    have := List.pairwise_iff_getElem.1 h i j hi hj h1
    change (tS zs)[i] ≤ (tS zs)[j] at this
    simpa [List.getD, hi, hj] using this
  · rw [show i = j by omega]; exact Nat.le_refl _
theorem first_some {p : Nat → Bool} : ∀ f i m, firstOf p f i = some m → i ≤ m ∧ m < i + f ∧ p m = true ∧ ∀ j, i ≤ j → j < m → p j = false := by
  intro f
  induction f with
  | zero => intro i m h; cases h
  | succ f ih =>
    intro i m h
    unfold firstOf at h
    by_cases hp : p i = true
    · rw [if_pos hp] at h
      cases h
      exact ⟨Nat.le_refl _, by omega, hp, fun j h1 h2 => by omega⟩
    · rw [if_neg hp] at h
      obtain ⟨a, b, c, d⟩ := ih (i + 1) m h
      refine ⟨by omega, by omega, c, fun j h1 h2 => ?_⟩
      rcases Nat.lt_or_ge i j with h3 | h3
      · exact d j h3 h2
      · rw [show j = i by omega]; simpa using hp
theorem first_none {p : Nat → Bool} : ∀ f i, firstOf p f i = none → ∀ j, i ≤ j → j < i + f → p j = false := by
  intro f
  induction f with
  | zero => intro i h j h1 h2; omega
  | succ f ih =>
    intro i h j h1 h2
    unfold firstOf at h
    by_cases hp : p i = true
    · rw [if_pos hp] at h; cases h
    · rw [if_neg hp] at h
      rcases Nat.lt_or_ge i j with h3 | h3
      · exact ih (i + 1) h j h3 (by omega)
      · rw [show j = i by omega]; simpa using hp
/-- how many of the times are not behind it -/
def atO (zs : List (Nat × Bool)) (t : Nat) : Option Nat := firstOf (fun i => !lqB ((tS zs).getD i 0) t) (tS zs).length 0
def atN (zs : List (Nat × Bool)) (t : Nat) : Nat := (atO zs t).getD (tS zs).length
theorem atN_in {zs : List (Nat × Bool)} {t i : Nat} (h : i < atN zs t) : lqB ((tS zs).getD i 0) t = true := by
  unfold atN atO at h
  cases hf : firstOf (fun i => !lqB ((tS zs).getD i 0) t) (tS zs).length 0 with
  | none =>
    rw [hf] at h
    have := first_none _ _ hf i (Nat.zero_le _) (by simpa using h)
    simpa using this
  | some m =>
    rw [hf] at h
    have := (first_some _ _ _ hf).2.2.2 i (Nat.zero_le _) (by simpa using h)
    simpa using this
theorem atN_out {zs : List (Nat × Bool)} (hV : ∀ z ∈ zs, VL z) {t i : Nat} (ht : nan .f32 t = false) (h : atN zs t ≤ i) (hi : i < (tS zs).length) : lqB ((tS zs).getD i 0) t = false := by
  unfold atN atO at h
  have hvf : ∀ j, j < (tS zs).length → VF ((tS zs).getD j 0) := fun j hj => by
    obtain ⟨z, hz, e⟩ := tS_mem (getD_mem hj)
    rw [← e]; exact hV z hz
  cases hf : firstOf (fun i => !lqB ((tS zs).getD i 0) t) (tS zs).length 0 with
  | none => rw [hf] at h; simp at h; omega
  | some m =>
    rw [hf] at h
    simp only [Option.getD_some] at h
    obtain ⟨_, h2, h3, _⟩ := first_some _ _ _ hf
    cases hq : lqB ((tS zs).getD i 0) t with
    | false => rfl
    | true =>
      have := lqB_mono (hvf m (by omega)) (hvf i hi) ht (tS_le h hi) hq
      have e : (!lqB ((tS zs).getD m 0) t) = true := h3
      rw [this] at e
      cases e
theorem atN_le (zs : List (Nat × Bool)) (t : Nat) : atN zs t ≤ (tS zs).length := by
  unfold atN atO
  cases hf : firstOf (fun i => !lqB ((tS zs).getD i 0) t) (tS zs).length 0 with
  | none => simp
  | some m => have := (first_some _ _ _ hf).2.1; simp only [Option.getD_some]; omega
/-- what both answer -/
def okB (zs : List (Nat × Bool)) (t : Nat) : Bool := livB zs && nngB t
def satT (zs : List (Nat × Bool)) (t : Nat) : Nat := if okB zs t then sv zs (tS zs) (atN zs t) else 0
end Liv
namespace Go.Proofs.Ytplfmdjccmhclab
open Go.RowKit Liv Flt Go.Sort Stb Dec
set_option maxHeartbeats 4000000 in
theorem specAt_any (a : Option Addr) (len cap t : Nat) (zs : List (Nat × Bool)) (w : World) (h : LRow w a len zs) :
    Calls Try.prog 16 #[.slice a len cap, .float .f32 t] w fun e w' => e = .returned (.tuple #[.float .f32 (satT zs t), .bool (okB zs t)]) ∧ Below w.heap.size w w' := by
  have H := Lib.hid h
  clear h
  cases hL : livB zs with
  | false =>
    have HA : Hid (satT zs t = 0 ∧ okB zs t = false) := by show _ ∧ _; unfold satT okB; rw [hL]; exact ⟨rfl, rfl⟩
    have HL := Lib.hid hL
    clear hL
    go_enter Try.func16, Try.ntmps16
    go_wp2_with fail
    refine (specLives_any a len cap zs _ H.out).mono ?_
    rintro e w1 ⟨rfl, g1⟩
    rw [HL.out]
    have B1 := Lib.hid g1.below
    clear g1
    go_wp2_with fail
    go_ret2
    rw [HA.out.1, HA.out.2]
    exact ⟨rfl, B1.out⟩
  | true =>
    cases hT : nngB t with
    | false =>
      have HA : Hid (satT zs t = 0 ∧ okB zs t = false) := by show _ ∧ _; unfold satT okB; rw [hL, hT]; exact ⟨rfl, rfl⟩
      have HL := Lib.hid hL
      have HT := Lib.hid hT
      clear hL hT
      go_enter Try.func16, Try.ntmps16
      go_wp2_with fail
      refine (specLives_any a len cap zs _ H.out).mono ?_
      rintro e w1 ⟨rfl, g1⟩
      rw [HL.out]
      have B1 := Lib.hid g1.below
      clear g1
      go_wp2_with fail
      refine (specLeast_any t _).mono ?_
      rintro e w2 ⟨rfl, d2⟩
      rw [HT.out]
      have B2 := Lib.hid (B1.out.trans (d2.below _))
      clear d2
      go_wp2_with fail
      go_ret2
      rw [HA.out.1, HA.out.2]
      exact ⟨rfl, B2.out⟩
    | true =>
      have HA : Hid (satT zs t = sv zs (tS zs) (atN zs t) ∧ okB zs t = true) := by show _ ∧ _; unfold satT okB; rw [hL, hT]; exact ⟨rfl, rfl⟩
      have HL := Lib.hid hL
      have HT := Lib.hid hT
      obtain ⟨n, hn⟩ : ∃ n, (tS zs).length = n := ⟨_, rfl⟩
      have HN := Lib.hid hn
      have hn48 : n ≤ 48 := by have q1 := tS_len zs; have q2 := (liv_len hL).2; omega
      have HH : Hid (atO zs t = firstOf (fun i => !lqB ((tS zs).getD i 0) t) n 0) := by show _ = _; rw [← hn]; rfl
      clear hL hn hT
      go_enter Try.func16, Try.ntmps16
      go_wp2_with fail
      refine (specLives_any a len cap zs _ H.out).mono ?_
      rintro e w0 ⟨rfl, g1⟩
      rw [HL.out]
      have B0 := Lib.hid g1.below
      clear g1
      go_wp2_with fail
      refine (specLeast_any t _).mono ?_
      rintro e w1 ⟨rfl, d2⟩
      rw [HT.out]
      have B1 := Lib.hid (B0.out.trans (d2.below _))
      clear d2
      go_wp2_with fail
      refine (specTimes_any a len cap zs _ (H.out.keep B1.out) HL.out).mono ?_
      rintro e w2 ⟨⟨a2, c2, rfl, hr⟩, b2⟩
      rw [HN.out] at hr ⊢
      have R2 := Lib.hid hr
      have B2 := Lib.hid (B1.out.trans (b2.mono B1.out.size))
      clear hr b2
      go_wp2_with fail
      refine (specTable_any a len cap zs _ (H.out.keep B2.out) HL.out).mono ?_
      rintro e w3 ⟨⟨a3, c3, rfl, hr⟩, b3⟩
      rw [HN.out] at hr ⊢
      have T3 := Lib.hid hr
      have R3 := Lib.hid (R2.out.keep b3)
      have B3 := Lib.hid (B2.out.trans (b3.mono B2.out.size))
      clear hr b3
      go_wp2_with fail
      go_loopg [8, 9] n (fun q s i wr => ∃ k : Nat, s = .float .f32 (sv zs (tS zs) k) ∧ i = .int .i64 k ∧ Hid (k + q = n) ∧ k ≤ n ∧ wr = w3 ∧ Hid (atO zs t = firstOf (fun i => !lqB ((tS zs).getD i 0) t) (n - k) k))
      case atStart => exact ⟨0, rfl, rfl, by show _ = _; omega, Nat.zero_le _, rfl, HH.out⟩
      case round =>
        obtain ⟨k, rfl, rfl, hk, hkl, rfl, hF⟩ := hrel
        by_cases hlt : k < n
        · obtain ⟨b2, o2, rfl, _, hc2⟩ := R3.out.2.2.2 k hlt
          obtain ⟨b3, o3, rfl, _, hc3⟩ := T3.out.2.2.2 k hlt
          rw [tab_get zs (tS zs) hlt] at hc3
          have HJ : Hid (k + 1 + (gk - 1) = n) := by have := hk.out; show _ = _; omega
          have HG : Hid (gk - 1 < gk) := by have := hk.out; show _ < _; omega
          obtain ⟨y, hy⟩ : ∃ y, (tS zs).getD k 0 = y := ⟨_, rfl⟩
          rw [hy] at hc2
          cases hb : lqB y t with
          | false =>
            have HR : Hid (atN zs t = k) := by
              have e := hF.out
              rw [first_hit hlt (by show (!lqB _ _) = true; rw [hy, hb]; rfl)] at e
              show _ = _
              unfold atN; rw [e]; rfl
            have HB := hb
            unfold lqB at HB
            clear hF hy hb
            go_wp2_with fail
            go_ret2
            rw [HA.out.1, HA.out.2, HR.out]
            exact ⟨rfl, B3.out⟩
          | true =>
            have HF : Hid (atO zs t = firstOf (fun i => !lqB ((tS zs).getD i 0) t) (n - (k + 1)) (k + 1)) := by
              have e := hF.out
              rw [first_skip hlt (by show (!lqB _ _) = false; rw [hy, hb]; rfl)] at e
              exact e
            have HB := hb
            unfold lqB at HB
            clear hF hy hb
            go_wp2_with fail
            go_roundg (gk - 1)
            case measure => exact HG.out
            case rel => exact ⟨k + 1, rfl, by go_num, HJ, by omega, rfl, HF.out⟩
        · have HR : Hid (atN zs t = k) := by
            have e := hF.out
            rw [first_end (by omega)] at e
            show _ = _
            unfold atN; rw [e, HN.out]; show n = k; omega
          clear hF
          go_wp2_with fail
          go_ret2
          rw [HA.out.1, HA.out.2, HR.out]
          exact ⟨rfl, B3.out⟩
set_option maxHeartbeats 4000000 in
theorem implAt_any (a : Option Addr) (len cap t : Nat) (zs : List (Nat × Bool)) (w : World) (h : LRow w a len zs) :
    Calls Try.prog 18 #[.slice a len cap, .float .f32 t] w fun e w' => e = .returned (.tuple #[.float .f32 (satT zs t), .bool (okB zs t)]) ∧ Below w.heap.size w w' := by
  have H := Lib.hid h
  clear h
  cases hL : livB zs with
  | false =>
    have HA : Hid (satT zs t = 0 ∧ okB zs t = false) := by show _ ∧ _; unfold satT okB; rw [hL]; exact ⟨rfl, rfl⟩
    have HL := Lib.hid hL
    clear hL
    go_enter Try.func18, Try.ntmps18
    go_wp2_with fail
    refine (implAre_any a len cap zs _ H.out).mono ?_
    rintro e w1 ⟨rfl, b1⟩
    rw [HL.out]
    have B1 := Lib.hid b1
    clear b1
    go_wp2_with fail
    go_ret2
    rw [HA.out.1, HA.out.2]
    exact ⟨rfl, B1.out⟩
  | true =>
    cases hT : nngB t with
    | false =>
      have HA : Hid (satT zs t = 0 ∧ okB zs t = false) := by show _ ∧ _; unfold satT okB; rw [hL, hT]; exact ⟨rfl, rfl⟩
      have HL := Lib.hid hL
      have HT := Lib.hid hT
      clear hL hT
      go_enter Try.func18, Try.ntmps18
      go_wp2_with fail
      refine (implAre_any a len cap zs _ H.out).mono ?_
      rintro e w1 ⟨rfl, b1⟩
      rw [HL.out]
      have B1 := Lib.hid b1
      clear b1
      go_wp2_with fail
      refine (implFrom_any t _).mono ?_
      rintro e w2 ⟨rfl, d2⟩
      rw [HT.out]
      have B2 := Lib.hid (B1.out.trans (d2.below _))
      clear d2
      go_wp2_with fail
      go_ret2
      rw [HA.out.1, HA.out.2]
      exact ⟨rfl, B2.out⟩
    | true =>
      have HA : Hid (satT zs t = sv zs (tS zs) (atN zs t) ∧ okB zs t = true) := by show _ ∧ _; unfold satT okB; rw [hL, hT]; exact ⟨rfl, rfl⟩
      have HL := Lib.hid hL
      have HT := Lib.hid hT
      have HV : Hid (∀ z ∈ zs, VL z) := Lib.hid (liv_VL H.out hL)
      clear hL hT
      go_enter Try.func18, Try.ntmps18
      go_wp2_with fail
      refine (implAre_any a len cap zs _ H.out).mono ?_
      rintro e w0 ⟨rfl, b1⟩
      rw [HL.out]
      have B0 := Lib.hid b1
      clear b1
      go_wp2_with fail
      refine (implFrom_any t _).mono ?_
      rintro e w1 ⟨rfl, d2⟩
      rw [HT.out]
      have B1 := Lib.hid (B0.out.trans (d2.below _))
      clear d2
      go_wp2_with fail
      refine (momentsOf_any a len cap zs _ (H.out.keep B1.out) HL.out).mono ?_
      rintro e w2 ⟨⟨g, n, rfl, hn, hg, hM⟩, b2⟩
      have HN := Lib.hid hn
      have HM : Hid (MHas w2 g n zs (tS zs) ∧ g < w2.heap.size) := ⟨hM, hg⟩
      have hn48 : n ≤ 48 := by have q1 := tS_len zs; have q2 := (liv_len HL.out).2; omega
      have B2 := Lib.hid (B1.out.trans (b2.mono B1.out.size))
      have HIN : Hid (∀ k, k < n → lqB ((tS zs).getD k 0) t = true → k < atN zs t) := Lib.hid fun k hk hq => by
        refine Nat.lt_of_not_le fun hle => ?_
        have := atN_out HV.out (nng_nan HT.out) hle (by rw [← hn]; exact hk)
        rw [hq] at this; cases this
      have HOUT : Hid (∀ k, k < n → lqB ((tS zs).getD k 0) t = false → atN zs t ≤ k) := Lib.hid fun k hk hq => by
        refine Nat.le_of_not_lt fun hlt => ?_
        have := atN_in hlt
        rw [hq] at this; cases this
      have HMN : Hid (atN zs t ≤ n) := by show _ ≤ _; rw [hn]; exact atN_le zs t
      clear hn hg hM b2
      go_wp2_with fail
      refine (survivorsAt_any g n zs _ HM.out.1 HM.out.2 HN.out HL.out HV.out).mono ?_
      rintro e w3 ⟨⟨g2, rfl, hg2, hs, hf⟩, b3⟩
      have HTB : Hid (FHead w3 g2 (tab zs (tS zs) n)) := hf
      have HM3 := Lib.hid (HM.out.1.keep HM.out.2 b3)
      have B3 := Lib.hid (B2.out.trans (b3.mono B2.out.size))
      clear hg2 hs hf b3
      go_wp2_with fail
      go_loopg [7, 23] n (fun q s i wr => ∃ k j : Nat, s = .float .f32 (sv zs (tS zs) j) ∧ i = .int .i64 k ∧ Hid (k + q = n) ∧ k ≤ n ∧ wr = w3 ∧ Hid (j = min k (atN zs t)))
      case atStart => exact ⟨0, 0, rfl, rfl, by show _ = _; omega, Nat.zero_le _, rfl, by show _ = _; omega⟩
      case round =>
        obtain ⟨k, j, rfl, rfl, hk, hkl, rfl, hF⟩ := hrel
        by_cases hlt : k < n
        · obtain ⟨hc2, _, _⟩ := HM3.out k hlt
          have hc3 := HTB.out k (by rw [tab_len]; exact hlt)
          rw [tab_get zs (tS zs) hlt] at hc3
          have HJ : Hid (k + 1 + (gk - 1) = n) := by have := hk.out; show _ = _; omega
          have HG : Hid (gk - 1 < gk) := by have := hk.out; show _ < _; omega
          obtain ⟨y, hy⟩ : ∃ y, (tS zs).getD k 0 = y := ⟨_, rfl⟩
          rw [hy] at hc2
          cases hb : lqB y t with
          | false =>
            have HF : Hid (j = min (k + 1) (atN zs t)) := by
              have e := hF.out
              have := HOUT.out k hlt (by rw [hy]; exact hb)
              show _ = _; omega
            have HB := hb
            unfold lqB at HB
            clear hF hy hb
            go_wp2_with fail
            go_roundg (gk - 1)
            case measure => exact HG.out
            case rel => exact ⟨k + 1, j, rfl, by go_num, HJ, by omega, rfl, HF.out⟩
          | true =>
            have HF : Hid (k + 1 = min (k + 1) (atN zs t)) := by
              have := HIN.out k hlt (by rw [hy]; exact hb)
              show _ = _; omega
            have HB := hb
            unfold lqB at HB
            clear hF hy hb
            go_wp2_with fail
            go_roundg (gk - 1)
            case measure => exact HG.out
            case rel => exact ⟨k + 1, k + 1, rfl, by go_num, HJ, by omega, rfl, HF.out⟩
        · have HR : Hid (j = atN zs t) := by
            have e := hF.out
            have := HMN.out
            show _ = _; omega
          clear hF
          go_wp2_with fail
          go_ret2
          rw [HA.out.1, HA.out.2, ← HR.out]
          exact ⟨rfl, B3.out⟩
end Go.Proofs.Ytplfmdjccmhclab
