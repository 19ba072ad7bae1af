/-
  The time that half survive, as the two tell it. Conditions: all of them are lives.
-/
import Derived.Test.YtplfmdjccmhclabSurW
namespace Liv
open Go Flt Dec
/-- the first place at which something holds -/
def firstOf (p : Nat → Bool) : Nat → Nat → Option Nat
  | 0, _ => none
  | f + 1, i => if p i then some i else firstOf p f (i + 1)
theorem first_skip {p : Nat → Bool} {n k : Nat} (hk : k < n) (h : p k = false) : firstOf p (n - k) k = firstOf p (n - (k + 1)) (k + 1) := by
  obtain ⟨f, hf⟩ : ∃ f, n - k = f + 1 := ⟨n - k - 1, by omega⟩
  rw [hf, show n - (k + 1) = f by omega]
  simp [firstOf, h]
theorem first_hit {p : Nat → Bool} {n k : Nat} (hk : k < n) (h : p k = true) : firstOf p (n - k) k = some k := by
  obtain ⟨f, hf⟩ : ∃ f, n - k = f + 1 := ⟨n - k - 1, by omega⟩
  rw [hf]
  simp [firstOf, h]
theorem first_end {p : Nat → Bool} {n k : Nat} (hk : n ≤ k) : firstOf p (n - k) k = none := by
  rw [show n - k = 0 by omega]; rfl
/-- half of them, or fewer -/
def halfB (x : Nat) : Bool := FloatKind.f32.format.order x 1056964608 == some .lt || FloatKind.f32.format.order x 1056964608 == some .eq
def halfO (zs : List (Nat × Bool)) : Option Nat := firstOf (fun i => halfB (sv zs (tS zs) (i + 1))) (tS zs).length 0
def midT (zs : List (Nat × Bool)) : Nat := if livB zs then (match halfO zs with | some i => (tS zs).getD i 0 | none => 0) else 0
def midB (zs : List (Nat × Bool)) : Bool := livB zs && (halfO zs).isSome
end Liv
namespace Go.Proofs.Ytplfmdjccmhclab
open Go.RowKit Liv Flt Go.Sort Stb Dec
set_option maxHeartbeats 4000000 in
theorem specMid_any (a : Option Addr) (len cap : Nat) (zs : List (Nat × Bool)) (w : World) (h : LRow w a len zs) :
    Calls Try.prog 29 #[.slice a len cap] w fun e w' => e = .returned (.tuple #[.float .f32 (midT zs), .bool (midB zs)]) ∧ Below w.heap.size w w' := by
  have H := Lib.hid h
  clear h
  cases hL : livB zs with
  | false =>
    have HA : Hid (midT zs = 0 ∧ midB zs = false) := by show _ ∧ _; unfold midT midB; rw [hL]; exact ⟨rfl, rfl⟩
    have HL := Lib.hid hL
    clear hL
    go_enter Try.func29, Try.ntmps29
    go_wp2_with fail
    refine (specLives_any a len cap zs _ H.out).mono ?_
    rintro e w1 ⟨rfl, g1⟩
    rw [HL.out]
    have B1 := Lib.hid g1.below
    clear g1
    go_wp2_with fail
    go_ret2
    rw [HA.out.1, HA.out.2]
    exact ⟨rfl, B1.out⟩
  | true =>
    have HA : Hid (midT zs = (match halfO zs with | some i => (tS zs).getD i 0 | none => 0) ∧ midB zs = (halfO zs).isSome) := by show _ ∧ _; unfold midT midB; rw [hL]; exact ⟨rfl, rfl⟩
    have HL := Lib.hid hL
    obtain ⟨n, hn⟩ : ∃ n, (tS zs).length = n := ⟨_, rfl⟩
    have HN := Lib.hid hn
    have hn48 : n ≤ 48 := by have q1 := tS_len zs; have q2 := (liv_len hL).2; omega
    have HH : Hid (halfO zs = firstOf (fun i => halfB (sv zs (tS zs) (i + 1))) n 0) := by show _ = _; rw [← hn]; rfl
    clear hL hn
    go_enter Try.func29, Try.ntmps29
    go_wp2_with fail
    refine (specLives_any a len cap zs _ H.out).mono ?_
    rintro e w1 ⟨rfl, g1⟩
    rw [HL.out]
    have B1 := Lib.hid g1.below
    clear g1
    go_wp2_with fail
    refine (specTimes_any a len cap zs _ (H.out.keep B1.out) HL.out).mono ?_
    rintro e w2 ⟨⟨a2, c2, rfl, hr⟩, b2⟩
    rw [HN.out] at hr ⊢
    have R2 := Lib.hid hr
    have B2 := Lib.hid (B1.out.trans (b2.mono B1.out.size))
    clear hr b2
    go_wp2_with fail
    refine (specTable_any a len cap zs _ (H.out.keep B2.out) HL.out).mono ?_
    rintro e w3 ⟨⟨a3, c3, rfl, hr⟩, b3⟩
    rw [HN.out] at hr ⊢
    have T3 := Lib.hid hr
    have R3 := Lib.hid (R2.out.keep b3)
    have B3 := Lib.hid (B2.out.trans (b3.mono B2.out.size))
    clear hr b3
    go_wp2_with fail
    go_loopg [6] n (fun q i wr => ∃ k : Nat, i = .int .i64 k ∧ Hid (k + q = n) ∧ k ≤ n ∧ wr = w3 ∧ Hid (halfO zs = firstOf (fun i => halfB (sv zs (tS zs) (i + 1))) (n - k) k))
    case atStart => exact ⟨0, rfl, by show _ = _; omega, Nat.zero_le _, rfl, HH.out⟩
    case round =>
      obtain ⟨k, rfl, hk, hkl, rfl, hF⟩ := hrel
      by_cases hlt : k < n
      · obtain ⟨b2, o2, rfl, _, hc2⟩ := R3.out.2.2.2 k hlt
        obtain ⟨b3, o3, rfl, _, hc3⟩ := T3.out.2.2.2 k hlt
        rw [tab_get zs (tS zs) hlt] at hc3
        have HJ : Hid (k + 1 + (gk - 1) = n) := by have := hk.out; show _ = _; omega
        have HG : Hid (gk - 1 < gk) := by have := hk.out; show _ < _; omega
        obtain ⟨x, hx⟩ : ∃ x, sv zs (tS zs) (k + 1) = x := ⟨_, rfl⟩
        rw [hx] at hc3
        cases hb : halfB x with
        | true =>
          have HR : Hid (midT zs = (tS zs).getD k 0 ∧ midB zs = true) := by
            have e := hF.out
            rw [first_hit hlt (by show halfB _ = true; rw [hx]; exact hb)] at e
            show _ ∧ _
            rw [HA.out.1, HA.out.2, e]; exact ⟨rfl, rfl⟩
          have HB := hb
          unfold halfB at HB
          clear hF hx hb
          go_wp2_with fail
          go_ret2
          rw [HR.out.1, HR.out.2]
          exact ⟨rfl, B3.out⟩
        | false =>
          have HF : Hid (halfO zs = firstOf (fun i => halfB (sv zs (tS zs) (i + 1))) (n - (k + 1)) (k + 1)) := by
            have e := hF.out
            rw [first_skip hlt (by show halfB _ = false; rw [hx]; exact hb)] at e
            exact e
          have HB := hb
          unfold halfB at HB
          clear hF hx hb
          go_wp2_with fail
          go_roundg (gk - 1)
          case measure => exact HG.out
          case rel => exact ⟨k + 1, by go_num, HJ, by omega, rfl, HF.out⟩
      · have HR : Hid (midT zs = 0 ∧ midB zs = false) := by
          have e := hF.out
          rw [first_end (by omega)] at e
          show _ ∧ _
          rw [HA.out.1, HA.out.2, e]; exact ⟨rfl, rfl⟩
        clear hF
        go_wp2_with fail
        go_ret2
        rw [HR.out.1, HR.out.2]
        exact ⟨rfl, B3.out⟩
set_option maxHeartbeats 4000000 in
theorem implMid_any (a : Option Addr) (len cap : Nat) (zs : List (Nat × Bool)) (w : World) (h : LRow w a len zs) :
    Calls Try.prog 30 #[.slice a len cap] w fun e w' => e = .returned (.tuple #[.float .f32 (midT zs), .bool (midB zs)]) ∧ Below w.heap.size w w' := by
  have H := Lib.hid h
  clear h
  cases hL : livB zs with
  | false =>
    have HA : Hid (midT zs = 0 ∧ midB zs = false) := by show _ ∧ _; unfold midT midB; rw [hL]; exact ⟨rfl, rfl⟩
    have HL := Lib.hid hL
    clear hL
    go_enter Try.func30, Try.ntmps30
    go_wp2_with fail
    refine (implAre_any a len cap zs _ H.out).mono ?_
    rintro e w1 ⟨rfl, b1⟩
    rw [HL.out]
    have B1 := Lib.hid b1
    clear b1
    go_wp2_with fail
    go_ret2
    rw [HA.out.1, HA.out.2]
    exact ⟨rfl, B1.out⟩
  | true =>
    have HA : Hid (midT zs = (match halfO zs with | some i => (tS zs).getD i 0 | none => 0) ∧ midB zs = (halfO zs).isSome) := by show _ ∧ _; unfold midT midB; rw [hL]; exact ⟨rfl, rfl⟩
    have HL := Lib.hid hL
    have HV : Hid (∀ z ∈ zs, VL z) := Lib.hid (liv_VL H.out hL)
    clear hL
    go_enter Try.func30, Try.ntmps30
    go_wp2_with fail
    refine (implAre_any a len cap zs _ H.out).mono ?_
    rintro e w1 ⟨rfl, b1⟩
    rw [HL.out]
    have B1 := Lib.hid b1
    clear b1
    go_wp2_with fail
    refine (momentsOf_any a len cap zs _ (H.out.keep B1.out) HL.out).mono ?_
    rintro e w2 ⟨⟨g, n, rfl, hn, hg, hM⟩, b2⟩
    have HN := Lib.hid hn
    have HH : Hid (halfO zs = firstOf (fun i => halfB (sv zs (tS zs) (i + 1))) n 0) := by show _ = _; rw [hn]; rfl
    have HM : Hid (MHas w2 g n zs (tS zs) ∧ g < w2.heap.size) := ⟨hM, hg⟩
    have hn48 : n ≤ 48 := by have q1 := tS_len zs; have q2 := (liv_len HL.out).2; omega
    have B2 := Lib.hid (B1.out.trans (b2.mono B1.out.size))
    clear hn hg hM b2
    go_wp2_with fail
    refine (survivorsAt_any g n zs _ HM.out.1 HM.out.2 HN.out HL.out HV.out).mono ?_
    rintro e w3 ⟨⟨g2, rfl, hg2, hs, hf⟩, b3⟩
    have HT : Hid (FHead w3 g2 (tab zs (tS zs) n)) := hf
    have HM3 := Lib.hid (HM.out.1.keep HM.out.2 b3)
    have B3 := Lib.hid (B2.out.trans (b3.mono B2.out.size))
    clear hg2 hs hf b3
    go_wp2_with fail
    go_loopg [15] n (fun q i wr => ∃ k : Nat, i = .int .i64 k ∧ Hid (k + q = n) ∧ k ≤ n ∧ wr = w3 ∧ Hid (halfO zs = firstOf (fun i => halfB (sv zs (tS zs) (i + 1))) (n - k) k))
    case atStart => exact ⟨0, rfl, by show _ = _; omega, Nat.zero_le _, rfl, HH.out⟩
    case round =>
      obtain ⟨k, rfl, hk, hkl, rfl, hF⟩ := hrel
      by_cases hlt : k < n
      · obtain ⟨hc2, _, _⟩ := HM3.out k hlt
        have hc3 := HT.out k (by rw [tab_len]; exact hlt)
        rw [tab_get zs (tS zs) hlt] at hc3
        have HJ : Hid (k + 1 + (gk - 1) = n) := by have := hk.out; show _ = _; omega
        have HG : Hid (gk - 1 < gk) := by have := hk.out; show _ < _; omega
        obtain ⟨x, hx⟩ : ∃ x, sv zs (tS zs) (k + 1) = x := ⟨_, rfl⟩
        rw [hx] at hc3
        cases hb : halfB x with
        | true =>
          have HR : Hid (midT zs = (tS zs).getD k 0 ∧ midB zs = true) := by
            have e := hF.out
            rw [first_hit hlt (by show halfB _ = true; rw [hx]; exact hb)] at e
            show _ ∧ _
            rw [HA.out.1, HA.out.2, e]; exact ⟨rfl, rfl⟩
          have HB := hb
          unfold halfB at HB
          clear hF hx hb
          go_wp2_with fail
          go_ret2
          rw [HR.out.1, HR.out.2]
          exact ⟨rfl, B3.out⟩
        | false =>
          have HF : Hid (halfO zs = firstOf (fun i => halfB (sv zs (tS zs) (i + 1))) (n - (k + 1)) (k + 1)) := by
            have e := hF.out
            rw [first_skip hlt (by show halfB _ = false; rw [hx]; exact hb)] at e
            exact e
          have HB := hb
          unfold halfB at HB
          clear hF hx hb
          go_wp2_with fail
          go_roundg (gk - 1)
          case measure => exact HG.out
          case rel => exact ⟨k + 1, by go_num, HJ, by omega, rfl, HF.out⟩
      · have HR : Hid (midT zs = 0 ∧ midB zs = false) := by
          have e := hF.out
          rw [first_end (by omega)] at e
          show _ ∧ _
          rw [HA.out.1, HA.out.2, e]; exact ⟨rfl, rfl⟩
        clear hF
        go_wp2_with fail
        go_ret2
        rw [HR.out.1, HR.out.2]
        exact ⟨rfl, B3.out⟩
end Go.Proofs.Ytplfmdjccmhclab
