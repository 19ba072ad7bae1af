/-
  Contracts: how likely parts are accepted, and the share of bad parts that go out, in both. Conditions: shares are words.
-/
import Derived.Test.YtemdgfjcjjadnabCaO
namespace Pl
open Go Flt F32 Cm We Ieee
theorem write_inf (s : Bool) : fin .f32 (FloatKind.f32.format.write (.infinity s)) = false := by cases s <;> decide
theorem mul_inf {x y r : Nat} (hx : nan .f32 x = false) (hf : fin .f32 x = false) (h : Go.floatBits .mul .f32 x y = some r) : fin .f32 r = false := by
  have h' : FloatKind.f32.format.mul x y = some r := h
  unfold Format.mul at h'
  rcases read_case .f32 x hx with ⟨m', e', _, _, hlt, _⟩ | ⟨hr, _⟩
  · have : fin .f32 x = true := decide_eq_true hlt
    rw [this] at hf; cases hf
  · rw [hr] at h'
    cases hy : FloatKind.f32.format.read y with
    | nan s t => rw [hy] at h'; simp [Datum.product] at h'
    | infinity s =>
      rw [hy] at h'
      simp only [Datum.product, Option.map_some, Option.some.injEq] at h'
      rw [← h']; exact write_inf _
    | number s m e =>
      rw [hy] at h'
      by_cases hm : m = 0
      · simp [Datum.product, hm] at h'
      · simp only [Datum.product, if_neg hm, Option.map_some, Option.some.injEq] at h'
        rw [← h']; exact write_inf _
theorem mul_inf' {x y r : Nat} (hx : nan .f32 y = false) (hf : fin .f32 y = false) (h : Go.floatBits .mul .f32 x y = some r) : fin .f32 r = false := by
  have h' : FloatKind.f32.format.mul x y = some r := h
  unfold Format.mul at h'
  rcases read_case .f32 y hx with ⟨m', e', _, _, hlt, _⟩ | ⟨hr, _⟩
  · have : fin .f32 y = true := decide_eq_true hlt
    rw [this] at hf; cases hf
  · rw [hr] at h'
    cases hy : FloatKind.f32.format.read x with
    | nan s t => rw [hy] at h'; simp [Datum.product] at h'
    | infinity s =>
      rw [hy] at h'
      simp only [Datum.product, Option.map_some, Option.some.injEq] at h'
      rw [← h']; exact write_inf _
    | number s m e =>
      rw [hy] at h'
      by_cases hm : m = 0
      · simp [Datum.product, hm] at h'
      · simp only [Datum.product, if_neg hm, Option.map_some, Option.some.injEq] at h'
        rw [← h']; exact write_inf _
/-- what is told is a number -/
def numb (o : Option Nat) : Prop := ∀ v, o = some v → nan .f32 v = false
theorem mul_num (o p : Option Nat) : numb (F32.opO .mul o p) := by
  intro v h
  unfold F32.opO at h
  cases o with
  | none => cases h
  | some s =>
    cases p with
    | none => cases h
    | some z => exact F32.op_num (.inr (.inr (.inl rfl))) h
theorem fin_mul_l {o p : Option Nat} (ho : numb o) (h : finO o = false) : finO (F32.opO .mul o p) = false := by
  cases hr : F32.opO .mul o p with
  | none => rfl
  | some r =>
    unfold F32.opO at hr
    cases o with
    | none => cases hr
    | some s =>
      cases p with
      | none => cases hr
      | some z => exact mul_inf (ho s rfl) h hr
theorem fin_mul_r {o p : Option Nat} (hp : numb p) (h : finO p = false) : finO (F32.opO .mul o p) = false := by
  cases hr : F32.opO .mul o p with
  | none => rfl
  | some r =>
    unfold F32.opO at hr
    cases o with
    | none => cases hr
    | some s =>
      cases p with
      | none => cases hr
      | some z => exact mul_inf' (hp z rfl) h hr
theorem caE_num (s a : Int) (sh : Nat) : numb (caE s a sh) := by
  intro v h
  unfold caE at h
  have h' : F32.opO .add (We.sm (caT s.toNat sh) a.toNat) (caT s.toNat sh a.toNat) = some v := h
  unfold F32.opO at h'
  cases ho : We.sm (caT s.toNat sh) a.toNat with
  | none => rw [ho] at h'; cases h'
  | some u =>
    rw [ho] at h'
    cases hp : caT s.toNat sh a.toNat with
    | none => rw [hp] at h'; cases h'
    | some z => rw [hp] at h'; exact F32.op_num (.inl rfl) h'
theorem okB_lt {s a : Int} {sh v : Nat} (_h : okB (ca0 s a sh) (caE s a sh) = true) (hv : caE s a sh = some v) : v < 4294967296 := by
  have h' : F32.opO .add (We.sm (caT s.toNat sh) a.toNat) (caT s.toNat sh a.toNat) = some v := hv
  unfold F32.opO at h'
  cases ho : We.sm (caT s.toNat sh) a.toNat with
  | none => rw [ho] at h'; cases h'
  | some u =>
    rw [ho] at h'
    cases hp : caT s.toNat sh a.toNat with
    | none => rw [hp] at h'; cases h'
    | some z => rw [hp] at h'; exact F32.op_lt (.inl rfl) h'
theorem pl_of_pf {l s a : Int} (h : plB s a = false) : pfB l s a = false := by unfold pfB; rw [h]; simp
theorem og_ca {l s a : Int} {sh : Nat} (h : ca0 s a sh = false) : og0 l s a sh = false := by
  unfold ca0 at h
  unfold og0
  cases h1 : plB s a with
  | false => rw [pl_of_pf h1]; rfl
  | true => rw [h1, Bool.true_and] at h; rw [h, Bool.and_false]
theorem og_fin {l s a : Int} {sh : Nat} (h : finO (caE s a sh) = false) : finO (ogE l s a sh) = false :=
  fin_mul_l (mul_num _ _) (fin_mul_r (caE_num s a sh) h)
theorem ok_bad {c : Bool} {o : Option Nat} (h : finO o = false) : okB c o = false ∧ okV c o = 0 := by unfold okB okV; rw [h]; simp
end Pl
namespace Go.Proofs.Ytemdgfjcjjadnab
open Go.RowKit Flt Dec Cm Pl We F32
set_option maxHeartbeats 1600000 in
theorem iOutgoingOf_any (l s a : Int) (sh : Nat) (w : World) (hsh : sh < 4294967296) :
    Calls Try.prog 38 #[.int .i64 l, .agg #[.int .i64 s, .int .i64 a], .float .f32 sh] w fun e w' => e = .returned (.tuple #[.float .f32 (okV (og0 l s a sh) (ogE l s a sh)), .bool (okB (og0 l s a sh) (ogE l s a sh))]) ∧ Below w.heap.size w w' := by
  have hb : Below w.heap.size w (w.alloc (.cells #[.int .i64 s, .int .i64 a] 27)) := (Below.refl _ _).alloc (Nat.le_refl _) _
  have HB := Lib.hid (Blk.Blk.new w #[.int .i64 s, .int .i64 a] 27)
  have HB0 := Lib.hid hb
  clear hb
  have hneg : okB (ca0 s a sh) (caE s a sh) = false → okB (og0 l s a sh) (ogE l s a sh) = false ∧ okV (og0 l s a sh) (ogE l s a sh) = 0 := by
    intro h
    cases hc : ca0 s a sh with
    | false => exact ok_no (og_ca hc) _
    | true =>
      rw [(ok_yes hc _).1] at h
      exact ok_bad (og_fin h)
  cases h0 : okB (ca0 s a sh) (caE s a sh) with
  | false =>
    have HR := Lib.hid (hneg h0)
    have H0 := Lib.hid h0
    clear h0 hneg
    obtain ⟨⟨c1, c2⟩, _, _⟩ := HB.out.two
    go_enter Try.func38, Try.ntmps38
    go_wp2_with fail
    refine (iChanceAccept_any s a sh _ hsh).mono ?_
    rintro e w1 ⟨rfl, b1⟩
    rw [H0.out]
    have B1 := Lib.hid (HB0.out.trans (b1.mono HB0.out.size))
    clear b1 c1 c2
    go_wp2_with fail
    go_ret2
    rw [HR.out.1, HR.out.2]
    exact ⟨rfl, B1.out⟩
  | true =>
    have H0 := Lib.hid h0
    clear hneg
    have hcc : ca0 s a sh = true ∧ finO (caE s a sh) = true := by unfold okB at h0; rwa [Bool.and_eq_true] at h0
    cases h1 : pfB l s a with
    | false =>
      have HR := Lib.hid (ok_no (show og0 l s a sh = false by unfold og0; rw [h1]; rfl) (ogE l s a sh))
      have H1 := Lib.hid h1
      clear h0 h1 hcc
      obtain ⟨⟨c1, c2⟩, _, _⟩ := HB.out.two
      go_enter Try.func38, Try.ntmps38
      go_wp2_with fail
      refine (iChanceAccept_any s a sh _ hsh).mono ?_
      rintro e w1 ⟨rfl, b1⟩
      rw [H0.out]
      have B1 := Lib.hid (HB0.out.trans (b1.mono HB0.out.size))
      have K1 := Lib.hid (HB.out.keep b1)
      clear b1 c1 c2
      obtain ⟨⟨c1, c2⟩, _, _⟩ := K1.out.two
      go_wp2_with fail
      refine (c_isPlanFor l s a _).mono ?_
      rintro e w2 ⟨rfl, b2⟩
      rw [H1.out]
      have B2 := Lib.hid (B1.out.trans (b2.mono B1.out.size))
      clear b2 c1 c2
      go_wp2_with fail
      go_ret2
      rw [HR.out.1, HR.out.2]
      exact ⟨rfl, B2.out⟩
    | true =>
      have hsr : shr sh = true := by have := hcc.1; unfold ca0 at this; rw [Bool.and_eq_true] at this; exact this.2
      have HR := Lib.hid (ok_yes (show og0 l s a sh = true by unfold og0; rw [h1, hsr]; rfl) (ogE l s a sh))
      have H1 := Lib.hid h1
      obtain ⟨v, hv⟩ : ∃ v, caE s a sh = some v := by
        cases hc : caE s a sh with
        | none => rw [hc] at hcc; exact absurd hcc.2 (by decide)
        | some v => exact ⟨v, rfl⟩
      have hV : okV (ca0 s a sh) (caE s a sh) = v := by rw [(ok_yes hcc.1 _).2, if_pos hcc.2, hv]; rfl
      have hvn := caE_num s a sh v hv
      have hvf : fin .f32 v = true := by have := hcc.2; rw [hv] at this; exact this
      have hvl := okB_lt h0 hv
      have HVI : Hid (F32.Is (caE s a sh) v) := by show F32.Is _ _; rw [hv]; exact ⟨rfl, hvn, hvl⟩
      have HSH := Lib.hid (shr_is hsr hsh)
      have HV := Lib.hid hV
      have hfs := foi_is s
      have hfl := foi_is l
      have hE : ogE l s a sh = F32.opO .mul (F32.opO .mul (some sh) (caE s a sh)) (F32.opO .sub (some 1065353216) (F32.opO .quo (some (Go.floatOfInt .f32 s)) (some (Go.floatOfInt .f32 l)))) := rfl
      obtain ⟨fs, hqs⟩ : ∃ x, Go.floatOfInt .f32 s = x := ⟨_, rfl⟩
      obtain ⟨fl, hql⟩ : ∃ x, Go.floatOfInt .f32 l = x := ⟨_, rfl⟩
      rw [hqs] at hfs hE
      rw [hql] at hfl hE
      have HFS := Lib.hid hfs
      have HFL := Lib.hid hfl
      have HE := Lib.hid hE
      clear h0 h1 hcc hsr hv hV hvn hvf hvl hfs hfl hE
      obtain ⟨⟨c1, c2⟩, _, _⟩ := HB.out.two
      go_enter Try.func38, Try.ntmps38
      go_wp2_with fail
      refine (iChanceAccept_any s a sh _ hsh).mono ?_
      rintro e w1 ⟨rfl, b1⟩
      rw [H0.out, HV.out]
      have B1 := Lib.hid (HB0.out.trans (b1.mono HB0.out.size))
      have K1 := Lib.hid (HB.out.keep b1)
      clear b1 c1 c2
      obtain ⟨⟨c1, c2⟩, _, _⟩ := K1.out.two
      go_wp2_with fail
      refine (c_isPlanFor l s a _).mono ?_
      rintro e w2 ⟨rfl, b2⟩
      rw [H1.out]
      have B2 := Lib.hid (B1.out.trans (b2.mono B1.out.size))
      have K2 := Lib.hid (K1.out.keep b2)
      clear b2 c1 c2
      obtain ⟨x1, v1, r1, j1, l1, e1⟩ := F32.arith_ex (P := Try.prog) (op := .mul) (.inr (.inr (.inl rfl))) 24 HSH.out HVI.out w2
      obtain ⟨x2, v2, r2, j2, l2, e2⟩ := F32.arith_ex (P := Try.prog) (op := .quo) (.inr (.inr (.inr rfl))) 24 HFS.out HFL.out v1
      obtain ⟨x3, v3, r3, j3, l3, e3⟩ := F32.arith_ex (P := Try.prog) (op := .sub) (.inr (.inl rfl)) 24 one_is j2 v2
      obtain ⟨x4, v4, r4, j4, l4, e4⟩ := F32.arith_ex (P := Try.prog) (op := .mul) (.inr (.inr (.inl rfl))) 24 j1 j3 v3
      have D4 := Lib.hid (((e1.trans e2).trans e3).trans e4)
      have HF := Lib.hid (fin_is (show F32.Is (ogE l s a sh) x4 from by rw [HE.out]; exact j4))
      have c1 : ∀ W, Drawn w2 W → W.cell? ⟨w.heap.size, 0, none⟩ = some (.int .i64 s) := fun W hW => ((K2.out.keep (hW.below _)).two).1.1
      have d1 := c1 w2 (Drawn.refl _)
      have d2 := c1 v1 e1
      clear j1 l1 e1 j2 l2 e2 j3 l3 e3 j4 l4 e4 c1
      go_wp2_with fail
      refine (c_onlyFinite x4 _).mono ?_
      rintro e w4 ⟨rfl, d4⟩
      rw [HF.out.2, HF.out.1, ← HR.out.2, ← HR.out.1]
      have B4 := Lib.hid (B2.out.trans (((D4.out.trans d4).below _).mono B2.out.size))
      clear d4
      go_wp2_with fail
      go_ret2
      exact ⟨rfl, B4.out⟩
end Go.Proofs.Ytemdgfjcjjadnab
