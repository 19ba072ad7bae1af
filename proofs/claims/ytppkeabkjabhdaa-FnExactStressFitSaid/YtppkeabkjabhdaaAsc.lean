/-
  Numbers in strictly ascending order; the lesser one of two; how old a unit is, as a plain function. Conditions: the list reads as a list of numbers.
-/
import Derived.Test.YtppkeabkjabhdaaWeP
import Derived.Test.YtppkeabkjabhdaaTtl
import Derived.Handy
namespace We
open Go Flt Dec F32 Cm
def gtW (a b : Nat) : Bool := FloatKind.f32.format.order a b == some .gt
def leW (a b : Nat) : Bool := (FloatKind.f32.format.order a b == some .lt) || (FloatKind.f32.format.order a b == some .eq)
theorem gt_le {a b : Nat} (ha : fin .f32 a = true) (hb : fin .f32 b = true) : gtW a b = !leW a b := by
  unfold gtW leW
  rw [gtB .f32 a b (fin_num ha) (fin_num hb), ltB .f32 a b (fin_num ha) (fin_num hb), eqB .f32 a b (fin_num ha) (fin_num hb)]
  rcases Int.lt_trichotomy (S .f32 a) (S .f32 b) with h | h | h
  · rw [decide_eq_true h, decide_eq_false (by omega)]; rfl
  · rw [decide_eq_true h, decide_eq_false (by omega), decide_eq_false (by omega)]; rfl
  · rw [decide_eq_true h, decide_eq_false (by omega), decide_eq_false (by omega)]; rfl
/-- each one is greater than the one ahead of it -/
def ascW (T : List Nat) : Bool := (List.range T.length).all fun i => i == 0 || gtW (T.getD i 0) (T.getD (i - 1) 0)
theorem ascW_yes {T : List Nat} (h : ∀ i, 1 ≤ i → i < T.length → gtW (T.getD i 0) (T.getD (i - 1) 0) = true) : ascW T = true := by
  unfold ascW
  rw [List.all_eq_true]
  intro i hi
  have := List.mem_range.1 hi
  by_cases e : i = 0
  · subst e; rfl
  · rw [h i (by omega) this]; simp
theorem ascW_no {T : List Nat} {i : Nat} (h1 : 1 ≤ i) (h2 : i < T.length) (h : gtW (T.getD i 0) (T.getD (i - 1) 0) = false) : ascW T = false := by
  unfold ascW
  rw [List.all_eq_false]
  refine ⟨i, List.mem_range.2 h2, ?_⟩
  rw [h]
  have : (i == 0) = false := by simp; omega
  rw [this]; decide
theorem ascW_at {T : List Nat} (h : ascW T = true) {i : Nat} (h1 : 1 ≤ i) (h2 : i < T.length) : gtW (T.getD i 0) (T.getD (i - 1) 0) = true := by
  cases hg : gtW (T.getD i 0) (T.getD (i - 1) 0) with
  | true => rfl
  | false => rw [ascW_no h1 h2 hg] at h; cases h
/-- the lesser one -/
def minF (x y : Nat) : Nat := match FloatKind.f32.format.order x y with
  | none => x
  | some .lt => x
  | some .gt => y
  | some .eq => if (FloatKind.f32.decode x).neg then x else y
theorem minF_lt {x y : Nat} (hx : nan .f32 x = false) (hy : nan .f32 y = false) (hxl : x < 4294967296) (hyl : y < 4294967296) (hp : FloatKind.f32.format.order y 0 == some .gt) :
    minF x y = if FloatKind.f32.format.order y x == some .lt then y else x := by
  rw [ltB .f32 y x hy hx]
  have h0 := hp
  rw [gtB .f32 y 0 hy (by decide)] at h0
  have h0 := of_decide_eq_true h0
  have ho := order_eq .f32 x y hx hy
  unfold minF
  rw [ho]
  rcases Int.lt_trichotomy (S .f32 x) (S .f32 y) with h | h | h
  · rw [Int.compare_eq_lt.2 h]
    show x = _
    rw [if_neg (by rw [decide_eq_true_eq]; omega)]
  · have hxy : x = y := by
      rw [S32 x hxl, S32 y hyl] at h
      rw [S32 y hyl, S32 0 (by decide)] at h0
      split at h <;> split at h <;> split at h0 <;> omega
    subst hxy
    rw [show compare (S .f32 x) (S .f32 x) = .eq from by simp]
    have hs : (if (FloatKind.f32.decode x).neg = true then x else x) = x := by split <;> rfl
    show (if (FloatKind.f32.decode x).neg = true then x else x) = _
    rw [hs]
    split <;> rfl
  · rw [Int.compare_eq_gt.2 h]
    show y = _
    rw [if_pos (by rw [decide_eq_true_eq]; exact h)]
/-- how old a unit is -/
def saT (T : List Nat) (t i : Nat) : Nat := if i + 1 < T.length ∧ (FloatKind.f32.format.order (T.getD (i + 1) 0) t == some .lt) = true then T.getD (i + 1) 0 else t
def saD (T : List Nat) (t i : Nat) : Option Nat := F32.opO .sub (some (saT T t i)) (at_ T i)
def saS (F T : List Nat) (t : Nat) : Nat → Option Nat
  | 0 => some 0
  | k + 1 => if cmpO .gt (saD T t k) (some 0) then F32.opO .add (saS F T t k) (F32.opO .mul (at_ F k) (saD T t k)) else saS F T t k
def eqz (z : Nat) : Bool := FloatKind.f32.format.order z 0 == some .eq
def sa0 (F T : List Nat) (t : Nat) : Bool := decide (1 ≤ F.length ∧ F.length ≤ 16) && (decide (T.length = F.length) && (F.all nng && (eqz (T.getD 0 0) && ((ascW T && finL T) && nng t))))
def saE (F T : List Nat) (t : Nat) : Option Nat := saS F T t F.length
theorem sa_len {F T : List Nat} {t : Nat} (h : ¬ (1 ≤ F.length ∧ F.length ≤ 16)) : sa0 F T t = false := by unfold sa0; rw [decide_eq_false h]; rfl
theorem sa_same {F T : List Nat} {t : Nat} (h : ¬ T.length = F.length) : sa0 F T t = false := by unfold sa0; rw [decide_eq_false h]; simp
theorem sa_f {F T : List Nat} {t : Nat} (h : F.all nng = false) : sa0 F T t = false := by unfold sa0; rw [h]; simp
theorem sa_z {F T : List Nat} {t : Nat} (h : eqz (T.getD 0 0) = false) : sa0 F T t = false := by unfold sa0; rw [h]; simp
theorem sa_a {F T : List Nat} {t : Nat} (h : (ascW T && finL T) = false) : sa0 F T t = false := by unfold sa0; rw [h]; simp
theorem sa_a1 {F T : List Nat} {t : Nat} (h : ascW T = false) : sa0 F T t = false := sa_a (by rw [h]; rfl)
theorem sa_a2 {F T : List Nat} {t : Nat} (h : finL T = false) : sa0 F T t = false := sa_a (by rw [h]; simp)
theorem sa_t {F T : List Nat} {t : Nat} (h : nng t = false) : sa0 F T t = false := by unfold sa0; rw [h]; simp
theorem sa_yes {F T : List Nat} {t : Nat} (h1 : 1 ≤ F.length ∧ F.length ≤ 16) (h2 : T.length = F.length) (h3 : F.all nng = true) (h4 : eqz (T.getD 0 0) = true) (h5 : (ascW T && finL T) = true) (h6 : nng t = true) : sa0 F T t = true := by
  unfold sa0; rw [decide_eq_true h1, decide_eq_true h2, h3, h4, h5, h6]; rfl
theorem nng_fin {z : Nat} (h : nng z = true) : fin .f32 z = true := by unfold nng at h; rw [Bool.and_eq_true] at h; exact h.1
theorem pos_fin {z : Nat} (h : pos z = true) : fin .f32 z = true := by unfold pos at h; rw [Bool.and_eq_true] at h; exact h.1
theorem all_false {p : Nat → Bool} {Z : List Nat} {k : Nat} (hk : k < Z.length) (h : p (Z.getD k 0) = false) : Z.all p = false := by
  rw [List.all_eq_false]
  exact ⟨Z.getD k 0, by simp [List.getD, hk], by rw [h]; decide⟩
theorem all_from {p : Nat → Bool} {Z : List Nat} (h : ∀ k, k < Z.length → p (Z.getD k 0) = true) : Z.all p = true := by
  rw [List.all_eq_true]
  intro z hz
  obtain ⟨j, hj, rfl⟩ := List.mem_iff_getElem.1 hz
  have := h j hj
  rw [show Z.getD j 0 = Z[j] from by simp [List.getD, hj]] at this
  exact this
/-- the next ones lie above 0 -/
theorem asc_pos {T : List Nat} (h : ascW T = true) (hf : finL T = true) (h0 : eqz (T.getD 0 0) = true) : ∀ i, i + 1 < T.length → (FloatKind.f32.format.order (T.getD (i + 1) 0) 0 == some .gt) = true := by
  have key : ∀ i, i < T.length → S .f32 0 ≤ S .f32 (T.getD i 0) ∧ (1 ≤ i → S .f32 0 < S .f32 (T.getD i 0)) := by
    intro i
    induction i with
    | zero =>
      intro hi
      have hn := fin_num (all_get hf hi)
      have h0 := h0
      unfold eqz at h0
      rw [eqB .f32 _ 0 hn (by decide)] at h0
      have := of_decide_eq_true h0
      exact ⟨by omega, fun h => absurd h (by omega)⟩
    | succ i ih =>
      intro hi
      have := ih (by omega)
      have hg := ascW_at h (i := i + 1) (by omega) hi
      unfold gtW at hg
      rw [gtB .f32 _ _ (fin_num (all_get hf hi)) (fin_num (all_get hf (by omega)))] at hg
      have := of_decide_eq_true hg
      rw [show i + 1 - 1 = i by omega] at this
      exact ⟨by omega, fun _ => by omega⟩
  intro i hi
  rw [gtB .f32 _ 0 (fin_num (all_get hf hi)) (by decide)]
  exact decide_eq_true ((key (i + 1) hi).2 (by omega))
end We
namespace Go.Proofs.Ytppkeabkjabhdaa
open Go.RowKit Flt Dec Cm We
theorem run_min_float (ats : Array TypeId) (t : TypeId) (x y : Nat) (w : World) (hx : nan .f32 x = false) (hy : nan .f32 y = false) :
    (Builtin.min_ ats t #[.float .f32 x, .float .f32 y]).run Try.prog w = .ok (.float .f32 (minF x y)) w := by
  have ho := order_eq .f32 x y hx hy
  unfold minF
  simp only [Builtin.min_, List.foldlM, Builtin.min2]
  rw [ho]
  rcases Int.lt_trichotomy (S .f32 x) (S .f32 y) with h | h | h
  · rw [Int.compare_eq_lt.2 h]; rfl
  · rw [h, show compare (S .f32 y) (S .f32 y) = .eq from by simp]; rfl
  · rw [Int.compare_eq_gt.2 h]; rfl
set_option maxHeartbeats 3200000 in
theorem areAsc_any (a : Option Addr) (len cap : Nat) (T : List Nat) (w : World) (h : FRow w a len T) (hm : len ≤ 1048576) :
    Calls Try.prog 68 #[.slice a len cap] w fun e w' => e = .returned (.bool (ascW T && finL T)) ∧ Drawn w w' := by
  have H := Lib.hid h
  have HL := Lib.hid h.1
  clear h
  go_enter Try.func68, Try.ntmps68
  go_wp2_with fail
  go_loopg [7] len (fun n i wr => ∃ k : Nat, i = .int .i64 (k : Int) ∧ Hid (k + n = len) ∧ k ≤ len ∧ Hid (∀ i, 1 ≤ i → i < k → leW (T.getD i 0) (T.getD (i - 1) 0) = false) ∧ Hid (w = wr))
  case atStart => exact ⟨0, rfl, by show _ = _; omega, Nat.zero_le _, (show Hid _ from fun i h1 h2 => absurd h2 (Nat.not_lt_zero _)), rfl⟩
  case round =>
    obtain ⟨k, rfl, hk, hkl, hN, hw⟩ := hrel
    by_cases hlt : k < len
    · have HJ : Hid (k + 1 + (gk - 1) = len) := by have := hk.out; show _ = _; omega
      have HG : Hid (gk - 1 < gk) := by have := hk.out; show _ < _; omega
      obtain ⟨b, off, rfl, hbl, hc⟩ := H.out.2.2.2 k hlt
      rw [hw.out] at hc
      by_cases h0 : k = 0
      · subst h0
        rw [Nat.add_zero] at hc
        go_wp2_with fail
        go_roundg (gk - 1)
        case measure => exact HG.out
        case rel => exact ⟨1, by go_num, HJ, by omega, (show Hid _ from fun i h1 h2 => absurd h2 (by omega)), hw.out⟩
      · obtain ⟨m, rfl⟩ : ∃ m, k = m + 1 := ⟨k - 1, by omega⟩
        obtain ⟨b2, off2, he, hbl2, hc2⟩ := H.out.2.2.2 m (by omega)
        cases he
        rw [hw.out] at hc2
        have hz : ((m : Int) + 1) > 0 := by omega
        have HA : Hid (leW (T.getD (m + 1) 0) (T.getD m 0) = false → ∀ i, 1 ≤ i → i < m + 1 + 1 → leW (T.getD i 0) (T.getD (i - 1) 0) = false) := Lib.hid fun hq i h1 h2 => by
          by_cases e : i = m + 1
          · subst e; exact hq
          · exact hN.out i h1 (by omega)
        have HB : Hid (leW (T.getD (m + 1) 0) (T.getD m 0) = true → (ascW T && finL T) = false) := by
          show _ → _
          intro hq
          cases hf : finL T with
          | false => simp
          | true =>
            have hlm : m + 1 < T.length := by rw [HL.out]; exact hlt
            have := gt_le (all_get hf hlm) (all_get hf (show m < T.length by omega))
            rw [hq] at this
            rw [ascW_no (i := m + 1) (by omega) hlm this]; rfl
        generalize T.getD (m + 1) 0 = z1 at *
        generalize T.getD m 0 = z2 at *
        cases hq : leW z1 z2 with
        | true =>
          have HS := Lib.hid (HB.out hq)
          unfold leW at hq
          clear hbl hbl2
          go_wp2_with fail
          go_ret
          exact ⟨congrArg (fun b => Ending.returned (.bool b)) HS.out.symm, hw.out ▸ Drawn.refl _⟩
        | false =>
          have HS := Lib.hid (HA.out hq)
          unfold leW at hq
          clear hbl hbl2
          go_wp2_with fail
          go_roundg (gk - 1)
          case measure => exact HG.out
          case rel => exact ⟨m + 1 + 1, by go_num, HJ, by omega, HS.out, hw.out⟩
    · obtain rfl : k = len := by omega
      have HS : Hid ((T.all fun z => fin .f32 z) = (ascW T && finL T)) := by
        show _ = _
        cases hf : finL T with
        | false => rw [Bool.and_false]; exact hf
        | true =>
          rw [ascW_yes fun i h1 h2 => ?_]
          · exact hf
          · rw [gt_le (all_get hf h2) (all_get hf (by omega)), hN.out i h1 (by rw [← HL.out]; exact h2)]; rfl
      have HR : Hid (FRow wr a k T) := by show FRow wr a k T; rw [← hw.out]; exact H.out
      clear hlt hk hN
      go_wp2_with fail
      refine (areFinD_any a k cap T _ HR.out).mono ?_
      rintro e w1 ⟨rfl, d1⟩
      rw [HS.out]
      have D := Lib.hid (show Drawn w w1 by rw [hw.out]; exact d1)
      clear d1
      go_wp2_with fail
      go_ret
      exact ⟨rfl, D.out⟩
end Go.Proofs.Ytppkeabkjabhdaa
