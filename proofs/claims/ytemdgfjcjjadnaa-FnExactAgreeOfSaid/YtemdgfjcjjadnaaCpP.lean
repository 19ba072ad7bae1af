/-
  How well a process keeps its bounds: numbers; the lesser one of two; a difference of different numbers is not 0. Conditions: words of 32 bits.
-/
import Derived.Test.YtemdgfjcjjadnaaRootW
import Derived.Test.YtemdgfjcjjadnaaWeP
import Derived.Test.YtemdgfjcjjadnaaCmW
namespace Cp
open Go Ieee Flt Dec F32
/-- a number and a finite one have a difference -/
theorem sub_fin_r {s t : Nat} (hs : nan .f32 s = false) (ht : fin .f32 t = true) : ∃ r, Go.floatBits .sub .f32 s t = some r := by
  obtain ⟨m, e, h2, _⟩ := read_num Go.FloatKind.f32.format t (of_decide_eq_true ht)
  show ∃ r, Go.FloatKind.f32.format.sub s t = some r
  unfold Format.sub
  rw [h2]
  rcases read_case .f32 s hs with ⟨m', e', h, _⟩ | ⟨h, _⟩
  · rw [h]; exact ⟨_, rfl⟩
  · rw [h]; exact ⟨_, rfl⟩
theorem sub_fin_l {s t : Nat} (hs : fin .f32 s = true) (ht : nan .f32 t = false) : ∃ r, Go.floatBits .sub .f32 s t = some r := by
  obtain ⟨m, e, h2, _⟩ := read_num Go.FloatKind.f32.format s (of_decide_eq_true hs)
  show ∃ r, Go.FloatKind.f32.format.sub s t = some r
  unfold Format.sub
  rw [h2]
  rcases read_case .f32 t ht with ⟨m', e', h, _⟩ | ⟨h, _⟩
  · rw [h]; exact ⟨_, rfl⟩
  · rw [h]; exact ⟨_, rfl⟩
theorem near_nz (s : Bool) (mag : Nat) (place : Int) (hm : mag ≠ 0) (hp : -149 ≤ place) : Ieee.single.nearest s mag place % 2147483648 ≠ 0 := by
  unfold Format.nearest
  rw [if_neg hm]
  simp only
  have c1 : Ieee.single.fractionBits = 23 := by decide
  have c2 : Ieee.single.leastPlace = -149 := by decide
  have c3 : Ieee.single.binade = 8388608 := by decide
  have c4 : Ieee.single.infRung = 2139095040 := by decide
  have c5 : Ieee.single.signWeight = 2147483648 := by decide
  rw [c1, c2, c3, c4]
  have key : ∀ r, 0 < r → Ieee.single.word s (min r 2139095040) % 2147483648 ≠ 0 := by
    intro r hr
    have := (word_mod Ieee.single s (min r 2139095040) (by rw [c5]; omega)).1
    rw [c5] at this
    rw [this]; omega
  apply key
  by_cases hl : place + (mag.log2 : Int) - ((23 : Nat) : Int) ≤ -149
  · rw [show max (place + (mag.log2 : Int) - ((23 : Nat) : Int)) (-149) = -149 from by omega, show (-149 - place).toNat = 0 from by omega, cut_zero, Nat.shiftLeft_eq]
    have : 0 < mag * 2 ^ (place - -149).toNat := Nat.mul_pos (by omega) (Nat.two_pow_pos _)
    omega
  · have : 1 ≤ (max (place + (mag.log2 : Int) - ((23 : Nat) : Int)) (-149) - -149).toNat := by omega
    have : 1 * 8388608 ≤ (max (place + (mag.log2 : Int) - ((23 : Nat) : Int)) (-149) - -149).toNat * 8388608 := Nat.mul_le_mul_right _ this
    omega
theorem signs_eq {s t : Bool} {a b B : Nat} (hB : 0 < B) (h : (if s then -1 else 1) * (units B a : Int) + (if !t then -1 else 1) * (units B b : Int) = 0) :
    (if s then -((a : Nat) : Int) else (a : Int)) = (if t then -((b : Nat) : Int) else (b : Int)) := by
  have hz : units B a = 0 → a = 0 := fun g => units_inj hB (g.trans (units_zero B hB).symm)
  have hy : units B b = 0 → b = 0 := fun g => units_inj hB (g.trans (units_zero B hB).symm)
  have he : units B a = units B b → a = b := units_inj hB
  cases s <;> cases t <;> simp at h ⊢ <;> omega
/-- a difference that is 0 is one of equal numbers -/
theorem sub_nz {x y r : Nat} (hx : nan .f32 x = false) (hy : nan .f32 y = false) (h : Go.floatBits .sub .f32 x y = some r) (hr : r % 2147483648 = 0) : S .f32 x = S .f32 y := by
  have h' : Go.FloatKind.f32.format.sub x y = some r := h
  unfold Format.sub at h'
  rcases read_case .f32 x hx with ⟨m, e, a1, a2, a3, _⟩ | ⟨a1, a2⟩ <;> rcases read_case .f32 y hy with ⟨n, f, b1, b2, b3, _⟩ | ⟨b1, b2⟩
  · rw [a1, b1] at h'
    simp only [Datum.sum, Datum.opposite, Option.map_some, Option.some.injEq, Format.write] at h'
    rw [signed_eq, signed_eq] at h'
    have c2 : Go.FloatKind.f32.format.leastPlace = -149 := by decide
    rw [c2] at h' a1 b1
    have g1 : (-149 + (e : Int) - min (-149 + (e : Int)) (-149 + f)).toNat + min e f = e := by omega
    have g2 : (-149 + (f : Int) - min (-149 + (e : Int)) (-149 + f)).toNat + min e f = f := by omega
    obtain ⟨tot, htot⟩ : ∃ tot : Int, tot = ((if (x / Go.FloatKind.f32.format.signWeight % 2 == 1) then -1 else 1) * ((m * 2 ^ (-149 + (e : Int) - min (-149 + (e : Int)) (-149 + f)).toNat : Nat) : Int) + (if (!(y / Go.FloatKind.f32.format.signWeight % 2 == 1)) then -1 else 1) * ((n * 2 ^ (-149 + (f : Int) - min (-149 + (e : Int)) (-149 + f)).toNat : Nat) : Int)) := ⟨_, rfl⟩
    rw [← htot] at h'
    by_cases h0 : tot.natAbs = 0
    · have t0 : tot = 0 := Int.natAbs_eq_zero.1 h0
      have ht := congrArg (· * ((2 ^ min e f : Nat) : Int)) htot
      simp only [t0, Int.zero_mul] at ht
      rw [Int.add_mul, Int.mul_assoc, Int.mul_assoc, ← Int.natCast_mul, ← Int.natCast_mul, Nat.mul_assoc, Nat.mul_assoc, ← Nat.pow_add, ← Nat.pow_add, g1, g2, a2, b2] at ht
      exact signs_eq (bin_pos _) ht.symm
    · exfalso
      subst h'
      exact near_nz _ tot.natAbs (min (-149 + (e : Int)) (-149 + f)) h0 (by omega) hr
  · rw [a1, b1] at h'
    simp only [Datum.sum, Datum.opposite, Option.map_some, Option.some.injEq] at h'
    subst h'
    exfalso; revert hr
    cases (y / Go.FloatKind.f32.format.signWeight % 2 == 1) <;> decide
  · rw [a1, b1] at h'
    simp only [Datum.sum, Datum.opposite, Option.map_some, Option.some.injEq] at h'
    subst h'
    exfalso; revert hr
    cases (x / Go.FloatKind.f32.format.signWeight % 2 == 1) <;> decide
  · rw [a1, b1] at h'
    revert h' hr
    cases (x / Go.FloatKind.f32.format.signWeight % 2 == 1) <;> cases (y / Go.FloatKind.f32.format.signWeight % 2 == 1) <;> simp [Datum.sum, Datum.opposite] <;> (intro hr h'; subst h'; exact absurd hr (by decide))
/-- the lesser one -/
def minF (x y : Nat) : Nat := match FloatKind.f32.format.order x y with
  | none => x
  | some .lt => x
  | some .gt => y
  | some .eq => if (FloatKind.f32.decode x).neg then x else y
theorem minF_if {x y : Nat} (hx : nan .f32 x = false) (hy : nan .f32 y = false) (hxl : x < 4294967296) (hyl : y < 4294967296) (hp : ¬ (x % 2147483648 = 0 ∧ y % 2147483648 = 0)) :
    minF x y = if FloatKind.f32.format.order y x == some .lt then y else x := by
  rw [ltB .f32 y x hy hx]
  have ho := order_eq .f32 x y hx hy
  unfold minF
  rw [ho]
  rcases Int.lt_trichotomy (S .f32 x) (S .f32 y) with h | h | h
  · rw [Int.compare_eq_lt.2 h]
    show x = _
    rw [if_neg (by rw [decide_eq_true_eq]; omega)]
  · have hxy : x = y := by
      rw [S32 x hxl, S32 y hyl] at h
      split at h <;> split at h <;> omega
    subst hxy
    rw [show compare (S .f32 x) (S .f32 x) = .eq from by simp]
    have hs : (if (FloatKind.f32.decode x).neg = true then x else x) = x := by split <;> rfl
    show (if (FloatKind.f32.decode x).neg = true then x else x) = _
    rw [hs]
    split <;> rfl
  · rw [Int.compare_eq_gt.2 h]
    show y = _
    rw [if_pos (by rw [decide_eq_true_eq]; exact h)]
end Cp
namespace Go.Proofs.Ytemdgfjcjjadnaa
open Go.RowKit Flt Dec Cm We Cp
theorem run_min_float (ats : Array TypeId) (t : TypeId) (x y : Nat) (w : World) (hx : nan .f32 x = false) (hy : nan .f32 y = false) :
    (Builtin.min_ ats t #[.float .f32 x, .float .f32 y]).run Try.prog w = .ok (.float .f32 (minF x y)) w := by
  have ho := order_eq .f32 x y hx hy
  unfold minF
  simp only [Builtin.min_, List.foldlM, Builtin.min2]
  rw [ho]
  rcases Int.lt_trichotomy (S .f32 x) (S .f32 y) with h | h | h
  · rw [Int.compare_eq_lt.2 h]; rfl
  · rw [h, show compare (S .f32 y) (S .f32 y) = .eq from by simp]; rfl
  · rw [Int.compare_eq_gt.2 h]; rfl
def cp0 (T : List Nat) (l h : Nat) : Bool := decide (1 ≤ T.length ∧ T.length ≤ 256) && (finL T && (decide (2 ≤ T.length) && (fin .f32 l && (fin .f32 h && !geB h l))))
def posO (o : Option Nat) : Bool := match o with | some v => pos v | none => false
def cpV (T : List Nat) : Option Nat := F32.opO .quo (plW T) (fi (T.length - 1))
def cpS (T : List Nat) : Option Nat := (cpV T).bind rootC
def cpG (T : List Nat) (h : Nat) : Option Nat := F32.opO .sub (some h) (plM T)
def cpF (T : List Nat) (l : Nat) : Option Nat := F32.opO .sub (plM T) (some l)
def cpD (T : List Nat) (l h : Nat) : Option Nat := if cmpO .lt (cpF T l) (cpG T h) then cpF T l else cpG T h
def cpA (T : List Nat) (l h : Nat) : Option Nat := F32.opO .quo (F32.opO .sub (some h) (some l)) (F32.opO .mul (some 1086324736) (cpS T))
def cpE (T : List Nat) (l h : Nat) : Option Nat := F32.opO .quo (cpD T l h) (F32.opO .mul (some 1077936128) (cpS T))
def cpB (T : List Nat) (l h : Nat) : Bool := cp0 T l h && (posO (cpS T) && (F32.finO (cpA T l h) && F32.finO (cpE T l h)))
def cpX (T : List Nat) (l h : Nat) (o : Option Nat) : Nat := if cpB T l h then o.getD 0 else 0
theorem posO_is {o : Option Nat} {v : Nat} (h : F32.Is o v) : pos v = posO o := by
  cases o with
  | none =>
    show pos v = false
    unfold pos
    rw [nan_fin (show nan .f32 v = true from h)]; rfl
  | some u => rw [h.1]; rfl
theorem root_is {o : Option Nat} {v r : Nat} (h : F32.Is o v) (g : Is (rootC v) r) : F32.Is (o.bind rootC) r := by
  cases o with
  | none =>
    have hn : nan .f32 v = true := h
    have : rootC v = none := by unfold rootC; rw [hn]; rfl
    rw [this] at g
    exact g
  | some u =>
    obtain ⟨rfl, _, _⟩ := h
    show F32.Is (rootC _) r
    cases hr : rootC v with
    | none => rw [hr] at g; exact g
    | some q => rw [hr] at g; exact g
theorem cp0_parts {T : List Nat} {l h : Nat} (hc : cp0 T l h = true) : (2 ≤ T.length ∧ T.length ≤ 256) ∧ finL T = true ∧ fin .f32 l = true ∧ fin .f32 h = true ∧ geB h l = false := by
  unfold cp0 at hc
  simp only [Bool.and_eq_true, decide_eq_true_eq, Bool.not_eq_true'] at hc
  exact ⟨⟨hc.2.2.1, hc.1.2⟩, hc.2.1, hc.2.2.2.1, hc.2.2.2.2.1, hc.2.2.2.2.2⟩
theorem op_parts {op : Go.BinOp} {o p : Option Nat} {r : Nat} (h : F32.opO op o p = some r) : ∃ s t, o = some s ∧ p = some t ∧ Go.floatBits op .f32 s t = some r := by
  cases o with
  | none => cases h
  | some s => cases p with
    | none => cases h
    | some t => exact ⟨s, t, rfl, rfl, h⟩
theorem cpX_num (T : List Nat) (l h : Nat) {o : Option Nat} (ho : cpB T l h = true → F32.finO o = true) : nan .f32 (cpX T l h o) = false := by
  unfold cpX
  cases hb : cpB T l h with
  | false => exact (by decide : nan .f32 0 = false)
  | true =>
    have := ho hb
    cases o with
    | none => cases this
    | some v => exact fin_num this
/-- with a spread above 0, the mean is a number, and so are its distances, which are not both 0 -/
theorem cp_key {T : List Nat} {l h : Nat} (hc : cp0 T l h = true) (hs : posO (cpS T) = true) :
    ∃ x y, cpG T h = some x ∧ cpF T l = some y ∧ nan .f32 x = false ∧ nan .f32 y = false ∧ x < 4294967296 ∧ y < 4294967296 ∧ ¬ (x % 2147483648 = 0 ∧ y % 2147483648 = 0) := by
  obtain ⟨⟨h2, _⟩, _, fl, fh, hg⟩ := cp0_parts hc
  obtain ⟨s, es⟩ : ∃ s, cpS T = some s := by
    cases e : cpS T with
    | none => rw [e] at hs; cases hs
    | some s => exact ⟨s, rfl⟩
  obtain ⟨v, ev, _⟩ := Option.bind_eq_some_iff.1 es
  obtain ⟨q, _, eq, _, _⟩ := op_parts ev
  have eq' : sm (plFW T) (T.length - 1 + 1) = some q := by rw [show T.length - 1 + 1 = T.length from by omega]; exact eq
  obtain ⟨_, p, _, ep, _⟩ := op_parts eq'
  obtain ⟨u, _, eu, _, _⟩ := op_parts ep
  obtain ⟨_, m, _, em, _⟩ := op_parts eu
  obtain ⟨_, _, _, _, hm⟩ := op_parts em
  have mn := F32.op_num (.inr (.inr (.inr rfl))) hm
  obtain ⟨x, ex⟩ := sub_fin_l fh mn
  obtain ⟨y, ey⟩ := sub_fin_r mn fl
  have eG : cpG T h = some x := by unfold cpG; rw [em]; exact ex
  have eF : cpF T l = some y := by unfold cpF; rw [em]; exact ey
  refine ⟨x, y, eG, eF, F32.op_num (.inr (.inl rfl)) ex, F32.op_num (.inr (.inl rfl)) ey, F32.op_lt (.inr (.inl rfl)) ex, F32.op_lt (.inr (.inl rfl)) ey, ?_⟩
  rintro ⟨zx, zy⟩
  have e1 := sub_nz (fin_num fh) mn ex zx
  have e2 := sub_nz mn (fin_num fl) ey zy
  unfold geB at hg
  rw [eqB .f32 l h (fin_num fl) (fin_num fh), decide_eq_true (show S .f32 l = S .f32 h from by rw [← e2, ← e1])] at hg
  simp at hg
theorem cpD_is {T : List Nat} {l h x y : Nat} (hx : cpG T h = some x) (hy : cpF T l = some y) (nx : nan .f32 x = false) (ny : nan .f32 y = false) (lx : x < 4294967296) (ly : y < 4294967296) (hz : ¬ (x % 2147483648 = 0 ∧ y % 2147483648 = 0)) :
    F32.Is (cpD T l h) (minF x y) := by
  rw [minF_if nx ny lx ly hz]
  unfold cpD
  rw [hx, hy]
  show F32.Is (if (FloatKind.f32.format.order y x == some .lt) = true then some y else some x) _
  split
  · exact ⟨rfl, ny, ly⟩
  · exact ⟨rfl, nx, lx⟩
end Go.Proofs.Ytemdgfjcjjadnaa
