/-
  Chances from 0 to 1, of either zero: products, what is left of 1, and sums of them. No conditions beyond those stated.
-/
import Derived.Test.YtaecdeickncpcaaOne
import Derived.Test.YtaecdeickncpcaaLstW
namespace Chn
open Go Flt Ieee F32 Liv Syl
def uni (b : Nat) : Prop := b ≤ 1065353216 ∨ b = 2147483648
theorem uni_lt {b : Nat} (h : uni b) : b < 4294967296 := by unfold uni at h; omega
theorem uni_fin {b : Nat} (h : uni b) : fin .f32 b = true := decide_eq_true (by
  have e : FloatKind.f32.format.signWeight = 2147483648 := by decide
  have ei : FloatKind.f32.format.infRung = 2139095040 := by decide
  rw [e, ei]; unfold uni at h; omega)
theorem uni_num {b : Nat} (h : uni b) : nan .f32 b = false := fin_num (uni_fin h)
theorem zero_word (s : Bool) : uni (Ieee.single.word s 0) := by cases s <;> (unfold uni; decide)
theorem units_pos {m e : Nat} (h : m * 2 ^ e = 0) : m = 0 := by
  rcases Nat.mul_eq_zero.1 h with h | h
  · exact h
  · exact absurd h (Nat.ne_of_gt (Nat.two_pow_pos _))
theorem uni_mul {a b : Nat} (ha : uni a) (hb : uni b) : ∃ r, Go.floatBits .mul .f32 a b = some r ∧ uni r := by
  by_cases hz : a = 2147483648 ∨ b = 2147483648
  · have e : Ieee.single.signWeight = 2147483648 := by decide
    have ei : Ieee.single.infRung = 2139095040 := by decide
    have ebn : Ieee.single.binade = 8388608 := by decide
    obtain ⟨m, x, a1, a2, _⟩ := read_num Ieee.single a (by rw [e, ei]; unfold uni at ha; omega)
    obtain ⟨n, y, b1, b2, _⟩ := read_num Ieee.single b (by rw [e, ei]; unfold uni at hb; omega)
    have hmn : m * n = 0 := by
      rcases hz with rfl | rfl
      · rw [e, Nat.mod_self, ebn, units_zero _ (by decide)] at a2
        rw [units_pos a2, Nat.zero_mul]
      · rw [e, Nat.mod_self, ebn, units_zero _ (by decide)] at b2
        rw [units_pos b2, Nat.mul_zero]
    refine ⟨_, by show Ieee.single.mul a b = _; unfold Format.mul; rw [a1, b1]; rfl, ?_⟩
    show uni (Ieee.single.nearest _ (m * n) _)
    rw [hmn]
    unfold Format.nearest
    rw [if_pos rfl]
    exact zero_word _
  · obtain ⟨r, h1, h2⟩ := one_mul (a := a) (b := b) (by unfold uni at ha; omega) (by unfold uni at hb; omega)
    exact ⟨r, h1, .inl h2⟩
theorem uni_sub {z : Nat} (hz : uni z) : ∃ r, Go.floatBits .sub .f32 1065353216 z = some r ∧ uni r := by
  rcases hz with hz | rfl
  · have e : Ieee.single.signWeight = 2147483648 := by decide
    have ei : Ieee.single.infRung = 2139095040 := by decide
    have lp : Ieee.single.leastPlace = -149 := by decide
    have fb : Ieee.single.fractionBits = 23 := rfl
    have eb : (2 : Nat) ^ Ieee.single.exponentBits = 256 := by decide
    have ebn : Ieee.single.binade = 8388608 := by decide
    obtain ⟨m, x, a1, a2, _⟩ := read_num Ieee.single 1065353216 (by rw [e, ei]; decide)
    obtain ⟨n, y, b1, b2, _⟩ := read_num Ieee.single z (by rw [e, ei]; omega)
    have ub := units1_le hz
    rw [← b2] at ub
    have ua : m * 2 ^ x = 2 ^ 149 := by rw [a2]; decide
    have sa : (1065353216 / Ieee.single.signWeight % 2 == 1) = false := by decide
    have sb : (z / Ieee.single.signWeight % 2 == 1) = false := by rw [e, Nat.div_eq_of_lt (by omega)]; rfl
    rw [sa, lp] at a1
    rw [sb, lp] at b1
    have g1 : (-149 + (x : Int) - min (-149 + (x : Int)) (-149 + y)).toNat + min x y = x := by omega
    have g2 : (-149 + (y : Int) - min (-149 + (x : Int)) (-149 + y)).toNat + min x y = y := by omega
    obtain ⟨tot, htot⟩ : ∃ tot : Int, tot = ((m * 2 ^ (-149 + (x : Int) - min (-149 + (x : Int)) (-149 + y)).toNat : Nat) : Int) - ((n * 2 ^ (-149 + (y : Int) - min (-149 + (x : Int)) (-149 + y)).toNat : Nat) : Int) := ⟨_, rfl⟩
    have hv : tot * ((2 ^ min x y : Nat) : Int) = ((m * 2 ^ x : Nat) : Int) - ((n * 2 ^ y : Nat) : Int) := by
      rw [htot, Int.sub_mul, ← Int.natCast_mul, ← Int.natCast_mul, Nat.mul_assoc, Nat.mul_assoc, ← Nat.pow_add, ← Nat.pow_add, g1, g2]
    rw [ua] at hv
    have hp0 : (0 : Int) < ((2 ^ min x y : Nat) : Int) := by exact_mod_cast Nat.two_pow_pos _
    have hnn : 0 ≤ tot := by
      have h2 : 0 * ((2 ^ min x y : Nat) : Int) ≤ tot * ((2 ^ min x y : Nat) : Int) := by rw [Int.zero_mul, hv]; omega
      exact Int.le_of_mul_le_mul_right h2 hp0
    have hle : tot.natAbs * 2 ^ min x y ≤ 2 ^ 149 := by
      have : ((tot.natAbs * 2 ^ min x y : Nat) : Int) = tot * ((2 ^ min x y : Nat) : Int) := by rw [Int.natCast_mul, Int.natAbs_of_nonneg hnn]
      rw [hv] at this
      omega
    obtain ⟨r, h1, h2, h3⟩ := nearest_le Ieee.single false tot.natAbs (min (-149 + (x : Int)) (-149 + y)) 0 (-149) (by omega) (by omega) (by
      rw [show (min (-149 + (x : Int)) (-149 + y) - -149).toNat = min x y from by omega]; exact hle) (by rw [lp, fb]; omega) (by rw [lp, fb, eb]; omega)
    refine ⟨r, ?_, .inl (by rw [lp, fb, ebn] at h2; exact h2)⟩
    show Ieee.single.sub 1065353216 z = _
    unfold Format.sub
    rw [a1, b1]
    simp only [Datum.opposite, Datum.sum, Option.map_some, Format.write]
    rw [signed_eq, signed_eq]
    have ht2 : (if false = true then (-1 : Int) else 1) * ((m * 2 ^ (-149 + (x : Int) - min (-149 + (x : Int)) (-149 + y)).toNat : Nat) : Int) + (if (!false) = true then (-1 : Int) else 1) * ((n * 2 ^ (-149 + (y : Int) - min (-149 + (x : Int)) (-149 + y)).toNat : Nat) : Int) = tot := by rw [htot]; simp; omega
    rw [ht2]
    have hs : (if tot = 0 then (false && !false) else decide (tot < 0)) = false := by
      split
      · rfl
      · exact decide_eq_false (by omega)
    rw [hs, h1]
    simp [Format.word]
  · exact ⟨1065353216, by kernel_rfl, .inl (by decide)⟩
/-- at least, and at most -/
def geC (a b : Nat) : Bool := (FloatKind.f32.format.order a b == some .gt) || (FloatKind.f32.format.order a b == some .eq)
def leC (a b : Nat) : Bool := (FloatKind.f32.format.order a b == some .lt) || (FloatKind.f32.format.order a b == some .eq)
/-- a chance -/
def shB (z : Nat) : Bool := geC z 0 && leC z 1065353216
theorem uni_of {z : Nat} (hz : z < 4294967296) (h : shB z = true) : uni z := by
  have hn : nan .f32 z = false := by
    cases hn : nan .f32 z
    · rfl
    · unfold shB geC at h
      rw [order_nan .f32 z 0 (.inl hn)] at h
      simp at h
  unfold shB geC leC at h
  rw [gtB .f32 z 0 hn (by decide), eqB .f32 z 0 hn (by decide), ltB .f32 z 1065353216 hn (by decide), eqB .f32 z 1065353216 hn (by decide)] at h
  simp only [Bool.and_eq_true, Bool.or_eq_true, decide_eq_true_eq] at h
  rw [S32 z hz, S32 0 (by decide), S32 1065353216 (by decide)] at h
  unfold uni
  by_cases h1 : z < 2147483648
  · rw [if_pos h1] at h; simp at h; omega
  · rw [if_neg h1] at h; simp at h; omega
/-- operations that answer -/
def mulC (a b : Nat) : Nat := (Go.floatBits .mul .f32 a b).getD 0
def addC (a b : Nat) : Nat := (Go.floatBits .add .f32 a b).getD 0
def subC (a b : Nat) : Nat := (Go.floatBits .sub .f32 a b).getD 0
theorem mulC_ok {a b : Nat} (ha : uni a) (hb : uni b) : Go.floatBits .mul .f32 a b = some (mulC a b) ∧ uni (mulC a b) := by
  obtain ⟨r, h1, h2⟩ := uni_mul ha hb
  unfold mulC; rw [h1]; exact ⟨rfl, h2⟩
theorem subC_ok {z : Nat} (hz : uni z) : Go.floatBits .sub .f32 1065353216 z = some (subC 1065353216 z) ∧ uni (subC 1065353216 z) := by
  obtain ⟨r, h1, h2⟩ := uni_sub hz
  unfold subC; rw [h1]; exact ⟨rfl, h2⟩
theorem addC_ok {s z : Nat} (hs : nan .f32 s = false) (hz : uni z) : Go.floatBits .add .f32 s z = some (addC s z) ∧ nan .f32 (addC s z) = false ∧ addC s z < 4294967296 := by
  obtain ⟨r, h1, h2, h3⟩ := add_fin hs (uni_fin hz)
  unfold addC; rw [h1]; exact ⟨rfl, h2, h3⟩
/-- chances, all of them -/
def unis (zs : List Nat) : Prop := ∀ z ∈ zs, uni z
theorem unis_at {zs : List Nat} (h : unis zs) {k : Nat} (hk : k < zs.length) : uni (zs.getD k 0) := h _ (by simp [List.getD, hk])
/-- what of a part is taken -/
def tkC (zs : List Nat) (x : Int) (k : Nat) : Nat := if partB x (k : Int) then zs.getD k 0 else subC 1065353216 (zs.getD k 0)
theorem tkC_ok {zs : List Nat} (h : unis zs) (x : Int) {k : Nat} (hk : k < zs.length) : uni (tkC zs x k) := by
  unfold tkC
  split
  · exact unis_at h hk
  · exact (subC_ok (unis_at h hk)).2
/-- the product over the first 'k' parts -/
def chP (zs : List Nat) (x : Int) : Nat → Nat
  | 0 => 1065353216
  | k + 1 => mulC (chP zs x k) (tkC zs x k)
theorem chP_ok {zs : List Nat} (h : unis zs) (x : Int) : ∀ k, k ≤ zs.length → uni (chP zs x k)
  | 0, _ => .inl (Nat.le_refl 1065353216)
  | k + 1, hk => (mulC_ok (chP_ok h x k (by omega)) (tkC_ok h x (by omega))).2
theorem chP_next {zs : List Nat} (h : unis zs) (x : Int) {k : Nat} (hk : k < zs.length) : Go.floatBits .mul .f32 (chP zs x k) (tkC zs x k) = some (chP zs x (k + 1)) := (mulC_ok (chP_ok h x k (by omega)) (tkC_ok h x hk)).1
/-- the sum over sets -/
def suC (zs : List Nat) (xs : List Int) : Nat := xs.foldl (fun s x => addC s (chP zs x zs.length)) 0
theorem suC_snoc (zs : List Nat) (xs : List Int) (x : Int) : suC zs (xs ++ [x]) = addC (suC zs xs) (chP zs x zs.length) := by unfold suC; rw [List.foldl_append]; rfl
theorem fold_num {zs : List Nat} (h : unis zs) : ∀ (xs : List Int) (s : Nat), nan .f32 s = false → s < 4294967296 → nan .f32 (xs.foldl (fun s x => addC s (chP zs x zs.length)) s) = false ∧ xs.foldl (fun s x => addC s (chP zs x zs.length)) s < 4294967296
  | [], _, h1, h2 => ⟨h1, h2⟩
  | x :: xs, s, h1, h2 => by
    have := addC_ok h1 (chP_ok h x zs.length (Nat.le_refl _))
    exact fold_num h xs _ this.2.1 this.2.2
theorem suC_num {zs : List Nat} (h : unis zs) (xs : List Int) : nan .f32 (suC zs xs) = false ∧ suC zs xs < 4294967296 := fold_num h xs 0 (by decide) (by decide)
theorem suC_next {zs : List Nat} (h : unis zs) (xs : List Int) (x : Int) : Go.floatBits .add .f32 (suC zs xs) (chP zs x zs.length) = some (suC zs (xs ++ [x])) := by
  rw [suC_snoc]; exact (addC_ok (suC_num h xs).1 (chP_ok h x zs.length (Nat.le_refl _))).1
end Chn
