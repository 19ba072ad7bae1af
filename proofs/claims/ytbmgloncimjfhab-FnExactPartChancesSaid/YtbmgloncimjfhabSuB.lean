/-
  Rounding and bounds that are whole numbers: a sum of n chances is at most n. No conditions beyond those stated.
-/
import Derived.Test.YtbmgloncimjfhabChP
namespace Chn
open Go Flt Ieee F32 Liv Syl
theorem cut_leN (s : Bool) (n N d : Nat) (h : n ≤ N * 2 ^ d) : Toward.even.cut s n d ≤ N := by
  unfold Toward.cut
  simp only [Nat.shiftLeft_eq, Nat.one_mul]
  have hp : 0 < 2 ^ d := Nat.two_pow_pos _
  have hb : ∀ b : Bool, b.toNat ≤ 1 := by decide
  by_cases hd : d ≤ n.log2 + 2
  · rw [Nat.min_eq_left hd]
    have hle : n / 2 ^ d ≤ N := by
      refine Nat.div_le_of_le_mul ?_
      rw [Nat.mul_comm]; exact h
    by_cases hlt : n / 2 ^ d < N
    · have := hb (decide (2 ^ d < 2 * (n % 2 ^ d)) || (2 ^ d == 2 * (n % 2 ^ d) && n / 2 ^ d % 2 == 1))
      omega
    · have e : n / 2 ^ d = N := by omega
      have hm : n % 2 ^ d = 0 := by
        have h1 := Nat.div_add_mod n (2 ^ d)
        rw [e, Nat.mul_comm] at h1
        omega
      rw [hm, e]
      have h2 : (decide (2 ^ d < 2 * 0) || (2 ^ d == 2 * 0 && N % 2 == 1)) = false := by
        have h3 : (2 ^ d == 2 * 0) = false := by
          cases hh : (2 ^ d == 2 * 0) with
          | false => rfl
          | true => have := eq_of_beq hh; omega
        rw [h3, decide_eq_false (by omega)]; rfl
      rw [h2]
      exact Nat.le_refl _
  · rw [Nat.min_eq_right (by omega)]
    have hg : 2 * n < 2 ^ (n.log2 + 2) := by
      have h1 : n < 2 ^ (n.log2 + 1) := Nat.lt_log2_self
      rw [Nat.pow_succ 2 (n.log2 + 1)]
      omega
    have e0 : n / 2 ^ (n.log2 + 2) = 0 := Nat.div_eq_of_lt (by omega)
    have e1 : n % 2 ^ (n.log2 + 2) = n := Nat.mod_eq_of_lt (by omega)
    rw [e0, e1]
    have h2 : (decide (2 ^ (n.log2 + 2) < 2 * n) || (2 ^ (n.log2 + 2) == 2 * n && 0 % 2 == 1)) = false := by
      rw [decide_eq_false (by omega)]
      simp
    rw [h2]
    exact Nat.zero_le _
theorem cut_geB (s : Bool) (n t d : Nat) (h : 2 ^ (t + d) ≤ n) : 2 ^ t ≤ Toward.even.cut s n d := cut_even_ge s n d t h
theorem rung_units {B g kept : Nat} (hB : 0 < B) (h1 : B ≤ kept) (h2 : kept ≤ 2 * B) : units B (g * B + kept) = kept * 2 ^ g := by
  unfold units
  rw [if_neg (by have : 0 ≤ g * B := Nat.zero_le _; omega)]
  by_cases h : kept = 2 * B
  · subst h
    have e : g * B + 2 * B = (g + 2) * B := by rw [Nat.add_mul]
    rw [e, Nat.mul_mod_left, Nat.mul_div_cancel _ hB, show g + 2 - 1 = g + 1 from by omega, Nat.pow_succ, Nat.add_zero, Nat.mul_comm (2 ^ g) 2, ← Nat.mul_assoc, Nat.mul_comm B 2]
  · obtain ⟨x, hx⟩ : ∃ x, kept = B + x := ⟨kept - B, by omega⟩
    subst hx
    have e : g * B + (B + x) = x + (g + 1) * B := by rw [Nat.add_mul]; omega
    rw [e, Nat.add_mul_mod_self_right, Nat.mod_eq_of_lt (by omega), Nat.add_mul_div_right _ _ hB, Nat.div_eq_of_lt (by omega), show 0 + (g + 1) - 1 = g from by omega]
/-- rounding keeps a bound that is a whole number -/
theorem nearest_leN (n mag : Nat) (place : Int) (hn2 : n ≤ 8192) (hp : -149 ≤ place) (h : mag * 2 ^ (place + 149).toNat ≤ n * 2 ^ 149) :
    ∃ r, Ieee.single.nearest false mag place = r ∧ r < 2139095040 ∧ units 8388608 r ≤ n * 2 ^ 149 := by
  have lp : Ieee.single.leastPlace = -149 := by decide
  have fb : Ieee.single.fractionBits = 23 := rfl
  have ebn : Ieee.single.binade = 8388608 := by decide
  have ei : Ieee.single.infRung = 2139095040 := by decide
  by_cases h0 : mag = 0
  · subst h0
    refine ⟨0, by unfold Format.nearest; simp [Format.word], by decide, ?_⟩
    rw [units_zero _ (by decide)]; exact Nat.zero_le _
  have hL := pow_log2 h0
  have hU : mag < 2 ^ (mag.log2 + 1) := Nat.lt_log2_self
  have hT : (mag.log2 : Int) + place ≤ 13 := by
    have h1 : 2 ^ (mag.log2 + (place + 149).toNat) ≤ 2 ^ (13 + 149) := by
      rw [Nat.pow_add, Nat.pow_add]
      refine Nat.le_trans (Nat.mul_le_mul_right _ hL) (Nat.le_trans h (Nat.mul_le_mul_right _ ?_))
      exact hn2
    have h2 := (Nat.pow_le_pow_iff_right (by omega : 1 < 2)).1 h1
    omega
  unfold Format.nearest
  rw [if_neg h0]
  simp only [lp, fb, ebn, ei]
  generalize mag.log2 = L at *
  have hw : ∀ r, Ieee.single.word false r = r := fun r => by simp [Format.word]
  by_cases hsub : place + (L : Int) - 23 ≤ -149
  · have e1 : max (place + (L : Int) - (23 : Nat)) (-149) = -149 := by omega
    rw [e1]
    obtain ⟨up, hup⟩ : ∃ up, up = (place - -149).toNat := ⟨_, rfl⟩
    rw [← hup, show ((-149 : Int) - -149).toNat = 0 from rfl, Nat.zero_mul, Nat.zero_add, hw, Nat.shiftLeft_eq]
    have hdn : ((-149 : Int) - place).toNat = 0 := by omega
    rw [hdn]
    have hc : Toward.even.cut false (mag * 2 ^ up) 0 = mag * 2 ^ up := cut_zero _ _ _
    rw [hc]
    have hlt : mag * 2 ^ up < 2 ^ 24 := by
      calc mag * 2 ^ up < 2 ^ (L + 1) * 2 ^ up := Nat.mul_lt_mul_of_pos_right hU (Nat.two_pow_pos _)
        _ = 2 ^ (L + 1 + up) := (Nat.pow_add 2 (L + 1) up).symm
        _ ≤ 2 ^ 24 := Nat.pow_le_pow_right (by omega) (by omega)
    have hle : mag * 2 ^ up ≤ n * 2 ^ 149 := by rw [show up = (place + 149).toNat from by omega]; exact h
    refine ⟨_, rfl, by omega, ?_⟩
    rw [Nat.min_eq_left (by omega)]
    generalize mag * 2 ^ up = m at *
    unfold units
    by_cases hm : m < 8388608
    · rw [if_pos hm]; exact hle
    · rw [if_neg hm]
      have h1 : m / 8388608 = 1 := by omega
      rw [h1]
      have : m % 8388608 = m - 8388608 := by omega
      rw [this, show 8388608 + (m - 8388608) = m from by omega]
      simpa using hle
  · have e1 : max (place + (L : Int) - (23 : Nat)) (-149) = place + L - 23 := by omega
    rw [e1]
    obtain ⟨last, hlast⟩ : ∃ last : Int, last = place + L - 23 := ⟨_, rfl⟩
    rw [← hlast]
    obtain ⟨up, hup⟩ : ∃ up, up = (place - last).toNat := ⟨_, rfl⟩
    obtain ⟨dn, hdn⟩ : ∃ dn, dn = (last - place).toNat := ⟨_, rfl⟩
    obtain ⟨g, hg⟩ : ∃ g, g = (last - -149).toNat := ⟨_, rfl⟩
    rw [← hup, ← hdn, ← hg, Nat.shiftLeft_eq, hw]
    have hud : L + up = 23 + dn := by omega
    have hk1 : 2 ^ 23 ≤ Toward.even.cut false (mag * 2 ^ up) dn := by
      refine cut_geB false _ 23 dn ?_
      rw [← hud, Nat.pow_add]
      exact Nat.mul_le_mul_right _ hL
    have hk2 : Toward.even.cut false (mag * 2 ^ up) dn ≤ 2 ^ 24 := by
      refine cut_even_le false _ dn 24 ?_
      calc mag * 2 ^ up < 2 ^ (L + 1) * 2 ^ up := Nat.mul_lt_mul_of_pos_right hU (Nat.two_pow_pos _)
        _ = 2 ^ (L + 1 + up) := (Nat.pow_add 2 (L + 1) up).symm
        _ ≤ 2 ^ (24 + dn) := Nat.pow_le_pow_right (by omega) (by omega)
    have hk3 : Toward.even.cut false (mag * 2 ^ up) dn ≤ n * 2 ^ (0 - last).toNat := by
      refine cut_leN false _ _ dn ?_
      refine Nat.le_of_mul_le_mul_right (c := 2 ^ g) ?_ (Nat.two_pow_pos _)
      rw [Nat.mul_assoc, ← Nat.pow_add, Nat.mul_assoc, Nat.mul_assoc, ← Nat.pow_add, ← Nat.pow_add]
      rcases Nat.le_total up 0 with hz | hz
      · have hu0 : up = 0 := by omega
        refine Nat.le_trans (Nat.mul_le_mul_left _ (Nat.pow_le_pow_right (by omega) (show up + g ≤ (place + 149).toNat + dn by omega))) ?_
        rw [Nat.pow_add, ← Nat.mul_assoc, show (0 - last).toNat + (dn + g) = 149 + dn from by omega, Nat.pow_add 2 149, ← Nat.mul_assoc]
        exact Nat.mul_le_mul_right _ h
      · by_cases hu0 : up = 0
        · refine Nat.le_trans (Nat.mul_le_mul_left _ (Nat.pow_le_pow_right (by omega) (show up + g ≤ (place + 149).toNat + dn by omega))) ?_
          rw [Nat.pow_add, ← Nat.mul_assoc, show (0 - last).toNat + (dn + g) = 149 + dn from by omega, Nat.pow_add 2 149, ← Nat.mul_assoc]
          exact Nat.mul_le_mul_right _ h
        · rw [show up + g = (place + 149).toNat from by omega, show (0 - last).toNat + (dn + g) = 149 from by omega]
          exact h
    generalize Toward.even.cut false (mag * 2 ^ up) dn = kept at *
    have hg2 : g ≤ 139 := by omega
    have hr : g * 8388608 + kept < 2139095040 := by omega
    rw [Nat.min_eq_left (Nat.le_of_lt hr)]
    refine ⟨_, rfl, hr, ?_⟩
    rw [rung_units (by decide) hk1 hk2]
    refine Nat.le_trans (Nat.mul_le_mul_right _ hk3) ?_
    rw [Nat.mul_assoc, ← Nat.pow_add, show (0 - last).toNat + g = 149 from by omega]
    exact Nat.le_refl _
/-- from 0 to n -/
def bd (n b : Nat) : Prop := b < 2139095040 ∧ units 8388608 b ≤ n * 2 ^ 149
theorem bd_zero (n : Nat) : bd n 0 := ⟨by decide, by rw [units_zero _ (by decide)]; exact Nat.zero_le _⟩
theorem bd_fin {n b : Nat} (h : bd n b) : fin .f32 b = true := decide_eq_true (by
  have e : FloatKind.f32.format.signWeight = 2147483648 := by decide
  have ei : FloatKind.f32.format.infRung = 2139095040 := by decide
  rw [e, ei]; have := h.1; omega)
theorem add_bd {n s x : Nat} (hn : n + 1 ≤ 8192) (hs : bd n s) (hx : uni x) : ∃ r, Go.floatBits .add .f32 s x = some r ∧ bd (n + 1) r := by
  have e : Ieee.single.signWeight = 2147483648 := by decide
  have ei : Ieee.single.infRung = 2139095040 := by decide
  have lp : Ieee.single.leastPlace = -149 := by decide
  have ebn : Ieee.single.binade = 8388608 := by decide
  obtain ⟨m, i, a1, a2, _⟩ := read_num Ieee.single s (by rw [e, ei]; have := hs.1; omega)
  obtain ⟨k, j, b1, b2, _⟩ := read_num Ieee.single x (by rw [e, ei]; unfold uni at hx; omega)
  have sa : (s / Ieee.single.signWeight % 2 == 1) = false := by rw [e, Nat.div_eq_of_lt (by have := hs.1; omega)]; rfl
  rw [sa, lp] at a1
  rw [lp] at b1
  have ua : m * 2 ^ i ≤ n * 2 ^ 149 := by rw [a2, e, Nat.mod_eq_of_lt (by have := hs.1; omega), ebn]; exact hs.2
  have ub : k * 2 ^ j ≤ 2 ^ 149 ∧ ((x / Ieee.single.signWeight % 2 == 1) = false ∨ k = 0) := by
    rcases hx with hx | rfl
    · have := units1_le hx
      rw [← b2] at this
      exact ⟨this, .inl (by rw [e, Nat.div_eq_of_lt (by omega)]; rfl)⟩
    · rw [e, Nat.mod_self, ebn, units_zero _ (by decide)] at b2
      exact ⟨by rw [b2]; exact Nat.zero_le _, .inr (units_pos b2)⟩
  obtain ⟨t, ht⟩ : ∃ t, (x / Ieee.single.signWeight % 2 == 1) = t := ⟨_, rfl⟩
  rw [ht] at b1 ub
  have hsg : (if t = true then (-1 : Int) else 1) * ((k * 2 ^ (-149 + (j : Int) - min (-149 + (i : Int)) (-149 + j)).toNat : Nat) : Int) = ((k * 2 ^ (-149 + (j : Int) - min (-149 + (i : Int)) (-149 + j)).toNat : Nat) : Int) := by
    rcases ub.2 with h | h
    · rw [h]; simp
    · rw [h]; simp
  have g1 : (-149 + (i : Int) - min (-149 + (i : Int)) (-149 + j)).toNat + min i j = i := by omega
  have g2 : (-149 + (j : Int) - min (-149 + (i : Int)) (-149 + j)).toNat + min i j = j := by omega
  obtain ⟨tot, htot⟩ : ∃ tot : Nat, tot = m * 2 ^ (-149 + (i : Int) - min (-149 + (i : Int)) (-149 + j)).toNat + k * 2 ^ (-149 + (j : Int) - min (-149 + (i : Int)) (-149 + j)).toNat := ⟨_, rfl⟩
  have hv : tot * 2 ^ min i j = m * 2 ^ i + k * 2 ^ j := by
    rw [htot, Nat.add_mul, Nat.mul_assoc, Nat.mul_assoc, ← Nat.pow_add, ← Nat.pow_add, g1, g2]
  obtain ⟨r, h1, h2, h3⟩ := nearest_leN (n + 1) tot (min (-149 + (i : Int)) (-149 + j)) hn (by omega) (by
    rw [show (min (-149 + (i : Int)) (-149 + j) + 149).toNat = min i j from by omega, hv, Nat.add_mul, Nat.one_mul]
    have := ub.1
    omega)
  refine ⟨r, ?_, h2, h3⟩
  show Ieee.single.add s x = _
  unfold Format.add
  rw [a1, b1]
  simp only [Datum.sum, Option.map_some, Format.write]
  rw [signed_eq, signed_eq, hsg]
  have ht2 : (if false = true then (-1 : Int) else 1) * ((m * 2 ^ (-149 + (i : Int) - min (-149 + (i : Int)) (-149 + j)).toNat : Nat) : Int) + ((k * 2 ^ (-149 + (j : Int) - min (-149 + (i : Int)) (-149 + j)).toNat : Nat) : Int) = (tot : Int) := by rw [htot]; simp
  rw [ht2]
  have hs' : (if (tot : Int) = 0 then (false && t) else decide ((tot : Int) < 0)) = false := by
    split
    · rfl
    · exact decide_eq_false (by omega)
  rw [hs', Int.natAbs_natCast, h1]
theorem suC_bd {zs : List Nat} (h : unis zs) : ∀ (xs : List Int) (s n : Nat), bd n s → n + xs.length ≤ 8192 → bd (n + xs.length) (xs.foldl (fun s x => addC s (chP zs x zs.length)) s)
  | [], _, _, hs, _ => hs
  | x :: xs, s, n, hs, hn => by
    simp only [List.length_cons] at hn
    obtain ⟨r, h1, h2⟩ := add_bd (n := n) (by omega) hs (chP_ok h x zs.length (Nat.le_refl _))
    have : addC s (chP zs x zs.length) = r := by unfold addC; rw [h1]; rfl
    have := suC_bd h xs (addC s (chP zs x zs.length)) (n + 1) (by rw [this]; exact h2) (by omega)
    simp only [List.foldl_cons, List.length_cons]
    rw [show n + (xs.length + 1) = n + 1 + xs.length from by omega]
    exact this
theorem suC_fin {zs : List Nat} (h : unis zs) (xs : List Int) (hx : xs.length ≤ 8192) : fin .f32 (suC zs xs) = true := bd_fin (suC_bd h xs 0 0 (bd_zero 0) (by omega))
end Chn
