/-
  A widened 32-bit number is narrowed to itself. No conditions beyond those stated.
-/
import Derived.Test.YtppkeabkjabhdabBnd
namespace Flt
open Ieee
theorem log2_shl {m : Nat} (hm : m ≠ 0) (t : Nat) : (m * 2 ^ t).log2 = m.log2 + t := by
  have hp : m * 2 ^ t ≠ 0 := Nat.mul_ne_zero hm (Nat.ne_of_gt (Nat.two_pow_pos t))
  have h1 : 2 ^ m.log2 ≤ m := Nat.log2_self_le hm
  have h2 : m < 2 ^ (m.log2 + 1) := Nat.lt_log2_self
  have a1 : 2 ^ (m.log2 + t) ≤ m * 2 ^ t := by rw [Nat.pow_add]; exact Nat.mul_le_mul_right _ h1
  have a2 : m * 2 ^ t < 2 ^ (m.log2 + t + 1) := by
    rw [show m.log2 + t + 1 = (m.log2 + 1) + t by omega, Nat.pow_add]
    exact Nat.mul_lt_mul_of_pos_right h2 (Nat.two_pow_pos _)
  have b1 := (Nat.le_log2 hp).2 a1
  have b2 := (Nat.log2_lt hp).2 a2
  omega
theorem cut_exac (s : Bool) (x d : Nat) (hx : x ≠ 0) : Toward.even.cut s (x * 2 ^ d) d = x := by
  unfold Toward.cut
  simp only [Nat.shiftLeft_eq, Nat.one_mul, log2_shl hx d]
  rw [Nat.min_eq_left (by omega), Nat.mul_div_cancel _ (Nat.two_pow_pos _), Nat.mul_mod_left]
  have : 0 < 2 ^ d := Nat.two_pow_pos _
  simp
/-- the word depends on the number alone, where no digit is lost -/
theorem nearest_shift (f : Format) (s : Bool) (m t : Nat) (P : Int) (hm : m ≠ 0) (h1 : m.log2 ≤ f.fractionBits) (h2 : f.leastPlace ≤ P + t) : f.nearest s (m * 2 ^ t) P = f.nearest s m (P + t) := by
  have hp : m * 2 ^ t ≠ 0 := Nat.mul_ne_zero hm (Nat.ne_of_gt (Nat.two_pow_pos t))
  unfold Format.nearest
  rw [if_neg hm, if_neg hp]
  simp only
  rw [log2_shl hm t]
  have e1 : P + ((m.log2 + t : Nat) : Int) - f.fractionBits = P + t + m.log2 - f.fractionBits := by omega
  rw [e1]
  obtain ⟨L, hL⟩ : ∃ L, max (P + t + (m.log2 : Int) - f.fractionBits) f.leastPlace = L := ⟨_, rfl⟩
  rw [hL]
  have hLt : L ≤ P + t := by omega
  have e2 : (L - (P + t)).toNat = 0 := by omega
  rw [e2, cut_zero]
  by_cases hle : L ≤ P
  · have e3 : (L - P).toNat = 0 := by omega
    rw [e3, cut_zero, Nat.shiftLeft_eq, Nat.shiftLeft_eq, Nat.mul_assoc, ← Nat.pow_add]
    have e4 : t + (P - L).toNat = (P + t - L).toNat := by omega
    rw [e4]
  · have e3 : (P - L).toNat = 0 := by omega
    have e4 : t = (P + t - L).toNat + (L - P).toNat := by omega
    rw [e3]
    have e5 : (m * 2 ^ t) <<< 0 = (m * 2 ^ (P + t - L).toNat) * 2 ^ (L - P).toNat := by
      rw [Nat.shiftLeft_zero, Nat.mul_assoc, ← Nat.pow_add, ← e4]
    rw [e5, cut_exac s _ _ (Nat.mul_ne_zero hm (Nat.ne_of_gt (Nat.two_pow_pos _))), Nat.shiftLeft_eq]
theorem word_backk (b : Nat) (hb : b < 4294967296) : Ieee.single.word (b / Ieee.single.signWeight % 2 == 1) (b % Ieee.single.signWeight) = b := by
  have sw : Ieee.single.signWeight = 2147483648 := by decide
  unfold Format.word
  rw [sw]
  by_cases h : b < 2147483648
  · rw [Nat.div_eq_of_lt h, Nat.mod_eq_of_lt h]; simp
  · have e : b / 2147483648 = 1 := by omega
    rw [e]
    simp
    omega
theorem narrow_W (b : Nat) (hb : b < 4294967296) (h : nan .f32 b = false) : Go.floatToFloatBits .f64 (W b) .f32 = some b := by
  have hW := W_spec b h
  have hw := word_backk b hb
  unfold Go.floatToFloatBits
  rw [if_neg (by decide)]
  rcases read_case .f32 b h with ⟨m, e, h1, h2, h3, h4, h5⟩ | ⟨h1, h3⟩
  · have h3' : b % Ieee.single.signWeight < Ieee.single.infRung := h3
    have h2' : m * 2 ^ e = units Ieee.single.binade (b % Ieee.single.signWeight) := h2
    have h4' : m < 2 * Ieee.single.binade := h4
    obtain ⟨hs, _, hc⟩ := hW
    rcases hc with ⟨_, g2, g3⟩ | ⟨g1, _⟩
    · obtain ⟨M, E, q1, q2, q3, q4⟩ := read_num Ieee.double (W b) g2
      have hd : Go.FloatKind.f64.decode (W b) = .number (W b / Ieee.double.signWeight % 2 == 1) M (Ieee.double.leastPlace + E) := q1
      rw [hs] at hd
      rw [hd]
      simp only
      have hM : M * 2 ^ E = m * 2 ^ (e + 925) := by
        rw [q2, g3, ← h2', Nat.pow_add, Nat.mul_assoc, sh_eq]
      have lp : Ieee.single.leastPlace = -149 := by decide
      have lpd : Ieee.double.leastPlace = -1074 := by decide
      have fb : Ieee.single.fractionBits = 23 := rfl
      have eb : (2 : Nat) ^ Ieee.single.exponentBits = 256 := by decide
      have bb : Ieee.single.binade = 8388608 := by decide
      have key : Ieee.single.nearest (b / Ieee.single.signWeight % 2 == 1) M (Ieee.double.leastPlace + E) = b := by
        by_cases h0 : m = 0
        · have hM0 : M = 0 := by
            rw [h0, Nat.zero_mul] at hM
            exact (Nat.mul_eq_zero.1 hM).resolve_right (Nat.ne_of_gt (Nat.two_pow_pos E))
          have hu : b % Ieee.single.signWeight = 0 := by
            rw [h0, Nat.zero_mul] at h2'
            exact units_inj (bin_pos Ieee.single) (by rw [← h2', units_zero _ (bin_pos Ieee.single)])
          rw [hM0]
          unfold Format.nearest
          rw [if_pos rfl, ← hu]
          exact hw
        · have hL : m.log2 < 24 := (Nat.log2_lt h0).2 (by rw [bb] at h4'; omega)
          have base : Ieee.single.nearest (b / Ieee.single.signWeight % 2 == 1) m (-149 + e) = b := by
            have inf : Ieee.single.infRung = 255 * 8388608 := by decide
            have he : e ≤ 253 := by
              have h5' : e ≤ b % Ieee.single.signWeight / Ieee.single.binade - 1 := h5
              rw [inf] at h3'
              rw [bb] at h5'
              omega
            by_cases hlow : 23 ≤ e + m.log2
            · obtain ⟨r, n1, n2, n3⟩ := nearest_exact Ieee.single (b / Ieee.single.signWeight % 2 == 1) m (-149 + e) h0 (by rw [fb]; omega) (by rw [lp, fb]; omega) (by rw [lp, fb, eb]; omega)
              rw [n1]
              have hru : r = b % Ieee.single.signWeight := by
                apply units_inj (bin_pos Ieee.single)
                rw [n3, ← h2', lp]
                congr 2
                omega
              rw [hru]
              exact hw
            · have h1m : m < 2 ^ (m.log2 + 1) := Nat.lt_log2_self
              have hlt : m * 2 ^ e < 8388608 := by
                have a1 : m * 2 ^ e < 2 ^ (m.log2 + 1) * 2 ^ e := Nat.mul_lt_mul_of_pos_right h1m (Nat.two_pow_pos _)
                rw [← Nat.pow_add] at a1
                have a2 : 2 ^ (m.log2 + 1 + e) ≤ 2 ^ 23 := Nat.pow_le_pow_right (by decide) (by omega)
                have a3 : (2 : Nat) ^ 23 = 8388608 := by decide
                omega
              have hru : b % Ieee.single.signWeight = m * 2 ^ e := by
                apply units_inj (bin_pos Ieee.single)
                rw [← h2']
                unfold units
                rw [bb, if_pos hlt]
              unfold Format.nearest
              rw [if_neg h0]
              simp only
              rw [lp, fb]
              have e0 : max ((-149 : Int) + e + m.log2 - (23 : Nat)) (-149) = -149 := by omega
              rw [e0]
              have e1 : ((-149 : Int) - (-149 + e)).toNat = 0 := by omega
              have e2 : ((-149 : Int) + e - -149).toNat = e := by omega
              have e3 : ((-149 : Int) - -149).toNat = 0 := by omega
              rw [e1, e2, e3, cut_zero, Nat.shiftLeft_eq, Nat.zero_mul, Nat.zero_add, ← hru, Nat.min_eq_left (by omega)]
              exact hw
          have hEM : M ≠ 0 := by
            intro hz
            rw [hz, Nat.zero_mul] at hM
            exact Nat.mul_ne_zero h0 (Nat.ne_of_gt (Nat.two_pow_pos _)) hM.symm
          rw [lpd]
          by_cases hc : E ≤ e + 925
          · have hMm : M = m * 2 ^ (e + 925 - E) := by
              have : M * 2 ^ E = (m * 2 ^ (e + 925 - E)) * 2 ^ E := by
                rw [hM, Nat.mul_assoc, ← Nat.pow_add]
                congr 2; omega
              exact Nat.eq_of_mul_eq_mul_right (Nat.two_pow_pos E) this
            rw [hMm, nearest_shift Ieee.single _ m (e + 925 - E) (-1074 + E) h0 (by rw [fb]; omega) (by rw [lp]; omega)]
            rw [show (-1074 : Int) + E + ((e + 925 - E : Nat) : Int) = -149 + e by omega]
            exact base
          · have hMm : m = M * 2 ^ (E - (e + 925)) := by
              have : m * 2 ^ (e + 925) = (M * 2 ^ (E - (e + 925))) * 2 ^ (e + 925) := by
                rw [← hM, Nat.mul_assoc, ← Nat.pow_add]
                congr 2; omega
              exact Nat.eq_of_mul_eq_mul_right (Nat.two_pow_pos _) this
            have hLM : M.log2 ≤ m.log2 := by
              rw [hMm, log2_shl hEM]; omega
            have := nearest_shift Ieee.single (b / Ieee.single.signWeight % 2 == 1) M (E - (e + 925)) (-149 + e) hEM (by rw [fb]; omega) (by rw [lp]; omega)
            rw [← hMm, base] at this
            rw [show (-1074 : Int) + E = -149 + e + ((E - (e + 925) : Nat) : Int) by omega]
            exact this.symm
      have hk : Go.FloatKind.f32.encode (.number (b / Ieee.single.signWeight % 2 == 1) M (Ieee.double.leastPlace + E)) = b := key
      have hk2 : Go.FloatKind.f32.encode (.number (b / Go.FloatKind.f32.format.signWeight % 2 == 1) M (Ieee.double.leastPlace + E)) = b := key
      rw [hk, if_neg]
      have : Go.FloatKind.f32.decode b = _ := h1
      rw [this]; simp [Datum.isInfinity]
    · omega
  · have hq := hW
    obtain ⟨hs, _, hc⟩ := hW
    rcases hc with ⟨g1, _, _⟩ | ⟨g1, g2⟩
    · have h3' : b % Ieee.single.signWeight = Ieee.single.infRung := h3
      omega
    · have hd : Go.FloatKind.f64.decode (W b) = .infinity (W b / Ieee.double.signWeight % 2 == 1) := read_inf Ieee.double (W b) g2 (by decide)
      rw [hs] at hd
      rw [hd]
      simp only
      have : Go.FloatKind.f32.encode (.infinity (b / Ieee.single.signWeight % 2 == 1)) = Ieee.single.word (b / Ieee.single.signWeight % 2 == 1) Ieee.single.infRung := rfl
      rw [this, ← g1, hw]
end Flt
