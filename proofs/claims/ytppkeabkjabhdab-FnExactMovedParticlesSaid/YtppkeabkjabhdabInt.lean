/-
  Floats that hold whole numbers: their sums, products and quotients are exact, where they are not too great. No conditions beyond those stated.
-/
import Derived.Test.YtppkeabkjabhdabNar
namespace Flt
open Ieee
/-- a word that holds a whole number, with a sign -/
def Rep (k : Go.FloatKind) (s : Bool) (n : Nat) (b : Nat) : Prop := ∃ r, b = k.format.word s r ∧ r < k.format.infRung ∧ units k.format.binade r = n * 2 ^ (-k.format.leastPlace).toNat
def vl (s : Bool) (n : Nat) : Int := (if s then -1 else 1) * (n : Int)
theorem lp_neg (k : Go.FloatKind) : ∃ L : Nat, k.format.leastPlace = -(L : Int) ∧ (-k.format.leastPlace).toNat = L ∧ k.format.fractionBits ≤ L ∧ L + 1 < 2 ^ k.format.exponentBits - 1 := by
  cases k
  · exact ⟨149, by decide, by decide, by decide, by decide⟩
  · exact ⟨1074, by decide, by decide, by decide, by decide⟩
theorem Rep.lt {k : Go.FloatKind} {s : Bool} {n b : Nat} (h : Rep k s n b) : b < 2 ^ k.format.width := by
  obtain ⟨r, rfl, h1, _⟩ := h
  exact Ieee.Format.word_lt _ _ (Nat.lt_trans h1 (infRung_lt _))
theorem Rep.uniq {k : Go.FloatKind} {s : Bool} {n a b : Nat} (h : Rep k s n a) (g : Rep k s n b) : a = b := by
  obtain ⟨r, rfl, _, h2⟩ := h
  obtain ⟨q, rfl, _, g2⟩ := g
  rw [units_inj (bin_pos k.format) (h2.trans g2.symm)]
theorem Rep.num {k : Go.FloatKind} {s : Bool} {n b : Nat} (h : Rep k s n b) : nan k b = false := by
  obtain ⟨r, rfl, h1, _⟩ := h
  exact nan_false (by rw [(word_mod k.format s r (Nat.lt_trans h1 (infRung_lt _))).1]; omega)
theorem Rep.isFin {k : Go.FloatKind} {s : Bool} {n b : Nat} (h : Rep k s n b) : fin k b = true := by
  obtain ⟨r, rfl, h1, _⟩ := h
  exact decide_eq_true (by rw [(word_mod k.format s r (Nat.lt_trans h1 (infRung_lt _))).1]; exact h1)
theorem Rep.read {k : Go.FloatKind} {s : Bool} {n b : Nat} (h : Rep k s n b) : ∃ m e : Nat, k.format.read b = .number s m (k.format.leastPlace + e) ∧ m * 2 ^ e = n * 2 ^ (-k.format.leastPlace).toNat := by
  obtain ⟨r, rfl, h1, h2⟩ := h
  obtain ⟨w1, w2⟩ := word_mod k.format s r (Nat.lt_trans h1 (infRung_lt _))
  obtain ⟨m, e, q1, q2, _, _⟩ := read_num k.format (k.format.word s r) (by rw [w1]; exact h1)
  rw [w1] at q2
  rw [w2] at q1
  exact ⟨m, e, q1, q2.trans h2⟩
theorem nearest_rep (k : Go.FloatKind) (s : Bool) (M E C n : Nat) (hn : n < 2 ^ (k.format.fractionBits + 1)) (h : M * 2 ^ E = n * 2 ^ C) : Rep k s n (k.format.nearest s M ((E : Int) - C)) := by
  obtain ⟨L, hL, hL2, hfL, hLe⟩ := lp_neg k
  by_cases h0 : n = 0
  · subst h0
    have hM : M = 0 := by
      rw [Nat.zero_mul] at h
      exact (Nat.mul_eq_zero.1 h).resolve_right (Nat.ne_of_gt (Nat.two_pow_pos E))
    subst hM
    refine ⟨0, by unfold Format.nearest; rw [if_pos rfl], ?_, by rw [units_zero _ (bin_pos k.format), Nat.zero_mul]⟩
    cases k <;> decide
  · have hlog : n.log2 ≤ k.format.fractionBits := by
      have := (Nat.log2_lt h0).2 hn
      omega
    have base : Rep k s n (k.format.nearest s n 0) := by
      obtain ⟨r, n1, n2, n3⟩ := nearest_exact k.format s n 0 h0 hlog (by rw [hL]; omega) (by rw [hL]; omega)
      refine ⟨r, n1, n2, ?_⟩
      rw [n3]
      congr 2
      omega
    by_cases hc : E ≤ C
    · have hM : M = n * 2 ^ (C - E) := by
        have : M * 2 ^ E = (n * 2 ^ (C - E)) * 2 ^ E := by
          rw [h, Nat.mul_assoc, ← Nat.pow_add]
          congr 2; omega
        exact Nat.eq_of_mul_eq_mul_right (Nat.two_pow_pos E) this
      rw [hM, nearest_shift k.format s n (C - E) _ h0 hlog (by rw [hL]; omega)]
      rw [show (E : Int) - C + ((C - E : Nat) : Int) = 0 by omega]
      exact base
    · have hM : n = M * 2 ^ (E - C) := by
        have : n * 2 ^ C = (M * 2 ^ (E - C)) * 2 ^ C := by
          rw [← h, Nat.mul_assoc, ← Nat.pow_add]
          congr 2; omega
        exact Nat.eq_of_mul_eq_mul_right (Nat.two_pow_pos C) this
      have hM0 : M ≠ 0 := by
        rintro rfl
        rw [Nat.zero_mul] at hM
        exact h0 hM
      have hMl : M.log2 ≤ k.format.fractionBits := by
        rw [hM, log2_shl hM0] at hlog
        omega
      have := nearest_shift k.format s M (E - C) 0 hM0 hMl (by rw [hL]; omega)
      rw [← hM, Int.zero_add] at this
      rw [show (E : Int) - C = ((E - C : Nat) : Int) by omega, ← this]
      exact base
theorem mul_rep {k : Go.FloatKind} {s t : Bool} {m n a b : Nat} (ha : Rep k s m a) (hb : Rep k t n b) (hn : m * n < 2 ^ (k.format.fractionBits + 1)) : ∃ r, Go.floatBits .mul k a b = some r ∧ Rep k (s ^^ t) (m * n) r := by
  obtain ⟨L, hL, hL2, _, _⟩ := lp_neg k
  obtain ⟨ma, ea, a1, a2⟩ := ha.read
  obtain ⟨mb, eb, b1, b2⟩ := hb.read
  rw [hL2] at a2 b2
  refine ⟨_, by show k.format.mul a b = _; unfold Format.mul; rw [a1, b1]; rfl, ?_⟩
  show Rep k (s ^^ t) (m * n) (k.format.nearest (s ^^ t) (ma * mb) (k.format.leastPlace + ea + (k.format.leastPlace + eb)))
  rw [hL, show -(L : Int) + ea + (-(L : Int) + eb) = ((ea + eb : Nat) : Int) - ((L + L : Nat) : Int) by omega]
  refine nearest_rep k _ _ _ _ _ hn ?_
  rw [Nat.pow_add, Nat.pow_add, Nat.mul_mul_mul_comm, a2, b2, Nat.mul_mul_mul_comm]
def sgOf (s t : Bool) (v : Int) : Bool := if v = 0 then (s && t) else decide (v < 0)
theorem pow_pos_int (n : Nat) : (0 : Int) < ((2 ^ n : Nat) : Int) := by exact_mod_cast Nat.two_pow_pos n
theorem sum_rep {k : Go.FloatKind} {s t : Bool} {m n ma ea mb eb L : Nat} (a2 : ma * 2 ^ ea = m * 2 ^ L) (b2 : mb * 2 ^ eb = n * 2 ^ L) (hL : k.format.leastPlace = -(L : Int)) (hn : (vl s m + vl t n).natAbs < 2 ^ (k.format.fractionBits + 1)) :
    ∃ r, ((Datum.number s ma (k.format.leastPlace + ea)).sum (.number t mb (k.format.leastPlace + eb))).map k.format.write = some r ∧ Rep k (sgOf s t (vl s m + vl t n)) (vl s m + vl t n).natAbs r := by
  simp only [Datum.sum, Option.map_some]
  refine ⟨_, rfl, ?_⟩
  simp only [Format.write]
  obtain ⟨v, hv⟩ : ∃ v, vl s m + vl t n = v := ⟨_, rfl⟩
  obtain ⟨T, hT⟩ : ∃ T, signed s ma (k.format.leastPlace + (ea : Int) - min (k.format.leastPlace + (ea : Int)) (k.format.leastPlace + (eb : Int))).toNat + signed t mb (k.format.leastPlace + (eb : Int) - min (k.format.leastPlace + (ea : Int)) (k.format.leastPlace + (eb : Int))).toNat = T := ⟨_, rfl⟩
  have key : T * ((2 ^ min ea eb : Nat) : Int) = v * ((2 ^ L : Nat) : Int) := by
    rw [← hT, ← hv, signed_eq, signed_eq]
    have g1 : (k.format.leastPlace + (ea : Int) - min (k.format.leastPlace + (ea : Int)) (k.format.leastPlace + eb)).toNat + min ea eb = ea := by omega
    have g2 : (k.format.leastPlace + (eb : Int) - min (k.format.leastPlace + (ea : Int)) (k.format.leastPlace + eb)).toNat + min ea eb = eb := by omega
    unfold vl
    rw [Int.add_mul, Int.add_mul, Int.mul_assoc, Int.mul_assoc, ← Int.natCast_mul, ← Int.natCast_mul, Nat.mul_assoc, Nat.mul_assoc, ← Nat.pow_add, ← Nat.pow_add, g1, g2, a2, b2, Int.natCast_mul, Int.natCast_mul, Int.mul_assoc, Int.mul_assoc]
  have p1 := pow_pos_int (min ea eb)
  have p2 := pow_pos_int L
  have h0 : T = 0 ↔ v = 0 := by
    constructor
    · intro h
      rw [h, Int.zero_mul] at key
      exact (Int.mul_eq_zero.1 key.symm).resolve_right (by omega)
    · intro h
      rw [h, Int.zero_mul] at key
      exact (Int.mul_eq_zero.1 key).resolve_right (by omega)
  have hlt : T < 0 ↔ v < 0 := by
    constructor
    · intro h
      have := Int.mul_neg_of_neg_of_pos h p1
      rw [key] at this
      exact Int.lt_of_mul_lt_mul_right (by rw [Int.zero_mul]; exact this) (Int.le_of_lt p2)
    · intro h
      have := Int.mul_neg_of_neg_of_pos h p2
      rw [← key] at this
      exact Int.lt_of_mul_lt_mul_right (by rw [Int.zero_mul]; exact this) (Int.le_of_lt p1)
  have hab : T.natAbs * 2 ^ min ea eb = v.natAbs * 2 ^ L := by
    have := congrArg Int.natAbs key
    rw [Int.natAbs_mul, Int.natAbs_mul, Int.natAbs_natCast, Int.natAbs_natCast] at this
    exact this
  have hs : (if T = 0 then (s && t) else decide (T < 0)) = sgOf s t v := by
    unfold sgOf
    by_cases hz : v = 0
    · rw [if_pos (h0.2 hz), if_pos hz]
    · rw [if_neg (fun h => hz (h0.1 h)), if_neg hz]
      exact decide_eq_decide.2 hlt
  rw [hT, hv, hs]
  rw [hv] at hn
  have hp : min (k.format.leastPlace + (ea : Int)) (k.format.leastPlace + (eb : Int)) = ((min ea eb : Nat) : Int) - (L : Int) := by rw [hL]; omega
  rw [hp]
  exact nearest_rep k _ _ _ _ _ hn hab
theorem add_rep {k : Go.FloatKind} {s t : Bool} {m n a b : Nat} (ha : Rep k s m a) (hb : Rep k t n b) (hn : (vl s m + vl t n).natAbs < 2 ^ (k.format.fractionBits + 1)) : ∃ r, Go.floatBits .add k a b = some r ∧ Rep k (sgOf s t (vl s m + vl t n)) (vl s m + vl t n).natAbs r := by
  obtain ⟨L, hL, hL2, _, _⟩ := lp_neg k
  obtain ⟨ma, ea, a1, a2⟩ := ha.read
  obtain ⟨mb, eb, b1, b2⟩ := hb.read
  rw [hL2] at a2 b2
  obtain ⟨r, h1, h2⟩ := sum_rep a2 b2 hL hn
  exact ⟨r, by show k.format.add a b = _; unfold Format.add; rw [a1, b1]; exact h1, h2⟩
theorem vl_not (t : Bool) (n : Nat) : vl (!t) n = -vl t n := by unfold vl; cases t <;> simp
theorem sub_rep {k : Go.FloatKind} {s t : Bool} {m n a b : Nat} (ha : Rep k s m a) (hb : Rep k t n b) (hn : (vl s m - vl t n).natAbs < 2 ^ (k.format.fractionBits + 1)) : ∃ r, Go.floatBits .sub k a b = some r ∧ Rep k (sgOf s (!t) (vl s m - vl t n)) (vl s m - vl t n).natAbs r := by
  obtain ⟨L, hL, hL2, _, _⟩ := lp_neg k
  obtain ⟨ma, ea, a1, a2⟩ := ha.read
  obtain ⟨mb, eb, b1, b2⟩ := hb.read
  rw [hL2] at a2 b2
  have he : vl s m - vl t n = vl s m + vl (!t) n := by rw [vl_not]; omega
  rw [he] at hn ⊢
  obtain ⟨r, h1, h2⟩ := sum_rep a2 b2 hL hn
  exact ⟨r, by show k.format.sub a b = _; unfold Format.sub; rw [a1, b1]; exact h1, h2⟩
theorem quo_rep {k : Go.FloatKind} {s t : Bool} {m n a b : Nat} (ha : Rep k s (m * n) a) (hb : Rep k t n b) (h0 : n ≠ 0) (hn : m < 2 ^ (k.format.fractionBits + 1)) : ∃ r, Go.floatBits .quo k a b = some r ∧ Rep k (s ^^ t) m r := by
  obtain ⟨L, hL, hL2, _, _⟩ := lp_neg k
  obtain ⟨ma, ea, a1, a2⟩ := ha.read
  obtain ⟨mb, eb, b1, b2⟩ := hb.read
  rw [hL2] at a2 b2
  have hmb : mb ≠ 0 := by
    rintro rfl
    rw [Nat.zero_mul] at b2
    exact Nat.mul_ne_zero h0 (Nat.ne_of_gt (Nat.two_pow_pos L)) b2.symm
  have hab : ma * 2 ^ ea = m * mb * 2 ^ eb := by rw [a2, Nat.mul_assoc, Nat.mul_assoc m mb, b2]
  show ∃ r, k.format.div a b = some r ∧ _
  unfold Format.div
  rw [a1, b1]
  simp only [Datum.quotient, if_neg hmb, Option.map_some]
  refine ⟨_, rfl, ?_⟩
  simp only [Format.write]
  obtain ⟨more, hmore⟩ : ∃ x, k.format.fractionBits + 2 + mb.log2 - ma.log2 = x := ⟨_, rfl⟩
  rw [hmore]
  by_cases hm0 : m = 0
  · subst hm0
    have hma : ma = 0 := by
      rw [Nat.zero_mul, Nat.zero_mul] at hab
      exact (Nat.mul_eq_zero.1 hab).resolve_right (Nat.ne_of_gt (Nat.two_pow_pos ea))
    subst hma
    have : (2 * (0 <<< more / mb) + (0 <<< more % mb != 0).toNat) = 0 := by simp [Nat.zero_shiftLeft]
    rw [this]
    have := nearest_rep k (s ^^ t) 0 0 0 0 (by exact Nat.two_pow_pos _) rfl
    obtain ⟨r, w1, w2, w3⟩ := this
    refine ⟨r, ?_, w2, w3⟩
    rw [← w1]
    unfold Format.nearest
    rw [if_pos rfl, if_pos rfl]
  · have hma : ma ≠ 0 := by
      rintro rfl
      rw [Nat.zero_mul] at hab
      exact Nat.mul_ne_zero (Nat.mul_ne_zero hm0 hmb) (Nat.ne_of_gt (Nat.two_pow_pos eb)) hab.symm
    have hml : m.log2 ≤ k.format.fractionBits := by
      have := (Nat.log2_lt hm0).2 hn
      omega
    -- enough digits
    have hen : ea ≤ more + eb := by
      have l1 : 2 ^ (ma.log2 + ea) ≤ ma * 2 ^ ea := by rw [Nat.pow_add]; exact Nat.mul_le_mul_right _ (pow_log2 hma)
      have l2 : m * mb * 2 ^ eb < 2 ^ (m.log2 + 1 + (mb.log2 + 1) + eb) := by
        rw [Nat.pow_add, Nat.pow_add]
        exact Nat.mul_lt_mul_of_pos_right (Nat.mul_lt_mul_of_lt_of_lt Nat.lt_log2_self Nat.lt_log2_self) (Nat.two_pow_pos _)
      rw [hab] at l1
      have l3 := (Nat.pow_lt_pow_iff_right (by omega : 1 < 2)).1 (Nat.lt_of_le_of_lt l1 l2)
      omega
    obtain ⟨x, hx⟩ : ∃ x, more + eb = x + ea := ⟨more + eb - ea, by omega⟩
    have hd : ma <<< more = mb * (m * 2 ^ x) := by
      rw [Nat.shiftLeft_eq]
      refine Nat.eq_of_mul_eq_mul_right (Nat.two_pow_pos (ea + eb)) ?_
      calc ma * 2 ^ more * 2 ^ (ea + eb) = (ma * 2 ^ ea) * 2 ^ (more + eb) := by
            rw [Nat.mul_assoc, Nat.mul_assoc, ← Nat.pow_add, ← Nat.pow_add]; congr 2; omega
        _ = (m * mb * 2 ^ eb) * 2 ^ (x + ea) := by rw [hab, hx]
        _ = mb * (m * 2 ^ x) * 2 ^ (ea + eb) := by
            rw [Nat.mul_comm m mb, Nat.mul_assoc, Nat.mul_assoc, Nat.mul_assoc, Nat.mul_assoc, ← Nat.pow_add, ← Nat.pow_add]
            congr 3; omega
    have hq : ma <<< more / mb = m * 2 ^ x := by rw [hd]; exact Nat.mul_div_cancel_left _ (Nat.pos_of_ne_zero hmb)
    have hr : ma <<< more % mb = 0 := by rw [hd]; exact Nat.mul_mod_right _ _
    rw [hq, hr]
    have e1 : 2 * (m * 2 ^ x) + ((0 : Nat) != 0).toNat = m * 2 ^ (x + 1) := by
      rw [Nat.pow_succ]
      have : ((0 : Nat) != 0).toNat = 0 := by decide
      rw [this, Nat.add_zero, Nat.mul_comm 2, Nat.mul_assoc]
    rw [e1]
    have e2 : k.format.leastPlace + (ea : Int) - (k.format.leastPlace + (eb : Int)) - more - 1 = ((0 : Nat) : Int) - ((x + 1 : Nat) : Int) := by omega
    rw [e2]
    exact nearest_rep k _ _ _ _ _ hn (by rw [Nat.pow_zero, Nat.mul_one])
theorem int_rep (k : Go.FloatKind) (n : Int) (hn : n.natAbs < 2 ^ (k.format.fractionBits + 1)) : Rep k (decide (n < 0)) n.natAbs (Go.floatOfInt k n) :=
  nearest_rep k (decide (n < 0)) n.natAbs 0 0 n.natAbs hn rfl
theorem vl_int (n : Int) : vl (decide (n < 0)) n.natAbs = n := by
  unfold vl
  by_cases h : n < 0
  · simp [h]; omega
  · simp [h]; omega
theorem widen_rep {s : Bool} {n b : Nat} (h : Rep .f32 s n b) (hn : n < 2 ^ 53) : Rep .f64 s n (W b) := by
  obtain ⟨m, e, q1, q2⟩ := h.read
  have hW : W b = Go.FloatKind.f64.format.nearest s m ((e : Int) - (149 : Nat)) := by
    unfold W Go.FloatKind.encode Go.FloatKind.decode
    rw [q1]
    show Ieee.double.nearest s m (Ieee.single.leastPlace + e) = _
    have : Ieee.single.leastPlace = -149 := by decide
    rw [this]
    rw [show (-149 : Int) + e = (e : Int) - (149 : Nat) by omega]
    rfl
  rw [hW]
  have h149 : (-Go.FloatKind.f32.format.leastPlace).toNat = 149 := by decide
  rw [h149] at q2
  exact nearest_rep .f64 s m e 149 n hn q2
theorem narrow_rep {s : Bool} {n b : Nat} (h : Rep .f64 s n b) (hn : n < 2 ^ 24) : ∃ v, Go.floatToFloatBits .f64 b .f32 = some v ∧ Rep .f32 s n v := by
  obtain ⟨m, e, q1, q2⟩ := h.read
  have h1074 : (-Go.FloatKind.f64.format.leastPlace).toNat = 1074 := by decide
  rw [h1074] at q2
  have hd : Go.FloatKind.f64.decode b = .number s m (Ieee.double.leastPlace + e) := q1
  have lp : Ieee.double.leastPlace = -1074 := by decide
  have hR : Rep .f32 s n (Ieee.single.nearest s m (Ieee.double.leastPlace + e)) := by
    rw [lp, show (-1074 : Int) + e = (e : Int) - (1074 : Nat) by omega]
    exact nearest_rep .f32 s m e 1074 n hn q2
  refine ⟨Ieee.single.nearest s m (Ieee.double.leastPlace + e), ?_, hR⟩
  unfold Go.floatToFloatBits
  rw [if_neg (by decide), hd]
  simp only
  rw [if_neg]
  · rfl
  · show ¬ (Ieee.single.read (Ieee.single.nearest s m (Ieee.double.leastPlace + e))).isInfinity = true
    obtain ⟨m', e', p1, _⟩ := hR.read
    have p1' : Ieee.single.read (Ieee.single.nearest s m (Ieee.double.leastPlace + e)) = _ := p1
    rw [p1']
    simp [Datum.isInfinity]
theorem cut_down (s : Bool) (x d : Nat) (hx : x ≠ 0) : Toward.zero.cut s (x * 2 ^ d) d = x := by
  unfold Toward.cut
  simp only [Nat.shiftLeft_eq, Nat.one_mul, log2_shl hx d]
  rw [Nat.min_eq_left (by omega), Nat.mul_div_cancel _ (Nat.two_pow_pos _)]
  simp
theorem trunc_rep {k : Go.FloatKind} {s : Bool} {n b : Nat} (h : Rep k s n b) (hn : n < 2 ^ 62) : Go.floatToIntVal k b .i64 = some (vl s n) := by
  obtain ⟨L, hL, hL2, _, _⟩ := lp_neg k
  obtain ⟨m, e, q1, q2⟩ := h.read
  rw [hL2] at q2
  have hd : k.decode b = .number s m (k.format.leastPlace + e) := q1
  unfold Go.floatToIntVal
  rw [hd]
  have hi : (Datum.number s m (k.format.leastPlace + e)).toInt .zero = some (vl s n) := by
    simp only [Datum.toInt, Datum.integral]
    have hc : Toward.zero.cut s (m <<< (k.format.leastPlace + (e : Int)).toNat) (-(k.format.leastPlace + (e : Int))).toNat = n := by
      rw [Nat.shiftLeft_eq, hL]
      by_cases h0 : n = 0
      · have hm : m = 0 := by
          rw [h0, Nat.zero_mul] at q2
          exact (Nat.mul_eq_zero.1 q2).resolve_right (Nat.ne_of_gt (Nat.two_pow_pos e))
        rw [hm, h0, Nat.zero_mul]
        unfold Toward.cut
        simp
      · by_cases hc : e ≤ L
        · have hM : m = n * 2 ^ (L - e) := by
            have : m * 2 ^ e = (n * 2 ^ (L - e)) * 2 ^ e := by
              rw [q2, Nat.mul_assoc, ← Nat.pow_add]
              congr 2; omega
            exact Nat.eq_of_mul_eq_mul_right (Nat.two_pow_pos e) this
          rw [show (-(L : Int) + e).toNat = 0 by omega, show (-(-(L : Int) + e)).toNat = L - e by omega, Nat.pow_zero, Nat.mul_one, hM]
          exact cut_down s n (L - e) h0
        · have hM : n = m * 2 ^ (e - L) := by
            have : n * 2 ^ L = (m * 2 ^ (e - L)) * 2 ^ L := by
              rw [← q2, Nat.mul_assoc, ← Nat.pow_add]
              congr 2; omega
            exact Nat.eq_of_mul_eq_mul_right (Nat.two_pow_pos L) this
          rw [show (-(L : Int) + e).toNat = e - L by omega, show (-(-(L : Int) + e)).toNat = 0 by omega, ← hM, cut_zero]
    rw [hc, signed_eq]
    unfold vl
    simp
  rw [hi]
  simp only
  have h1 : Go.IntKind.i64.min = -9223372036854775808 := rfl
  have h2 : Go.IntKind.i64.max = 9223372036854775807 := rfl
  rw [if_pos]
  rw [h1, h2]
  unfold vl
  have : (2 : Nat) ^ 62 = 4611686018427387904 := by decide
  cases s <;> simp <;> omega
theorem order_rep {k : Go.FloatKind} {s t : Bool} {m n a b : Nat} (ha : Rep k s m a) (hb : Rep k t n b) : (k.format.order a b == some .eq) = decide (vl s m = vl t n) := by
  obtain ⟨L, hL, hL2, _, _⟩ := lp_neg k
  obtain ⟨ma, ea, a1, a2⟩ := ha.read
  obtain ⟨mb, eb, b1, b2⟩ := hb.read
  rw [hL2] at a2 b2
  unfold Format.order
  rw [a1, b1, order_num, cmp_eq, a2, b2]
  have p := pow_pos_int L
  refine decide_eq_decide.2 ?_
  unfold vl
  rw [Int.natCast_mul, Int.natCast_mul, ← Int.mul_assoc, ← Int.mul_assoc]
  constructor
  · intro h; exact Int.eq_of_mul_eq_mul_right (by omega) h
  · intro h; rw [h]
/-- a word that holds a whole number, with whatever sign if it is zero -/
def IV (k : Go.FloatKind) (b : Nat) (i : Int) : Prop := ∃ s n, Rep k s n b ∧ vl s n = i
theorem vl_abs (s : Bool) (n : Nat) : (vl s n).natAbs = n := by unfold vl; cases s <;> simp
theorem vl_mul (s t : Bool) (m n : Nat) : vl (s ^^ t) (m * n) = vl s m * vl t n := by
  unfold vl
  cases s <;> cases t <;> simp [Int.neg_mul, Int.mul_neg]
theorem vl_sg (s t : Bool) (v : Int) : vl (sgOf s t v) v.natAbs = v := by
  unfold sgOf
  by_cases h : v = 0
  · rw [if_pos h, h]
    unfold vl; simp
  · rw [if_neg h]; exact vl_int v
theorem IV.num {k : Go.FloatKind} {b : Nat} {i : Int} (h : IV k b i) : nan k b = false := by obtain ⟨s, n, h, _⟩ := h; exact h.num
theorem IV.lt {k : Go.FloatKind} {b : Nat} {i : Int} (h : IV k b i) : b < 2 ^ k.format.width := by obtain ⟨s, n, h, _⟩ := h; exact h.lt
theorem IV.mul {k : Go.FloatKind} {a b : Nat} {i j : Int} (h : IV k a i) (g : IV k b j) (hn : (i * j).natAbs < 2 ^ (k.format.fractionBits + 1)) : ∃ r, Go.floatBits .mul k a b = some r ∧ IV k r (i * j) := by
  obtain ⟨s, m, h, rfl⟩ := h
  obtain ⟨t, n, g, rfl⟩ := g
  rw [Int.natAbs_mul, vl_abs, vl_abs] at hn
  obtain ⟨r, h1, h2⟩ := mul_rep h g hn
  exact ⟨r, h1, _, _, h2, vl_mul s t m n⟩
theorem IV.add {k : Go.FloatKind} {a b : Nat} {i j : Int} (h : IV k a i) (g : IV k b j) (hn : (i + j).natAbs < 2 ^ (k.format.fractionBits + 1)) : ∃ r, Go.floatBits .add k a b = some r ∧ IV k r (i + j) := by
  obtain ⟨s, m, h, rfl⟩ := h
  obtain ⟨t, n, g, rfl⟩ := g
  obtain ⟨r, h1, h2⟩ := add_rep h g hn
  exact ⟨r, h1, _, _, h2, vl_sg _ _ _⟩
theorem IV.sub {k : Go.FloatKind} {a b : Nat} {i j : Int} (h : IV k a i) (g : IV k b j) (hn : (i - j).natAbs < 2 ^ (k.format.fractionBits + 1)) : ∃ r, Go.floatBits .sub k a b = some r ∧ IV k r (i - j) := by
  obtain ⟨s, m, h, rfl⟩ := h
  obtain ⟨t, n, g, rfl⟩ := g
  obtain ⟨r, h1, h2⟩ := sub_rep h g hn
  exact ⟨r, h1, _, _, h2, vl_sg _ _ _⟩
theorem IV.quo {k : Go.FloatKind} {a b : Nat} {i j : Int} (h : IV k a (i * j)) (g : IV k b j) (h0 : j ≠ 0) (hn : i.natAbs < 2 ^ (k.format.fractionBits + 1)) : ∃ r, Go.floatBits .quo k a b = some r ∧ IV k r i := by
  obtain ⟨s, m, h, e⟩ := h
  obtain ⟨t, n, g, rfl⟩ := g
  have hm : m = i.natAbs * n := by
    have := congrArg Int.natAbs e
    rw [vl_abs, Int.natAbs_mul, vl_abs] at this
    exact this
  subst hm
  have hn0 : n ≠ 0 := by
    rintro rfl
    apply h0
    unfold vl; simp
  obtain ⟨r, h1, h2⟩ := quo_rep h g hn0 hn
  refine ⟨r, h1, _, _, h2, ?_⟩
  have h3 : vl (s ^^ t) i.natAbs * vl t n = i * vl t n := by
    rw [← e, ← vl_mul]
    have : (s ^^ t ^^ t) = s := by cases s <;> cases t <;> rfl
    rw [this]
  exact Int.eq_of_mul_eq_mul_right h0 h3
theorem IV.widen {b : Nat} {i : Int} (h : IV .f32 b i) (hn : i.natAbs < 2 ^ 53) : IV .f64 (W b) i := by
  obtain ⟨s, m, h, rfl⟩ := h
  rw [vl_abs] at hn
  exact ⟨s, m, widen_rep h hn, rfl⟩
theorem IV.narrow {b : Nat} {i : Int} (h : IV .f64 b i) (hn : i.natAbs < 2 ^ 24) : ∃ v, Go.floatToFloatBits .f64 b .f32 = some v ∧ IV .f32 v i := by
  obtain ⟨s, m, h, rfl⟩ := h
  rw [vl_abs] at hn
  obtain ⟨v, h1, h2⟩ := narrow_rep h hn
  exact ⟨v, h1, s, m, h2, rfl⟩
theorem IV.trunc {k : Go.FloatKind} {b : Nat} {i : Int} (h : IV k b i) (hn : i.natAbs < 2 ^ 62) : Go.floatToIntVal k b .i64 = some i := by
  obtain ⟨s, m, h, rfl⟩ := h
  rw [vl_abs] at hn
  exact trunc_rep h hn
theorem IV.order {k : Go.FloatKind} {a b : Nat} {i j : Int} (h : IV k a i) (g : IV k b j) : (k.format.order a b == some .eq) = decide (i = j) := by
  obtain ⟨s, m, h, rfl⟩ := h
  obtain ⟨t, n, g, rfl⟩ := g
  exact order_rep h g
theorem IV.ofInt (k : Go.FloatKind) (i : Int) (hn : i.natAbs < 2 ^ (k.format.fractionBits + 1)) : IV k (Go.floatOfInt k i) i := ⟨_, _, int_rep k i hn, vl_int i⟩
theorem IV.zero (k : Go.FloatKind) : IV k 0 0 := by
  refine ⟨false, 0, ⟨0, ?_, ?_, by rw [units_zero _ (bin_pos _), Nat.zero_mul]⟩, rfl⟩
  · cases k <;> decide
  · cases k <;> decide
theorem pow_rep {k : Go.FloatKind} {s t : Bool} {m n a b : Nat} (ha : Rep k s m a) (hb : Rep k t n b) (h : m * m + n * n < 2 ^ (k.format.fractionBits + 1)) :
    ∃ p1 p2 r, Go.floatBits .mul k a a = some p1 ∧ Go.floatBits .mul k b b = some p2 ∧ Go.floatBits .add k p1 p2 = some r ∧ Rep k false (m * m + n * n) r := by
  obtain ⟨p1, m1, v1⟩ := mul_rep ha ha (by omega)
  obtain ⟨p2, m2, v2⟩ := mul_rep hb hb (by omega)
  rw [Bool.xor_self] at v1 v2
  have e1 : vl false (m * m) + vl false (n * n) = ((m * m + n * n : Nat) : Int) := by unfold vl; simp
  obtain ⟨r, s1, u⟩ := add_rep v1 v2 (by rw [e1, Int.natAbs_natCast]; exact h)
  rw [e1, Int.natAbs_natCast] at u
  have e2 : sgOf false false ((m * m + n * n : Nat) : Int) = false := by
    unfold sgOf
    split
    · rfl
    · exact decide_eq_false (by omega)
  rw [e2] at u
  exact ⟨p1, p2, r, m1, m2, s1, u⟩
def negF (b : Nat) : Nat := Go.Op.negFloat .f32 b
theorem negF_eq (b : Nat) : negF b = b ^^^ 2 ^ 31 := rfl
theorem negF_two (b : Nat) : negF (negF b) = b := by rw [negF_eq, negF_eq, Nat.xor_assoc, Nat.xor_self, Nat.xor_zero]
theorem negF_lt {b : Nat} (h : b < 4294967296) : negF b < 4294967296 := by
  rw [negF_eq]
  have : b ^^^ 2 ^ 31 < 2 ^ 32 := Nat.xor_lt_two_pow (by omega) (by decide)
  omega
theorem xor_top (r : Nat) (h : r < 2147483648) : r ^^^ 2 ^ 31 = 2147483648 + r := by
  have h1 : r ^^^ 2 ^ 31 < 2 ^ 32 := Nat.xor_lt_two_pow (by omega) (by decide)
  have h2 : (r ^^^ 2 ^ 31) % 2 ^ 31 = r % 2 ^ 31 := by
    apply Nat.eq_of_testBit_eq
    intro i
    rw [Nat.testBit_mod_two_pow, Nat.testBit_mod_two_pow, Nat.testBit_xor, Nat.testBit_two_pow]
    by_cases hi : i < 31
    · have : ¬ 31 = i := by omega
      simp [this]
    · simp [hi]
  have h3 : (r ^^^ 2 ^ 31).testBit 31 = true := by
    rw [Nat.testBit_xor, Nat.testBit_two_pow]
    have : r.testBit 31 = false := Nat.testBit_lt_two_pow (by omega)
    rw [this]; simp
  have h4 := Nat.ge_two_pow_of_testBit h3
  omega
theorem neg_rep {s : Bool} {n b : Nat} (h : Rep .f32 s n b) : Rep .f32 (!s) n (negF b) := by
  obtain ⟨r, rfl, h1, h2⟩ := h
  refine ⟨r, ?_, h1, h2⟩
  have hr : r < 2147483648 := Nat.lt_trans h1 (infRung_lt _)
  have e0 : Go.FloatKind.f32.format.word false r = r := rfl
  have e1 : Go.FloatKind.f32.format.word true r = 2147483648 + r := rfl
  cases s
  · show negF (Go.FloatKind.f32.format.word false r) = Go.FloatKind.f32.format.word true r
    rw [e0, e1, negF_eq, xor_top r hr]
  · show negF (Go.FloatKind.f32.format.word true r) = Go.FloatKind.f32.format.word false r
    rw [e0, e1, ← xor_top r hr, negF_eq, Nat.xor_assoc, Nat.xor_self, Nat.xor_zero]
theorem IV.neg {b : Nat} {i : Int} (h : IV .f32 b i) : IV .f32 (negF b) (-i) := by
  obtain ⟨s, m, h, rfl⟩ := h
  exact ⟨!s, m, neg_rep h, vl_not s m⟩
end Flt
