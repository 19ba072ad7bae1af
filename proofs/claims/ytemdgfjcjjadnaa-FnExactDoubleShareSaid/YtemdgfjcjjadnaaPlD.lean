/-
  Contracts: with which share a lot is accepted by two samples, in both. No conditions.
-/
import Derived.Test.YtemdgfjcjjadnaaPlA
namespace Pl
open Go Flt
def dsP (l b s1 a1 s2 a2 r : Int) : Prop := 1 ≤ l ∧ l ≤ 40 ∧ 0 ≤ b ∧ b ≤ l ∧ 1 ≤ s1 ∧ 0 ≤ a1 ∧ a1 ≤ s1 ∧ 1 ≤ s2 ∧ 0 ≤ a2 ∧ a2 ≤ s2 ∧ s1 + s2 ≤ l ∧ s1 + s2 ≤ 24 ∧ a1 + 1 ≤ r ∧ r ≤ s1 + 1
instance (l b s1 a1 s2 a2 r : Int) : Decidable (dsP l b s1 a1 s2 a2 r) := by unfold dsP; infer_instance
def dsB (l b s1 a1 s2 a2 r : Int) : Bool := decide (dsP l b s1 a1 s2 a2 r)
/-- how many ways there are behind a first sample -/
def dsW (l b s1 a1 s2 a2 : Int) (k : Nat) : Nat := if (k : Int) ≤ a1 then chI (l - s1) s2 else ac (l - s1) (b - k) s2 (a2 - k + 1).toNat
def dsT (l b s1 a1 s2 a2 : Int) (k : Nat) : Nat := wi l b s1 k * dsW l b s1 a1 s2 a2 k
def dsS (l b s1 a1 s2 a2 : Int) (n : Nat) : Nat := sm (dsT l b s1 a1 s2 a2) n
def dsX (l b s1 a1 s2 a2 r : Int) : Int := if dsB l b s1 a1 s2 a2 r then ((lo1 (dsS l b s1 a1 s2 a2 r.toNat) (chI l s1 * chI (l - s1) s2) : Nat) : Int) else 0
def dsY (l b s1 a1 s2 a2 r : Int) : Int := if dsB l b s1 a1 s2 a2 r then ((lo2 (dsS l b s1 a1 s2 a2 r.toNat) (chI l s1 * chI (l - s1) s2) : Nat) : Int) else 0
theorem ds_no {l b s1 a1 s2 a2 r : Int} (h : ¬ dsP l b s1 a1 s2 a2 r) : dsX l b s1 a1 s2 a2 r = 0 ∧ dsY l b s1 a1 s2 a2 r = 0 ∧ dsB l b s1 a1 s2 a2 r = false := by
  have : dsB l b s1 a1 s2 a2 r = false := decide_eq_false h
  unfold dsX dsY; rw [this]; exact ⟨rfl, rfl, rfl⟩
theorem ds_yes {l b s1 a1 s2 a2 r : Int} (h : dsP l b s1 a1 s2 a2 r) : dsX l b s1 a1 s2 a2 r = ((lo1 (dsS l b s1 a1 s2 a2 r.toNat) (chI l s1 * chI (l - s1) s2) : Nat) : Int) ∧ dsY l b s1 a1 s2 a2 r = ((lo2 (dsS l b s1 a1 s2 a2 r.toNat) (chI l s1 * chI (l - s1) s2) : Nat) : Int) ∧ dsB l b s1 a1 s2 a2 r = true := by
  have : dsB l b s1 a1 s2 a2 r = true := decide_eq_true h
  unfold dsX dsY; rw [this]; exact ⟨rfl, rfl, rfl⟩
theorem dsS_s (l b s1 a1 s2 a2 : Int) (n : Nat) : dsS l b s1 a1 s2 a2 (n + 1) = dsS l b s1 a1 s2 a2 n + dsT l b s1 a1 s2 a2 n := rfl
theorem dsW_le (l b s1 a1 s2 a2 : Int) (k : Nat) : dsW l b s1 a1 s2 a2 k ≤ chI (l - s1) s2 := by
  unfold dsW; split
  · exact Nat.le_refl _
  · exact ac_le _ _ _ _
theorem dsS_le (l b s1 a1 s2 a2 : Int) (n : Nat) : dsS l b s1 a1 s2 a2 n ≤ chI l s1 * chI (l - s1) s2 := by
  have h1 : dsS l b s1 a1 s2 a2 n ≤ sm (fun k => wi l b s1 k * chI (l - s1) s2) n := sm_le n fun k _ => Nat.mul_le_mul_left _ (dsW_le _ _ _ _ _ _ k)
  rw [sm_mul] at h1
  exact Nat.le_trans h1 (Nat.mul_le_mul_right _ (ac_le l b s1 n))
theorem ch_both {l s1 s2 : Int} (hl : l ≤ 40) (h1 : 0 ≤ s1) (h2 : 0 ≤ s2) (h3 : s1 + s2 ≤ l) (h4 : s1 + s2 ≤ 24) : chI l s1 * chI (l - s1) s2 ≤ 180000000000000000 ∧ 1 ≤ chI l s1 ∧ 1 ≤ chI (l - s1) s2 := by
  obtain ⟨l, rfl⟩ : ∃ m : Nat, l = m := ⟨l.toNat, by omega⟩
  obtain ⟨s1, rfl⟩ : ∃ m : Nat, s1 = m := ⟨s1.toNat, by omega⟩
  obtain ⟨s2, rfl⟩ : ∃ m : Nat, s2 = m := ⟨s2.toNat, by omega⟩
  rw [show (l : Int) - (s1 : Int) = ((l - s1 : Nat) : Int) from by omega, chI_nat, chI_nat]
  exact ⟨cho_both (by omega) (by omega), cho_pos (by omega), cho_pos (by omega)⟩
/-- what one round adds: each part of it stays small -/
structure DsStep (l b s1 a1 s2 a2 : Int) (k : Nat) (t x y : Nat) : Prop where
  ex : ∃ p u : Nat, (x : Int) * (y : Int) = (p : Int) ∧ t + p = u ∧ u = dsS l b s1 a1 s2 a2 (k + 1) ∧ u ≤ 180000000000000000
theorem ds_step {l b s1 a1 s2 a2 : Int} {k t x y : Nat} (hB : chI l s1 * chI (l - s1) s2 ≤ 180000000000000000) (ht : t = dsS l b s1 a1 s2 a2 k) (hx : wi l b s1 k = x) (hy : dsW l b s1 a1 s2 a2 k = y) : DsStep l b s1 a1 s2 a2 k t x y :=
  ⟨⟨x * y, t + x * y, (Int.natCast_mul _ _).symm, rfl, by rw [dsS_s, ht]; unfold dsT; rw [hx, hy], by
    have := dsS_le l b s1 a1 s2 a2 (k + 1)
    rw [dsS_s, ← ht] at this
    unfold dsT at this
    rw [hx, hy] at this
    exact Nat.le_trans this hB⟩⟩
theorem pf_of {l s a : Int} (h : 1 ≤ l ∧ l ≤ 40 ∧ 1 ≤ s ∧ s ≤ l ∧ 0 ≤ a ∧ a ≤ s) : pfB l s a = true := by
  unfold pfB plB
  simp only [Bool.and_eq_true, decide_eq_true_eq]
  omega
theorem lw_of {l b : Int} (h : 1 ≤ l ∧ l ≤ 40 ∧ 0 ≤ b ∧ b ≤ l) : lwB l b = true := by
  unfold lwB
  rw [decide_eq_true ⟨h.1, h.2.1⟩, decide_eq_true h.2.2]; rfl
theorem lw_in {l b : Int} (h : lwB l b = true) : 1 ≤ l ∧ l ≤ 40 ∧ 0 ≤ b ∧ b ≤ l := by
  unfold lwB at h
  simp only [Bool.and_eq_true, decide_eq_true_eq] at h
  exact ⟨h.1.1, h.1.2, h.2⟩
theorem pf_in {l s a : Int} (h : pfB l s a = true) : 1 ≤ l ∧ l ≤ 40 ∧ 1 ≤ s ∧ s ≤ l ∧ 0 ≤ a ∧ a ≤ s := by
  unfold pfB plB at h
  simp only [Bool.and_eq_true, decide_eq_true_eq] at h
  omega
theorem as_of {l b s a : Int} (h : 1 ≤ l ∧ l ≤ 40 ∧ 0 ≤ b ∧ b ≤ l ∧ 1 ≤ s ∧ s ≤ l ∧ 0 ≤ a ∧ a ≤ s) : asB l b s a = true := by
  unfold asB; rw [lw_of ⟨h.1, h.2.1, h.2.2.1, h.2.2.2.1⟩, pf_of ⟨h.1, h.2.1, h.2.2.2.2.1, h.2.2.2.2.2.1, h.2.2.2.2.2.2.1, h.2.2.2.2.2.2.2⟩]; rfl
end Pl
namespace Go.Proofs.Ytemdgfjcjjadnaa
open Go.RowKit Flt Dec Cm Pl

set_option maxRecDepth 40000 in
set_option maxHeartbeats 8000000 in
theorem iDoubleShare_any (l b s1 a1 s2 a2 r : Int) (w : World) (hr : -9223372036854775808 ≤ r ∧ r ≤ 9223372036854775807) :
    Calls Try.prog 29 #[.int .i64 l, .int .i64 b, .agg #[.int .i64 s1, .int .i64 a1], .agg #[.int .i64 s2, .int .i64 a2], .int .i64 r] w fun e w' => e = .returned (.tuple #[.int .i64 (dsX l b s1 a1 s2 a2 r), .int .i64 (dsY l b s1 a1 s2 a2 r), .bool (dsB l b s1 a1 s2 a2 r)]) ∧ Below w.heap.size w w' := by
  have hb : Below w.heap.size w ((w.alloc (.cells #[.int .i64 s1, .int .i64 a1] 25)).alloc (.cells #[.int .i64 s2, .int .i64 a2] 25)) := ((Below.refl _ _).alloc (Nat.le_refl _) _).alloc (by simp) _
  have hk1 : Blk.Blk ((w.alloc (.cells #[.int .i64 s1, .int .i64 a1] 25)).alloc (.cells #[.int .i64 s2, .int .i64 a2] 25)) w.heap.size [.int .i64 s1, .int .i64 a1] 25 := (Blk.Blk.new _ _ _).alloc _
  have hk2 : Blk.Blk ((w.alloc (.cells #[.int .i64 s1, .int .i64 a1] 25)).alloc (.cells #[.int .i64 s2, .int .i64 a2] 25)) (w.heap.size + 1) [.int .i64 s2, .int .i64 a2] 25 := by
    have := Blk.Blk.new (w.alloc (.cells #[.int .i64 s1, .int .i64 a1] 25)) #[.int .i64 s2, .int .i64 a2] 25
    rw [World.size_alloc] at this
    exact this
  obtain ⟨W0, hW0⟩ : ∃ W0, (w.alloc (.cells #[.int .i64 s1, .int .i64 a1] 25)).alloc (.cells #[.int .i64 s2, .int .i64 a2] 25) = W0 := ⟨_, rfl⟩
  rw [hW0] at hb hk1 hk2
  have HW0 := Lib.hid hW0
  have HB0 := Lib.hid hb
  have HK1 := Lib.hid hk1
  have HK2 := Lib.hid hk2
  clear hW0 hb hk1 hk2
  by_cases t0 : lwB l b = true
  rotate_left
  · have HR := Lib.hid (ds_no (l := l) (b := b) (s1 := s1) (a1 := a1) (s2 := s2) (a2 := a2) (r := r) (fun h => by have h' := h; unfold dsP at h'; exact t0 (lw_of ⟨h'.1, h'.2.1, h'.2.2.1, h'.2.2.2.1⟩)))
    have H0 : Hid (lwB l b = false) := eq_false_of_ne_true t0
    clear t0
    go_enter Try.func29, Try.ntmps29
    go_wp2_with fail
    rw [HW0.out]
    refine (c_isLotWith l b _).mono ?_
    rintro e w1 ⟨rfl, rfl⟩
    rw [H0.out]
    go_wp2_with fail
    go_ret3
    rw [HR.out.1, HR.out.2.1, HR.out.2.2]
    exact ⟨rfl, HB0.out⟩
  have H0 := Lib.hid t0
  by_cases t1 : pfB l s1 a1 = true
  rotate_left
  · have HR := Lib.hid (ds_no (l := l) (b := b) (s1 := s1) (a1 := a1) (s2 := s2) (a2 := a2) (r := r) (fun h => by have h' := h; unfold dsP at h'; exact t1 (pf_of (by omega))))
    have H1 : Hid (pfB l s1 a1 = false) := eq_false_of_ne_true t1
    clear t0 t1
    obtain ⟨⟨x0, x1⟩, _, _⟩ := HK1.out.two
    go_enter Try.func29, Try.ntmps29
    go_wp2_with fail
    rw [HW0.out]
    refine (c_isLotWith l b _).mono ?_
    rintro e w1 ⟨rfl, rfl⟩
    rw [H0.out]
    go_wp2_with fail
    refine (c_isPlanFor l s1 a1 _).mono ?_
    rintro e w1 ⟨rfl, b1⟩
    rw [H1.out]
    have B1 := Lib.hid (HB0.out.trans (b1.mono HB0.out.size))
    clear b1 x0 x1
    go_wp2_with fail
    go_ret3
    rw [HR.out.1, HR.out.2.1, HR.out.2.2]
    exact ⟨rfl, B1.out⟩
  have H1 := Lib.hid t1
  by_cases t2 : pfB l s2 a2 = true
  rotate_left
  · have HR := Lib.hid (ds_no (l := l) (b := b) (s1 := s1) (a1 := a1) (s2 := s2) (a2 := a2) (r := r) (fun h => by have h' := h; unfold dsP at h'; exact t2 (pf_of (by omega))))
    have H2 : Hid (pfB l s2 a2 = false) := eq_false_of_ne_true t2
    clear t0 t1 t2
    obtain ⟨⟨x0, x1⟩, _, _⟩ := HK1.out.two
    go_enter Try.func29, Try.ntmps29
    go_wp2_with fail
    rw [HW0.out]
    refine (c_isLotWith l b _).mono ?_
    rintro e w1 ⟨rfl, rfl⟩
    rw [H0.out]
    go_wp2_with fail
    refine (c_isPlanFor l s1 a1 _).mono ?_
    rintro e w1 ⟨rfl, b1⟩
    rw [H1.out]
    have B1 := Lib.hid (HB0.out.trans (b1.mono HB0.out.size))
    obtain ⟨⟨y0, y1⟩, _, _⟩ := (HK2.out.keep b1).two
    clear b1 x0 x1
    go_wp2_with fail
    refine (c_isPlanFor l s2 a2 _).mono ?_
    rintro e w2 ⟨rfl, b2⟩
    rw [H2.out]
    have B2 := Lib.hid (B1.out.trans (b2.mono B1.out.size))
    clear b2 y0 y1
    go_wp2_with fail
    go_ret3
    rw [HR.out.1, HR.out.2.1, HR.out.2.2]
    exact ⟨rfl, B2.out⟩
  have H2 := Lib.hid t2
  have hp0 := lw_in t0
  have hp1 := pf_in t1
  have hp2 := pf_in t2
  clear t0 t1 t2
  have i1 : 1 ≤ l := hp0.1
  have i2 : l ≤ 40 := hp0.2.1
  have i3 : 0 ≤ b := hp0.2.2.1
  have i4 : b ≤ l := hp0.2.2.2
  have i5 : 1 ≤ s1 := hp1.2.2.1
  have i6 : s1 ≤ l := hp1.2.2.2.1
  have i7 : 0 ≤ a1 := hp1.2.2.2.2.1
  have i8 : a1 ≤ s1 := hp1.2.2.2.2.2
  have i9 : 1 ≤ s2 := hp2.2.2.1
  have j1 : s2 ≤ l := hp2.2.2.2.1
  have j2 : 0 ≤ a2 := hp2.2.2.2.2.1
  have j3 : a2 ≤ s2 := hp2.2.2.2.2.2
  clear hp0 hp1 hp2
  by_cases t3 : s1 + s2 ≤ l ∧ s1 + s2 ≤ 24
  rotate_left
  · have HR := Lib.hid (ds_no (l := l) (b := b) (s1 := s1) (a1 := a1) (s2 := s2) (a2 := a2) (r := r) (fun h => by have h' := h; unfold dsP at h'; omega))
    by_cases hl24 : l ≤ 24
    all_goals
      go_enter Try.func29, Try.ntmps29
      go_wp2_with fail
      rw [HW0.out]
      refine (c_isLotWith l b _).mono ?_
      rintro e w1 ⟨rfl, rfl⟩
      rw [H0.out]
      obtain ⟨⟨x0, x1⟩, _, _⟩ := HK1.out.two
      go_wp2_with fail
      refine (c_isPlanFor l s1 a1 _).mono ?_
      rintro e w1 ⟨rfl, b1⟩
      rw [H1.out]
      have B1 := Lib.hid (HB0.out.trans (b1.mono HB0.out.size))
      have K11 := Lib.hid (HK1.out.keep b1)
      have K21 := Lib.hid (HK2.out.keep b1)
      clear b1 x0 x1
      obtain ⟨⟨y0, y1⟩, _, _⟩ := K21.out.two
      go_wp2_with fail
      refine (c_isPlanFor l s2 a2 _).mono ?_
      rintro e w2 ⟨rfl, b2⟩
      rw [H2.out]
      have B2 := Lib.hid (B1.out.trans (b2.mono B1.out.size))
      have K12 := Lib.hid (K11.out.keep b2)
      have K22 := Lib.hid (K21.out.keep b2)
      clear b2 y0 y1 B1 K11 K21
      obtain ⟨⟨x0, x1⟩, _, _⟩ := K12.out.two
      obtain ⟨⟨y0, y1⟩, _, _⟩ := K22.out.two
      go_wp2_with fail
      all_goals
        first
          | (exfalso; omega)
          | (go_ret3
             rw [HR.out.1, HR.out.2.1, HR.out.2.2]
             exact ⟨rfl, B2.out⟩)
  by_cases t4 : a1 + 1 ≤ r ∧ r ≤ s1 + 1
  rotate_left
  · have HR := Lib.hid (ds_no (l := l) (b := b) (s1 := s1) (a1 := a1) (s2 := s2) (a2 := a2) (r := r) (fun h => by have h' := h; unfold dsP at h'; omega))
    by_cases hl24 : l ≤ 24
    all_goals
      go_enter Try.func29, Try.ntmps29
      go_wp2_with fail
      rw [HW0.out]
      refine (c_isLotWith l b _).mono ?_
      rintro e w1 ⟨rfl, rfl⟩
      rw [H0.out]
      obtain ⟨⟨x0, x1⟩, _, _⟩ := HK1.out.two
      go_wp2_with fail
      refine (c_isPlanFor l s1 a1 _).mono ?_
      rintro e w1 ⟨rfl, b1⟩
      rw [H1.out]
      have B1 := Lib.hid (HB0.out.trans (b1.mono HB0.out.size))
      have K11 := Lib.hid (HK1.out.keep b1)
      have K21 := Lib.hid (HK2.out.keep b1)
      clear b1 x0 x1
      obtain ⟨⟨y0, y1⟩, _, _⟩ := K21.out.two
      go_wp2_with fail
      refine (c_isPlanFor l s2 a2 _).mono ?_
      rintro e w2 ⟨rfl, b2⟩
      rw [H2.out]
      have B2 := Lib.hid (B1.out.trans (b2.mono B1.out.size))
      have K12 := Lib.hid (K11.out.keep b2)
      have K22 := Lib.hid (K21.out.keep b2)
      clear b2 y0 y1 B1 K11 K21
      obtain ⟨⟨x0, x1⟩, _, _⟩ := K12.out.two
      obtain ⟨⟨y0, y1⟩, _, _⟩ := K22.out.two
      go_wp2_with fail
      all_goals
        first
          | (exfalso; omega)
          | (go_ret3
             rw [HR.out.1, HR.out.2.1, HR.out.2.2]
             exact ⟨rfl, B2.out⟩)
  have HPP : Hid (dsP l b s1 a1 s2 a2 r) := by show dsP l b s1 a1 s2 a2 r; unfold dsP; omega
  have HR := Lib.hid (ds_yes HPP.out)
  obtain ⟨n, hn⟩ : ∃ n : Nat, r = n := ⟨r.toNat, by omega⟩
  subst hn
  rw [show ((n : Nat) : Int).toNat = n from by omega] at HR
  obtain ⟨t31, t32⟩ := t3
  obtain ⟨t41, t42⟩ := t4
  have hbo := ch_both i2 (show 0 ≤ s1 by omega) (show 0 ≤ s2 by omega) t31 t32
  have HSL := Lib.hid (fun k => dsS_le l b s1 a1 s2 a2 k)
  have C1 := fun w => Lib.hid (c_setsOf l s1 i2 w)
  have C2 := fun w => Lib.hid (c_setsOf (l - s1) s2 (by omega) w)
  have CW := fun (k : Nat) (hk : (k : Int) ≤ s1) w => Lib.hid (c_setsWith l b s1 k i2 (by omega) (by omega) (by omega) (by omega) (by omega) w)
  have CA := fun (k : Nat) (hk : (k : Int) ≤ s1) w => Lib.hid (c_accepted (l - s1) (b - k) s2 (a2 - k) (by omega) (by omega) (by omega) (by omega) (by omega) (by omega) w)
  have hW1 : ∀ k : Nat, (k : Int) ≤ a1 → dsW l b s1 a1 s2 a2 k = chI (l - s1) s2 := fun k h => by unfold dsW; rw [if_pos h]
  have hW2 : ∀ k : Nat, ¬ ((k : Int) ≤ a1) → dsW l b s1 a1 s2 a2 k = ac (l - s1) (b - k) s2 (a2 - k + 1).toNat := fun k h => by unfold dsW; rw [if_neg h]
  have HST := Lib.hid (fun (k t x y : Nat) (e1 : t = dsS l b s1 a1 s2 a2 k) (e2 : wi l b s1 k = x) (e3 : dsW l b s1 a1 s2 a2 k = y) => ds_step hbo.1 e1 e2 e3)
  have HW1 := Lib.hid hW1
  have HW2 := Lib.hid hW2
  have HWX := Lib.hid (fun k : Nat => Nat.le_trans (wi_le l b s1 k) (chI_40 i2 s1))
  have HWA := Lib.hid (fun k : Nat => ac_40 (show l - s1 ≤ 40 by omega) (b - k) s2 (a2 - k + 1).toNat)
  have hY2 := chI_40 (show l - s1 ≤ 40 by omega) s2
  obtain ⟨Y1, hY1⟩ : ∃ Y, chI l s1 = Y := ⟨_, rfl⟩
  obtain ⟨Y2, hY2'⟩ : ∃ Y, chI (l - s1) s2 = Y := ⟨_, rfl⟩
  rw [hY1, hY2'] at hbo HR
  rw [hY2'] at hY2 HW1
  obtain ⟨D, hD⟩ : ∃ D, Y1 * Y2 = D := ⟨_, rfl⟩
  rw [hD] at hbo HR
  have HSD : Hid (∀ k, dsS l b s1 a1 s2 a2 k ≤ 180000000000000000) := Lib.hid fun k => by
    have := HSL.out k
    rw [hY1, hY2', hD] at this
    omega
  have hDm : ((chI l s1 : Nat) : Int) * ((chI (l - s1) s2 : Nat) : Int) = (D : Int) := by rw [hY1, hY2', ← hD]; exact (Int.natCast_mul Y1 Y2).symm
  have hY1b : chI l s1 ≤ 1099511627776 := chI_40 i2 s1
  have hY2b : chI (l - s1) s2 ≤ 1099511627776 := by rw [hY2']; exact hY2
  have hD1 : 1 ≤ D := by rw [← hD]; exact Nat.mul_pos hbo.2.1 hbo.2.2
  have hDb : D ≤ 180000000000000000 := hbo.1
  have C3 := fun w => Lib.hid (c_low6 (dsS l b s1 a1 s2 a2 n) D (by have := HSD.out n; omega) (by omega) hD1 w)
  have C2' := C2
  rw [hY2'] at C2'
  have HDM := Lib.hid hDm
  clear hW1 hW2 hY1 hY2' hD hbo HSL hDm
  by_cases hl24 : l ≤ 24
  all_goals
    go_enter Try.func29, Try.ntmps29
    go_wp2_with fail
    rw [HW0.out]
    refine (c_isLotWith l b _).mono ?_
    rintro e w1 ⟨rfl, rfl⟩
    rw [H0.out]
    obtain ⟨⟨x0, x1⟩, _, _⟩ := HK1.out.two
    go_wp2_with fail
    refine (c_isPlanFor l s1 a1 _).mono ?_
    rintro e w1 ⟨rfl, b1⟩
    rw [H1.out]
    have B1 := Lib.hid (HB0.out.trans (b1.mono HB0.out.size))
    have K11 := Lib.hid (HK1.out.keep b1)
    have K21 := Lib.hid (HK2.out.keep b1)
    clear b1 x0 x1
    obtain ⟨⟨y0, y1⟩, _, _⟩ := K21.out.two
    go_wp2_with fail
    refine (c_isPlanFor l s2 a2 _).mono ?_
    rintro e w2 ⟨rfl, b2⟩
    rw [H2.out]
    have B2 := Lib.hid (B1.out.trans (b2.mono B1.out.size))
    have K12 := Lib.hid (K11.out.keep b2)
    have K22 := Lib.hid (K21.out.keep b2)
    clear b2 y0 y1 B1 K11 K21
    obtain ⟨⟨x0, x1⟩, _, _⟩ := K12.out.two
    obtain ⟨⟨y0, y1⟩, _, _⟩ := K22.out.two
    go_wp2_with fail
    clear hl24
    go_quiet (fail)
    have B3 : Hid (Below w.heap.size w (w2.drewN nq)) := Lib.hid (B2.out.trans ((Drawn.below ⟨nq, rfl⟩ _).mono B2.out.size))
    have K13 := Lib.hid (K12.out.keep (Drawn.below ⟨nq, rfl⟩ _))
    have K23 := Lib.hid (K22.out.keep (Drawn.below ⟨nq, rfl⟩ _))
    obtain ⟨w3, hw3⟩ : ∃ W, w2.drewN nq = W := ⟨_, rfl⟩
    rw [hw3] at B3 K13 K23 ⊢
    clear hw3 B2 K12 K22 x0 x1 y0 y1
    go_wp2_with fail
    go_loopg [13, 15, 16, 61] n (fun q v13 v15 v16 v61 wr => ∃ k t : Nat, v13 = .int .i64 (t : Int) ∧ v61 = .int .i64 (k : Int) ∧ Hid (k + q = n) ∧ k ≤ n ∧ Hid (t = dsS l b s1 a1 s2 a2 k) ∧ Hid (Below w.heap.size w wr) ∧ Hid (Blk.Blk wr w.heap.size [.int .i64 s1, .int .i64 a1] 25) ∧ Hid (Blk.Blk wr (w.heap.size + 1) [.int .i64 s2, .int .i64 a2] 25))
    case atStart => exact ⟨0, 0, by go_num, by go_num, by show _ = _; omega, Nat.zero_le _, rfl, B3.out, K13.out, K23.out⟩
    case round =>
      clear B3 K13 K23
      obtain ⟨k, t, rfl, rfl, hk, hkn, ht, hB, hK1, hK2⟩ := hrel
      obtain ⟨⟨x0, x1⟩, _, _⟩ := hK1.out.two
      obtain ⟨⟨y0, y1⟩, _, _⟩ := hK2.out.two
      have htb : t ≤ 180000000000000000 := by rw [ht.out]; exact HSD.out k
      by_cases hlt : k < n
      · have hltI : (k : Int) < (n : Int) := by omega
        have hks : (k : Int) ≤ s1 := by omega
        have HJ : Hid (k + 1 + (gk - 1) = n ∧ gk - 1 < gk) := by have := hk.out; show _ ∧ _; omega
        have hCW := CW k hks
        have hxb := HWX.out k
        obtain ⟨x, hx⟩ : ∃ x, wi l b s1 k = x := ⟨_, rfl⟩
        rw [hx] at hCW hxb
        by_cases hka : (k : Int) ≤ a1
        · have hkg : ¬ ((k : Int) > a1) := by omega
          obtain ⟨p, u, m1, m2, m3, m4⟩ := (HST.out k t x Y2 ht.out hx (HW1.out k hka)).ex
          have HM3 := Lib.hid m3
          have hadd : (t : Int) + (p : Int) = (u : Int) := by omega
          clear hx hk CW CA C1 C2 C3 m3 ht
          go_wp2_with fail
          refine (C2' _).out.mono ?_
          rintro e w4 ⟨rfl, rfl⟩
          go_wp2_with fail
          refine (hCW _).out.mono ?_
          rintro e w4 ⟨rfl, rfl⟩
          go_wp2_with fail
          go_roundg (gk - 1)
          case measure => exact HJ.out.2
          case rel => exact ⟨k + 1, u, by go_num, by go_num, HJ.out.1, by omega, HM3.out, hB.out, hK1.out, hK2.out⟩
        · have hkg : (k : Int) > a1 := by omega
          have hCA := CA k hks
          have hyb := HWA.out k
          have hyW := HW2.out k (by omega)
          obtain ⟨y, hy⟩ : ∃ y, ac (l - s1) (b - k) s2 (a2 - k + 1).toNat = y := ⟨_, rfl⟩
          rw [hy] at hCA hyb hyW
          obtain ⟨p, u, m1, m2, m3, m4⟩ := (HST.out k t x y ht.out hx hyW).ex
          have HM3 := Lib.hid m3
          have hadd : (t : Int) + (p : Int) = (u : Int) := by omega
          clear hx hy hyW hk CW CA C1 C2 C3 m3 ht hka
          go_wp2_with fail
          refine (C2' _).out.mono ?_
          rintro e w4 ⟨rfl, rfl⟩
          go_wp2_with fail
          refine (hCA _).out.mono ?_
          rintro e w4 ⟨rfl, rfl⟩
          go_wp2_with fail
          refine (hCW _).out.mono ?_
          rintro e w4 ⟨rfl, rfl⟩
          go_wp2_with fail
          go_roundg (gk - 1)
          case measure => exact HJ.out.2
          case rel => exact ⟨k + 1, u, by go_num, by go_num, HJ.out.1, by omega, HM3.out, hB.out, hK1.out, hK2.out⟩
      · obtain rfl : k = n := by omega
        have hltI : ¬ ((k : Int) < (k : Int)) := by omega
        have hT := ht.out
        subst hT
        have v1 := lo1_le (dsS l b s1 a1 s2 a2 k) D
        have v2 := lo2_le (dsS l b s1 a1 s2 a2 k) D
        generalize dsS l b s1 a1 s2 a2 k = t at *
        clear hlt hk CW CA hltI
        go_wp2_with fail
        have hDm := HDM.out
        have c1 : ∀ m, (wr.drewN m).cell? ⟨w.heap.size, 0, none⟩ = some (.int .i64 s1) := fun _ => x0
        have c2 : ∀ m, (wr.drewN m).cell? ⟨w.heap.size + 1, 0, none⟩ = some (.int .i64 s2) := fun _ => y0
        clear x0 x1 y0 y1
        go_quiet ((first | (go_at_call 50; exact Calls.quiet_of_same ((c_setsOf _ _ (by omega) _).mono fun e w' ⟨h1, h2⟩ => ⟨h1, h2.symm⟩)) | (go_at_call 48; exact (C3 _).out.mono fun e w' ⟨h1, ⟨n, h2⟩⟩ => ⟨h1, ⟨_, h2.trans (Flt.drewN_drewN _ _ _)⟩⟩)))
        go_wp2_with fail
        go_ret3
        rw [HR.out.1, HR.out.2.1, HR.out.2.2]
        exact ⟨rfl, hB.out.trans ((Drawn.below ⟨_, rfl⟩ _).mono hB.out.size)⟩
set_option maxRecDepth 40000 in
set_option maxHeartbeats 8000000 in
theorem sDoubleShare_any (l b s1 a1 s2 a2 r : Int) (w : World) (hr : -9223372036854775808 ≤ r ∧ r ≤ 9223372036854775807) :
    Calls Try.prog 28 #[.int .i64 l, .int .i64 b, .agg #[.int .i64 s1, .int .i64 a1], .agg #[.int .i64 s2, .int .i64 a2], .int .i64 r] w fun e w' => e = .returned (.tuple #[.int .i64 (dsX l b s1 a1 s2 a2 r), .int .i64 (dsY l b s1 a1 s2 a2 r), .bool (dsB l b s1 a1 s2 a2 r)]) ∧ Below w.heap.size w w' := by
  have hb : Below w.heap.size w ((w.alloc (.cells #[.int .i64 s1, .int .i64 a1] 25)).alloc (.cells #[.int .i64 s2, .int .i64 a2] 25)) := ((Below.refl _ _).alloc (Nat.le_refl _) _).alloc (by simp) _
  have hk1 : Blk.Blk ((w.alloc (.cells #[.int .i64 s1, .int .i64 a1] 25)).alloc (.cells #[.int .i64 s2, .int .i64 a2] 25)) w.heap.size [.int .i64 s1, .int .i64 a1] 25 := (Blk.Blk.new _ _ _).alloc _
  have hk2 : Blk.Blk ((w.alloc (.cells #[.int .i64 s1, .int .i64 a1] 25)).alloc (.cells #[.int .i64 s2, .int .i64 a2] 25)) (w.heap.size + 1) [.int .i64 s2, .int .i64 a2] 25 := by
    have := Blk.Blk.new (w.alloc (.cells #[.int .i64 s1, .int .i64 a1] 25)) #[.int .i64 s2, .int .i64 a2] 25
    rw [World.size_alloc] at this
    exact this
  obtain ⟨W0, hW0⟩ : ∃ W0, (w.alloc (.cells #[.int .i64 s1, .int .i64 a1] 25)).alloc (.cells #[.int .i64 s2, .int .i64 a2] 25) = W0 := ⟨_, rfl⟩
  rw [hW0] at hb hk1 hk2
  have HW0 := Lib.hid hW0
  have HB0 := Lib.hid hb
  have HK1 := Lib.hid hk1
  have HK2 := Lib.hid hk2
  clear hW0 hb hk1 hk2
  by_cases t0 : asB l b s1 a1 = true
  rotate_left
  · have HR := Lib.hid (ds_no (l := l) (b := b) (s1 := s1) (a1 := a1) (s2 := s2) (a2 := a2) (r := r) (fun h => by have h' := h; unfold dsP at h'; exact t0 (as_of (by omega))))
    have H0 : Hid (asB l b s1 a1 = false) := eq_false_of_ne_true t0
    clear t0
    go_enter Try.func28, Try.ntmps28
    go_wp2_with fail
    rw [HW0.out]
    refine (c_l06Lot l b _ s1 a1 _ HK1.out).mono ?_
    rintro e w1 ⟨rfl, d1⟩
    have B1 := Lib.hid (HB0.out.trans ((d1.below _).mono HB0.out.size))
    have K11 := Lib.hid (HK1.out.keep (d1.below _))
    have K21 := Lib.hid (HK2.out.keep (d1.below _))
    clear d1
    rw [H0.out]
    go_wp2_with fail
    go_ret3
    rw [HR.out.1, HR.out.2.1, HR.out.2.2]
    exact ⟨rfl, B1.out⟩
  have H0 := Lib.hid t0
  by_cases t1 : asB l b s2 a2 = true
  rotate_left
  · have HR := Lib.hid (ds_no (l := l) (b := b) (s1 := s1) (a1 := a1) (s2 := s2) (a2 := a2) (r := r) (fun h => by have h' := h; unfold dsP at h'; exact t1 (as_of (by omega))))
    have H1 : Hid (asB l b s2 a2 = false) := eq_false_of_ne_true t1
    clear t0 t1
    go_enter Try.func28, Try.ntmps28
    go_wp2_with fail
    rw [HW0.out]
    refine (c_l06Lot l b _ s1 a1 _ HK1.out).mono ?_
    rintro e w1 ⟨rfl, d1⟩
    have B1 := Lib.hid (HB0.out.trans ((d1.below _).mono HB0.out.size))
    have K11 := Lib.hid (HK1.out.keep (d1.below _))
    have K21 := Lib.hid (HK2.out.keep (d1.below _))
    clear d1
    rw [H0.out]
    go_wp2_with fail
    refine (c_l06Lot l b _ s2 a2 _ K21.out).mono ?_
    rintro e w2 ⟨rfl, d2⟩
    have B2 := Lib.hid (B1.out.trans ((d2.below _).mono B1.out.size))
    have K12 := Lib.hid (K11.out.keep (d2.below _))
    have K22 := Lib.hid (K21.out.keep (d2.below _))
    clear d2 B1 K11 K21
    rw [H1.out]
    obtain ⟨⟨x0, x1⟩, _, _⟩ := K12.out.two
    obtain ⟨⟨y0, y1⟩, _, _⟩ := K22.out.two
    go_wp2_with fail
    go_ret3
    rw [HR.out.1, HR.out.2.1, HR.out.2.2]
    exact ⟨rfl, B2.out⟩
  have H1 := Lib.hid t1
  obtain ⟨i1, i2, i3, i4, i5, i6, i7, i8⟩ := as_in t0
  obtain ⟨_, _, _, _, i9, j1, j2, j3⟩ := as_in t1
  clear t0 t1
  by_cases t3 : s1 + s2 ≤ l ∧ s1 + s2 ≤ 24
  rotate_left
  · have HR := Lib.hid (ds_no (l := l) (b := b) (s1 := s1) (a1 := a1) (s2 := s2) (a2 := a2) (r := r) (fun h => by have h' := h; unfold dsP at h'; omega))
    go_enter Try.func28, Try.ntmps28
    go_wp2_with fail
    rw [HW0.out]
    refine (c_l06Lot l b _ s1 a1 _ HK1.out).mono ?_
    rintro e w1 ⟨rfl, d1⟩
    have B1 := Lib.hid (HB0.out.trans ((d1.below _).mono HB0.out.size))
    have K11 := Lib.hid (HK1.out.keep (d1.below _))
    have K21 := Lib.hid (HK2.out.keep (d1.below _))
    clear d1
    rw [H0.out]
    go_wp2_with fail
    refine (c_l06Lot l b _ s2 a2 _ K21.out).mono ?_
    rintro e w2 ⟨rfl, d2⟩
    have B2 := Lib.hid (B1.out.trans ((d2.below _).mono B1.out.size))
    have K12 := Lib.hid (K11.out.keep (d2.below _))
    have K22 := Lib.hid (K21.out.keep (d2.below _))
    clear d2 B1 K11 K21
    rw [H1.out]
    obtain ⟨⟨x0, x1⟩, _, _⟩ := K12.out.two
    obtain ⟨⟨y0, y1⟩, _, _⟩ := K22.out.two
    go_wp2_with fail
    all_goals
      first
        | (exfalso; omega)
        | (go_ret3
           rw [HR.out.1, HR.out.2.1, HR.out.2.2]
           exact ⟨rfl, B2.out⟩)
  obtain ⟨t31, t32⟩ := t3
  have hIN := fun w => Lib.hid (c_In r (a1 + 1) (s1 + 1) w)
  by_cases t4 : a1 + 1 ≤ r ∧ r ≤ s1 + 1
  rotate_left
  · have HR := Lib.hid (ds_no (l := l) (b := b) (s1 := s1) (a1 := a1) (s2 := s2) (a2 := a2) (r := r) (fun h => by have h' := h; unfold dsP at h'; omega))
    rw [decide_eq_false t4] at hIN
    go_enter Try.func28, Try.ntmps28
    go_wp2_with fail
    rw [HW0.out]
    refine (c_l06Lot l b _ s1 a1 _ HK1.out).mono ?_
    rintro e w1 ⟨rfl, d1⟩
    have B1 := Lib.hid (HB0.out.trans ((d1.below _).mono HB0.out.size))
    have K11 := Lib.hid (HK1.out.keep (d1.below _))
    have K21 := Lib.hid (HK2.out.keep (d1.below _))
    clear d1
    rw [H0.out]
    go_wp2_with fail
    refine (c_l06Lot l b _ s2 a2 _ K21.out).mono ?_
    rintro e w2 ⟨rfl, d2⟩
    have B2 := Lib.hid (B1.out.trans ((d2.below _).mono B1.out.size))
    have K12 := Lib.hid (K11.out.keep (d2.below _))
    have K22 := Lib.hid (K21.out.keep (d2.below _))
    clear d2 B1 K11 K21
    rw [H1.out]
    obtain ⟨⟨x0, x1⟩, _, _⟩ := K12.out.two
    obtain ⟨⟨y0, y1⟩, _, _⟩ := K22.out.two
    go_wp2_with fail
    refine (hIN _).out.mono ?_
    rintro e w3 ⟨rfl, rfl⟩
    go_wp2_with fail
    go_ret3
    rw [HR.out.1, HR.out.2.1, HR.out.2.2]
    exact ⟨rfl, B2.out⟩
  rw [decide_eq_true t4] at hIN
  have HPP : Hid (dsP l b s1 a1 s2 a2 r) := by show dsP l b s1 a1 s2 a2 r; unfold dsP; omega
  have HR := Lib.hid (ds_yes HPP.out)
  obtain ⟨n, hn⟩ : ∃ n : Nat, r = n := ⟨r.toNat, by omega⟩
  subst hn
  rw [show ((n : Nat) : Int).toNat = n from by omega] at HR
  obtain ⟨t41, t42⟩ := t4
  have hbo := ch_both i2 (show 0 ≤ s1 by omega) (show 0 ≤ s2 by omega) t31 t32
  have HSL := Lib.hid (fun k => dsS_le l b s1 a1 s2 a2 k)
  have C2 := fun w => Lib.hid (c_Choose (l - s1) s2 (by omega) w)
  have CX1 := fun (k : Nat) w => Lib.hid (c_Choose b k (by omega) w)
  have CX2 := fun (k : Nat) w => Lib.hid (c_Choose (l - b) (s1 - k) (by omega) w)
  have CA := fun (k : Nat) (hk : (k : Int) ≤ s1) w => Lib.hid (c_Sets (l - s1) (b - k) s2 (a2 - k) (by omega) (by omega) (by omega) (by omega) (by omega) (by omega) w)
  have hW1 : ∀ k : Nat, (k : Int) ≤ a1 → dsW l b s1 a1 s2 a2 k = chI (l - s1) s2 := fun k h => by unfold dsW; rw [if_pos h]
  have hW2 : ∀ k : Nat, ¬ ((k : Int) ≤ a1) → dsW l b s1 a1 s2 a2 k = ac (l - s1) (b - k) s2 (a2 - k + 1).toNat := fun k h => by unfold dsW; rw [if_neg h]
  have HST := Lib.hid (fun (k t x y : Nat) (e1 : t = dsS l b s1 a1 s2 a2 k) (e2 : wi l b s1 k = x) (e3 : dsW l b s1 a1 s2 a2 k = y) => ds_step hbo.1 e1 e2 e3)
  have HW1 := Lib.hid hW1
  have HW2 := Lib.hid hW2
  have HWX := Lib.hid (fun k : Nat => Nat.le_trans (wi_le l b s1 k) (chI_40 i2 s1))

  have HZERO := Lib.hid (fun (k t : Nat) (e1 : t = dsS l b s1 a1 s2 a2 k) (e2 : wi l b s1 k = 0) => (show t = dsS l b s1 a1 s2 a2 (k + 1) by rw [dsS_s, ← e1]; unfold dsT; rw [e2, Nat.zero_mul, Nat.add_zero]))
  have HWA := Lib.hid (fun k : Nat => ac_40 (show l - s1 ≤ 40 by omega) (b - k) s2 (a2 - k + 1).toNat)
  have hY2 := chI_40 (show l - s1 ≤ 40 by omega) s2
  obtain ⟨Y1, hY1⟩ : ∃ Y, chI l s1 = Y := ⟨_, rfl⟩
  obtain ⟨Y2, hY2'⟩ : ∃ Y, chI (l - s1) s2 = Y := ⟨_, rfl⟩
  rw [hY1, hY2'] at hbo HR
  rw [hY2'] at hY2 HW1
  obtain ⟨D, hD⟩ : ∃ D, Y1 * Y2 = D := ⟨_, rfl⟩
  rw [hD] at hbo HR
  have HSD : Hid (∀ k, dsS l b s1 a1 s2 a2 k ≤ 180000000000000000) := Lib.hid fun k => by
    have := HSL.out k
    rw [hY1, hY2', hD] at this
    omega
  have hDm : ((chI l s1 : Nat) : Int) * ((chI (l - s1) s2 : Nat) : Int) = (D : Int) := by rw [hY1, hY2', ← hD]; exact (Int.natCast_mul Y1 Y2).symm
  have hD1 : 1 ≤ D := by rw [← hD]; exact Nat.mul_pos hbo.2.1 hbo.2.2
  have hDb : D ≤ 180000000000000000 := hbo.1
  have C3 := fun w => Lib.hid (c_Least (dsS l b s1 a1 s2 a2 n) D (by have := HSD.out n; omega) (by omega) hD1 w)
  have C2' := C2
  rw [hY2'] at C2'
  have HDM := Lib.hid hDm
  clear hW1 hW2 hY1 hY2' hD hbo HSL hDm
  go_enter Try.func28, Try.ntmps28
  go_wp2_with fail
  rw [HW0.out]
  refine (c_l06Lot l b _ s1 a1 _ HK1.out).mono ?_
  rintro e w1 ⟨rfl, d1⟩
  have B1 := Lib.hid (HB0.out.trans ((d1.below _).mono HB0.out.size))
  have K11 := Lib.hid (HK1.out.keep (d1.below _))
  have K21 := Lib.hid (HK2.out.keep (d1.below _))
  clear d1
  rw [H0.out]
  go_wp2_with fail
  refine (c_l06Lot l b _ s2 a2 _ K21.out).mono ?_
  rintro e w2 ⟨rfl, d2⟩
  have B2 := Lib.hid (B1.out.trans ((d2.below _).mono B1.out.size))
  have K12 := Lib.hid (K11.out.keep (d2.below _))
  have K22 := Lib.hid (K21.out.keep (d2.below _))
  clear d2 B1 K11 K21
  rw [H1.out]
  obtain ⟨⟨x0, x1⟩, _, _⟩ := K12.out.two
  obtain ⟨⟨y0, y1⟩, _, _⟩ := K22.out.two
  go_wp2_with fail
  refine (hIN _).out.mono ?_
  rintro e w3 ⟨rfl, rfl⟩
  go_wp2_with fail
  clear x0 x1 y0 y1
  go_loopg [13, 14, 15] n (fun q v13 v14 v15 wr => ∃ k t : Nat, v13 = .int .i64 (t : Int) ∧ v14 = .int .i64 (k : Int) ∧ Hid (k + q = n) ∧ k ≤ n ∧ Hid (t = dsS l b s1 a1 s2 a2 k) ∧ Hid (Below w.heap.size w wr) ∧ Hid (Blk.Blk wr w.heap.size [.int .i64 s1, .int .i64 a1] 25) ∧ Hid (Blk.Blk wr (w.heap.size + 1) [.int .i64 s2, .int .i64 a2] 25))
  case atStart => exact ⟨0, 0, by go_num, by go_num, by show _ = _; omega, Nat.zero_le _, rfl, B2.out, K12.out, K22.out⟩
  case round =>
    clear B2 K12 K22
    obtain ⟨k, t, rfl, rfl, hk, hkn, ht, hB, hK1, hK2⟩ := hrel
    obtain ⟨⟨x0, x1⟩, _, _⟩ := hK1.out.two
    obtain ⟨⟨y0, y1⟩, _, _⟩ := hK2.out.two
    have htb : t ≤ 180000000000000000 := by rw [ht.out]; exact HSD.out k
    have c1 : ∀ m, (wr.drewN m).cell? ⟨w.heap.size, 0, none⟩ = some (.int .i64 s1) := fun _ => x0
    by_cases hlt : k < n
    · have hltI : (k : Int) < (n : Int) := by omega
      have hks : (k : Int) ≤ s1 := by omega
      have HJ : Hid (k + 1 + (gk - 1) = n ∧ gk - 1 < gk) := by have := hk.out; show _ ∧ _; omega
      have hxb := HWX.out k
      have hwd : wi l b s1 k = chI b k * chI (l - b) (s1 - k) := rfl
      have hc1 := CX1 k
      have hc2 := CX2 k
      obtain ⟨x, hx⟩ : ∃ x, wi l b s1 k = x := ⟨_, rfl⟩
      rw [hx] at hxb hwd
      have hmx : ((chI b k : Nat) : Int) * ((chI (l - b) (s1 - k) : Nat) : Int) = (x : Int) := by rw [hwd]; exact (Int.natCast_mul _ _).symm
      have hxa : chI b k ≤ 1099511627776 := chI_40 (by omega) k
      have hxc : chI (l - b) (s1 - k) ≤ 1099511627776 := chI_40 (by omega) _
      clear hwd
      by_cases hz : x = 0
      · subst hz
        have hz0 : ((0 : Nat) : Int) = 0 := rfl
        have HZ := Lib.hid (HZERO.out k t ht.out hx)
        rw [hz0] at hmx
        clear hx hk CA C2 C3 ht CX1 CX2 C2'
        go_wp2_with fail
        go_quiet ((go_at_call 45; exact Calls.quiet_of_same ((c_Choose _ _ (by omega) _).mono fun e w' ⟨h1, h2⟩ => ⟨h1, h2.symm⟩)))
        obtain ⟨wq, hwq⟩ : ∃ W, wr.drewN nq = W := ⟨_, rfl⟩
        have hB3 := Lib.hid (hB.out.trans ((Drawn.below (w' := wr.drewN nq) ⟨nq, rfl⟩ _).mono hB.out.size))
        have hK13 := Lib.hid (hK1.out.keep (Drawn.below (w' := wr.drewN nq) ⟨nq, rfl⟩ _))
        have hK23 := Lib.hid (hK2.out.keep (Drawn.below (w' := wr.drewN nq) ⟨nq, rfl⟩ _))
        rw [hwq] at hB3 hK13 hK23 ⊢
        clear hwq
        go_wp2_with fail
        go_roundg (gk - 1)
        case measure => exact HJ.out.2
        case rel => exact ⟨k + 1, t, by go_num, by go_num, HJ.out.1, by omega, HZ.out, hB3.out, hK13.out, hK23.out⟩
      · have hzI : ¬ ((x : Int) = 0) := by omega
        by_cases hka : (k : Int) ≤ a1
        · obtain ⟨p, u, m1, m2, m3, m4⟩ := (HST.out k t x Y2 ht.out hx (HW1.out k hka)).ex
          have HM3 := Lib.hid m3
          have hadd : (t : Int) + (p : Int) = (u : Int) := by omega
          clear hx hk CA C2 C3 ht CX1 CX2 m3
          go_wp2_with fail
          go_quiet ((go_at_call 45; exact Calls.quiet_of_same ((c_Choose _ _ (by omega) _).mono fun e w' ⟨h1, h2⟩ => ⟨h1, h2.symm⟩)))
          obtain ⟨wq, hwq⟩ : ∃ W, wr.drewN nq = W := ⟨_, rfl⟩
          have hB3 := Lib.hid (hB.out.trans ((Drawn.below (w' := wr.drewN nq) ⟨nq, rfl⟩ _).mono hB.out.size))
          have hK13 := Lib.hid (hK1.out.keep (Drawn.below (w' := wr.drewN nq) ⟨nq, rfl⟩ _))
          have hK23 := Lib.hid (hK2.out.keep (Drawn.below (w' := wr.drewN nq) ⟨nq, rfl⟩ _))
          rw [hwq] at hB3 hK13 hK23 ⊢
          clear hwq x0 x1 y0 y1 c1
          obtain ⟨⟨x0, x1⟩, _, _⟩ := hK13.out.two
          obtain ⟨⟨y0, y1⟩, _, _⟩ := hK23.out.two
          go_wp2_with fail
          refine (C2' _).out.mono ?_
          rintro e w4 ⟨rfl, rfl⟩
          go_wp2_with fail
          go_roundg (gk - 1)
          case measure => exact HJ.out.2
          case rel => exact ⟨k + 1, u, by go_num, by go_num, HJ.out.1, by omega, HM3.out, hB3.out, hK13.out, hK23.out⟩
        · have hCA := CA k hks
          have hyb := HWA.out k
          have hyW := HW2.out k (by omega)
          obtain ⟨y, hy⟩ : ∃ y, ac (l - s1) (b - k) s2 (a2 - k + 1).toNat = y := ⟨_, rfl⟩
          rw [hy] at hCA hyb hyW
          obtain ⟨p, u, m1, m2, m3, m4⟩ := (HST.out k t x y ht.out hx hyW).ex
          have HM3 := Lib.hid m3
          have hadd : (t : Int) + (p : Int) = (u : Int) := by omega
          clear hx hy hyW hk CA C2 C3 ht CX1 CX2 m3
          go_wp2_with fail
          go_quiet ((go_at_call 45; exact Calls.quiet_of_same ((c_Choose _ _ (by omega) _).mono fun e w' ⟨h1, h2⟩ => ⟨h1, h2.symm⟩)))
          obtain ⟨wq, hwq⟩ : ∃ W, wr.drewN nq = W := ⟨_, rfl⟩
          have hB3 := Lib.hid (hB.out.trans ((Drawn.below (w' := wr.drewN nq) ⟨nq, rfl⟩ _).mono hB.out.size))
          have hK13 := Lib.hid (hK1.out.keep (Drawn.below (w' := wr.drewN nq) ⟨nq, rfl⟩ _))
          have hK23 := Lib.hid (hK2.out.keep (Drawn.below (w' := wr.drewN nq) ⟨nq, rfl⟩ _))
          rw [hwq] at hB3 hK13 hK23 ⊢
          clear hwq x0 x1 y0 y1 c1
          obtain ⟨⟨x0, x1⟩, _, _⟩ := hK13.out.two
          obtain ⟨⟨y0, y1⟩, _, _⟩ := hK23.out.two
          go_wp2_with fail
          refine (hCA _).out.mono ?_
          rintro e w4 ⟨rfl, rfl⟩
          go_wp2_with fail
          go_roundg (gk - 1)
          case measure => exact HJ.out.2
          case rel => exact ⟨k + 1, u, by go_num, by go_num, HJ.out.1, by omega, HM3.out, hB3.out, hK13.out, hK23.out⟩
    · obtain rfl : k = n := by omega
      have hltI : ¬ ((k : Int) < (k : Int)) := by omega
      have hT := ht.out
      subst hT
      have v1 := lo1_le (dsS l b s1 a1 s2 a2 k) D
      have v2 := lo2_le (dsS l b s1 a1 s2 a2 k) D
      generalize dsS l b s1 a1 s2 a2 k = t at *
      have c2 : ∀ m, (wr.drewN m).cell? ⟨w.heap.size + 1, 0, none⟩ = some (.int .i64 s2) := fun _ => y0
      have hY1b : chI l s1 ≤ 1099511627776 := chI_40 i2 s1
      have hY2b : chI (l - s1) s2 ≤ 1099511627776 := chI_40 (by omega) s2
      clear hlt hk CA hltI CX1 CX2 C2 C2'
      by_cases hks : (k : Int) ≤ s1
      all_goals
        go_wp2_with fail
        have hDm := HDM.out
        clear x0 x1 y0 y1
        go_quiet ((first | (go_at_call 45; exact Calls.quiet_of_same ((c_Choose _ _ (by omega) _).mono fun e w' ⟨h1, h2⟩ => ⟨h1, h2.symm⟩)) | (go_at_call 43; exact (C3 _).out.mono fun e w' ⟨h1, ⟨n, h2⟩⟩ => ⟨h1, ⟨_, h2.trans (Flt.drewN_drewN _ _ _)⟩⟩)))
        go_wp2_with fail
        go_ret3
        rw [HR.out.1, HR.out.2.1, HR.out.2.2]
        exact ⟨rfl, hB.out.trans ((Drawn.below ⟨_, rfl⟩ _).mono hB.out.size)⟩
end Go.Proofs.Ytemdgfjcjjadnaa
