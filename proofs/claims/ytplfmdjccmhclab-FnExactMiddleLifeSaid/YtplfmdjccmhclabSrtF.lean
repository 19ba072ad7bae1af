/-
  The library's stable sort of 32-bit numbers: what each of its functions does to a block of the call's own. Conditions: the function that compares tells a strict weak order of the elements.
-/
import Derived.Test.YtplfmdjccmhclabSrtL
import Derived.Test.YtplfmdjccmhclabMarkW
namespace Liv
open Go Go.Sort Dec
/-- a block of the call's own that holds these numbers, from its head on -/
def FArr (e : TypeId) (w : World) (g : Nat) (d : Array Nat) : Prop := Slots w g d.size e ∧ ∀ i, i < d.size → w.cell? ⟨g, i, none⟩ = some (.float .f32 d[i]!)
theorem FArr.keep {e : TypeId} {w w' : World} {g : Nat} {d : Array Nat} (h : FArr e w g d) (hb : Go.RowKit.Below w.heap.size w w') : FArr e w' g d := by
  refine ⟨h.1.keep hb, fun i hi => ?_⟩
  have a1 := h.2 i hi
  rw [World.cell?_of_block (w := w) (hb.block g h.1.lt)]; exact a1
/-- the world behind an exchange -/
def swF (w : World) (g i j : Nat) (x y : Nat) : World := (w.setCell ⟨g, i, none⟩ (.float .f32 y)).setCell ⟨g, j, none⟩ (.float .f32 x)
theorem FArr.swp {e : TypeId} {w : World} {g : Nat} {d : Array Nat} (h : FArr e w g d) {i j : Nat} (hi : i < d.size) (hj : j < d.size) : FArr e (swF w g i j d[i]! d[j]!) g (Go.Sort.swp d i j) := by
  obtain ⟨h1, h2⟩ := h
  have hs : (Go.Sort.swp d i j).size = d.size := size_swp d i j
  have s1 := h1.set i (.float .f32 d[j]!)
  refine ⟨by rw [hs]; exact s1.set _ _, fun t ht => ?_⟩
  rw [hs] at ht
  rw [Stb.swp_at d hi hj]
  unfold swF
  by_cases c1 : t = j
  · subst c1
    rw [if_pos rfl]
    obtain ⟨u, hu⟩ := s1.cell ht
    exact World.cell?_setCell_same _ _ _ hu
  · rw [if_neg c1, World.cell?_setCell_other _ _ _ _ (by intro e; apply c1; injection e with _ e2 _; exact e2.symm)]
    by_cases c2 : t = i
    · subst c2
      rw [if_pos rfl]
      obtain ⟨u, hu⟩ := h1.cell ht
      exact World.cell?_setCell_same _ _ _ hu
    · rw [if_neg c2, World.cell?_setCell_other _ _ _ _ (by intro e; apply c2; injection e with _ e2 _; exact e2.symm)]
      exact h2 t ht
/-- what an exchange reads and writes -/
theorem FArr.way {e : TypeId} {w : World} {g : Nat} {d : Array Nat} (h : FArr e w g d) {i j : Nat} (hi : i < d.size) (hj : j < d.size) (x y : Nat) (hx : d[i]! = x) (hy : d[j]! = y) :
    (w.cell? ⟨g, i, none⟩ = some (.float .f32 x) ∧ w.cell? ⟨g, j, none⟩ = some (.float .f32 y)) ∧ (w.frozen? ⟨g, i, none⟩ = false ∧ w.frozen? ⟨g, j, none⟩ = false) := by
  subst hx
  subst hy
  exact ⟨⟨h.2 i hi, h.2 j hj⟩, h.1.frozen _, h.1.frozen _⟩
theorem ne_wayF {i j : Nat} (h : i ≠ j) : j ≠ i ∧ i ≠ j := ⟨Ne.symm h, h⟩
theorem swF_below {w : World} {g i j B : Nat} {x y : Nat} (hB : B ≤ g) : Go.RowKit.Below B w (swF w g i j x y) := ((Go.RowKit.Below.refl B w).setCell hB _).setCell hB _
end Liv
namespace Go.Proofs.Ytplfmdjccmhclab
open Go.RowKit Liv Flt Go.Sort Stb
set_option maxHeartbeats 4000000 in
theorem swapRangeF_any (c : Value) (cap g a b n sz : Nat) (d : Array (Nat)) (hsz : d.size = sz) (w : World) (h : FArr 23 w g d) (hab : a + n ≤ b) (hb : b + n ≤ sz) (hs : sz ≤ 1048576) :
    Calls Try.prog 135 #[.slice (some ⟨g, 0, none⟩) sz cap, .int .i64 a, .int .i64 b, .int .i64 n, c] w fun e w' => e = .returned (.tuple #[]) ∧ (∃ d', Swr a b n d d' ∧ PermIn a (b + n) d d' ∧ FArr 23 w' g d') ∧ Below g w w' := by
  have mixed : Try.prog.follows .mixedOrders = true := by kernel_rfl
  have H := Lib.hid h
  have HSZ := Lib.hid hsz
  clear h hsz
  go_enter Try.func135, Try.ntmps135
  go_wp2_with fail
  go_loopg [10] n (fun k i wr => ∃ (q : Nat) (e : Array (Nat)), i = .int .i64 q ∧ Hid (q + k = n) ∧ q ≤ n ∧ Hid (Swr a b q d e) ∧ Hid (PermIn a (b + n) d e) ∧ Hid (FArr 23 wr g e) ∧ Hid (Below g w wr))
  case atStart => exact ⟨0, d, rfl, by show _ = _; omega, Nat.zero_le _, swr_zero a b d, permIn_refl d a (b + n), H.out, Below.refl _ _⟩
  case round =>
    obtain ⟨q, e, rfl, hk, hkl, hW, hP, hA, hB⟩ := hrel
    by_cases hlt : q < n
    · have hes : e.size = sz := hP.out.1.trans HSZ.out
      have HS1 : Hid (a + q < e.size) := by show _ < _; omega
      have HS2 : Hid (b + q < e.size) := by show _ < _; omega
      obtain ⟨x, hx⟩ : ∃ x, e[a + q]! = x := ⟨_, rfl⟩
      obtain ⟨y, hy⟩ : ∃ y, e[b + q]! = y := ⟨_, rfl⟩
      obtain ⟨⟨r1, r3⟩, f1, f3⟩ := hA.out.way HS1.out HS2.out x y hx hy
      obtain ⟨n1, n5⟩ := ne_wayF (i := a + q) (j := b + q) (by omega)
      have HA2 := Lib.hid ((hA.out.swp HS1.out HS2.out).keep (below_drewN (Below.refl _ _) 1))
      have HB2 : Hid (Below g w (swF wr g (a + q) (b + q) x y).drew) := Lib.hid (below_drewN (hB.out.trans (swF_below (Nat.le_refl _))) 1)
      rw [hx, hy] at HA2
      have HP2 := Lib.hid (permIn_trans d e _ a (b + n) hP.out (swp_permIn e a (b + n) (a + q) (b + q) (by omega) (by omega) (by omega) (by omega) (by omega)))
      have HW2 := Lib.hid (swr_step hW.out hab hlt (by omega))
      clear hx hy hW hP hA hB
      have HJ : Hid (q + 1 + (gk - 1) = n) := by have := hk.out; show _ = _; omega
      have HG : Hid (gk - 1 < gk) := by have := hk.out; show _ < _; omega
      clear hes
      go_wp2_with fail
      go_big_region_o
      go_wp2_with fail
      go_roundg (gk - 1)
      case measure => exact HG.out
      case rel => exact ⟨q + 1, _, by go_num, HJ, by omega, HW2.out, HP2.out, HA2.out, HB2.out⟩
    · obtain rfl : q = n := by have := hk.out; omega
      clear hlt
      go_wp2_with fail
      go_end0
      exact ⟨rfl, ⟨e, hW.out, hP.out, hA.out⟩, hB.out⟩
set_option maxHeartbeats 4000000 in
theorem rotateF_any (c : Value) (cap g a m b sz : Nat) (d : Array (Nat)) (hsz : d.size = sz) (w : World) (h : FArr 23 w g d) (ham : a < m) (hmb : m < b) (hb : b ≤ sz) (hs : sz ≤ 1048576) :
    Calls Try.prog 134 #[.slice (some ⟨g, 0, none⟩) sz cap, .int .i64 a, .int .i64 m, .int .i64 b, c] w fun e w' => e = .returned (.tuple #[]) ∧ (∃ d', Rot a m b d d' ∧ PermIn a b d d' ∧ FArr 23 w' g d') ∧ Below g w w' := by
  have H := Lib.hid h
  have HSZ := Lib.hid hsz
  have HD := Lib.hid (tur_start (s := a) (m := m) (e := b) (d := d) (by omega) (by omega) (by omega))
  clear h hsz
  obtain ⟨i0, hi0⟩ : ∃ i0, m = a + i0 := ⟨m - a, by omega⟩
  obtain ⟨j0, hj0⟩ : ∃ j0, b = m + j0 := ⟨b - m, by omega⟩
  have e1 : m - a = i0 := by omega
  have e2 : b - m = j0 := by omega
  rw [e1, e2] at HD
  have hbz : (b : Int) - (m : Int) = (j0 : Int) := by omega
  have hmz : (m : Int) - (a : Int) = (i0 : Int) := by omega
  have hi1 : 0 < i0 := by omega
  have hj1 : 0 < j0 := by omega
  have HI := Lib.hid (show m = a + i0 ∧ b = m + j0 from ⟨hi0, hj0⟩)
  clear e1 e2 hi0 hj0
  go_enter Try.func134, Try.ntmps134
  go_wp2_with fail
  go_loopg [10, 11] (i0 + j0) (fun k i j wr => ∃ (p q : Nat) (e : Array (Nat)), i = .int .i64 p ∧ j = .int .i64 q ∧ Hid (p + q ≤ k) ∧ 0 < p ∧ 0 < q ∧ p ≤ i0 ∧ q ≤ j0 ∧ Hid (Tur p m q (turned a m b d) e) ∧ Hid (PermIn a b d e) ∧ Hid (FArr 23 wr g e) ∧ Hid (Below g w wr))
  case atStart => exact ⟨i0, j0, d, by go_num, by go_num, Nat.le_refl _, hi1, hj1, Nat.le_refl _, Nat.le_refl _, HD.out, permIn_refl d a b, H.out, Below.refl _ _⟩
  case round =>
    obtain ⟨p, q, e, rfl, rfl, hk, hp, hq, hpi, hqj, hT, hP, hA, hB⟩ := hrel
    have hes : Hid (e.size = sz) := hP.out.1.trans HSZ.out
    have hi0 := HI.out.1
    have hj0 := HI.out.2
    obtain ⟨mp, hmp⟩ : ∃ mp, m = mp + p := ⟨m - p, by omega⟩
    have hmpz : (m : Int) - (p : Int) = (mp : Int) := by omega
    have HMP := Lib.hid hmp
    rcases Nat.lt_trichotomy p q with hpq | hpq | hpq
    · have hne : ¬ ((p : Int) = (q : Int)) := by omega
      have hgt : ¬ ((q : Int) < (p : Int)) := by omega
      obtain ⟨mq, hmq⟩ : ∃ mq, m + q = mq + p := ⟨m + q - p, by omega⟩
      have hmqz : (m : Int) + (q : Int) - (p : Int) = (mq : Int) := by omega
      have HB1 : Hid (mp + p ≤ mq ∧ mq + p ≤ sz) := by show _ ∧ _; omega
      have HG : Hid (p + (q - p) ≤ gk - 1 ∧ gk - 1 < gk) := by have := hk.out; show _ ∧ _; omega
      have HMQ := Lib.hid hmq
      clear hi0 hj0 hmp hmq
      go_wp2_with fail
      try rw [hmpz]
      try rw [hmqz]
      have hi0 := HI.out.1
      have hj0 := HI.out.2
      have hmp := HMP.out
      have hmq := HMQ.out
      refine (swapRangeF_any c cap g mp mq p sz e hes.out wr hA.out HB1.out.1 HB1.out.2 hs).mono ?_
      rintro x w1 ⟨rfl, ⟨e', s1, p1, a1⟩, b1⟩
      have HT1 : Hid (Tur p m (q - p) (turned a m b d) e') := by
        show Tur _ _ _ _ _
        have hm1 : m - p = mp := by omega
        have hm2 : m + q - p = mq := by omega
        exact tur_less hT.out (by omega) hpq (by rw [hm1, hm2]; exact s1)
      have HP1 : Hid (PermIn a b d e') := Lib.hid (permIn_trans _ _ _ a b hP.out (permIn_mono e e' mp (mq + p) a b (by omega) (by omega) (by have := hes.out; omega) p1))
      have HA1 := Lib.hid a1
      have HB2 := Lib.hid (hB.out.trans b1)
      clear s1 p1 a1 b1 hT hP hA hB
      have HPI : Hid (p ≤ i0 ∧ q ≤ j0) := ⟨hpi, hqj⟩
      have hz : (q : Int) - (p : Int) = ((q - p : Nat) : Int) := by omega
      clear hi0 hj0 hmp hmq
      go_wp2_with fail
      go_roundg (gk - 1)
      case measure => exact HG.out.2
      case rel => exact ⟨p, q - p, e', rfl, by rw [← hz]; try go_num, HG.out.1, hp, by omega, hpi, by omega, HT1.out, HP1.out, HA1.out, HB2.out⟩
    · subst hpq
      have HB1 : Hid (mp + p ≤ m ∧ m + p ≤ sz) := by show _ ∧ _; omega
      clear hi0 hj0 hmp
      go_wp2_with fail
      try rw [hmpz]
      have hi0 := HI.out.1
      have hj0 := HI.out.2
      have hmp := HMP.out
      refine (swapRangeF_any c cap g mp m p sz e hes.out wr hA.out HB1.out.1 HB1.out.2 hs).mono ?_
      rintro x w1 ⟨rfl, ⟨e', s1, p1, a1⟩, b1⟩
      have HR1 : Hid (Rot a m b d e') := by
        show Rot _ _ _ _ _
        have hm1 : m - p = mp := by omega
        exact rot_turned (by omega) (by omega) (by have := HSZ.out; omega) (fun t => tur_last hT.out (by omega) (by rw [hm1]; exact s1) t)
      have HP1 : Hid (PermIn a b d e') := Lib.hid (permIn_trans _ _ _ a b hP.out (permIn_mono e e' mp (m + p) a b (by omega) (by omega) (by have := hes.out; omega) p1))
      have HA1 := Lib.hid a1
      have HB2 := Lib.hid (hB.out.trans b1)
      clear s1 p1 a1 b1 hT hP hA hB hi0 hj0 hmp
      go_wp2_with fail
      go_end0
      exact ⟨rfl, ⟨e', HR1.out, HP1.out, HA1.out⟩, HB2.out⟩
    · have hne : ¬ ((p : Int) = (q : Int)) := by omega
      have hgt : (q : Int) < (p : Int) := by omega
      have HB1 : Hid (mp + q ≤ m ∧ m + q ≤ sz) := by show _ ∧ _; omega
      have HG : Hid (p - q + q ≤ gk - 1 ∧ gk - 1 < gk) := by have := hk.out; show _ ∧ _; omega
      clear hi0 hj0 hmp
      go_wp2_with fail
      try rw [hmpz]
      have hi0 := HI.out.1
      have hj0 := HI.out.2
      have hmp := HMP.out
      refine (swapRangeF_any c cap g mp m q sz e hes.out wr hA.out HB1.out.1 HB1.out.2 hs).mono ?_
      rintro x w1 ⟨rfl, ⟨e', s1, p1, a1⟩, b1⟩
      have HT1 : Hid (Tur (p - q) m q (turned a m b d) e') := by
        show Tur _ _ _ _ _
        have hm1 : m - p = mp := by omega
        exact tur_more hT.out (by omega) hpq (by rw [hm1]; exact s1)
      have HP1 : Hid (PermIn a b d e') := Lib.hid (permIn_trans _ _ _ a b hP.out (permIn_mono e e' mp (m + q) a b (by omega) (by omega) (by have := hes.out; omega) p1))
      have HA1 := Lib.hid a1
      have HB2 := Lib.hid (hB.out.trans b1)
      clear s1 p1 a1 b1 hT hP hA hB
      have HPI : Hid (p ≤ i0 ∧ q ≤ j0) := ⟨hpi, hqj⟩
      have hz : (p : Int) - (q : Int) = ((p - q : Nat) : Int) := by omega
      clear hi0 hj0 hmp
      go_wp2_with fail
      go_roundg (gk - 1)
      case measure => exact HG.out.2
      case rel => exact ⟨p - q, q, e', by rw [← hz]; try go_num, rfl, HG.out.1, by omega, hq, by omega, hqj, HT1.out, HP1.out, HA1.out, HB2.out⟩
end Go.Proofs.Ytplfmdjccmhclab
