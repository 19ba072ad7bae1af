/-
  The law of faults: they are told as fractions without common factors. Conditions: the bytes read as bytes.
-/
import Derived.Test.YtppkeabkjabhdabFal
import Derived.Test.YtppkeabkjabhdabByteW
import Derived.Laws.AppendOwn
namespace We
open Go Flt Dec
theorem ivs (l : List Int) (t : Int) : iv (l ++ [t]) = iv l ++ [.int .i64 t] := by simp [iv]
theorem irow_owned {w : World} {B t : Nat} {v : Value} {Z : List Int} {n : Nat} (h : w.ownsRow B t 1 v n (iv Z)) (hl : Z.length = n) (hn : n ≤ 1048576) (hz : ∀ z ∈ Z, -9223372036854775808 ≤ z ∧ z ≤ 9223372036854775807) :
    ∃ a c, v = .slice a n c ∧ IRow w a n Z ∧ n ≤ c := by
  subst hl
  obtain ⟨h1, ⟨rfl, h2⟩ | ⟨g, cap, cur, rfl, hg, hc, hcap, _, hcs, hcur⟩⟩ := h
  · have hZ : Z = [] := List.eq_nil_of_length_eq_zero h2
    subst hZ
    exact ⟨none, 0, rfl, ⟨rfl, Nat.zero_le _, by simp, fun i hi => absurd hi (Nat.not_lt_zero _)⟩, Nat.le_refl _⟩
  · have hlt : g < w.heap.size := by
      refine Nat.lt_of_not_le fun hle => ?_
      rw [Array.getElem?_eq_none hle] at hc; cases hc
    refine ⟨some ⟨g, 0, none⟩, cap, rfl, ⟨rfl, by unfold maxLen; omega, hz, fun j hj => ⟨g, 0, rfl, hlt, ?_⟩⟩, by omega⟩
    have hu : (cur.toList.take (Z.length * 1))[j]? = some (.int .i64 (Z.getD j 0)) := by
      rw [hcur]; simp [iv, List.getElem?_eq_getElem hj, List.getD]
    rw [List.getElem?_take_of_lt (by omega)] at hu
    unfold World.cell?
    simp only [hc]
    simpa using hu
theorem cell_i1 (w : World) (t : TypeId) (v : Value) : ∀ j u, [v][j]? = some u → (w.alloc (.cells #[v] t)).cell? ((⟨w.heap.size, 0, none⟩ : Addr).add j) = some u := Cm.cell_new1 w t v
/-- the choice by the byte at 'i' of the numbers below 'n' -/
def bAt (zs : List Nat) (i n : Nat) : Nat := if n ≤ 1 then 0 else if i < zs.length then zs.getD i 0 % n else (i * 37 + 11) % n
theorem bAt_lt (zs : List Nat) (i : Nat) {n : Nat} (h : 1 ≤ n) : bAt zs i n < n := by
  unfold bAt
  split
  · omega
  · split <;> exact Nat.mod_lt _ (by omega)
def cnt (v : Int) (Z : List Int) : Nat := (Z.filter fun z => z == v).length
theorem cnt_one (v : Int) (Z : List Int) : one_ v Z Z.length = cnt v Z := by unfold one_ cnt; rw [List.take_length]
theorem cnt_snoc (v : Int) (Z : List Int) (z : Int) : cnt v (Z ++ [z]) = cnt v Z + if z = v then 1 else 0 := by
  unfold cnt
  rw [List.filter_append, List.length_append]
  congr 1
  by_cases e : z = v
  · rw [if_pos e, List.filter_cons_of_pos (by rw [e]; exact beq_self_eq_true v)]; rfl
  · rw [if_neg e, List.filter_cons_of_neg (by simpa using e)]; rfl
theorem cnt_le (v : Int) (Z : List Int) : cnt v Z ≤ Z.length := List.length_filter_le _ _
theorem cop {a b d : Nat} (hb : 0 < b) (h1 : (a / Nat.gcd a b) % d = 0) (h2 : (b / Nat.gcd a b) % d = 0) (hd : 2 ≤ d) : False := by
  obtain ⟨u, hu⟩ := Nat.dvd_of_mod_eq_zero h1
  obtain ⟨v, hv⟩ := Nat.dvd_of_mod_eq_zero h2
  have hg : 0 < Nat.gcd a b := Nat.gcd_pos_of_pos_right a hb
  have ha' : a = Nat.gcd a b * (a / Nat.gcd a b) := (Nat.mul_div_cancel' (Nat.gcd_dvd_left a b)).symm
  have hb' : b = Nat.gcd a b * (b / Nat.gcd a b) := (Nat.mul_div_cancel' (Nat.gcd_dvd_right a b)).symm
  have d1 : Nat.gcd a b * d ∣ a := ⟨u, by rw [Nat.mul_assoc, ← hu]; exact ha'⟩
  have d2 : Nat.gcd a b * d ∣ b := ⟨v, by rw [Nat.mul_assoc, ← hv]; exact hb'⟩
  have := Nat.le_of_dvd hg (Nat.dvd_gcd d1 d2)
  have h3 : Nat.gcd a b * 2 ≤ Nat.gcd a b * d := Nat.mul_le_mul_left _ hd
  omega
theorem quot_one {a b : Nat} (hb : 0 < b) : 1 ≤ b / Nat.gcd a b := by
  have hg : 0 < Nat.gcd a b := Nat.gcd_pos_of_pos_right a hb
  exact (Nat.le_div_iff_mul_le hg).2 (by rw [Nat.one_mul]; exact Nat.gcd_le_right a hb)
theorem cross (a b : Nat) : a / Nat.gcd a b * b = b / Nat.gcd a b * a := by
  have ha : a / Nat.gcd a b * Nat.gcd a b = a := Nat.div_mul_cancel (Nat.gcd_dvd_left a b)
  have hb : b / Nat.gcd a b * Nat.gcd a b = b := Nat.div_mul_cancel (Nat.gcd_dvd_right a b)
  calc a / Nat.gcd a b * b = a / Nat.gcd a b * (b / Nat.gcd a b * Nat.gcd a b) := by rw [hb]
    _ = b / Nat.gcd a b * (a / Nat.gcd a b * Nat.gcd a b) := Nat.mul_left_comm _ _ _
    _ = b / Nat.gcd a b * a := by rw [ha]
end We
namespace Go.Proofs.Ytppkeabkjabhdab
open Go.RowKit Flt Dec Cm We
theorem bAtF_any (i n : Nat) (hn : n ≤ 100000) (hi : i ≤ 1000) (a : Option Addr) (len cap : Nat) (zs : List Nat) (w : World) (h : BRow w a len zs) :
    Calls Try.prog 22 #[.slice a len cap, .int .i64 i, .int .i64 n] w fun e w' => e = .returned (.int .i64 ((bAt zs i n : Nat) : Int)) ∧ w = w' := by
  have hmax : len ≤ 9223372036854775807 := by have := h.2.1; unfold maxLen at this; exact this
  by_cases h1 : n ≤ 1
  · have hb : bAt zs i n = 0 := by unfold bAt; rw [if_pos h1]
    rw [hb]
    have q : (n : Int) ≤ 1 := by omega
    clear h hb
    go_enter Try.func22, Try.ntmps22
    go_wp2_with fail
    go_ret
    exact ⟨rfl, rfl⟩
  · have q : ¬ ((n : Int) ≤ 1) := by omega
    by_cases hil : i < len
    · obtain ⟨b, off, rfl, _, hc⟩ := h.2.2.2 i hil
      have hz := h.bd hil
      have hb : bAt zs i n = zs.getD i 0 % n := by unfold bAt; rw [if_neg h1, if_pos (by rw [h.1]; exact hil)]
      rw [hb]
      clear hb
      generalize zs.getD i 0 = z at *
      have hm : (z : Int).tmod (n : Int) = ((z % n : Nat) : Int) := (Int.ofNat_tmod z n).symm
      have hlt : z % n < n := Nat.mod_lt _ (by omega)
      have q2 : (i : Int) < (len : Int) := by omega
      clear h
      generalize z % n = v at *
      go_enter Try.func22, Try.ntmps22
      go_wp2_with fail
      go_ret
      exact ⟨rfl, rfl⟩
    · have hb : bAt zs i n = (i * 37 + 11) % n := by unfold bAt; rw [if_neg h1, if_neg (by rw [h.1]; exact hil)]
      rw [hb]
      have hm : ((i : Int) * 37 + 11).tmod (n : Int) = (((i * 37 + 11) % n : Nat) : Int) := by
        have := (Int.ofNat_tmod (i * 37 + 11) n).symm
        simpa using this
      have hlt : (i * 37 + 11) % n < n := Nat.mod_lt _ (by omega)
      have q2 : ¬ ((i : Int) < (len : Int)) := by omega
      clear h hb
      generalize (i * 37 + 11) % n = v at *
      go_enter Try.func22, Try.ntmps22
      go_wp2_with fail
      go_ret
      exact ⟨rfl, rfl⟩
theorem bLongF_any (a b : Option Addr) (la lb ca cb : Nat) (ha : la ≤ 9223372036854775807) (hb : lb ≤ 9223372036854775807) (w : World) :
    Calls Try.prog 21 #[.slice a la ca, .slice b lb cb] w fun e w' => e = .returned (.bool (decide (1048576 < la) || decide (1048576 < lb))) ∧ w = w' := by
  by_cases h1 : 1048576 < la
  · have hr : Hid ((decide (1048576 < la) || decide (1048576 < lb)) = true) := by show _ = _; simp [h1]
    rw [hr.out]
    have q : (la : Int) > 1048576 := by omega
    go_enter Try.func21, Try.ntmps21
    go_wp2_with fail
    go_ret
    exact ⟨rfl, rfl⟩
  · have q : ¬ ((la : Int) > 1048576) := by omega
    by_cases h2 : 1048576 < lb
    · have hr : Hid ((decide (1048576 < la) || decide (1048576 < lb)) = true) := by show _ = _; simp [h2]
      rw [hr.out]
      have q2 : (lb : Int) > 1048576 := by omega
      go_enter Try.func21, Try.ntmps21
      go_wp2_with fail
      go_ret
      exact ⟨rfl, rfl⟩
    · have hr : Hid ((decide (1048576 < la) || decide (1048576 < lb)) = false) := by show _ = _; simp [h1, h2]
      rw [hr.out]
      have q2 : ¬ ((lb : Int) > 1048576) := by omega
      go_enter Try.func21, Try.ntmps21
      go_wp2_with fail
      go_ret
      exact ⟨rfl, rfl⟩
set_option maxRecDepth 100000 in
set_option maxHeartbeats 8000000 in
theorem fnFaults_walk (a : Option Addr) (la ca : Nat) (zs : List Nat) (b : Option Addr) (lb cb : Nat) (ys : List Nat) (w : World) (ha : BRow w a la zs) (hb : BRow w b lb ys) :
    Calls Try.prog 7 #[.slice a la ca, .slice b lb cb] w fun e w' => e = .returned (.bool true) ∧ Below w.heap.size w w' := by
  have hma : la ≤ 9223372036854775807 := by have := ha.2.1; unfold maxLen at this; exact this
  have hmb : lb ≤ 9223372036854775807 := by have := hb.2.1; unfold maxLen at this; exact this
  have HA := Lib.hid ha
  have HB := Lib.hid hb
  clear ha hb
  by_cases h12 : la ≤ 1048576 ∧ lb ≤ 1048576
  · have hl : Hid ((decide (1048576 < la) || decide (1048576 < lb)) = false) := by show _ = _; simp [h12.1, h12.2]
    obtain ⟨i0, hi, hz0, hz1, hz2⟩ := info_parts (show (Try.prog.info? 2).map (fun i => (i.zero, i.size, i.bytes)) = some (some (.int .i64 0), 1, 8) by kernel_rfl)
    obtain ⟨sv, hsv⟩ : ∃ v, bAt ys 0 40 = v := ⟨_, rfl⟩
    have hs40 : sv < 40 := by rw [← hsv]; exact bAt_lt ys 0 (by omega)
    obtain ⟨s, hs⟩ : ∃ s, 1 + sv = s := ⟨_, rfl⟩
    obtain ⟨bv, hbv⟩ : ∃ v, bAt ys 1 s = v := ⟨_, rfl⟩
    have hb40 : bv < s := by rw [← hbv]; exact bAt_lt ys 1 (by omega)
    obtain ⟨fv, hfv⟩ : ∃ v, bAt ys 2 60 = v := ⟨_, rfl⟩
    have hf60 : fv < 60 := by rw [← hfv]; exact bAt_lt ys 2 (by omega)
    obtain ⟨mv, hmv⟩ : ∃ v, bAt ys 3 12 = v := ⟨_, rfl⟩
    have hm12 : mv < 12 := by rw [← hmv]; exact bAt_lt ys 3 (by omega)
    have HSV := Lib.hid hsv
    have HBV := Lib.hid hbv
    have HFV := Lib.hid hfv
    have HMV := Lib.hid hmv
    obtain ⟨bo, hbo⟩ : ∃ s, 1 + bv = s := ⟨_, rfl⟩
    have hsi : (1 : Int) + (sv : Int) = (s : Int) := by omega
    have hbi : (1 : Int) + (bv : Int) = (bo : Int) := by omega
    have hs1 : 1 ≤ s ∧ s ≤ 40 := by omega
    have hb1 : 1 ≤ bo ∧ bo ≤ s := by omega
    have hffb : ffB s fv bo = true := ff_all (by omega) (by omega) (by omega)
    have hffy := ff_yes hffb
    have HF1 := Lib.hid hffb
    have hx1 := quot_one (a := s * fv) (b := bo) (by omega)
    have hx2 := cross (s * fv) bo
    have hxl : s * fv / Nat.gcd (s * fv) bo ≤ 2400 := Nat.le_trans (Nat.div_le_self _ _) (Nat.le_trans (Nat.mul_le_mul hs1.2 (Nat.le_of_lt hf60)) (by decide))
    have hyl : bo / Nat.gcd (s * fv) bo ≤ 40 := Nat.le_trans (Nat.div_le_self _ _) (by omega)
    have HCOP : Hid (∀ d, 2 ≤ d → (s * fv / Nat.gcd (s * fv) bo) % d = 0 → (bo / Nat.gcd (s * fv) bo) % d = 0 → False) := Lib.hid fun d h0 h1 h2 => cop (by omega) h1 h2 h0
    generalize s * fv / Nat.gcd (s * fv) bo = x at *
    generalize bo / Nat.gcd (s * fv) bo = y at *
    have HF2 := Lib.hid hffy
    have hp1 : (x : Int) * (bo : Int) = ((x * bo : Nat) : Int) := (Int.natCast_mul x bo).symm
    have hp2 : (y : Int) * (s : Int) = ((y * s : Nat) : Int) := (Int.natCast_mul y s).symm
    have hp3 : ((y * s : Nat) : Int) * (fv : Int) = ((x * bo : Nat) : Int) := by rw [hx2, ← Nat.mul_assoc]; exact (Int.natCast_mul _ _).symm
    have hpl : x * bo ≤ 96000 := Nat.le_trans (Nat.mul_le_mul hxl (show bo ≤ 40 by omega)) (by decide)
    have hql : y * s ≤ 1600 := Nat.le_trans (Nat.mul_le_mul hyl hs1.2) (by decide)
    have hxe : ((x * bo : Nat) : Int) = ((x * bo : Nat) : Int) := rfl
    clear hxe hx2
    generalize x * bo = pv at *
    generalize y * s = qv at *
    have hne : ((pv : Int) != (pv : Int)) = false := by simp
    have hy1 : ¬ ((y : Int) < 1) := by omega
    have hx0 : ¬ ((x : Int) < 0) := by omega
    clear hffb hffy h12 hsv hbv hfv hmv hs hbo
    go_enter Try.func7, Try.ntmps7
    go_wp2_with fail
    refine (bLongF_any a b la lb ca cb hma hmb _).mono ?_
    rintro e w1 ⟨rfl, rfl⟩
    rw [hl.out]
    go_wp2_with fail
    refine (bAtF_any 0 40 (by omega) (by omega) b lb cb ys _ HB.out).mono ?_
    rintro e w1 ⟨rfl, rfl⟩
    rw [HSV.out]
    go_wp2_with fail
    refine (bAtF_any 1 s (by omega) (by omega) b lb cb ys _ HB.out).mono ?_
    rintro e w1 ⟨rfl, rfl⟩
    rw [HBV.out]
    go_wp2_with fail
    refine (bAtF_any 2 60 (by omega) (by omega) b lb cb ys _ HB.out).mono ?_
    rintro e w1 ⟨rfl, rfl⟩
    rw [HFV.out]
    go_wp2_with fail
    refine (iFoundFaults_any s fv bo _).mono ?_
    rintro e w1 ⟨rfl, b1⟩
    rw [HF2.out.1, HF2.out.2, HF1.out]
    have BW1 := Lib.hid b1
    have BA1 : Hid (Below w.heap.size w (w1.alloc (.cells #[] 2))) := Lib.hid (b1.alloc b1.size _)
    have HGE : Hid (w.heap.size ≤ w1.heap.size) := b1.size
    clear b1
    go_wp2_with fail
    clear hne hp1 hp2 hp3 hy1 hx0
    obtain ⟨m, hm⟩ : ∃ m, 2 + mv = m := ⟨_, rfl⟩
    have hmi : (2 : Int) + (mv : Int) = (m : Int) := by omega
    have hm2 : 2 ≤ m ∧ m ≤ 13 := by omega
    clear hm BW1
    go_loopg [11, 12, 13, 14] m (fun q v11 v12 v13 v14 wr => ∃ (k o t c3 : Nat) (a3 : Option Addr) (Z : List Int), v11 = .slice a3 k c3 ∧ v12 = .int .i64 (o : Int) ∧ v13 = .int .i64 (t : Int) ∧ v14 = .int .i64 (k : Int) ∧ Hid (k + q = m) ∧ k ≤ m ∧ o ≤ k ∧ t ≤ k ∧ Hid (Z.length = k) ∧ Hid (o = cnt 1 Z ∧ t = cnt 2 Z) ∧ Hid (∀ z ∈ Z, 1 ≤ z ∧ z ≤ 4) ∧ Hid (wr.ownsRow w1.heap.size 2 1 (.slice a3 k c3) k (iv Z)) ∧ Hid (w1.heap.size ≤ wr.heap.size) ∧ Hid (Below w.heap.size w wr))
    case atStart => exact ⟨0, 0, 0, _, _, [], rfl, rfl, rfl, rfl, by show _ = _; omega, Nat.zero_le _, Nat.le_refl _, Nat.le_refl _, rfl, ⟨rfl, rfl⟩, (show Hid _ from fun z hz => by cases hz), World.ownsRow_made w1 #[] 0 (Nat.le_refl _) (Nat.zero_le _) rfl, (by show _ ≤ _; simp), BA1.out⟩
    case round =>
      clear BA1
      obtain ⟨k, o, t, c3, a3, Z, rfl, rfl, rfl, rfl, hk, hkl, ho, ht, hZl, hC, hZ, hO, hBB, hBW⟩ := hrel
      have HBK := Lib.hid (HB.out.keep hBW.out)
      have HAK := Lib.hid (HA.out.keep hBW.out)
      go_wp2_with fail
      refine (bAtF_any 3 12 (by omega) (by omega) b lb cb ys _ HBK.out).mono ?_
      rintro e w2 ⟨rfl, rfl⟩
      rw [HMV.out]
      by_cases hlt : k < m
      · have hkm : (k : Int) < (m : Int) := by omega
        have HJ : Hid (k + 1 + (gk - 1) = m) := by have := hk.out; show _ = _; omega
        have HG : Hid (gk - 1 < gk) := by have := hk.out; show _ < _; omega
        go_wp2_with fail
        refine (bAtF_any k 4 (by omega) (by omega) a la ca zs _ HAK.out).mono ?_
        rintro e w3 ⟨rfl, rfl⟩
        obtain ⟨cv, hcv⟩ : ∃ v, bAt zs k 4 = v := ⟨_, rfl⟩
        have hc4 : cv < 4 := by rw [← hcv]; exact bAt_lt zs k (by omega)
        rw [hcv]
        clear hcv
        have hci : (1 : Int) + (cv : Int) = ((1 + cv : Nat) : Int) := by omega
        obtain ⟨c, hc⟩ : ∃ c, 1 + cv = c := ⟨_, rfl⟩
        rw [hc] at hci
        have hc1 : 1 ≤ c ∧ c ≤ 4 := by omega
        clear hc
        have HCELL : Hid (∀ (j : Nat) (u : Value), [Value.int .i64 (c : Int)][j]? = some u → (wr.alloc (.cells #[.int .i64 (c : Int)] 2)).cell? ((⟨wr.heap.size, 0, none⟩ : Addr).add j) = some u) := Lib.hid (cell_i1 wr 2 (.int .i64 (c : Int)))
        have HO1 := Lib.hid (hO.out.alloc (.cells #[.int .i64 (c : Int)] 2))
        have HB1 := Lib.hid (hBW.out.alloc hBW.out.size (.cells #[.int .i64 (c : Int)] 2))
        have HBS : Hid (w1.heap.size ≤ (wr.alloc (.cells #[.int .i64 (c : Int)] 2)).heap.size) := by show _ ≤ _; simp; exact Nat.le_trans hBB.out (Nat.le_succ _)
        have HLE : Hid (k + 1 ≤ maxLen ∧ (k + 1) * 8 ≤ 140737488355328) := by show _ ∧ _; unfold maxLen; omega
        clear hO hBW
        go_wp2_with (at_builtin; refine wpList_append_own _ rfl _ _ 42 rfl w1.heap.size 2 i0 (.int .i64 0) 1 8 Try.underlying42 hi hz0 hz1 hz2 rfl (by decide) (.slice a3 k c3) k (iv Z) rfl HO1.out ⟨wr.heap.size, 0, none⟩ 1 1 [.int .i64 (c : Int)] rfl rfl HCELL.out (by intro u hu; simp at hu; subst hu; rfl) HLE.out.1 HLE.out.2 HBS.out ?_)
        intro v' w6 hown' hgrow _
        have HO3 : Hid (w6.ownsRow w1.heap.size 2 1 v' (k + 1) (iv (Z ++ [(c : Int)]))) := by
          show World.ownsRow _ _ _ _ _ _ _
          rw [ivs]; exact hown'
        have HB3 : Hid (Below w.heap.size w w6) := Lib.hid (HB1.out.grown hgrow HB1.out.size (fun q hq => Nat.le_trans HGE.out (HO1.out.lt q hq).1))
        have HBB3 : Hid (w1.heap.size ≤ w6.heap.size) := Lib.hid (Nat.le_trans HBS.out hgrow.size)
        clear hown' hgrow HO1 HB1 HCELL HBS hBB
        obtain ⟨a5, c5, rfl⟩ := Cm.owns_shape HO3.out
        have HZL : Hid ((Z ++ [(c : Int)]).length = k + 1) := by show _ = _; rw [List.length_append, hZl.out]; rfl
        have HZB : Hid (∀ z ∈ Z ++ [(c : Int)], 1 ≤ z ∧ z ≤ 4) := Lib.hid fun z hz => by
          rcases List.mem_append.1 hz with h | h
          · exact hZ.out z h
          · rw [List.mem_singleton.1 h]; omega
        have HC1 := Lib.hid (cnt_snoc 1 Z c)
        have HC2 := Lib.hid (cnt_snoc 2 Z c)
        by_cases e1 : c = 1
        · subst e1
          have HCN : Hid (o + 1 = cnt 1 (Z ++ [((1 : Nat) : Int)]) ∧ t = cnt 2 (Z ++ [((1 : Nat) : Int)])) := by
            show _ ∧ _; rw [HC1.out, HC2.out, ← hC.out.1, ← hC.out.2]; exact ⟨rfl, rfl⟩
          go_wp2_with fail
          go_roundg (gk - 1)
          case measure => exact HG.out
          case rel => exact ⟨k + 1, o + 1, t, c5, a5, _, rfl, by go_num, rfl, by go_num, HJ, by omega, by omega, by omega, HZL.out, HCN.out, HZB.out, HO3.out, HBB3.out, HB3.out⟩
        · have e1' : ((c : Int) == 1) = false := by simp; omega
          by_cases e2 : c = 2
          · subst e2
            have HCN : Hid (o = cnt 1 (Z ++ [((2 : Nat) : Int)]) ∧ t + 1 = cnt 2 (Z ++ [((2 : Nat) : Int)])) := by
              show _ ∧ _; rw [HC1.out, HC2.out, ← hC.out.1, ← hC.out.2]; exact ⟨rfl, rfl⟩
            go_wp2_with fail
            go_roundg (gk - 1)
            case measure => exact HG.out
            case rel => exact ⟨k + 1, o, t + 1, c5, a5, _, rfl, rfl, by go_num, by go_num, HJ, by omega, by omega, by omega, HZL.out, HCN.out, HZB.out, HO3.out, HBB3.out, HB3.out⟩
          · have e2' : ((c : Int) == 2) = false := by simp; omega
            have HCN : Hid (o = cnt 1 (Z ++ [(c : Int)]) ∧ t = cnt 2 (Z ++ [(c : Int)])) := by
              show _ ∧ _
              rw [HC1.out, HC2.out, ← hC.out.1, ← hC.out.2, if_neg (by omega), if_neg (by omega)]; exact ⟨rfl, rfl⟩
            go_wp2_with fail
            go_roundg (gk - 1)
            case measure => exact HG.out
            case rel => exact ⟨k + 1, o, t, c5, a5, _, rfl, rfl, rfl, by go_num, HJ, by omega, by omega, by omega, HZL.out, HCN.out, HZB.out, HO3.out, HBB3.out, HB3.out⟩
      · have hkm : ¬ ((k : Int) < (m : Int)) := by omega
        obtain rfl : k = m := by omega
        obtain ⟨a4, c4, he4, hrow, hcap⟩ := irow_owned hO.out hZl.out (by omega) (fun z hz => by have := hZ.out z hz; omega)
        cases he4
        have HR := Lib.hid hrow
        have hflb : flB Z = true := fl_all (by rw [hZl.out]; exact ⟨hm2.1, by omega⟩) (fun j hj => by have := hZ.out (Z.getD j 0) (by simp [List.getD, hj]); omega)
        have hfly := fl_yes hflb
        have HFB := Lib.hid hflb
        have hA1 : flA Z = o * (o - 1) := by unfold flA; rw [cnt_one, ← hC.out.1]
        have hC1 : flC Z = 2 * (t + 1) := by unfold flC; rw [cnt_one, ← hC.out.2]
        rw [hA1, hC1] at hfly
        have hq1 := quot_one (a := o * (o - 1)) (b := 2 * (t + 1)) (by omega)
        have hx2 := cross (o * (o - 1)) (2 * (t + 1))
        have hsm := sq_small (a := o) (by omega)
        have hpl2 : o * (o - 1) / Nat.gcd (o * (o - 1)) (2 * (t + 1)) ≤ 2256 := Nat.le_trans (Nat.div_le_self _ _) hsm
        have hql2 : 2 * (t + 1) / Nat.gcd (o * (o - 1)) (2 * (t + 1)) ≤ 28 := Nat.le_trans (Nat.div_le_self _ _) (by omega)
        have HCO2 : Hid (∀ d, 2 ≤ d → (o * (o - 1) / Nat.gcd (o * (o - 1)) (2 * (t + 1))) % d = 0 → (2 * (t + 1) / Nat.gcd (o * (o - 1)) (2 * (t + 1))) % d = 0 → False) := Lib.hid fun d h0 h1 h2 => cop (by omega) h1 h2 h0
        generalize o * (o - 1) / Nat.gcd (o * (o - 1)) (2 * (t + 1)) = p at *
        generalize 2 * (t + 1) / Nat.gcd (o * (o - 1)) (2 * (t + 1)) = q at *
        have HFY := Lib.hid hfly
        obtain ⟨R, hR⟩ : ∃ R, p * 2 * (t + 1) = R := ⟨_, rfl⟩
        obtain ⟨Q2, hQ2⟩ : ∃ R, q * o = R := ⟨_, rfl⟩
        obtain ⟨P2, hP2⟩ : ∃ R, p * 2 = R := ⟨_, rfl⟩
        have e1 : (p : Int) * 2 = (P2 : Int) := by omega
        have e2 : (P2 : Int) * ((t : Int) + 1) = (R : Int) := by
          rw [← hR, ← hP2, Int.natCast_mul]; rfl
        have e3 : (q : Int) * (o : Int) = (Q2 : Int) := by rw [← hQ2, Int.natCast_mul]
        have e4 : (Q2 : Int) * ((o : Int) - 1) = (R : Int) := by
          have h1 : (Q2 : Int) * ((o : Int) - 1) = (q : Int) * ((o : Int) * ((o : Int) - 1)) := by rw [← e3, Int.mul_assoc]
          rw [h1, mul_less, ← hR, Nat.mul_assoc, hx2]
          exact (Int.natCast_mul _ _).symm
        have hR4 : R ≤ 63168 := by rw [← hR]; exact Nat.le_trans (Nat.mul_le_mul (Nat.mul_le_mul_right 2 hpl2) (show t + 1 ≤ 14 by omega)) (by decide)
        have hQ4 : Q2 ≤ 364 := by rw [← hQ2]; exact Nat.le_trans (Nat.mul_le_mul hql2 (show o ≤ 13 by omega)) (by decide)
        have hP4 : P2 ≤ 4512 := by omega
        have hne : ((R : Int) != (R : Int)) = false := by simp
        have hy1 : ¬ ((q : Int) < 1) := by omega
        have hx0 : ¬ ((p : Int) < 0) := by omega
        clear hflb hfly hA1 hC1 hx2 hsm hR hQ2 hP2 hrow hO hlt hk
        generalize wr = w4 at *
        go_wp2_with fail
        refine (iFaultsLeft_any _ k c3 Z _ HR.out hcap).mono ?_
        rintro e w5 ⟨rfl, b5⟩
        rw [HFY.out.1, HFY.out.2, HFB.out]
        have BW1 := Lib.hid (hBW.out.trans (b5.mono hBW.out.size))
        clear b5 hBW
        go_wp2_with fail
        clear e1 e2 e3 e4 hne hy1 hx0
        generalize w5 = W1 at *
        go_loopg [19] q (fun n i wr => ∃ d : Nat, i = .int .i64 (d : Int) ∧ 2 ≤ d ∧ d ≤ 100000 ∧ Hid (q + 2 ≤ d + n) ∧ Hid (W1 = wr))
        case atStart => exact ⟨2, rfl, Nat.le_refl _, by omega, (by show _ ≤ _; omega), rfl⟩
        case round =>
          obtain ⟨d, rfl, hd2, hdl, hdn, hww⟩ := hrel
          by_cases hdq : d ≤ q
          · have hq1 : (d : Int) ≤ (q : Int) := by omega
            have hd0 : ¬ ((d : Int) = 0) := by omega
            have hm1 := tmod_nat p d
            have hm2 := tmod_nat q d
            have HGM : Hid (gk - 1 < gk ∧ q + 2 ≤ d + 1 + (gk - 1)) := by have := hdn.out; show _ ∧ _; omega
            by_cases e1 : p % d = 0
            · have e2 : ¬ (q % d = 0) := fun h => HCO2.out d hd2 e1 h
              have hlt2 : q % d < d := Nat.mod_lt _ (by omega)
              rw [e1] at hm1
              have e3 : ((((q % d : Nat)) : Int) == 0) = false := by simp; omega
              generalize q % d = r2 at *
              clear e1
              go_wp2_with fail
              go_roundg (gk - 1)
              case measure => exact HGM.out.1
              case rel => exact ⟨d + 1, by go_num, by omega, by omega, HGM.out.2, hww.out⟩
            · have hlt2 : p % d < d := Nat.mod_lt _ (by omega)
              have e3 : ((((p % d : Nat)) : Int) == 0) = false := by simp; omega
              generalize p % d = r2 at *
              go_wp2_with fail
              go_roundg (gk - 1)
              case measure => exact HGM.out.1
              case rel => exact ⟨d + 1, by go_num, by omega, by omega, HGM.out.2, hww.out⟩
          · have hq1 : ¬ ((d : Int) ≤ (q : Int)) := by omega
            clear hdq
            go_wp2_with fail
            have BW : Hid (Below w.heap.size w wr) := by show Below _ _ _; rw [← hww.out]; exact BW1.out
            generalize wr = WW at *
            clear hww hdn hd2 hdl hq1
            go_loopg [20] y (fun n i wr => ∃ d : Nat, i = .int .i64 (d : Int) ∧ 2 ≤ d ∧ d ≤ 100000 ∧ Hid (y + 2 ≤ d + n) ∧ Hid (WW = wr))
            case atStart => exact ⟨2, rfl, Nat.le_refl _, by omega, (by show _ ≤ _; omega), rfl⟩
            case round =>
              obtain ⟨d, rfl, hd2, hdl, hdn, hww⟩ := hrel
              by_cases hdq : d ≤ y
              · have hq1 : (d : Int) ≤ (y : Int) := by omega
                have hd0 : ¬ ((d : Int) = 0) := by omega
                have hm1 := tmod_nat x d
                have hm2 := tmod_nat y d
                have HGM : Hid (gk - 1 < gk ∧ y + 2 ≤ d + 1 + (gk - 1)) := by have := hdn.out; show _ ∧ _; omega
                by_cases e1 : x % d = 0
                · have e2 : ¬ (y % d = 0) := fun h => HCOP.out d hd2 e1 h
                  have hlt2 : y % d < d := Nat.mod_lt _ (by omega)
                  rw [e1] at hm1
                  have e3 : ((((y % d : Nat)) : Int) == 0) = false := by simp; omega
                  generalize y % d = r2 at *
                  clear e1
                  go_wp2_with fail
                  go_roundg (gk - 1)
                  case measure => exact HGM.out.1
                  case rel => exact ⟨d + 1, by go_num, by omega, by omega, HGM.out.2, hww.out⟩
                · have hlt2 : x % d < d := Nat.mod_lt _ (by omega)
                  have e3 : ((((x % d : Nat)) : Int) == 0) = false := by simp; omega
                  generalize x % d = r2 at *
                  go_wp2_with fail
                  go_roundg (gk - 1)
                  case measure => exact HGM.out.1
                  case rel => exact ⟨d + 1, by go_num, by omega, by omega, HGM.out.2, hww.out⟩
              · have hq1 : ¬ ((d : Int) ≤ (y : Int)) := by omega
                clear hdq
                go_wp2_with fail
                go_ret
                exact ⟨rfl, by rw [← hww.out]; exact BW.out⟩
  · have hl : Hid ((decide (1048576 < la) || decide (1048576 < lb)) = true) := by
      show _ = _
      by_cases h1 : la ≤ 1048576
      · have : 1048576 < lb := by omega
        simp [this]
      · have : 1048576 < la := by omega
        simp [this]
    clear h12
    go_enter Try.func7, Try.ntmps7
    go_wp2_with fail
    refine (bLongF_any a b la lb ca cb hma hmb _).mono ?_
    rintro e w1 ⟨rfl, rfl⟩
    rw [hl.out]
    go_wp2_with fail
    go_ret
    exact ⟨rfl, Below.refl _ _⟩
end Go.Proofs.Ytppkeabkjabhdab
