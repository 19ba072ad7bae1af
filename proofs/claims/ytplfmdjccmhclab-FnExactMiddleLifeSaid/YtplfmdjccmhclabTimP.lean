/-
  Different times of failures: two ways to tell them (pure), and how the specification tells them. Conditions: all of them are lives.
-/
import Derived.Test.YtplfmdjccmhclabTimW
namespace Liv
open Go Go.Sort Dec Flt Go.Lib
theorem fT_ord (zs : List (Nat × Bool)) : fT (ordL zs) = ordF (fT zs) := by
  refine List.Perm.eq_of_pairwise (le := fun a b : Nat => a ≤ b) (fun a b _ _ h1 h2 => Nat.le_antisymm h1 h2) ?_ ?_ ?_
  · unfold fT
    refine List.Pairwise.map _ (fun a b h => h) (List.Pairwise.filter _ ?_)
    have q := List.pairwise_mergeSort (le := fun x y : Nat × Bool => !decide (cfL y x < 0)) (by
      intro a b c h1 h2
      have e1 : decide (cfL b a < 0) = false := by simpa using h1
      have e2 : decide (cfL c b < 0) = false := by simpa using h2
      have := swoL.ntrans _ _ _ e2 e1
      simpa using this) (by
      intro a b
      simp only [Bool.or_eq_true, Bool.not_eq_true', decide_eq_false_iff_not]
      by_cases c1 : cfL b a < 0
      · right
        intro c2
        have q1 : decide (cfL b a < 0) = true := decide_eq_true c1
        have q2 : decide (cfL a b < 0) = true := decide_eq_true c2
        have q3 := swoL.trans _ _ _ q1 q2
        have q4 := swoL.irrefl b
        exact absurd (q3.symm.trans q4) (by decide)
      · left; exact c1) zs
    refine List.Pairwise.imp ?_ q
    rintro ⟨x, p⟩ ⟨y, r⟩ h
    have h1 : ¬ cfL (y, r) (x, p) < 0 := by simpa using h
    unfold cfL at h1
    simp only at h1
    show x ≤ y
    by_cases hxy : y = x
    · omega
    · rw [if_neg hxy] at h1
      split at h1
      · exact absurd (by decide : (-1 : Int) < 0) h1
      · omega
  · have q := List.pairwise_mergeSort (le := fun x y : Nat => !decide (cfF y x < 0)) (by
      intro a b c h1 h2
      simp only [cfF_lt, Bool.not_eq_true', decide_eq_false_iff_not] at *
      omega) (by
      intro a b
      simp only [cfF_lt, Bool.or_eq_true, Bool.not_eq_true', decide_eq_false_iff_not]
      omega) (fT zs)
    refine List.Pairwise.imp ?_ q
    intro x y h
    simp only [cfF_lt, Bool.not_eq_true', decide_eq_false_iff_not] at h
    omega
  · refine List.Perm.trans ?_ (ordF_perm _).symm
    unfold fT
    exact ((ord_perm zs).filter _).map _
theorem compact_snoc (l : List Nat) (t : Nat) : Go.Lib.compact (l ++ [t]) = Go.Lib.compact l ++ if l.getLast? = some t then [] else [t] := by
  have e1 : Go.Lib.compact (l ++ [t]) = Go.Lib.compactUpTo (l ++ [t]).toArray (l.length + 1) := by unfold Go.Lib.compact; simp
  rw [e1, Go.Lib.compactUpTo_succ]
  have e2 : Go.Lib.compactUpTo (l ++ [t]).toArray l.length = Go.Lib.compact l := by
    unfold Go.Lib.compact Go.Lib.compactUpTo
    have hg : ∀ j, j < l.length → (l ++ [t]).toArray[j]! = l.toArray[j]! := by
      intro j hj
      rw [getElem!_pos _ j (by simp; omega), getElem!_pos _ j (by simpa using hj)]
      simp [List.getElem_append_left hj]
    have hf : (List.range l.length).filter (Go.Lib.keeps (l ++ [t]).toArray) = (List.range l.length).filter (Go.Lib.keeps l.toArray) := by
      refine List.filter_congr fun j hj => ?_
      have hj := List.mem_range.1 hj
      unfold Go.Lib.keeps
      rw [hg j hj]
      by_cases h0 : j = 0
      · simp [h0]
      · rw [hg (j - 1) (by omega)]
    rw [hf]
    refine List.map_congr_left fun j hj => ?_
    exact hg j (List.mem_range.1 (List.mem_filter.1 hj).1)
  rw [e2]
  congr 1
  have ht : (l ++ [t]).toArray[l.length]! = t := by rw [getElem!_pos _ _ (by simp)]; simp
  rw [ht]
  rcases List.eq_nil_or_concat l with rfl | ⟨m, s, rfl⟩
  · simp [Go.Lib.keeps]
  · rw [List.concat_eq_append] at *
    have hs : (m ++ [s] ++ [t]).toArray[(m ++ [s]).length - 1]! = s := by
      rw [getElem!_pos _ _ (by simp)]; simp
    unfold Go.Lib.keeps
    rw [ht, hs]
    by_cases hst : s = t
    · subst hst; simp
    · simp [hst, Ne.symm hst]
theorem compact_last (l : List Nat) : (Go.Lib.compact l).getLast? = l.getLast? := by
  suffices h : ∀ n (l : List Nat), l.length = n → (Go.Lib.compact l).getLast? = l.getLast? from h _ l rfl
  intro n
  induction n with
  | zero => intro l hl; have := List.eq_nil_of_length_eq_zero hl; subst this; rfl
  | succ n ih =>
    intro l hl
    rcases List.eq_nil_or_concat l with rfl | ⟨m, s, rfl⟩
    · simp at hl
    · have hm : m.length = n := by simpa using hl
      rw [List.concat_eq_append, compact_snoc]
      by_cases hs : m.getLast? = some s
      · rw [if_pos hs]; simp [ih m hm, hs]
      · rw [if_neg hs]; simp
/-- the different times of the first ones in order -/
def uT (ys : List (Nat × Bool)) (k : Nat) : List Nat := Go.Lib.compact (fT (ys.take k))
theorem uT_zero (ys : List (Nat × Bool)) : uT ys 0 = [] := by simp [uT, fT, Go.Lib.compact, Go.Lib.compactUpTo]
theorem uT_next (ys : List (Nat × Bool)) (k : Nat) (h : k < ys.length) : uT ys (k + 1) = uT ys k ++ if fl ys k then (if (uT ys k).getLast? = some (tm ys k) then [] else [tm ys k]) else [] := by
  unfold uT
  rw [fT_next ys k h]
  cases fl ys k with
  | false => simp
  | true => simp only [↓reduceIte]; rw [compact_snoc, compact_last]
theorem uT_all (zs : List (Nat × Bool)) : uT (ordL zs) (ordL zs).length = tS zs := by
  unfold uT tS
  rw [List.take_length, fT_ord]
theorem uT_len (ys : List (Nat × Bool)) (k : Nat) : (uT ys k).length ≤ k := by
  unfold uT
  refine Nat.le_trans (compact_len_le _) (Nat.le_trans (fT_len _) ?_)
  rw [List.length_take]; omega
theorem owns_shape {w : World} {B : Nat} {e : TypeId} {sz : Nat} {v : Value} {n : Nat} {xs : List Value} (h : w.ownsRow B e sz v n xs) : ∃ a c, v = .slice a n c := by
  obtain ⟨h1, ⟨rfl, h2⟩ | ⟨g, cap, cur, rfl, _⟩⟩ := h
  · exact ⟨none, 0, by rw [h2]⟩
  · exact ⟨_, _, rfl⟩
end Liv
namespace Go.Proofs.Ytplfmdjccmhclab
open Go.RowKit Liv Flt Go.Sort Stb Dec
set_option maxHeartbeats 4000000 in
set_option maxRecDepth 100000 in
theorem specTimes_any (a : Option Addr) (len cap : Nat) (zs : List (Nat × Bool)) (w : World) (h : LRow w a len zs) (hL : livB zs = true) :
    Calls Try.prog 53 #[.slice a len cap] w fun e w' => (∃ a c, e = .returned (.slice a (tS zs).length c) ∧ FRow w' a (tS zs).length (tS zs)) ∧ Below w.heap.size w w' := by
  have mixed : Try.prog.follows .mixedOrders = true := by kernel_rfl
  have H := Lib.hid h
  have HLV := Lib.hid hL
  have hl := liv_len hL
  rw [h.1] at hl
  have hn : len ≤ 48 := hl.2
  have h0 : 0 < len := hl.1
  have H0 : Hid (0 < len ∧ len ≤ 1048576) := ⟨h0, by omega⟩
  have HVY : Hid (∀ z ∈ ordL zs, VF z.1) := Lib.hid fun z hz => liv_VL h hL _ ((ord_perm zs).mem_iff.1 hz)
  clear h hL hl h0
  obtain ⟨i0, hi, hz0, hz1, hz2⟩ := info_parts (show (Try.prog.info? 23).map (fun i => (i.zero, i.size, i.bytes)) = some (some (.float .f32 0), 1, 4) by kernel_rfl)
  go_enter Try.func53, Try.ntmps53
  go_wp2_with fail
  refine (specOrderL_any a len cap zs _ H.out H0.out.1 H0.out.2 (liv_VL H.out HLV.out)).mono ?_
  rintro e w1 ⟨⟨gw, cw, dw, rfl, hgw, hAw, hsw, how⟩, b1⟩
  have W1 : Hid (LRow w1 (some ⟨gw, 0, none⟩) len (ordL zs)) := by
    have := hAw.row hsw (by unfold maxLen; omega) (fun z hz => H.out.2.2.1 z ((ord_perm zs).mem_iff.1 (how ▸ hz)))
    rw [how] at this
    exact this
  have B1 := Lib.hid b1
  clear hgw hAw hsw how b1
  obtain ⟨ys, hys⟩ : ∃ ys, ordL zs = ys := ⟨_, rfl⟩
  have HYS := Lib.hid hys
  rw [hys] at W1 HVY
  clear hys
  have HYL : Hid (ys.length = len) := W1.out.1
  go_wp2_with fail
  go_loopg [4, 5] len (fun q v4 v5 wr => ∃ (k c c3 : Nat) (a3 : Option Addr), v4 = .slice a3 c c3 ∧ v5 = .int .i64 k ∧ Hid (k + q = len) ∧ k ≤ len ∧ c ≤ k ∧ Hid (c = (uT ys k).length) ∧ Hid (wr.ownsRow w1.heap.size 23 1 (.slice a3 c c3) c (fv (uT ys k))) ∧ Hid (Below w1.heap.size w1 wr))
  case atStart =>
    refine ⟨0, 0, _, _, rfl, rfl, by show _ = _; omega, Nat.zero_le _, Nat.le_refl _, by show _ = _; rw [uT_zero]; rfl, ?_, (Below.refl _ w1).alloc (Nat.le_refl _) _⟩
    show World.ownsRow _ _ _ _ _ _ _
    rw [uT_zero]
    exact World.ownsRow_made w1 #[] 0 (Nat.le_refl _) (Nat.zero_le _) rfl
  case round =>
    obtain ⟨k, c, c3, a3, rfl, rfl, hk, hkl, hck, hcl, hO, hB⟩ := hrel
    by_cases hlt : k < len
    · have hlz : (k : Int) < (len : Int) := by omega
      obtain ⟨b, off, he, _, hc, hd⟩ := (W1.out.keep hB.out).2.2.2 k hlt
      cases he
      rw [Nat.zero_add] at hc hd
      have HJ : Hid (k + 1 + (gk - 1) = len) := by have := hk.out; show _ = _; omega
      have HG : Hid (gk - 1 < gk) := by have := hk.out; show _ < _; omega
      have HN := Lib.hid (uT_next ys k (by rw [HYL.out]; exact hlt))
      have hvt : VF (tm ys k) := by
        have hk2 : k < ys.length := by rw [HYL.out]; exact hlt
        exact HVY.out _ (by simp [List.getD, hk2])
      have HVU : Hid (∀ x ∈ uT ys k, VF x) := Lib.hid fun x hx => by
        obtain ⟨z, hz, rfl⟩ := fT_mem (compact_mem hx)
        exact HVY.out z (List.mem_of_mem_take hz)
      obtain ⟨t, ht⟩ : ∃ t, t = tm ys k := ⟨_, rfl⟩
      rw [← ht] at hc HN hvt
      clear ht
      have HVT := Lib.hid hvt
      clear hvt
      cases hf : fl ys k with
      | false =>
        rw [hf] at hd HN
        have HN2 : Hid (uT ys (k + 1) = uT ys k) := by show _ = _; rw [HN.out]; simp
        have HO1 : Hid (∀ m, (wr.drewN m).ownsRow w1.heap.size 23 1 (.slice a3 c c3) c (fv (uT ys (k + 1)))) := Lib.hid (fun o => by rw [HN2.out]; exact hO.out)
        have HB1 : Hid (∀ m, Below w1.heap.size w1 (wr.drewN m)) := Lib.hid fun m => below_drewN hB.out m
        have HCN : Hid (c = (uT ys (k + 1)).length) := by show _ = _; rw [HN2.out]; exact hcl.out
        have r1 : ∀ m, (wr.drewN m).cell? ⟨gw, k * 2 + 1, none⟩ = some (.bool false) := fun m => hd
        have r2 := r1 0
        have r3 : ∀ m, (wr.drewN m).cell? ⟨gw, k * 2, none⟩ = some (.float .f32 t) := fun m => hc
        have r4 := r3 0
        clear hO hB hf hc hd
        go_wp2_with fail
        go_quiet (fail)
        go_wp2_with fail
        go_roundg (gk - 1)
        case measure => exact HG.out
        case rel => exact ⟨k + 1, c, c3, a3, rfl, by go_num, HJ, by omega, by omega, HCN.out, HO1.out _, HB1.out _⟩
      | true =>
        rw [hf] at hd HN
        have r1 : ∀ m, (wr.drewN m).cell? ⟨gw, k * 2 + 1, none⟩ = some (.bool true) := fun m => hd
        have r2 := r1 0
        have r3 : ∀ m, (wr.drewN m).cell? ⟨gw, k * 2, none⟩ = some (.float .f32 t) := fun m => hc
        have r4 := r3 0
        have hcell : ∀ m, ∀ (j : Nat) (u : Value), [Value.float .f32 t][j]? = some u → ((wr.drewN m).alloc (.cells #[.float .f32 t] 23)).cell? ((⟨wr.heap.size, 0, none⟩ : Addr).add j) = some u := fun m => cell_new1 (wr.drewN m) 23 (.float .f32 t)
        have HCELL := Lib.hid hcell
        have HO1 : Hid (∀ m, ((wr.drewN m).alloc (.cells #[.float .f32 t] 23)).ownsRow w1.heap.size 23 1 (.slice a3 c c3) c (fv (uT ys k))) := Lib.hid fun m => hO.out.alloc (.cells #[.float .f32 t] 23)
        have HB0 : Hid (∀ m, Below w1.heap.size w1 (wr.drewN m)) := Lib.hid fun m => below_drewN hB.out m
        have HB1 : Hid (∀ m, Below w1.heap.size w1 ((wr.drewN m).alloc (.cells #[.float .f32 t] 23))) := Lib.hid fun m => (below_drewN hB.out m).alloc (below_drewN hB.out m).size (.cells #[.float .f32 t] 23)
        have HLE : Hid (c + 1 ≤ maxLen ∧ (c + 1) * 4 ≤ 140737488355328) := by show _ ∧ _; unfold maxLen; omega
        clear hcell
        by_cases h0 : c = 0
        · subst h0
          have he : uT ys k = [] := List.eq_nil_of_length_eq_zero hcl.out.symm
          have HN2 : Hid (uT ys (k + 1) = uT ys k ++ [t]) := by show _ = _; rw [HN.out, he]; simp
          have HCN : Hid (0 + 1 = (uT ys (k + 1)).length) := by show _ = _; rw [HN2.out, he]; rfl
          clear hO hB hf hc hd he HN hcl
          go_wp2_with fail
          go_quiet (fail)
          go_wp2_with (at_builtin; refine wpList_append_own _ rfl _ _ 33 rfl w1.heap.size 23 i0 (.float .f32 0) 1 4 Try.underlying33 hi hz0 hz1 hz2 rfl (by decide) (.slice a3 0 c3) 0 (fv (uT ys k)) rfl (HO1.out _) ⟨wr.heap.size, 0, none⟩ 1 1 [.float .f32 t] rfl rfl (HCELL.out _) (by intro u hu; simp at hu; subst hu; rfl) HLE.out.1 HLE.out.2 (HB1.out _).size ?_)
          intro v' w3 hown' hgrow _
          have HO3 : Hid (w3.ownsRow w1.heap.size 23 1 v' (0 + 1) (fv (uT ys (k + 1)))) := by
            show World.ownsRow _ _ _ _ _ _ _
            rw [HN2.out, fv_snoc]; exact hown'
          have HB3 : Hid (Below w1.heap.size w1 w3) := Lib.hid ((HB1.out _).grown hgrow (HB1.out _).size (fun q hq => ((HO1.out 0).lt q hq).1))
          clear hown' hgrow HO1 HB1 HCELL
          obtain ⟨a5, c5, rfl⟩ := owns_shape HO3.out
          go_wp2_with fail
          go_roundg (gk - 1)
          case measure => exact HG.out
          case rel => exact ⟨k + 1, 0 + 1, c5, a5, rfl, by go_num, HJ, by omega, by omega, HCN.out, HO3.out, HB3.out⟩
        · obtain ⟨cp, rfl⟩ : ∃ cp, c = cp + 1 := ⟨c - 1, by omega⟩
          obtain ⟨g, cc, he, hg, hgc, hA⟩ := farr_of_owned (l := uT ys k) hO.out hcl.out.symm (by omega)
          cases he
          have hcp : cp < (uT ys k).length := by have := hcl.out; omega
          obtain ⟨x, hx⟩ : ∃ x, x = (uT ys k).toArray[cp]! := ⟨_, rfl⟩
          have q1 : ∀ m, (wr.drewN m).cell? ⟨g, cp, none⟩ = some (.float .f32 x) := fun m => by rw [hx]; exact hA.2 cp (by simpa using hcp)
          have q2 := q1 0
          have hx2 : x = (uT ys k)[cp] := by rw [hx, getElem!_pos _ _ (by simpa using hcp)]; simp
          have hlast : (uT ys k).getLast? = some x := by
            rw [List.getLast?_eq_getElem?, ← hcl.out, Nat.add_sub_cancel, List.getElem?_eq_getElem hcp, hx2]
          have hvx : VF x := HVU.out x (by rw [hx2]; exact List.getElem_mem hcp)
          have hq := (eq_VF hvx HVT.out).2
          rw [hlast] at HN
          clear hx hx2 hlast hvx hcp hA hg
          have p0 : ¬ ((cp : Int) + 1 = 0) := by omega
          have p1 : (cp : Int) < (cp : Int) + 1 := by omega
          have hgc1 : cp < cp + 1 := by omega
          have hwp : IntKind.i64.wrap (cp : Int) = (cp : Int) := by rw [IntKind.wrap_i64]; omega
          have p2 : ((cp : Int) + 1 == 0) = false := by rw [beq_eq_false_iff_ne]; omega
          have p3 : (0 : Int) ≤ (cp : Int) := by omega
          have p4 : (cp : Int).toNat = cp := by omega
          by_cases hxt : x = t
          · rw [decide_eq_true hxt] at hq
            have HN2 : Hid (uT ys (k + 1) = uT ys k) := by show _ = _; rw [HN.out, hxt]; simp
            have HO2 : Hid (∀ m, (wr.drewN m).ownsRow w1.heap.size 23 1 (.slice (some ⟨g, 0, none⟩) (cp + 1) c3) (cp + 1) (fv (uT ys (k + 1)))) := Lib.hid (fun o => by rw [HN2.out]; exact hO.out)
            have HCN : Hid (cp + 1 = (uT ys (k + 1)).length) := by show _ = _; rw [HN2.out]; exact hcl.out
            clear hO hB hf hc hd HN hcl hxt HO1 HB1 HCELL
            go_wp2_with fail
            go_quiet (fail)
            go_wp2_with fail
            go_roundg (gk - 1)
            case measure => exact HG.out
            case rel => exact ⟨k + 1, cp + 1, c3, some ⟨g, 0, none⟩, rfl, by go_num, HJ, by omega, by omega, HCN.out, HO2.out _, HB0.out _⟩
          · rw [decide_eq_false hxt] at hq
            have HN2 : Hid (uT ys (k + 1) = uT ys k ++ [t]) := by show _ = _; rw [HN.out]; simp [hxt]
            have HCN : Hid (cp + 1 + 1 = (uT ys (k + 1)).length) := by show _ = _; rw [HN2.out, List.length_append, ← hcl.out]; rfl
            clear hO hB hf hc hd HN hcl hxt
            go_wp2_with fail
            go_quiet (fail)
            go_wp2_with (at_builtin; refine wpList_append_own _ rfl _ _ 33 rfl w1.heap.size 23 i0 (.float .f32 0) 1 4 Try.underlying33 hi hz0 hz1 hz2 rfl (by decide) (.slice (some ⟨g, 0, none⟩) (cp + 1) c3) (cp + 1) (fv (uT ys k)) rfl (HO1.out _) ⟨wr.heap.size, 0, none⟩ 1 1 [.float .f32 t] rfl rfl (HCELL.out _) (by intro u hu; simp at hu; subst hu; rfl) HLE.out.1 HLE.out.2 (HB1.out _).size ?_)
            intro v' w3 hown' hgrow _
            have HO3 : Hid (w3.ownsRow w1.heap.size 23 1 v' (cp + 1 + 1) (fv (uT ys (k + 1)))) := by
              show World.ownsRow _ _ _ _ _ _ _
              rw [HN2.out, fv_snoc]; exact hown'
            have HB3 : Hid (Below w1.heap.size w1 w3) := Lib.hid ((HB1.out _).grown hgrow (HB1.out _).size (fun q hq => ((HO1.out 0).lt q hq).1))
            clear hown' hgrow HO1 HB1 HCELL
            obtain ⟨a5, c5, rfl⟩ := owns_shape HO3.out
            go_wp2_with fail
            go_roundg (gk - 1)
            case measure => exact HG.out
            case rel => exact ⟨k + 1, cp + 1 + 1, c5, a5, rfl, by go_num, HJ, by omega, by omega, HCN.out, HO3.out, HB3.out⟩
    · have hke : k = len := by have := hk.out; omega
      have HT : Hid (uT ys k = tS zs) := by show _ = _; rw [hke, ← HYL.out, ← HYS.out]; exact uT_all zs
      rw [HT.out] at hcl hO
      have HF : Hid (FRow wr a3 c (tS zs)) := by
        by_cases h0 : 0 < c
        · obtain ⟨g, cc, he, hg, _, hA⟩ := farr_of_owned (l := tS zs) hO.out hcl.out.symm h0
          cases he
          refine ⟨hcl.out.symm, by unfold maxLen; omega, fun z hz => ?_, fun i hi => ⟨g, 0, rfl, hA.1.lt, ?_⟩⟩
          · obtain ⟨y, hy, rfl⟩ := tS_mem hz
            exact H.out.2.2.1 y hy
          · have hi' : i < (tS zs).length := by rw [← hcl.out]; exact hi
            have := hA.2 i (by simpa using hi')
            rw [getElem!_pos (tS zs).toArray i (by simpa using hi')] at this
            rw [Nat.zero_add]
            simpa [List.getD, hi'] using this
        · have hc0 : c = 0 := by omega
          subst hc0
          have e0 : tS zs = [] := List.eq_nil_of_length_eq_zero hcl.out.symm
          refine ⟨hcl.out.symm, by decide, fun z hz => ?_, fun i hi => absurd hi (Nat.not_lt_zero _)⟩
          rw [e0] at hz; cases hz
      have B2 := Lib.hid (B1.out.trans (hB.out.mono B1.out.size))
      have HCL : Hid (c = (tS zs).length) := hcl.out
      clear hO hcl HT hB
      go_wp2_with fail
      go_ret
      rw [← HCL.out]
      exact ⟨⟨_, _, rfl, HF.out⟩, B2.out⟩
end Go.Proofs.Ytplfmdjccmhclab
