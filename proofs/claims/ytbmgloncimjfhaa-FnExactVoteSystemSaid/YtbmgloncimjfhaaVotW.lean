/-
  Contracts: systems of votes, in the program and in its model. No conditions beyond those stated.
-/
import Derived.Test.YtbmgloncimjfhaaPopW
namespace Syl
open Go Dec
def mkP (ok : Bool) (p : Int) (L : List Int) : Int := if ok then givP p L else 0
def mkZ (ok : Bool) (p : Int) (L : List Int) : List Int := if ok then givZ p L else []
def mkB (ok : Bool) (p : Int) (L : List Int) : Bool := ok && sysB p L
theorem mk_no {ok : Bool} {p : Int} {L : List Int} (h : ok = false) : mkP ok p L = 0 ∧ mkZ ok p L = [] ∧ mkB ok p L = false := by subst h; exact ⟨rfl, rfl, rfl⟩
theorem mk_yes {ok : Bool} {p : Int} {L : List Int} (h : ok = true) : mkP ok p L = givP p L ∧ mkZ ok p L = givZ p L ∧ mkB ok p L = sysB p L := by subst h; exact ⟨rfl, rfl, by simp [mkB]⟩
theorem mkZ_len (ok : Bool) (p : Int) (L : List Int) : (mkZ ok p L).length ≤ 1048576 := by
  cases ok with
  | false => simp [mkZ]
  | true => have := givZ_len p L; simp only [mkZ, ↓reduceIte]; omega
def votB (p v : Int) : Bool := partsB p && decide (1 ≤ v ∧ v ≤ p)
def votL (p v : Int) : List Int := leastL p.toNat (voteIs v) (2 ^ p.toNat)
theorem votB_yes {p v : Int} (h : votB p v = true) : (1 ≤ p ∧ p ≤ 10) ∧ (1 ≤ v ∧ v ≤ p) := by
  unfold votB partsB at h
  simp only [Bool.and_eq_true, decide_eq_true_eq] at h
  exact h
theorem vote_zero (v : Int) (h : 1 ≤ v) : voteIs v 0 = false := by
  unfold voteIs
  exact decide_eq_false (by rw [show sizeB (0 : Int).toNat = 0 by rfl]; omega)
theorem votL_next {p k : Nat} {v : Int} (hp : p ≤ 10) (hs : k < 2 ^ p) (hv : 1 ≤ v) : leastL p (voteIs v) (k + 1) = leastL p (voteIs v) k ++ (if (sizeB k : Int) = v then [(k : Int)] else []) := by
  rw [leastL_succ, vote_least hp hs hv]
  by_cases h : (sizeB k : Int) = v
  · rw [decide_eq_true h, if_pos h, if_pos rfl]
  · rw [decide_eq_false h, if_neg h, if_neg (by decide)]
theorem ownsRow_setBelow {w : World} {base : Nat} {e : TypeId} {size : Nat} {v : Value} {n : Nat} {xs : List Value} (h : w.ownsRow base e size v n xs) {g : Nat} (hg : g < base) (j : Nat) (u : Value) : (w.setCell ⟨g, j, none⟩ u).ownsRow base e size v n xs := Go.RowKit.ownsRow_setCell_below h hg u
end Syl
namespace Go.Proofs.Ytbmgloncimjfhaa
open Go.RowKit Dec Flt Syl Sep
set_option maxRecDepth 20000 in
set_option maxHeartbeats 1600000 in
theorem iVoteSystem_any (p v : Int) (w : World) :
    Calls Try.prog 38 #[.int .i64 p, .int .i64 v] w fun e w' => (∃ a' c', e = .returned (.tuple #[.agg #[.int .i64 (mkP (votB p v) p (votL p v)), .slice a' (mkZ (votB p v) p (votL p v)).length c'], .bool (mkB (votB p v) p (votL p v))]) ∧ IRow w' a' (mkZ (votB p v) p (votL p v)).length (mkZ (votB p v) p (votL p v)) ∧ Own w' w.heap.size a' (mkZ (votB p v) p (votL p v)).length 2) ∧ Below w.heap.size w w' := by
  obtain ⟨W0, hW0⟩ : ∃ W0, W0 = (w.alloc (.cells #[.int .i64 v] 2)).alloc (.cells #[.int .i64 0, .slice none 0 0] 27) := ⟨_, rfl⟩
  have B0 : Hid (Below w.heap.size w W0) := by rw [hW0]; exact ((Below.refl _ _).alloc (Nat.le_refl _) _).alloc (by simp) _
  have K0 : Hid (Blk.Blk W0 w.heap.size [.int .i64 v] 2) := by rw [hW0]; exact (Blk.Blk.new _ _ _).alloc _
  have K1 : Hid (SVar 27 W0 (w.heap.size + 1) 0 none 0 0) := by
    rw [hW0]
    have := Blk.Blk.new (w.alloc (.cells #[.int .i64 v] 2)) #[.int .i64 0, .slice none 0 0] 27
    rw [World.size_alloc] at this
    exact this
  have HW0 := Lib.hid hW0
  clear hW0
  cases hk : votB p v with
  | false =>
    have HM := Lib.hid (mk_no (p := p) (L := votL p v) (rfl : false = false))
    have fin : ∀ (Q : Ending → World → Prop), Q (.returned (.tuple #[.agg #[.int .i64 0, .slice none 0 0], .bool false])) ((W0.setCell ⟨w.heap.size + 1, 0, none⟩ (.int .i64 0)).setCell ⟨w.heap.size + 1, 1, none⟩ (.slice none 0 0)) → True := fun _ _ => trivial
    obtain ⟨⟨y0, y1⟩, ⟨g0, g1⟩, _⟩ := K1.out.two
    have k4 := K1.out.set 0 (.int .i64 0)
    have k5 := k4.set 1 (.slice none 0 0)
    obtain ⟨⟨z0, z1⟩, _, _⟩ := k5.two
    have h4 := k4.frozen 1
    have h5 := k4.cell 1
    have HB := Lib.hid ((B0.out.setCell (p := ⟨w.heap.size + 1, 0, none⟩) (by simp) (.int .i64 0)).setCell (p := ⟨w.heap.size + 1, 1, none⟩) (by simp) (.slice none 0 0))
    have hv0 := K0.out.cell 0
    clear k4 k5 fin
    by_cases hp : partsB p = true
    · have hv : ¬ (1 ≤ v ∧ v ≤ p) := by
        intro h
        unfold votB at hk
        rw [hp, decide_eq_true h] at hk
        cases hk
      clear hk
      have HP := Lib.hid hp
      clear hp
      by_cases h1 : v < 1
      · go_enter Try.func38, Try.ntmps38
        go_wp2_with fail
        rw [← HW0.out]
        refine (areParts_any p _).mono ?_
        rintro e w1 ⟨rfl, rfl⟩
        rw [HP.out]
        go_wp2_with fail
        refine bodyPost_ret (v := .tuple #[.agg #[.int .i64 0, .slice none 0 0], .bool false]) (by simp [results, Try.results38, go_sem, z0, z1]) rfl ?_
        rw [HM.out.1, HM.out.2.1, HM.out.2.2]
        exact ⟨⟨none, 0, rfl, irow_nil _ _, .inl rfl⟩, HB.out⟩
      · have h2 : p < v := by omega
        clear hv
        go_enter Try.func38, Try.ntmps38
        go_wp2_with fail
        rw [← HW0.out]
        refine (areParts_any p _).mono ?_
        rintro e w1 ⟨rfl, rfl⟩
        rw [HP.out]
        go_wp2_with fail
        refine bodyPost_ret (v := .tuple #[.agg #[.int .i64 0, .slice none 0 0], .bool false]) (by simp [results, Try.results38, go_sem, z0, z1]) rfl ?_
        rw [HM.out.1, HM.out.2.1, HM.out.2.2]
        exact ⟨⟨none, 0, rfl, irow_nil _ _, .inl rfl⟩, HB.out⟩
    · have HP : Hid (partsB p = false) := by show _ = _; simpa using hp
      clear hk hp
      go_enter Try.func38, Try.ntmps38
      go_wp2_with fail
      rw [← HW0.out]
      refine (areParts_any p _).mono ?_
      rintro e w1 ⟨rfl, rfl⟩
      rw [HP.out]
      go_wp2_with fail
      refine bodyPost_ret (v := .tuple #[.agg #[.int .i64 0, .slice none 0 0], .bool false]) (by simp [results, Try.results38, go_sem, z0, z1]) rfl ?_
      rw [HM.out.1, HM.out.2.1, HM.out.2.2]
      exact ⟨⟨none, 0, rfl, irow_nil _ _, .inl rfl⟩, HB.out⟩
  | true =>
    have HM := Lib.hid (mk_yes (p := p) (L := votL p v) (rfl : true = true))
    obtain ⟨hp, hv⟩ := votB_yes hk
    have HP : Hid (partsB p = true) := decide_eq_true hp
    obtain ⟨pn, rfl⟩ : ∃ pn : Nat, p = pn := ⟨p.toNat, by omega⟩
    have HL : Hid (leastL pn (voteIs v) (2 ^ pn) = votL (pn : Int) v) := by show _ = _; unfold votL; rw [Int.toNat_natCast]
    have ht := two_bd (pn : Int) hp.1 hp.2
    have hv0 := K0.out.cell 0
    have hv1 : ¬ v < 1 := by omega
    have hv2 : ¬ (pn : Int) < v := by omega
    clear hk
    go_enter Try.func38, Try.ntmps38
    go_wp2_with fail
    rw [← HW0.out]
    refine (areParts_any _ _).mono ?_
    rintro e w1 ⟨rfl, rfl⟩
    rw [HP.out]
    go_wp2_with fail
    refine (leastSets_any pn (voteIs v) 71 #[.pointer (some ⟨w.heap.size, 0, none⟩)] (by intro args w; kernel_rfl) _ (by omega) (by omega) (fun W t h1 h2 hb => vote1_any t v _ W ?_ h1 (by omega))).mono ?_
    · exact (K0.out.keep hb).cell 0
    rw [HL.out]
    rintro e w2 ⟨⟨a2, c2, rfl, hr2, ho2, hc2⟩, b2⟩
    have R2 := Lib.hid hr2
    have O2 := Lib.hid ho2
    have C2 := Lib.hid hc2
    have K2 := Lib.hid (K1.out.keep b2)
    have B2 := Lib.hid (B0.out.trans (b2.mono B0.out.size))
    have HLT : Hid (w.heap.size + 1 < W0.heap.size) := K1.out.lt
    clear hr2 ho2 hc2 b2 hv0 K1 K0
    go_wp2_with fail
    refine (onlySys_any (pn : Int) a2 _ c2 (votL (pn : Int) v) _ R2.out C2.out _ O2.out).mono ?_
    rintro e w3 ⟨⟨a3, c3, rfl, hr3, ho3⟩, b3⟩
    have B3 := Lib.hid (B2.out.trans (b3.mono B2.out.size))
    have K33 := K2.out.keep b3
    obtain ⟨⟨y0, y1⟩, ⟨g0, g1⟩, _⟩ := K33.two
    have k4 := K33.set 0 (.int .i64 (givP (pn : Int) (votL (pn : Int) v)))
    have k5 := k4.set 1 (.slice a3 (givZ (pn : Int) (votL (pn : Int) v)).length c3)
    obtain ⟨⟨z0, z1⟩, _, _⟩ := k5.two
    have h4 := k4.frozen 1
    have h5 := k4.cell 1
    have HB := Lib.hid ((B3.out.setCell (p := ⟨w.heap.size + 1, 0, none⟩) (by simp) (.int .i64 (givP (pn : Int) (votL (pn : Int) v)))).setCell (p := ⟨w.heap.size + 1, 1, none⟩) (by simp) (.slice a3 (givZ (pn : Int) (votL (pn : Int) v)).length c3))
    have HR := Lib.hid ((hr3.set (g := w.heap.size + 1) 0 (.int .i64 (givP (pn : Int) (votL (pn : Int) v))) ho3.above HLT.out).set (g := w.heap.size + 1) 1 (.slice a3 (givZ (pn : Int) (votL (pn : Int) v)).length c3) ho3.above HLT.out)
    have HO := Lib.hid (((ho3.set (g := w.heap.size + 1) 0 (.int .i64 (givP (pn : Int) (votL (pn : Int) v))) HLT.out).set (g := w.heap.size + 1) 1 (.slice a3 (givZ (pn : Int) (votL (pn : Int) v)).length c3) HLT.out).mono (B' := w.heap.size) B0.out.size)
    clear hr3 ho3 b3 k4 k5 K33
    go_wp2_with fail
    refine bodyPost_ret (v := .tuple #[.agg #[.int .i64 (givP (pn : Int) (votL (pn : Int) v)), .slice a3 (givZ (pn : Int) (votL (pn : Int) v)).length c3], .bool (sysB (pn : Int) (votL (pn : Int) v))]) (by simp [results, Try.results38, go_sem, z0, z1]) rfl ?_
    rw [HM.out.1, HM.out.2.1, HM.out.2.2]
    exact ⟨⟨a3, c3, rfl, HR.out, HO.out⟩, HB.out⟩
set_option maxRecDepth 20000 in
set_option maxHeartbeats 4000000 in
theorem sVoteSystem_any (p v : Int) (w : World) :
    Calls Try.prog 37 #[.int .i64 p, .int .i64 v] w fun e w' => (∃ a' c', e = .returned (.tuple #[.agg #[.int .i64 (mkP (votB p v) p (votL p v)), .slice a' (mkZ (votB p v) p (votL p v)).length c'], .bool (mkB (votB p v) p (votL p v))]) ∧ IRow w' a' (mkZ (votB p v) p (votL p v)).length (mkZ (votB p v) p (votL p v))) ∧ Below w.heap.size w w' := by
  obtain ⟨W0, hW0⟩ : ∃ W0, W0 = w.alloc (.cells #[.int .i64 0, .slice none 0 0] 27) := ⟨_, rfl⟩
  have B0 : Hid (Below w.heap.size w W0) := by rw [hW0]; exact (Below.refl _ _).alloc (Nat.le_refl _) _
  have K1 : Hid (SVar 27 W0 w.heap.size 0 none 0 0) := by rw [hW0]; exact Blk.Blk.new _ _ _
  have HSZ : Hid (W0.heap.size = w.heap.size + 1) := by rw [hW0]; show _ = _; simp
  have HW0 := Lib.hid hW0
  clear hW0
  cases hk : votB p v with
  | false =>
    have HM := Lib.hid (mk_no (p := p) (L := votL p v) (rfl : false = false))
    obtain ⟨⟨y0, y1⟩, ⟨g0, g1⟩, _⟩ := K1.out.two
    have k4 := K1.out.set 0 (.int .i64 0)
    have k5 := k4.set 1 (.slice none 0 0)
    obtain ⟨⟨z0, z1⟩, _, _⟩ := k5.two
    have h4 := k4.frozen 1
    have h5 := k4.cell 1
    have HB := Lib.hid ((B0.out.setCell (p := ⟨w.heap.size, 0, none⟩) (by simp) (.int .i64 0)).setCell (p := ⟨w.heap.size, 1, none⟩) (by simp) (.slice none 0 0))
    clear k4 k5
    by_cases hp : partsB p = true
    · have HV : Hid (decide (1 ≤ v ∧ v ≤ p) = false) := by
        show _ = _
        unfold votB at hk
        rw [hp] at hk
        simpa using hk
      have HP := Lib.hid hp
      clear hp hk
      go_enter Try.func37, Try.ntmps37
      go_wp2_with fail
      rw [← HW0.out]
      refine (specParts_any p _).mono ?_
      rintro e w1 ⟨rfl, rfl⟩
      rw [HP.out]
      go_wp2_with fail
      refine (in_any v 1 p _).mono ?_
      rintro e w1 ⟨rfl, rfl⟩
      rw [HV.out]
      go_wp2_with fail
      refine bodyPost_ret (v := .tuple #[.agg #[.int .i64 0, .slice none 0 0], .bool false]) (by simp [results, Try.results37, go_sem, z0, z1]) rfl ?_
      rw [HM.out.1, HM.out.2.1, HM.out.2.2]
      exact ⟨⟨none, 0, rfl, irow_nil _ _⟩, HB.out⟩
    · have HP : Hid (partsB p = false) := by show _ = _; simpa using hp
      clear hk hp
      go_enter Try.func37, Try.ntmps37
      go_wp2_with fail
      rw [← HW0.out]
      refine (specParts_any p _).mono ?_
      rintro e w1 ⟨rfl, rfl⟩
      rw [HP.out]
      go_wp2_with fail
      refine bodyPost_ret (v := .tuple #[.agg #[.int .i64 0, .slice none 0 0], .bool false]) (by simp [results, Try.results37, go_sem, z0, z1]) rfl ?_
      rw [HM.out.1, HM.out.2.1, HM.out.2.2]
      exact ⟨⟨none, 0, rfl, irow_nil _ _⟩, HB.out⟩
  | true =>
    have HM := Lib.hid (mk_yes (p := p) (L := votL p v) (rfl : true = true))
    obtain ⟨hp, hv⟩ := votB_yes hk
    have HP : Hid (partsB p = true) := decide_eq_true hp
    have HV : Hid (decide (1 ≤ v ∧ v ≤ p) = true) := decide_eq_true hv
    obtain ⟨pn, rfl⟩ : ∃ pn : Nat, p = pn := ⟨p.toNat, by omega⟩
    obtain ⟨T, hT⟩ : ∃ T, 2 ^ pn = T := ⟨_, rfl⟩
    have hTT : two (pn : Int) = (T : Int) := by unfold two; rw [← hT, Int.toNat_natCast]; simp
    have HL : Hid (leastL pn (voteIs v) T = votL (pn : Int) v) := by show _ = _; unfold votL; rw [Int.toNat_natCast, hT]
    have ht := two_bd (pn : Int) hp.1 hp.2
    rw [hTT] at ht
    have hpow : (2 : Int) ^ pn = (T : Int) := by rw [← hT]; simp
    have hw1 : IntKind.i64.wrap (1 * 2 ^ pn) = (T : Int) := by rw [Int.one_mul, hpow]; exact wrap_i64 _ (by omega) (by omega)
    have hw2 : IntKind.i64.wrap (2 ^ pn) = (T : Int) := by rw [hpow]; exact wrap_i64 _ (by omega) (by omega)
    have hpn : pn ≤ 10 := by omega
    have HN : Hid (∀ k, k < T → leastL pn (voteIs v) (k + 1) = leastL pn (voteIs v) k ++ (if (sizeB k : Int) = v then [(k : Int)] else [])) := fun k h => votL_next hpn (by rw [hT]; exact h) hv.1
    have H1 : Hid (leastL pn (voteIs v) 1 = []) := leastL_one (vote_zero v hv.1)
    obtain ⟨i0, hi, hz0, hz1, hz2⟩ := info_parts (show (Try.prog.info? 2).map (fun i => (i.zero, i.size, i.bytes)) = some (some (.int .i64 0), 1, 8) by kernel_rfl)
    clear hk hpow hT hTT
    go_enter Try.func37, Try.ntmps37
    go_wp2_with fail
    rw [← HW0.out]
    refine (specParts_any _ _).mono ?_
    rintro e w1 ⟨rfl, rfl⟩
    rw [HP.out]
    go_wp2_with fail
    refine (in_any v 1 _ _).mono ?_
    rintro e w1 ⟨rfl, rfl⟩
    rw [HV.out]
    go_wp2_with fail
    obtain ⟨W1, hW1⟩ : ∃ W1, W1 = W0.alloc (.cells #[.int .i64 (pn : Int), .slice none 0 0] 27) := ⟨_, rfl⟩
    have b1 : Below W0.heap.size W0 W1 := by rw [hW1]; exact (Below.refl _ _).alloc (Nat.le_refl _) _
    have B1 := Lib.hid (B0.out.trans (b1.mono B0.out.size))
    have K2 := Lib.hid (K1.out.keep b1)
    have K3 : Hid (SVar 27 W1 W0.heap.size (pn : Int) none 0 0) := by rw [hW1]; exact Blk.Blk.new _ _ _
    have HS1 : Hid (W1.heap.size = w.heap.size + 2) := by rw [hW1]; show _ = _; rw [World.size_alloc, HSZ.out]
    rw [← hW1]
    rw [HSZ.out] at K3 ⊢
    clear hW1 b1
    have HO0 : Hid (W1.ownsRow (w.heap.size + 2) 2 1 (.slice none 0 0) 0 (iv (leastL pn (voteIs v) 1))) := by
      show World.ownsRow _ _ _ _ _ _ _
      rw [H1.out]; exact ⟨by simp [iv], .inl ⟨rfl, rfl⟩⟩
    go_loopg [7] (T - 1) (fun q v7 wr => ∃ (k c : Nat) (u : Value), v7 = .int .i64 k ∧ Hid (k + q = T) ∧ 1 ≤ k ∧ k ≤ T ∧ c ≤ k ∧ Hid (c = (leastL pn (voteIs v) k).length) ∧ Hid (wr.ownsRow (w.heap.size + 2) 2 1 u c (iv (leastL pn (voteIs v) k))) ∧ Hid (Blk.Blk wr (w.heap.size + 1) [.int .i64 (pn : Int), u] 27) ∧ Hid (SVar 27 wr w.heap.size 0 none 0 0) ∧ Hid (Below w.heap.size w wr) ∧ Hid (w.heap.size + 2 ≤ wr.heap.size))
    case atStart => exact ⟨1, 0, .slice none 0 0, rfl, by show _ = _; omega, Nat.le_refl _, by omega, by omega, by show _ = _; rw [H1.out]; rfl, HO0.out, K3.out, K2.out, B1.out, by show _ ≤ _; rw [HS1.out]; exact Nat.le_refl _⟩
    case round =>
      clear HO0 K3 K2 B1 HS1
      obtain ⟨k, c, u, rfl, hk, hk1, hkl, hck, hcl, hO, hX, hR, hB, hS⟩ := hrel
      by_cases hlt : k < T
      · have HJ : Hid (k + 1 + (gk - 1) = T) := by have := hk.out; show _ = _; omega
        have HG : Hid (gk - 1 < gk) := by have := hk.out; show _ < _; omega
        have hN := HN.out k hlt
        have hlti : (k : Int) < (T : Int) := by omega
        by_cases hsz : (sizeB k : Int) = v
        · rw [if_pos hsz] at hN
          have HA := Lib.hid hN
          have hbeq : ((sizeB k : Int) == v) = true := by simpa using hsz
          clear hN hsz
          obtain ⟨⟨x0, x1⟩, ⟨f0, f1⟩, _⟩ := hX.out.two
          have HCELL := Lib.hid (cell_new1 wr 2 (.int .i64 k))
          have HO1 := Lib.hid (hO.out.alloc (.cells #[.int .i64 k] 2))
          have HB1 := Lib.hid (hB.out.alloc hB.out.size (.cells #[.int .i64 k] 2))
          have HX1 := Lib.hid (hX.out.alloc (.cells #[.int .i64 k] 2))
          have HR1 := Lib.hid (hR.out.alloc (.cells #[.int .i64 k] 2))
          have HS1 : Hid (w.heap.size + 2 ≤ (wr.alloc (.cells #[.int .i64 k] 2)).heap.size) := by show _ ≤ _; rw [World.size_alloc]; have := hS.out; omega
          have HLE : Hid (c + 1 ≤ maxLen ∧ (c + 1) * 8 ≤ 140737488355328) := by show _ ∧ _; unfold maxLen; omega
          have HCN : Hid (c + 1 = (leastL pn (voteIs v) (k + 1)).length) := by show _ = _; rw [HA.out, hcl.out]; simp
          clear hO hB hX hR hcl hS
          go_wp2_with fail
          refine (specSize_any k _ (by omega)).mono ?_
          rintro e w1 ⟨rfl, rfl⟩
          go_wp2_with (at_builtin; refine wpList_append_own _ rfl _ _ 22 rfl (w.heap.size + 2) 2 i0 (.int .i64 0) 1 8 Try.underlying22 hi hz0 hz1 hz2 rfl (by decide) u c (iv (leastL pn (voteIs v) k)) rfl HO1.out ⟨wr.heap.size, 0, none⟩ 1 1 [.int .i64 k] rfl rfl HCELL.out (by intro u hu; simp at hu; subst hu; rfl) HLE.out.1 HLE.out.2 HS1.out ?_)
          intro v' w3 hown' hgrow _
          have hO3 : w3.ownsRow (w.heap.size + 2) 2 1 v' (c + 1) (iv (leastL pn (voteIs v) (k + 1))) := by
            rw [HA.out, iv_snoc]; exact hown'
          have hB3 : Below (w.heap.size + 2) (wr.alloc (.cells #[.int .i64 k] 2)) w3 := (Below.refl _ _).grown hgrow HS1.out (fun q hq => (HO1.out.lt q hq).1)
          have hX3 := HX1.out.below hB3 (by omega)
          have hR3 := HR1.out.below hB3 (by omega)
          obtain ⟨⟨x2, x3⟩, ⟨f2, f3⟩, _⟩ := hX3.two
          have HX4 : Hid (Blk.Blk (w3.setCell ⟨w.heap.size + 1, 1, none⟩ v') (w.heap.size + 1) [.int .i64 (pn : Int), v'] 27) := hX3.set 1 v'
          have HR4 := Lib.hid (hR3.other (k := w.heap.size + 1) 1 v' (by omega))
          have HO4 := Lib.hid (ownsRow_setBelow hO3 (g := w.heap.size + 1) (by omega) 1 v')
          have HB4 := Lib.hid ((HB1.out.trans (hB3.mono (by omega))).setCell (p := ⟨w.heap.size + 1, 1, none⟩) (by simp) v')
          have HS4 : Hid (w.heap.size + 2 ≤ (w3.setCell ⟨w.heap.size + 1, 1, none⟩ v').heap.size) := by show _ ≤ _; rw [World.size_setCell]; exact Nat.le_trans HS1.out hB3.size
          have hone : ∃ a n cc, v' = .slice a n cc := by
            rcases hO3.2 with ⟨h, _⟩ | ⟨g, cap, cur, h, _⟩
            · exact ⟨_, _, _, h⟩
            · exact ⟨_, _, _, h⟩
          obtain ⟨sa, sn, sc, rfl⟩ := hone
          clear hown' hgrow HO1 HB1 HCELL hX3 hR3 hO3 hB3 HX1 HR1 HS1
          go_wp2_with fail
          go_roundg (gk - 1)
          case measure => exact HG.out
          case rel => exact ⟨k + 1, c + 1, _, by go_num, HJ, by omega, by omega, by omega, HCN.out, HO4.out, HX4.out, HR4.out, HB4.out, HS4.out⟩
        · rw [if_neg hsz, List.append_nil] at hN
          have HA := Lib.hid hN
          have hbeq : ((sizeB k : Int) == v) = false := by simpa using hsz
          have HCN : Hid (c = (leastL pn (voteIs v) (k + 1)).length) := by show _ = _; rw [HA.out]; exact hcl.out
          have HO4 : Hid (wr.ownsRow (w.heap.size + 2) 2 1 u c (iv (leastL pn (voteIs v) (k + 1)))) := by show World.ownsRow _ _ _ _ _ _ _; rw [HA.out]; exact hO.out
          clear hN hsz hcl hO
          go_wp2_with fail
          refine (specSize_any k _ (by omega)).mono ?_
          rintro e w1 ⟨rfl, rfl⟩
          go_wp2_with fail
          go_roundg (gk - 1)
          case measure => exact HG.out
          case rel => exact ⟨k + 1, c, u, by go_num, HJ, by omega, by omega, by omega, HCN.out, HO4.out, hX.out, hR.out, hB.out, hS.out⟩
      · obtain rfl : k = T := by have := hk.out; omega
        have hown := hO.out
        rw [hcl.out, HL.out] at hown
        obtain ⟨a1, cc, rfl, hr, ho, _⟩ := irow_of_owned hown (by rw [← HL.out]; exact Nat.le_trans (leastL_len _ _ _) (by omega)) (fun z hz => by rw [← HL.out] at hz; have := leastL_bd hz; omega)
        have HRR : Hid (_ ∧ _) := ⟨hr, ho⟩
        obtain ⟨⟨x0, x1⟩, _, _⟩ := hX.out.two
        have hge : ¬ ((k : Int) < (k : Int)) := by omega
        clear hlt hr ho hO hcl hown
        go_wp2_with fail
        refine (give_any (pn : Int) a1 _ cc (votL (pn : Int) v) _ HRR.out.1 _ HRR.out.2).mono ?_
        rintro e w3 ⟨⟨a3, c3, rfl, hr3, ho3⟩, b3⟩
        have B3 := Lib.hid (hB.out.trans (b3.mono hB.out.size))
        have K33 := hR.out.keep b3
        obtain ⟨⟨y0, y1⟩, ⟨g0, g1⟩, _⟩ := K33.two
        have k4 := K33.set 0 (.int .i64 (givP (pn : Int) (votL (pn : Int) v)))
        have k5 := k4.set 1 (.slice a3 (givZ (pn : Int) (votL (pn : Int) v)).length c3)
        obtain ⟨⟨z0, z1⟩, _, _⟩ := k5.two
        have h4 := k4.frozen 1
        have h5 := k4.cell 1
        have HB := Lib.hid ((B3.out.setCell (p := ⟨w.heap.size, 0, none⟩) (by simp) (.int .i64 (givP (pn : Int) (votL (pn : Int) v)))).setCell (p := ⟨w.heap.size, 1, none⟩) (by simp) (.slice a3 (givZ (pn : Int) (votL (pn : Int) v)).length c3))
        have HR := Lib.hid ((hr3.set (g := w.heap.size) 0 (.int .i64 (givP (pn : Int) (votL (pn : Int) v))) ho3.above (by omega)).set (g := w.heap.size) 1 (.slice a3 (givZ (pn : Int) (votL (pn : Int) v)).length c3) ho3.above (by omega))
        clear hr3 ho3 b3 k4 k5 K33 x0 x1
        go_wp2_with fail
        refine bodyPost_ret (v := .tuple #[.agg #[.int .i64 (givP (pn : Int) (votL (pn : Int) v)), .slice a3 (givZ (pn : Int) (votL (pn : Int) v)).length c3], .bool (sysB (pn : Int) (votL (pn : Int) v))]) (by simp [results, Try.results37, go_sem, z0, z1]) rfl ?_
        rw [HM.out.1, HM.out.2.1, HM.out.2.2]
        exact ⟨⟨a3, c3, rfl, HR.out⟩, HB.out⟩
end Go.Proofs.Ytbmgloncimjfhaa
