/-
  The least sets with which something is so: the program's search, by its contract. Conditions: from 1 to 10 parts; the test answers for each set.
-/
import Derived.Test.YtaecdeickncpcaaSamW
import Derived.Laws.AppendOwn
import Derived.Deep.LoopGhost
namespace Syl
open Go Dec
def partB (s j : Int) : Bool := bits .and .i64 (s / 2 ^ j.toNat) 1 == 1
theorem partB_nat (k j : Nat) (hk : k < 9223372036854775808) : partB k j = decide (k / 2 ^ j % 2 = 1) := by
  unfold partB
  have h1 : ((k : Int) / 2 ^ (j : Int).toNat) = ((k / 2 ^ j : Nat) : Int) := by
    rw [Int.toNat_natCast, Int.natCast_ediv]; simp
  have h2 : k / 2 ^ j < 9223372036854775808 := Nat.lt_of_le_of_lt (Nat.div_le_self _ _) hk
  rw [h1, show (1 : Int) = ((1 : Nat) : Int) from rfl, and_nat _ 1 h2 (by decide), Nat.and_one_is_mod]
  generalize k / 2 ^ j = m
  by_cases h : m % 2 = 1
  · rw [h]; simp
  · rw [decide_eq_false h]
    cases hh : (((m % 2 : Nat) : Int) == ((1 : Nat) : Int)) with
    | false => rfl
    | true => have := eq_of_beq hh; omega
theorem partB_le {k j : Nat} (hk : k < 9223372036854775808) (h : partB k j = true) : 2 ^ j ≤ k := by
  rw [partB_nat k j hk] at h
  have := of_decide_eq_true h
  refine Nat.le_of_not_lt fun hlt => ?_
  rw [Nat.div_eq_of_lt hlt] at this
  simp at this
/-- a set with which it is so, and with no part less -/
def leastAt (p : Nat) (is : Int → Bool) (s : Nat) : Bool := is s && !(List.range p).any fun j => partB s j && is ((s : Int) - 2 ^ j)
def leastL (p : Nat) (is : Int → Bool) (n : Nat) : List Int := ((List.range n).filter (leastAt p is)).map fun (s : Nat) => (s : Int)
theorem leastL_succ (p : Nat) (is : Int → Bool) (n : Nat) : leastL p is (n + 1) = leastL p is n ++ (if leastAt p is n then [(n : Int)] else []) := by
  unfold leastL
  rw [List.range_succ, List.filter_append, List.map_append]
  cases h : leastAt p is n <;> simp [h]
theorem leastL_len (p : Nat) (is : Int → Bool) (n : Nat) : (leastL p is n).length ≤ n := by
  unfold leastL
  rw [List.length_map]
  exact Nat.le_trans (List.length_filter_le _ _) (by simp)
theorem leastL_bd {p : Nat} {is : Int → Bool} {n : Nat} {z : Int} (h : z ∈ leastL p is n) : 0 ≤ z ∧ z < n := by
  unfold leastL at h
  obtain ⟨s, hs, rfl⟩ := List.mem_map.1 h
  have := List.mem_range.1 (List.mem_filter.1 hs).1
  exact ⟨by omega, by omega⟩
theorem leastAt_no {p : Nat} {is : Int → Bool} {s : Nat} (h : is s = false) : leastAt p is s = false := by unfold leastAt; rw [h]; rfl
theorem leastAt_part {p : Nat} {is : Int → Bool} {s j : Nat} (hj : j < p) (h1 : partB s j = true) (h2 : is ((s : Int) - 2 ^ j) = true) : leastAt p is s = false := by
  unfold leastAt
  rw [show ((List.range p).any fun j => partB s j && is ((s : Int) - 2 ^ j)) = true from List.any_eq_true.2 ⟨j, List.mem_range.2 hj, by rw [h1, h2]; rfl⟩]
  simp
theorem leastAt_yes {p : Nat} {is : Int → Bool} {s : Nat} (h : is s = true) (h2 : ∀ j, j < p → (partB s j && is ((s : Int) - 2 ^ j)) = false) : leastAt p is s = true := by
  unfold leastAt
  rw [h, show ((List.range p).any fun j => partB s j && is ((s : Int) - 2 ^ j)) = false from List.any_eq_false.2 (fun j hj => by rw [h2 j (List.mem_range.1 hj)]; decide)]
  rfl
theorem ownsRow_keep {w w' : World} {B : Nat} {e : TypeId} {sz n : Nat} {v : Value} {xs : List Value} (h : w.ownsRow B e sz v n xs) (hb : Go.RowKit.Below w.heap.size w w') : w'.ownsRow B e sz v n xs := by
  obtain ⟨h1, h2⟩ := h
  refine ⟨h1, ?_⟩
  rcases h2 with h2 | ⟨g, cap, cur, hv, hg, hh, r⟩
  · exact .inl h2
  · have hlt : g < w.heap.size := by
      refine Nat.lt_of_not_le fun hle => ?_
      rw [Array.getElem?_eq_none hle] at hh; cases hh
    exact .inr ⟨g, cap, cur, hv, hg, by rw [hb.block g hlt]; exact hh, r⟩
theorem iv_snoc (l : List Int) (t : Int) : iv (l ++ [t]) = iv l ++ [.int .i64 t] := by simp [iv]
theorem cell_new1 (w : World) (t : TypeId) (v : Value) : ∀ j u, [v][j]? = some u → (w.alloc (.cells #[v] t)).cell? ((⟨w.heap.size, 0, none⟩ : Addr).add j) = some u := by
  intro j u hj
  match j, hj with
  | 0, hj => simp at hj; subst hj; rw [Addr.add_lit, World.cell?_alloc_mark]; rfl
  | j + 1, hj => simp at hj
/-- what the call owns, as a list that reads, and that can be marked -/
theorem irow_of_owned {w : World} {B t : Nat} {v : Value} {Z : List Int} (h : w.ownsRow B t 1 v Z.length (iv Z)) (hn : Z.length ≤ 1048576) (hz : ∀ z ∈ Z, -9223372036854775808 ≤ z ∧ z ≤ 9223372036854775807) :
    ∃ a c, v = .slice a Z.length c ∧ IRow w a Z.length Z ∧ Own w B a Z.length t ∧ Z.length ≤ c := by
  obtain ⟨h1, ⟨rfl, h2⟩ | ⟨g, cap, cur, rfl, hg, hc, hcap, _, hcs, hcur⟩⟩ := h
  · have hZ : Z = [] := List.eq_nil_of_length_eq_zero h2
    subst hZ
    exact ⟨none, 0, rfl, ⟨rfl, Nat.zero_le _, by simp, fun i hi => absurd hi (Nat.not_lt_zero _)⟩, .inl rfl, Nat.le_refl _⟩
  · have hlt : g < w.heap.size := by
      refine Nat.lt_of_not_le fun hle => ?_
      rw [Array.getElem?_eq_none hle] at hc; cases hc
    refine ⟨some ⟨g, 0, none⟩, cap, rfl, ⟨rfl, by unfold maxLen; omega, hz, fun j hj => ⟨g, 0, rfl, hlt, ?_⟩⟩, .inr ⟨g, rfl, hg, cur, hc, by omega⟩, hcap⟩
    have hu : (cur.toList.take (Z.length * 1))[j]? = some (.int .i64 (Z.getD j 0)) := by
      rw [hcur]; simp [iv, List.getElem?_eq_getElem hj, List.getD]
    rw [List.getElem?_take_of_lt (by omega)] at hu
    unfold World.cell?
    simp only [hc]
    simpa using hu
end Syl
namespace Go.Proofs.Ytaecdeickncpcaa
open Go.RowKit Dec Flt Syl Sep
theorem hasPart_any (s j : Int) (w : World) (h1 : 0 ≤ j) (h2 : j ≤ 64) : Calls Try.prog 68 #[.int .i64 s, .int .i64 j] w fun e w' => e = .returned (.bool (partB s j)) ∧ w = w' := by
  go_enter Try.func68, Try.ntmps68
  go_wp2
  go_ret
  exact ⟨rfl, rfl⟩
/-- what is asked of a test of sets -/
def TestsS (n : Int) (p : Int → Bool) (g : Nat) (lb : Array Value) (w : World) : Prop :=
  ∀ (W : World) (t : Int), 0 ≤ t → t < n → Below w.heap.size w W → Calls Try.prog g (#[.int .i64 t] ++ lb) W fun e w' => e = .returned (.bool (p t)) ∧ Below W.heap.size W w'
set_option maxRecDepth 40000 in
set_option maxHeartbeats 4000000 in
theorem leastSets_any (p : Nat) (is : Int → Bool) (g : Nat) (lb : Array Value) (eg : ∀ args w, (callFunc g args).run Try.prog w = .ok (.enter g args) w) (w : World) (hp1 : 1 ≤ p) (hp2 : p ≤ 10) (hi : TestsS (two p) is g lb w) :
    Calls Try.prog 81 #[.int .i64 (p : Int), .func (.func g) #[] lb] w fun e w' => (∃ a c, e = .returned (.slice a (leastL p is (2 ^ p)).length c) ∧ IRow w' a (leastL p is (2 ^ p)).length (leastL p is (2 ^ p)) ∧ Own w' w.heap.size a (leastL p is (2 ^ p)).length 2 ∧ (leastL p is (2 ^ p)).length ≤ c) ∧ Below w.heap.size w w' := by
  have HI := Lib.hid hi
  have ht := two_bd p (by omega) (by omega)
  obtain ⟨T, hT⟩ : ∃ T, 2 ^ p = T := ⟨_, rfl⟩
  have hTT : two p = (T : Int) := by unfold two; rw [← hT, Int.toNat_natCast]; simp
  rw [hTT] at ht
  have HTT := Lib.hid hTT
  have hw : IntKind.i64.wrap (1 * 2 ^ p) = (T : Int) := by rw [Int.one_mul, ← hT]; rw [show ((2 ^ p : Nat) : Int) = (2 : Int) ^ p from by simp]; exact wrap_i64 _ (by rw [← show ((2 ^ p : Nat) : Int) = (2 : Int) ^ p from by simp, hT]; omega) (by rw [← show ((2 ^ p : Nat) : Int) = (2 : Int) ^ p from by simp, hT]; omega)
  have hw2 : IntKind.i64.wrap (2 ^ p) = (T : Int) := by rw [← hw, Int.one_mul]
  have HT := Lib.hid hT
  rw [hT]
  clear hT hTT hi
  obtain ⟨i0, hi, hz0, hz1, hz2⟩ := info_parts (show (Try.prog.info? 2).map (fun i => (i.zero, i.size, i.bytes)) = some (some (.int .i64 0), 1, 8) by kernel_rfl)
  have HO0 : Hid (w.ownsRow w.heap.size 2 1 (.slice none 0 0) 0 (iv (leastL p is 0))) := ⟨by simp [iv, leastL], .inl ⟨rfl, rfl⟩⟩
  go_enter Try.func81, Try.ntmps81
  go_wp2_with fail
  go_step3
  go_wp2_with fail
  go_step3
  go_wp2_with fail
  go_loopg [5, 10] T (fun q v5 v10 wr => ∃ (k c : Nat), v10 = .int .i64 k ∧ Hid (k + q = T) ∧ k ≤ T ∧ c ≤ k ∧ Hid (c = (leastL p is k).length) ∧ Hid (wr.ownsRow w.heap.size 2 1 v5 c (iv (leastL p is k))) ∧ Hid (Below w.heap.size w wr))
  case atStart => exact ⟨0, 0, rfl, by show _ = _; omega, Nat.zero_le _, Nat.le_refl _, by show _ = _; simp [leastL], HO0.out, Below.refl _ _⟩
  case round =>
    clear HO0
    obtain ⟨k, c, rfl, hk, hkl, hck, hcl, hO, hB⟩ := hrel
    by_cases hlt : k < T
    · have HJ : Hid (k + 1 + (gk - 1) = T) := by have := hk.out; show _ = _; omega
      have HG : Hid (gk - 1 < gk) := by have := hk.out; show _ < _; omega
      obtain ⟨go, hgo⟩ : ∃ go, gk - 1 = go := ⟨_, rfl⟩
      rw [hgo] at HJ HG
      clear hgo
      have HN := Lib.hid (leastL_succ p is k)
      have hk1024 : (k : Int) < 1024 := by omega
      have hcall := HI.out wr (k : Int) (by omega) (by rw [HTT.out]; omega) hB.out
      cases hq : is k with
      | false =>
        rw [hq] at hcall
        have HN2 : Hid (leastL p is (k + 1) = leastL p is k) := by show _ = _; rw [HN.out, leastAt_no hq]; simp
        clear hq HN
        go_wp2_with fail
        refine hcall.mono ?_
        rintro e w1 ⟨rfl, b1⟩
        have HO1 : Hid (w1.ownsRow w.heap.size 2 1 u5 c (iv (leastL p is (k + 1)))) := by show World.ownsRow _ _ _ _ _ _ _; rw [HN2.out]; exact ownsRow_keep hO.out b1
        have HC1 : Hid (c = (leastL p is (k + 1)).length) := by show _ = _; rw [HN2.out]; exact hcl.out
        have HB1 := Lib.hid (hB.out.trans (b1.mono hB.out.size))
        clear b1 hO hB hcl
        go_wp2_with fail
        go_roundg go
        case measure => exact HG.out
        case rel => exact ⟨k + 1, c, by go_num, HJ, by omega, by omega, HC1.out, HO1.out, HB1.out⟩
      | true =>
        rw [hq] at hcall
        have HQ := Lib.hid hq
        clear hq
        go_wp2_with fail
        refine hcall.mono ?_
        rintro e w1 ⟨rfl, b1⟩
        have HO1 := Lib.hid (ownsRow_keep hO.out b1)
        have HB1 := Lib.hid (hB.out.trans (b1.mono hB.out.size))
        clear b1 hO hB hcall
        go_wp2_with fail
        go_loopg [18] p (fun q v18 wr => ∃ j : Nat, v18 = .int .i64 j ∧ Hid (j + q = p) ∧ j ≤ p ∧ Hid (wr.ownsRow w.heap.size 2 1 u5 c (iv (leastL p is k))) ∧ Hid (Below w.heap.size w wr) ∧ Hid (∀ i, i < j → (partB k i && is ((k : Int) - 2 ^ i)) = false))
        case atStart => exact ⟨0, rfl, by show _ = _; omega, Nat.zero_le _, HO1.out, HB1.out, fun i hi => absurd hi (Nat.not_lt_zero _)⟩
        case round =>
          obtain ⟨j, rfl, hj, hjl, hO, hB, hP⟩ := hrel
          by_cases hjp : j < p
          · have HJ2 : Hid (j + 1 + (gk - 1) = p) := by have := hj.out; show _ = _; omega
            have HG2 : Hid (gk - 1 < gk) := by have := hj.out; show _ < _; omega
            cases hpb : partB k j with
            | false =>
              have HPB := Lib.hid hpb
              clear hpb
              go_wp2_with fail
              refine (hasPart_any k j _ (by omega) (by omega)).mono ?_
              rintro e w2 ⟨rfl, rfl⟩
              rw [HPB.out]
              go_wp2_with fail
              go_roundg (gk - 1)
              case measure => exact HG2.out
              case rel =>
                refine ⟨j + 1, by go_num, HJ2, by omega, hO.out, hB.out, (show Hid _ from fun i hi => ?_)⟩
                by_cases e : i = j
                · subst e; rw [HPB.out]; rfl
                · exact hP.out i (by omega)
            | true =>
              have hle := partB_le (by omega) hpb
              have HPB := Lib.hid hpb
              have hq512 : 2 ^ j ≤ 512 := Nat.pow_le_pow_right (n := 2) (by decide) (show j ≤ 9 by omega)
              obtain ⟨q, hq⟩ : ∃ q : Nat, 2 ^ j = q := ⟨_, rfl⟩
              have hqi : ((2 : Int) ^ j) = (q : Int) := by rw [← hq]; simp
              rw [hq] at hle hq512
              have hs1 : IntKind.i64.wrap (2 ^ j) = (q : Int) := by rw [hqi]; exact wrap_i64 _ (by omega) (by omega)
              have hs2 : IntKind.i64.wrap (1 * 2 ^ j) = (q : Int) := by rw [Int.one_mul]; exact hs1
              have HQI := Lib.hid hqi
              have hcall := HI.out wr ((k : Int) - (q : Int)) (by omega) (by rw [HTT.out]; omega) hB.out
              clear hpb hq hqi
              cases hiq : is ((k : Int) - (q : Int)) with
              | true =>
                rw [hiq] at hcall
                have HN2 : Hid (leastL p is (k + 1) = leastL p is k) := by show _ = _; rw [HN.out, leastAt_part hjp HPB.out (by rw [HQI.out]; exact hiq)]; simp
                clear hiq HN
                go_wp2_with fail
                refine (hasPart_any k j _ (by omega) (by omega)).mono ?_
                rintro e w2 ⟨rfl, rfl⟩
                rw [HPB.out]
                go_wp2_with fail
                refine hcall.mono ?_
                rintro e w2 ⟨rfl, b2⟩
                have HO2 : Hid (w2.ownsRow w.heap.size 2 1 u5 c (iv (leastL p is (k + 1)))) := by show World.ownsRow _ _ _ _ _ _ _; rw [HN2.out]; exact ownsRow_keep hO.out b2
                have HC2 : Hid (c = (leastL p is (k + 1)).length) := by show _ = _; rw [HN2.out]; exact hcl.out
                have HB2 := Lib.hid (hB.out.trans (b2.mono hB.out.size))
                clear b2 hO hB hcl
                go_wp2_with fail
                go_roundg go
                case measure => exact HG.out
                case rel => exact ⟨k + 1, c, by go_num, HJ, by omega, by omega, HC2.out, HO2.out, HB2.out⟩
              | false =>
                rw [hiq] at hcall
                have HIQ := Lib.hid hiq
                clear hiq
                go_wp2_with fail
                refine (hasPart_any k j _ (by omega) (by omega)).mono ?_
                rintro e w2 ⟨rfl, rfl⟩
                rw [HPB.out]
                go_wp2_with fail
                refine hcall.mono ?_
                rintro e w2 ⟨rfl, b2⟩
                have HO2 := Lib.hid (ownsRow_keep hO.out b2)
                have HB2 := Lib.hid (hB.out.trans (b2.mono hB.out.size))
                clear b2 hO hB
                go_wp2_with fail
                go_roundg (gk - 1)
                case measure => exact HG2.out
                case rel =>
                  refine ⟨j + 1, by go_num, HJ2, by omega, HO2.out, HB2.out, (show Hid _ from fun i hi => ?_)⟩
                  by_cases e : i = j
                  · subst e; rw [HQI.out, HIQ.out, Bool.and_false]
                  · exact hP.out i (by omega)
          · obtain rfl : j = p := by have := hj.out; omega
            have HA : Hid (leastL j is (k + 1) = leastL j is k ++ [(k : Int)]) := by show _ = _; rw [HN.out, leastAt_yes HQ.out hP.out]; simp
            have HCELL := Lib.hid (cell_new1 wr 2 (.int .i64 k))
            have HO1 := Lib.hid (hO.out.alloc (.cells #[.int .i64 k] 2))
            have HB1 := Lib.hid (hB.out.alloc hB.out.size (.cells #[.int .i64 k] 2))
            have HLE : Hid (c + 1 ≤ maxLen ∧ (c + 1) * 8 ≤ 140737488355328) := by show _ ∧ _; unfold maxLen; omega
            have HCN : Hid (c + 1 = (leastL j is (k + 1)).length) := by show _ = _; rw [HA.out, hcl.out]; simp
            clear hO hB hjp hP hcl
            go_wp2_with (at_builtin; refine wpList_append_own _ rfl _ _ 22 rfl w.heap.size 2 i0 (.int .i64 0) 1 8 Try.underlying22 hi hz0 hz1 hz2 rfl (by decide) u5 c (iv (leastL j is k)) rfl HO1.out ⟨wr.heap.size, 0, none⟩ 1 1 [.int .i64 k] rfl rfl HCELL.out (by intro u hu; simp at hu; subst hu; rfl) HLE.out.1 HLE.out.2 HB1.out.size ?_)
            intro v' w3 hown' hgrow _
            have HO3 : Hid (w3.ownsRow w.heap.size 2 1 v' (c + 1) (iv (leastL j is (k + 1)))) := by
              show World.ownsRow _ _ _ _ _ _ _
              rw [HA.out, iv_snoc]; exact hown'
            have HB3 : Hid (Below w.heap.size w w3) := Lib.hid (HB1.out.grown hgrow HB1.out.size (fun q hq => (HO1.out.lt q hq).1))
            clear hown' hgrow HO1 HB1 HCELL
            go_wp2_with fail
            go_roundg go
            case measure => exact HG.out
            case rel => exact ⟨k + 1, c + 1, by go_num, HJ, by omega, by omega, HCN.out, HO3.out, HB3.out⟩
    · obtain rfl : k = T := by have := hk.out; omega
      obtain ⟨a, cc, rfl, hr, ho, hcc⟩ := irow_of_owned (by have := hO.out; rw [hcl.out] at this; exact this) (Nat.le_trans (leastL_len _ _ _) (by omega)) (fun z hz => by have := leastL_bd hz; omega)
      have HR : Hid (_ ∧ _ ∧ _) := ⟨hr, ho, hcc⟩
      rw [← hcl.out] at HR ⊢
      have HCL := Lib.hid hcl.out
      clear hlt hr ho hcc hO hcl
      go_wp2_with fail
      try rw [Exit.noGoto_ret]
      go_ret
      rw [← HCL.out]
      exact ⟨⟨_, _, rfl, HR.out.1, HR.out.2.1, HR.out.2.2⟩, hB.out⟩
end Go.Proofs.Ytaecdeickncpcaa
