/-
  The decimal numeral that the model writes, digit by digit from its end. Conditions: the argument fits its kind.
-/
import Derived.Test.YtfmicahibmpjmacDoorChecked
import Derived.Test.YtfmicahibmpjmacDoorShelf
import Derived.WalkKit
import Derived.Below
import Derived.Lib.Hide
import Derived.Lib.ItoaNum
import Derived.Deep.LoopGhost
import Derived.Deep.DeepMust
import Derived.IntWalk
import Derived.Laws.AppendOwn
import Derived.Laws.OwnMore
import Derived.Laws.IdiomStrings
import Derived.WalkSpells
import Derived.ProofKit
namespace Dec
open Go
/-- the cells of bytes -/
def Bs (w : World) (g : Nat) (l : List UInt8) : Prop := g < w.heap.size ∧ ∀ j (h : j < l.length), w.cell? ⟨g, j, none⟩ = some (.int .u8 (l[j].toNat : Int))
theorem Bs.keep {w w' : World} {g : Nat} {l : List UInt8} (h : Bs w g l) (hb : Go.RowKit.Below w.heap.size w w') : Bs w' g l := by
  refine ⟨Nat.lt_of_lt_of_le h.1 hb.size, fun j hj => ?_⟩
  rw [World.cell?_of_block (w := w) (hb.block g h.1)]
  exact h.2 j hj
def bv (l : List UInt8) : List Value := l.map fun b => Value.int .u8 (b.toNat : Int)
theorem addr_add (g i : Nat) : (⟨g, 0, none⟩ : Addr).add i = ⟨g, i, none⟩ := by
  simp [Addr.add]
  intro h; exact h.symm
theorem Bs.news {w : World} {g : Nat} {l : List UInt8} (h : Bs w g l) : ∀ j u, (bv l)[j]? = some u → w.cell? ((⟨g, 0, none⟩ : Addr).add j) = some u := by
  intro j u hj
  have hl : j < l.length := by
    have := (List.getElem?_eq_some_iff.1 hj).1
    simpa [bv] using this
  rw [addr_add, h.2 j hl]
  simp [bv, List.getElem?_eq_getElem hl] at hj
  rw [hj]
theorem bv_one (l : List UInt8) : ∀ u ∈ bv l, u.oneCell' = true := by
  intro u hu
  obtain ⟨b, _, rfl⟩ := List.mem_map.1 hu
  rfl
theorem of_owned {w : World} {B t : Nat} {v : Value} {n : Nat} {l : List UInt8} (h : w.ownsRow B t 1 v n (bv l)) (hn : n ≠ 0) : ∃ g c, v = .slice (some ⟨g, 0, none⟩) l.length c ∧ Bs w g l ∧ B ≤ g := by
  obtain ⟨h1, ⟨_, h2⟩ | ⟨g, cap, cur, rfl, hg, hc, hcap, _, hcs, hcur⟩⟩ := h
  · exact absurd h2 hn
  · have hl : l.length = n := by simpa [bv] using h1
    have hlt : g < w.heap.size := by
      refine Nat.lt_of_not_le fun hle => ?_
      rw [Array.getElem?_eq_none hle] at hc; cases hc
    refine ⟨g, cap, by rw [hl], ⟨hlt, fun j hj => ?_⟩, hg⟩
    have hu : (cur.toList.take (n * 1))[j]? = some (.int .u8 (l[j].toNat : Int)) := by
      rw [hcur]; simp [bv, List.getElem?_eq_getElem hj]
    rw [List.getElem?_take_of_lt (by omega)] at hu
    unfold World.cell?
    simp only [hc]
    simpa using hu
def sgn (n : Int) (m : Nat) : Int := if n < 0 then -(m : Int) else m
/-- what has been written, and what is left -/
def DecRel (M : Nat) (l : List UInt8) (m : Nat) : Prop := (l = [] ∧ m = M) ∨ (l ≠ [] ∧ ((m ≠ 0 ∧ Lib.decDigits M = Lib.decDigits m ++ l) ∨ (m = 0 ∧ l = Lib.decDigits M)))
def dig (m : Nat) : UInt8 := UInt8.ofNat (48 + m % 10)
theorem dig_nat (m : Nat) : ((dig m).toNat : Int) = 48 + ((m % 10 : Nat) : Int) := by
  unfold dig
  have : m % 10 < 10 := Nat.mod_lt _ (by decide)
  rw [UInt8.toNat_ofNat']
  omega
theorem dec_small {m : Nat} (h : m < 10) : Lib.decDigits m = [dig m] := by
  rw [Lib.decDigits, dif_pos h]; unfold dig; rw [Nat.mod_eq_of_lt h]
theorem dec_big {m : Nat} (h : ¬ m < 10) : Lib.decDigits m = Lib.decDigits (m / 10) ++ [dig m] := by
  rw [Lib.decDigits, dif_neg h]; rfl
theorem DecRel.step {M : Nat} {l : List UInt8} {m : Nat} (h : DecRel M l m) (hm : l = [] ∨ m ≠ 0) : DecRel M (dig m :: l) (m / 10) := by
  refine .inr ⟨by simp, ?_⟩
  rcases h with ⟨rfl, rfl⟩ | ⟨hl, ⟨h0, hd⟩ | ⟨h0, _⟩⟩
  · by_cases h10 : m < 10
    · exact .inr ⟨Nat.div_eq_of_lt h10, (dec_small h10).symm⟩
    · exact .inl ⟨by omega, dec_big h10⟩
  · by_cases h10 : m < 10
    · exact .inr ⟨Nat.div_eq_of_lt h10, by rw [hd, dec_small h10]; rfl⟩
    · exact .inl ⟨by omega, by rw [hd, dec_big h10]; simp⟩
  · rcases hm with h | h
    · exact absurd h hl
    · exact absurd h0 h
theorem itoa_neg {n : Int} {M : Nat} (hn : n < 0) (h : n = sgn n M) : Lib.itoa n = 45 :: Lib.decDigits M := by
  unfold sgn at h
  rw [if_pos hn] at h
  have e : n.natAbs = M := by omega
  unfold Lib.itoa
  rw [if_pos hn, e]
theorem itoa_pos {n : Int} {M : Nat} (hn : ¬ n < 0) (h : n = sgn n M) : Lib.itoa n = Lib.decDigits M := by
  unfold sgn at h
  rw [if_neg hn] at h
  have e : n.toNat = M := by omega
  unfold Lib.itoa
  rw [if_neg hn, e]
end Dec
namespace Go.Proofs.YtfmicahibmpjmacDoor
open Go.RowKit Dec
theorem dec_conv (w : World) (g c : Nat) (l : List UInt8) (h : Bs w g l) : (convert 64 9 (.slice (some ⟨g, 0, none⟩) l.length c)).run Tryd.prog w = .ok (.string ⟨l.toArray⟩) w :=
  run_convert_bytes_back (P := Tryd.prog) w 64 9 5 ⟨g, 0, none⟩ c l Tryd.underlying64 Tryd.underlying5 Tryd.underlying9 (fun j hj => by rw [addr_add]; exact h.2 j hj)
set_option maxHeartbeats 4000000 in
theorem l01Dec_any (n : Int) (w : World) (h0 : -9223372036854775808 ≤ n) (h1 : n ≤ 9223372036854775807) :
    Calls Tryd.prog 29 #[.int .i64 n] w fun e w' => e = .returned (.string ⟨(Lib.itoa n).toArray⟩) ∧ Below w.heap.size w w' := by
  obtain ⟨i0, hi, hz0, hz1, hz2⟩ := info_parts (show (Tryd.prog.info? 5).map (fun i => (i.zero, i.size, i.bytes)) = some (some (.int .u8 0), 1, 1) by kernel_rfl)
  have hM : n = sgn n n.natAbs := by unfold sgn; split <;> omega
  have hMb : n.natAbs ≤ 9223372036854775808 := by omega
  have HM := Lib.hid hM
  clear hM
  generalize n.natAbs = M at *
  go_enter Tryd.func29, Tryd.ntmps29
  go_wp2_with fail
  go_loopg [3, 4] 20 (fun k s r wr => ∃ (g c : Nat) (l : List UInt8) (m : Nat), s = .slice (some ⟨g, 0, none⟩) l.length c ∧ r = .int .i64 (sgn n m) ∧ Hid (l.length + k = 20) ∧ Hid (m < 10 ^ k) ∧ Hid (m ≤ 9223372036854775808) ∧ Hid (DecRel M l m) ∧ Hid (Bs wr g l) ∧ Hid (Below w.heap.size w wr))
  case atStart => exact ⟨w.heap.size, 0, [], M, rfl, by rw [← HM.out], rfl, by show _ < _; omega, hMb, .inl ⟨rfl, rfl⟩, ⟨by simp, fun j hj => absurd hj (Nat.not_lt_zero _)⟩, (Below.refl _ _).alloc (Nat.le_refl _) _⟩
  case round =>
    obtain ⟨g, c, l, m, rfl, rfl, hk, hmk, hmb, hR, hB, hb⟩ := hrel
    by_cases hgo : l = [] ∨ m ≠ 0
    · have hg1 : 1 ≤ gk := by
        rcases hgo with rfl | h
        · have := hk.out; simp at this; omega
        · have h2 := hmk.out
          refine Nat.succ_le_of_lt (Nat.pos_of_ne_zero fun e => ?_)
          subst e
          simp at h2
          exact h h2
      have HG : Hid (gk - 1 < gk) := by show _ < _; omega
      have HJ : Hid ((dig m :: l).length + (gk - 1) = 20) := by have := hk.out; show _ = _; simp; omega
      have HK : Hid (m / 10 < 10 ^ (gk - 1)) := by
        have h2 := hmk.out
        obtain ⟨x, rfl⟩ : ∃ x, gk = x + 1 := ⟨gk - 1, by omega⟩
        show _ < _
        rw [Nat.pow_succ] at h2
        simp
        omega
      have HR := Lib.hid (hR.out.step hgo)
      have hq : m % 10 < 10 := Nat.mod_lt _ (by decide)
      have HMB : Hid (m / 10 ≤ 9223372036854775808) := by have := hmb.out; show _ ≤ _; omega
      have hpb : m / 10 ≤ 922337203685477581 := by have := hmb.out; omega
      have hmb' := hmb.out
      have hDN := Lib.hid (dig_nat m)
      have HL : Hid (l.length ≤ 20) := by have := hk.out; show _ ≤ _; omega
      clear hR hmk hmb
      by_cases hn : n < 0
      · have hs : Hid (∀ k : Nat, sgn n k = -(k : Int)) := fun k => by unfold sgn; rw [if_pos hn]
        have hrem : (-(m : Int)).tmod 10 = -((m % 10 : Nat) : Int) := by rw [Int.neg_tmod]; congr 1
        have hquo : (-(m : Int)).tdiv 10 = -((m / 10 : Nat) : Int) := by rw [Int.neg_tdiv]; congr 1
        rw [hs.out]
        by_cases hq0 : m % 10 = 0
        · rw [hq0] at hrem
          simp only [Int.natCast_zero, Int.neg_zero] at hrem
          generalize hqq : m % 10 = q at *
          obtain rfl := hq0
          generalize hpp : m / 10 = p at *
          generalize hdd : dig m = dg at *
          clear hqq hpp hdd
          have hN : Hid (∀ (o : Obj) (j : Nat) (u : Value), (bv l)[j]? = some u → (wr.alloc o).cell? ((⟨g, 0, none⟩ : Addr).add j) = some u) := fun o => (hB.out.keep ((Below.refl _ wr).alloc (Nat.le_refl _) o)).news
          rcases Decidable.em (l = []) with hl | hl
          · subst hl
            clear hgo
            go_wp2_with (at_builtin; go_must (refine wpList_append_own _ rfl _ _ 64 rfl w.heap.size 5 i0 (.int .u8 0) 1 1 Tryd.underlying64 hi hz0 hz1 hz2 rfl (by decide) (.slice (some ⟨wr.heap.size, 0, none⟩) 1 1) 1 [.int .u8 (48)] rfl (World.ownsRow_lit wr #[.int .u8 (48)] 1 hb.out.size (by decide) rfl) ⟨g, 0, none⟩ 0 c (bv []) rfl (by simp [bv]) (fun j u hj => hN.out _ j u hj) (bv_one _) (by have := HL.out; unfold maxLen; omega) (by have := HL.out; omega) (by have := hb.out.size; simp; omega) ?_))
            · intro v' w1 hown' hgrow _
              have hown2 : w1.ownsRow w.heap.size 5 1 v' (1 + 0) (bv (dg :: [])) := by
                have e : bv (dg :: []) = [.int .u8 (48)] ++ bv [] := by
                  show Value.int .u8 (dg.toNat : Int) :: bv [] = _
                  rw [hDN.out]; rfl
                rw [e]; exact hown'
              obtain ⟨g', c', rfl, hB', hBg⟩ := of_owned hown2 (by omega)
              have HB' := Lib.hid hB'
              have Hb := Lib.hid ((hb.out.alloc hb.out.size _).grown hgrow (by have := hb.out.size; simp; omega) (fun i hi => by
                cases hi
                exact hb.out.size))
              clear hown' hgrow hown2 hB' hBg hB hb
              go_wp2_with fail
              go_roundg (gk - 1)
              case measure => exact HG.out
              case rel => exact ⟨g', c', dg :: [], p, rfl, by rw [hs.out], HJ, HK, HMB, HR, HB', Hb⟩
          · have hm0 : m ≠ 0 := by
              rcases hgo with h | h
              · exact absurd h hl
              · exact h
            have hL : ((l.length : Int) == 0) = false := by
              have : l.length ≠ 0 := fun e => hl (List.eq_nil_of_length_eq_zero e)
              simpa using (by omega : ¬ (l.length : Int) = 0)
            have hr0 : ((-(m : Int)) != (0 : Int)) = true := by
              simpa using (by omega : ¬ (-(m : Int)) = (0 : Int))
            clear hgo hl hm0
            go_wp2_with (at_builtin; go_must (refine wpList_append_own _ rfl _ _ 64 rfl w.heap.size 5 i0 (.int .u8 0) 1 1 Tryd.underlying64 hi hz0 hz1 hz2 rfl (by decide) (.slice (some ⟨wr.heap.size, 0, none⟩) 1 1) 1 [.int .u8 (48)] rfl (World.ownsRow_lit wr #[.int .u8 (48)] 1 hb.out.size (by decide) rfl) ⟨g, 0, none⟩ l.length c (bv l) rfl (by simp [bv]) (fun j u hj => hN.out _ j u hj) (bv_one _) (by have := HL.out; unfold maxLen; omega) (by have := HL.out; omega) (by have := hb.out.size; simp; omega) ?_))
            · intro v' w1 hown' hgrow _
              have hown2 : w1.ownsRow w.heap.size 5 1 v' (1 + l.length) (bv (dg :: l)) := by
                have e : bv (dg :: l) = [.int .u8 (48)] ++ bv l := by
                  show Value.int .u8 (dg.toNat : Int) :: bv l = _
                  rw [hDN.out]; rfl
                rw [e]; exact hown'
              obtain ⟨g', c', rfl, hB', hBg⟩ := of_owned hown2 (by omega)
              have HB' := Lib.hid hB'
              have Hb := Lib.hid ((hb.out.alloc hb.out.size _).grown hgrow (by have := hb.out.size; simp; omega) (fun i hi => by
                cases hi
                exact hb.out.size))
              clear hown' hgrow hown2 hB' hBg hB hb
              go_wp2_with fail
              go_roundg (gk - 1)
              case measure => exact HG.out
              case rel => exact ⟨g', c', dg :: l, p, rfl, by rw [hs.out], HJ, HK, HMB, HR, HB', Hb⟩
        · generalize hqq : m % 10 = q at *
          have hq1 : 0 < q := Nat.pos_of_ne_zero hq0
          generalize hpp : m / 10 = p at *
          generalize hdd : dig m = dg at *
          clear hqq hpp hdd
          have hN : Hid (∀ (o : Obj) (j : Nat) (u : Value), (bv l)[j]? = some u → (wr.alloc o).cell? ((⟨g, 0, none⟩ : Addr).add j) = some u) := fun o => (hB.out.keep ((Below.refl _ wr).alloc (Nat.le_refl _) o)).news
          rcases Decidable.em (l = []) with hl | hl
          · subst hl
            clear hgo
            go_wp2_with (at_builtin; go_must (refine wpList_append_own _ rfl _ _ 64 rfl w.heap.size 5 i0 (.int .u8 0) 1 1 Tryd.underlying64 hi hz0 hz1 hz2 rfl (by decide) (.slice (some ⟨wr.heap.size, 0, none⟩) 1 1) 1 [.int .u8 (48 + (q : Int))] rfl (World.ownsRow_lit wr #[.int .u8 (48 + (q : Int))] 1 hb.out.size (by decide) rfl) ⟨g, 0, none⟩ 0 c (bv []) rfl (by simp [bv]) (fun j u hj => hN.out _ j u hj) (bv_one _) (by have := HL.out; unfold maxLen; omega) (by have := HL.out; omega) (by have := hb.out.size; simp; omega) ?_))
            · intro v' w1 hown' hgrow _
              have hown2 : w1.ownsRow w.heap.size 5 1 v' (1 + 0) (bv (dg :: [])) := by
                have e : bv (dg :: []) = [.int .u8 (48 + (q : Int))] ++ bv [] := by
                  show Value.int .u8 (dg.toNat : Int) :: bv [] = _
                  rw [hDN.out]; rfl
                rw [e]; exact hown'
              obtain ⟨g', c', rfl, hB', hBg⟩ := of_owned hown2 (by omega)
              have HB' := Lib.hid hB'
              have Hb := Lib.hid ((hb.out.alloc hb.out.size _).grown hgrow (by have := hb.out.size; simp; omega) (fun i hi => by
                cases hi
                exact hb.out.size))
              clear hown' hgrow hown2 hB' hBg hB hb
              go_wp2_with fail
              go_roundg (gk - 1)
              case measure => exact HG.out
              case rel => exact ⟨g', c', dg :: [], p, rfl, by rw [hs.out], HJ, HK, HMB, HR, HB', Hb⟩
          · have hm0 : m ≠ 0 := by
              rcases hgo with h | h
              · exact absurd h hl
              · exact h
            have hL : ((l.length : Int) == 0) = false := by
              have : l.length ≠ 0 := fun e => hl (List.eq_nil_of_length_eq_zero e)
              simpa using (by omega : ¬ (l.length : Int) = 0)
            have hr0 : ((-(m : Int)) != (0 : Int)) = true := by
              simpa using (by omega : ¬ (-(m : Int)) = (0 : Int))
            clear hgo hl hm0
            go_wp2_with (at_builtin; go_must (refine wpList_append_own _ rfl _ _ 64 rfl w.heap.size 5 i0 (.int .u8 0) 1 1 Tryd.underlying64 hi hz0 hz1 hz2 rfl (by decide) (.slice (some ⟨wr.heap.size, 0, none⟩) 1 1) 1 [.int .u8 (48 + (q : Int))] rfl (World.ownsRow_lit wr #[.int .u8 (48 + (q : Int))] 1 hb.out.size (by decide) rfl) ⟨g, 0, none⟩ l.length c (bv l) rfl (by simp [bv]) (fun j u hj => hN.out _ j u hj) (bv_one _) (by have := HL.out; unfold maxLen; omega) (by have := HL.out; omega) (by have := hb.out.size; simp; omega) ?_))
            · intro v' w1 hown' hgrow _
              have hown2 : w1.ownsRow w.heap.size 5 1 v' (1 + l.length) (bv (dg :: l)) := by
                have e : bv (dg :: l) = [.int .u8 (48 + (q : Int))] ++ bv l := by
                  show Value.int .u8 (dg.toNat : Int) :: bv l = _
                  rw [hDN.out]; rfl
                rw [e]; exact hown'
              obtain ⟨g', c', rfl, hB', hBg⟩ := of_owned hown2 (by omega)
              have HB' := Lib.hid hB'
              have Hb := Lib.hid ((hb.out.alloc hb.out.size _).grown hgrow (by have := hb.out.size; simp; omega) (fun i hi => by
                cases hi
                exact hb.out.size))
              clear hown' hgrow hown2 hB' hBg hB hb
              go_wp2_with fail
              go_roundg (gk - 1)
              case measure => exact HG.out
              case rel => exact ⟨g', c', dg :: l, p, rfl, by rw [hs.out], HJ, HK, HMB, HR, HB', Hb⟩
      · have hs : Hid (∀ k : Nat, sgn n k = (k : Int)) := fun k => by unfold sgn; rw [if_neg hn]
        have hrem : (m : Int).tmod 10 = ((m % 10 : Nat) : Int) := (Int.ofNat_tmod _ 10).symm
        have hquo : (m : Int).tdiv 10 = ((m / 10 : Nat) : Int) := (Int.ofNat_tdiv _ 10).symm
        rw [hs.out]
        generalize hqq : m % 10 = q at *
        have hqn : ¬ ((q : Int) < 0) := by omega
        generalize hpp : m / 10 = p at *
        generalize hdd : dig m = dg at *
        clear hqq hpp hdd
        have hN : Hid (∀ (o : Obj) (j : Nat) (u : Value), (bv l)[j]? = some u → (wr.alloc o).cell? ((⟨g, 0, none⟩ : Addr).add j) = some u) := fun o => (hB.out.keep ((Below.refl _ wr).alloc (Nat.le_refl _) o)).news
        rcases Decidable.em (l = []) with hl | hl
        · subst hl
          clear hgo
          go_wp2_with (at_builtin; go_must (refine wpList_append_own _ rfl _ _ 64 rfl w.heap.size 5 i0 (.int .u8 0) 1 1 Tryd.underlying64 hi hz0 hz1 hz2 rfl (by decide) (.slice (some ⟨wr.heap.size, 0, none⟩) 1 1) 1 [.int .u8 (48 + (q : Int))] rfl (World.ownsRow_lit wr #[.int .u8 (48 + (q : Int))] 1 hb.out.size (by decide) rfl) ⟨g, 0, none⟩ 0 c (bv []) rfl (by simp [bv]) (fun j u hj => hN.out _ j u hj) (bv_one _) (by have := HL.out; unfold maxLen; omega) (by have := HL.out; omega) (by have := hb.out.size; simp; omega) ?_))
          · intro v' w1 hown' hgrow _
            have hown2 : w1.ownsRow w.heap.size 5 1 v' (1 + 0) (bv (dg :: [])) := by
              have e : bv (dg :: []) = [.int .u8 (48 + (q : Int))] ++ bv [] := by
                show Value.int .u8 (dg.toNat : Int) :: bv [] = _
                rw [hDN.out]; rfl
              rw [e]; exact hown'
            obtain ⟨g', c', rfl, hB', hBg⟩ := of_owned hown2 (by omega)
            have HB' := Lib.hid hB'
            have Hb := Lib.hid ((hb.out.alloc hb.out.size _).grown hgrow (by have := hb.out.size; simp; omega) (fun i hi => by
              cases hi
              exact hb.out.size))
            clear hown' hgrow hown2 hB' hBg hB hb
            go_wp2_with fail
            go_roundg (gk - 1)
            case measure => exact HG.out
            case rel => exact ⟨g', c', dg :: [], p, rfl, by rw [hs.out], HJ, HK, HMB, HR, HB', Hb⟩
        · have hm0 : m ≠ 0 := by
            rcases hgo with h | h
            · exact absurd h hl
            · exact h
          have hL : ((l.length : Int) == 0) = false := by
            have : l.length ≠ 0 := fun e => hl (List.eq_nil_of_length_eq_zero e)
            simpa using (by omega : ¬ (l.length : Int) = 0)
          have hr0 : (((m : Int)) != (0 : Int)) = true := by
            simpa using (by omega : ¬ ((m : Int)) = (0 : Int))
          clear hgo hl hm0
          go_wp2_with (at_builtin; go_must (refine wpList_append_own _ rfl _ _ 64 rfl w.heap.size 5 i0 (.int .u8 0) 1 1 Tryd.underlying64 hi hz0 hz1 hz2 rfl (by decide) (.slice (some ⟨wr.heap.size, 0, none⟩) 1 1) 1 [.int .u8 (48 + (q : Int))] rfl (World.ownsRow_lit wr #[.int .u8 (48 + (q : Int))] 1 hb.out.size (by decide) rfl) ⟨g, 0, none⟩ l.length c (bv l) rfl (by simp [bv]) (fun j u hj => hN.out _ j u hj) (bv_one _) (by have := HL.out; unfold maxLen; omega) (by have := HL.out; omega) (by have := hb.out.size; simp; omega) ?_))
          · intro v' w1 hown' hgrow _
            have hown2 : w1.ownsRow w.heap.size 5 1 v' (1 + l.length) (bv (dg :: l)) := by
              have e : bv (dg :: l) = [.int .u8 (48 + (q : Int))] ++ bv l := by
                show Value.int .u8 (dg.toNat : Int) :: bv l = _
                rw [hDN.out]; rfl
              rw [e]; exact hown'
            obtain ⟨g', c', rfl, hB', hBg⟩ := of_owned hown2 (by omega)
            have HB' := Lib.hid hB'
            have Hb := Lib.hid ((hb.out.alloc hb.out.size _).grown hgrow (by have := hb.out.size; simp; omega) (fun i hi => by
              cases hi
              exact hb.out.size))
            clear hown' hgrow hown2 hB' hBg hB hb
            go_wp2_with fail
            go_roundg (gk - 1)
            case measure => exact HG.out
            case rel => exact ⟨g', c', dg :: l, p, rfl, by rw [hs.out], HJ, HK, HMB, HR, HB', Hb⟩
    · have hl : l ≠ [] := fun e => hgo (.inl e)
      have hm0 : m = 0 := by
        refine Classical.byContradiction fun e => hgo (.inr e)
      subst hm0
      have hD : l = Lib.decDigits M := by
        rcases hR.out with ⟨e, _⟩ | ⟨_, ⟨e, _⟩ | ⟨_, e⟩⟩
        · exact absurd e hl
        · exact absurd rfl e
        · exact e
      have hs0 : sgn n 0 = 0 := by unfold sgn; split <;> rfl
      have hL : ((l.length : Int) == 0) = false := by
        have : l.length ≠ 0 := fun e => hl (List.eq_nil_of_length_eq_zero e)
        simpa using (by omega : ¬ (l.length : Int) = 0)
      have HL : Hid (l.length ≤ 20) := by have := hk.out; show _ ≤ _; omega
      rw [hs0]
      clear hgo hR hmk hmb hs0
      by_cases hn : n < 0
      · have hN : Hid (∀ (o : Obj) (j : Nat) (u : Value), (bv l)[j]? = some u → (wr.alloc o).cell? ((⟨g, 0, none⟩ : Addr).add j) = some u) := fun o => (hB.out.keep ((Below.refl _ wr).alloc (Nat.le_refl _) o)).news
        have HE : Hid (Lib.itoa n = 45 :: l) := by
          show _ = _
          rw [hD]; exact itoa_neg hn HM.out
        clear hD
        go_wp2_with (at_builtin; go_must (refine wpList_append_own _ rfl _ _ 64 rfl w.heap.size 5 i0 (.int .u8 0) 1 1 Tryd.underlying64 hi hz0 hz1 hz2 rfl (by decide) (.slice (some ⟨wr.heap.size, 0, none⟩) 1 1) 1 [.int .u8 45] rfl (World.ownsRow_lit wr #[.int .u8 45] 1 hb.out.size (by decide) rfl) ⟨g, 0, none⟩ l.length c (bv l) rfl (by simp [bv]) (fun j u hj => hN.out _ j u hj) (bv_one _) (by have := HL.out; unfold maxLen; omega) (by have := HL.out; omega) (by have := hb.out.size; simp; omega) ?_))
        intro v' w1 hown' hgrow _
        have hown2 : w1.ownsRow w.heap.size 5 1 v' (1 + l.length) (bv (45 :: l)) := hown'
        obtain ⟨g', c', rfl, hB', hBg⟩ := of_owned hown2 (by omega)
        have Hb := Lib.hid ((hb.out.alloc hb.out.size _).grown hgrow (by have := hb.out.size; simp; omega) (fun i hi => by
          cases hi
          exact hb.out.size))
        have HE2 : ∃ l2, 45 :: l = l2 ∧ Hid (Lib.itoa n = l2) := ⟨_, rfl, HE⟩
        obtain ⟨l2, hl2, HE3⟩ := HE2
        rw [hl2] at hB' ⊢
        have hcv := dec_conv w1 g' c' l2 hB'
        clear hown' hgrow hown2 hB' hBg hB hb HE hl2 hN hL HL hl
        go_wp2_with fail
        go_ret
        exact ⟨by rw [HE3.out]; rfl, Hb.out⟩
      · have HE : Hid (Lib.itoa n = l) := by
          show _ = _
          rw [hD]; exact itoa_pos hn HM.out
        have hcv := dec_conv wr g c l hB.out
        clear hD
        go_wp2_with fail
        go_ret
        exact ⟨by rw [HE.out]; rfl, hb.out⟩
end Go.Proofs.YtfmicahibmpjmacDoor
