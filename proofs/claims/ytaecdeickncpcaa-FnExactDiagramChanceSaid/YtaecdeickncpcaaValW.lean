/-
  Contracts: whether a system is valid, and whether it works with a set, in the program and in its model. Conditions: the lists read as lists of whole numbers.
-/
import Derived.Test.YtaecdeickncpcaaWrkW
namespace Syl
open Go Dec
theorem okAt_eq {p : Int} {zs : List Int} {i : Nat} {z : Int} (hz : zs.getD i 0 = z) : okAt p zs i = (decide (1 ≤ z ∧ z < two p) && (decide (i = 0 ∨ zs.getD (i - 1) 0 < z) && !worksB (zs.take i) z)) := by unfold okAt; rw [hz]
theorem setB_bd {p z : Int} (h : setB p z = true) : 0 ≤ z ∧ z < two p := of_decide_eq_true h
theorem setB_bd' {p z : Int} (h : setB p z = false) : ¬ (0 ≤ z ∧ z < two p) := of_decide_eq_false h
theorem _root_.Dec.IRow.take {w : World} {a : Option Addr} {len k : Nat} {zs : List Int} (h : IRow w a len zs) (hk : k ≤ len) : IRow w a k (zs.take k) := by
  obtain ⟨h1, h2, h3, h4⟩ := h
  refine ⟨by rw [List.length_take]; omega, Nat.le_trans hk h2, fun z hz => h3 z (List.mem_of_mem_take hz), fun i hi => ?_⟩
  obtain ⟨b, off, e, hlt, hc⟩ := h4 i (by omega)
  refine ⟨b, off, e, hlt, ?_⟩
  rw [hc]
  congr 2
  simp [List.getD, List.getElem?_take_of_lt hi]
end Syl
namespace Go.Proofs.Ytaecdeickncpcaa
open Go.RowKit Dec Flt Syl Sep
set_option maxHeartbeats 4000000 in
theorem implVSys_any (p : Int) (a : Option Addr) (len cap : Nat) (zs : List Int) (w : World) (h : IRow w a len zs) (hcap : len ≤ cap) :
    Calls Try.prog 61 #[.agg #[.int .i64 p, .slice a len cap]] w fun e w' => e = .returned (.bool (sysB p zs)) ∧ Below w.heap.size w w' := by
  have H := Lib.hid h
  have hm : len ≤ 9223372036854775807 := by have := h.2.1; unfold maxLen at this; exact this
  have HL := Lib.hid h.1
  clear h
  cases hp : partsB p with
  | false =>
    have HS := Lib.hid (sysB_no_parts (zs := zs) hp)
    go_enter Try.func61, Try.ntmps61
    go_wp2_with fail
    refine (areParts_any p _).mono ?_
    rintro e w1 ⟨rfl, rfl⟩
    rw [hp]
    go_wp2_with fail
    go_ret
    exact ⟨congrArg (fun b => Ending.returned (.bool b)) HS.out.symm, (Below.refl _ _).alloc (Nat.le_refl _) _⟩
  | true =>
    have HP := Lib.hid hp
    have hpp : 1 ≤ p ∧ p ≤ 10 := of_decide_eq_true hp
    clear hp
    by_cases hl : 1 ≤ (len : Int) ∧ (len : Int) ≤ 64
    · have hl1 : ¬ ((len : Int) < 1) := by omega
      have hl2 : ¬ ((64 : Int) < len) := by omega
      go_enter Try.func61, Try.ntmps61
      go_wp2_with fail
      refine (areParts_any p _).mono ?_
      rintro e w1 ⟨rfl, rfl⟩
      rw [HP.out]
      go_wp2_with fail
      obtain ⟨W0, hW0⟩ : ∃ W0, W0 = w.alloc (.cells #[.int .i64 p, .slice a len cap] 26) := ⟨_, rfl⟩
      have K0 : Hid (SVar 26 W0 w.heap.size p a len cap) := by rw [hW0]; exact Blk.Blk.new _ _ _
      have B0 : Hid (Below w.heap.size w W0) := by rw [hW0]; exact (Below.refl _ _).alloc (Nat.le_refl _) _
      rw [← hW0]
      clear hW0 hl1 hl2
      go_loopg [24] len (fun n i wr => ∃ k : Nat, i = .int .i64 k ∧ Hid (k + n = len) ∧ k ≤ len ∧ Hid (Below W0.heap.size W0 wr) ∧ Hid (∀ j, j < k → okAt p zs j = true))
      case atStart => exact ⟨0, rfl, by show _ = _; omega, Nat.zero_le _, Below.refl _ _, fun j hj => absurd hj (Nat.not_lt_zero _)⟩
      case round =>
        obtain ⟨k, rfl, hk, hkl, hB, hN⟩ := hrel
        by_cases hlt : k < len
        · have hr := (H.out.keep B0.out).keep hB.out
          obtain ⟨b, off, e1, hbl, hc⟩ := hr.2.2.2 k hlt
          have HR := Lib.hid hr
          have HJ : Hid (k + 1 + (gk - 1) = len) := by have := hk.out; show _ = _; omega
          have HG : Hid (gk - 1 < gk) := by have := hk.out; show _ < _; omega
          have HZ : Hid (k < zs.length) := by show _ < _; rw [H.out.1]; exact hlt
          have hbd := H.out.bd hlt
          obtain ⟨t, ht⟩ : ∃ t, zs.getD k 0 = t := ⟨_, rfl⟩
          rw [ht] at hc hbd
          have HT := Lib.hid ht
          have hv := K0.out.keep hB.out
          have HV := Lib.hid hv
          obtain ⟨⟨v0, v1⟩, _, _⟩ := hv.two
          clear ht hv hr
          have hback : ∀ r : Bool, r = false → okAt p zs k = r → Hid (sysB p zs = false) := fun r h1 h2 => Lib.hid (sysB_no HZ.out (h2.trans h1))
          have hok := okAt_eq (p := p) HT.out
          have HOK := Lib.hid hok
          have HBK := Lib.hid hback
          have HBB := Lib.hid (B0.out.trans (hB.out.mono B0.out.size))
          clear hok hback
          by_cases h0 : t = 0
          · have HS := HBK.out _ rfl (by rw [HOK.out, h0, decide_eq_false (by omega), Bool.false_and])
            clear HBK
            subst h0
            obtain rfl := e1
            go_wp2_with fail
            go_ret
            exact ⟨congrArg (fun b => Ending.returned (.bool b)) HS.out.symm, HBB.out⟩
          · have h0' : (t == 0) = false := by simpa using h0
            cases hs : setB p t with
            | false =>
              have hs' := setB_bd' hs
              have HS := HBK.out _ rfl (by rw [HOK.out, decide_eq_false (by omega), Bool.false_and])
              have HSB := Lib.hid hs
              clear HBK h0 hs hs'
              obtain rfl := e1
              go_wp2_with fail
              refine (isSet_any p t _ hpp.1 hpp.2).mono ?_
              rintro e w1 ⟨rfl, rfl⟩
              rw [HSB.out]
              go_wp2_with fail
              go_ret
              exact ⟨congrArg (fun b => Ending.returned (.bool b)) HS.out.symm, HBB.out⟩
            | true =>
              have hs' := setB_bd hs
              have HSB := Lib.hid hs
              have h1 : decide (1 ≤ t ∧ t < two p) = true := decide_eq_true (by omega)
              have HD := Lib.hid h1
              clear hs h0 h1
              rcases Nat.eq_zero_or_pos k with hk0 | hk0
              · subst hk0
                rw [Nat.add_zero] at hc
                have HO : Hid (okAt p zs 0 = !worksB (zs.take 0) t) := by
                  show _ = _
                  rw [HOK.out, HD.out, decide_eq_true (.inl rfl), Bool.true_and, Bool.true_and]
                obtain rfl := e1
                go_wp2_with fail
                refine (isSet_any p t _ hpp.1 hpp.2).mono ?_
                rintro e w1 ⟨rfl, rfl⟩
                rw [HSB.out]
                go_wp2_with fail
                refine (hasOne_any t _ 0 cap (zs.take (0)) wr (HR.out.take hkl)).mono ?_
                rintro e w1 ⟨rfl, b1⟩
                have HBB1 := Lib.hid (HBB.out.trans (b1.mono HBB.out.size))
                have HB1 := Lib.hid (hB.out.trans (b1.mono hB.out.size))
                clear b1
                cases hw : worksB (zs.take (0)) t with
                | true =>
                  have HS := HBK.out _ rfl (by rw [HO.out, hw]; rfl)
                  clear HBK
                  go_wp2_with fail
                  go_ret
                  exact ⟨congrArg (fun b => Ending.returned (.bool b)) HS.out.symm, HBB1.out⟩
                | false =>
                  have HO1 : Hid (okAt p zs (0) = true) := by show _ = _; rw [HO.out, hw]; rfl
                  clear HBK hw
                  go_wp2_with fail
                  go_roundg (gk - 1)
                  case measure => exact HG.out
                  case rel =>
                    refine ⟨0 + 1, by go_num, HJ, by omega, HB1.out, (show Hid _ from fun i hi => ?_)⟩
                    by_cases e : i = 0
                    · subst e; exact HO1.out
                    · exact hN.out i (by omega)
              · obtain ⟨j, rfl⟩ : ∃ j, k = j + 1 := ⟨k - 1, by omega⟩
                obtain ⟨b', off', e1', _, hc'⟩ := HR.out.2.2.2 j (by omega)
                rw [e1] at e1'
                cases e1'
                obtain ⟨q, hq⟩ : ∃ q, zs.getD j 0 = q := ⟨_, rfl⟩
                rw [hq] at hc'
                have HQ := Lib.hid hq
                clear hq
                have ek : (((j + 1 : Nat) : Int) - 1) = (j : Int) := by omega
                obtain rfl := e1
                by_cases hle : t ≤ q
                · have HS := HBK.out _ rfl (by
                    rw [HOK.out, show decide (j + 1 = 0 ∨ zs.getD (j + 1 - 1) 0 < t) = false from decide_eq_false (by rw [Nat.add_sub_cancel, HQ.out]; omega)]
                    simp)
                  clear HBK
                  go_wp2_with fail
                  refine (isSet_any p t _ hpp.1 hpp.2).mono ?_
                  rintro e w1 ⟨rfl, rfl⟩
                  rw [HSB.out]
                  go_wp2_with fail
                  go_ret
                  exact ⟨congrArg (fun b => Ending.returned (.bool b)) HS.out.symm, HBB.out⟩
                · have HO : Hid (okAt p zs (j + 1) = !worksB (zs.take (j + 1)) t) := by
                    show _ = _
                    rw [HOK.out, HD.out, show decide (j + 1 = 0 ∨ zs.getD (j + 1 - 1) 0 < t) = true from decide_eq_true (.inr (by rw [Nat.add_sub_cancel, HQ.out]; omega)), Bool.true_and, Bool.true_and]
                  have hle' : decide (t ≤ q) = false := decide_eq_false hle
                  go_wp2_with fail
                  refine (isSet_any p t _ hpp.1 hpp.2).mono ?_
                  rintro e w1 ⟨rfl, rfl⟩
                  rw [HSB.out]
                  go_wp2_with fail
                  refine (hasOne_any t _ (j + 1) cap (zs.take ((j + 1))) wr (HR.out.take hkl)).mono ?_
                  rintro e w1 ⟨rfl, b1⟩
                  have HBB1 := Lib.hid (HBB.out.trans (b1.mono HBB.out.size))
                  have HB1 := Lib.hid (hB.out.trans (b1.mono hB.out.size))
                  clear b1
                  cases hw : worksB (zs.take ((j + 1))) t with
                  | true =>
                    have HS := HBK.out _ rfl (by rw [HO.out, hw]; rfl)
                    clear HBK
                    go_wp2_with fail
                    go_ret
                    exact ⟨congrArg (fun b => Ending.returned (.bool b)) HS.out.symm, HBB1.out⟩
                  | false =>
                    have HO1 : Hid (okAt p zs ((j + 1)) = true) := by show _ = _; rw [HO.out, hw]; rfl
                    clear HBK hw
                    go_wp2_with fail
                    go_roundg (gk - 1)
                    case measure => exact HG.out
                    case rel =>
                      refine ⟨(j + 1) + 1, by go_num, HJ, by omega, HB1.out, (show Hid _ from fun i hi => ?_)⟩
                      by_cases e : i = (j + 1)
                      · subst e; exact HO1.out
                      · exact hN.out i (by omega)
        · obtain rfl : k = len := by have := hk.out; omega
          have HS : Hid (sysB p zs = true) := sysB_mk HP.out (by rw [H.out.1]; omega) (by rw [H.out.1]; exact hN.out)
          have HBB := Lib.hid (B0.out.trans (hB.out.mono B0.out.size))
          clear hlt
          go_wp2_with fail
          go_ret
          exact ⟨congrArg (fun b => Ending.returned (.bool b)) HS.out.symm, HBB.out⟩
    · have HS := Lib.hid (sysB_no_len (p := p) (zs := zs) (by rw [H.out.1]; omega))
      by_cases h1 : (len : Int) < 1
      · go_enter Try.func61, Try.ntmps61
        go_wp2_with fail
        refine (areParts_any p _).mono ?_
        rintro e w1 ⟨rfl, rfl⟩
        rw [HP.out]
        go_wp2_with fail
        go_ret
        exact ⟨congrArg (fun b => Ending.returned (.bool b)) HS.out.symm, (Below.refl _ _).alloc (Nat.le_refl _) _⟩
      · have h2 : (64 : Int) < len := by omega
        go_enter Try.func61, Try.ntmps61
        go_wp2_with fail
        refine (areParts_any p _).mono ?_
        rintro e w1 ⟨rfl, rfl⟩
        rw [HP.out]
        go_wp2_with fail
        go_ret
        exact ⟨congrArg (fun b => Ending.returned (.bool b)) HS.out.symm, (Below.refl _ _).alloc (Nat.le_refl _) _⟩
end Go.Proofs.Ytaecdeickncpcaa
