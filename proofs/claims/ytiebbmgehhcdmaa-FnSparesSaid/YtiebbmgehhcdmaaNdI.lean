/-
  How likely needs are, in the program; how many spares serve. Conditions: numbers are words of 32 bits.
-/
import Derived.Test.YtiebbmgehhcdmaaNdW
namespace Flt.Nd
open Go Flt Dec Liv
/-- the first numbers of a block -/
def FHead1 (w : World) (g : Nat) (l : List Nat) : Prop := ∀ j, j < l.length → w.cell? ⟨g, j, none⟩ = some (.float .f32 (l.getD j 0))
theorem FHead1.snoc {w : World} {g n : Nat} {e : TypeId} {l : List Nat} (h : FHead1 w g l) (hs : Slots w g n e) (hk : l.length < n) (x : Nat) : FHead1 (w.setCell ⟨g, l.length, none⟩ (.float .f32 x)) g (l ++ [x]) := by
  obtain ⟨u, hu⟩ := hs.cell hk
  intro j hj
  rw [List.length_append] at hj
  by_cases hjl : j = l.length
  · subst hjl
    rw [World.cell?_setCell_same _ _ _ hu]
    simp [List.getD]
  · have hj2 : j < l.length := by simp at hj; omega
    rw [World.cell?_setCell_other _ _ _ _ (by intro e; injection e with _ e2 _; omega), h j hj2]
    simp [List.getD, List.getElem?_append_left hj2]
theorem slots_made (w : World) (e : TypeId) (cs : Array Value) (n : Nat) (hn : n ≤ cs.size) : Slots (w.alloc (.cells cs e)) w.heap.size n e := ⟨cs, by show (w.heap.push _)[w.heap.size]? = _; simp, hn⟩
theorem set_made (w : World) (e : TypeId) (cs : Array Value) (v : Value) : (w.alloc (.cells cs e)).setCell ⟨w.heap.size, 0, none⟩ v = w.alloc (.cells (cs.setIfInBounds 0 v) e) := by simp [go_sem]
theorem fhead_one {w : World} {g n : Nat} {e : TypeId} (hs : Slots w g n e) (hn : 0 < n) (x : Nat) : FHead1 (w.setCell ⟨g, 0, none⟩ (.float .f32 x)) g [x] := by
  obtain ⟨u, hu⟩ := hs.cell hn
  intro j hj
  have : j = 0 := by simp at hj; omega
  subst this
  rw [World.cell?_setCell_same _ _ _ hu]
  rfl
end Flt.Nd
namespace Go.Proofs.Ytiebbmgehhcdmaa
open Go.RowKit Flt Dec Cm Nd Liv
set_option maxHeartbeats 4000000 in
set_option maxRecDepth 100000 in
theorem iNeedYes_any (m n : Nat) (hm : mean m) (hq : mn m = true) (hn : n ≤ 32) (w : World) :
    Calls Try.prog 11 #[.float .f32 m, .int .i64 n] w fun e w' => (∃ a c, e = .returned (.tuple #[.slice a (n + 1) c, .bool true]) ∧ FRow w' a (n + 1) (ndL m (n + 1)) ∧ Dec.Own w' w.heap.size a (n + 1) 22) ∧ Below w.heap.size w w' := by
  obtain ⟨e1, e2, e3, _⟩ := ex_ok hm
  have r0 : ∀ w, (binOp .sub 22 (.float .f32 0) (.float .f32 m)).run Try.prog w = .ok (.float .f32 (lessM m)) w := fun w => run_float_arith w .sub 22 .f32 _ _ _ e1
  have C := fun w => Lib.hid (implExp_some (lessM m) (exM m) e2.num e2.c1 e2.c2 e3 w)
  have HQ := Lib.hid hq
  have HST : Hid (∀ k, k < 32 → Go.floatBits .mul .f32 (nd m k) m = some (mulM m (nd m k)) ∧ Go.floatBits .quo .f32 (mulM m (nd m k)) (Go.floatOfInt .f32 ((k + 1 : Nat) : Int)) = some (nd m (k + 1))) := Lib.hid fun k hk => nd_step hm k hk
  have HALL := Lib.hid (ndL_fin hm (show n + 1 ≤ 33 by omega))
  have HLT : Hid (∀ z ∈ ndL m (n + 1), z < 4294967296) := Lib.hid (ndL_lt hm (show n + 1 ≤ 33 by omega))
  have HFST : Hid (ndL m 1 = [exM m]) := Lib.hid rfl
  clear e1 e2 e3 hm hq
  generalize lessM m = x0 at *
  have hmk : ∀ w, (Instr.makeSlice 23 (.int .i64 ((n : Int) + 1)) (.int .i64 ((n : Int) + 1))).run Try.prog w = .ok (.slice (some ⟨w.heap.size, 0, none⟩) (n + 1) (n + 1)) (w.alloc (.cells (madeCells (Value.float .f32 0).cells ((n + 1) * 1)) 22)) := by
    intro w
    obtain ⟨i, hi, hz0, hz1, hz2⟩ := info_parts (show (Try.prog.info? 22).map (fun i => (i.zero, i.size, i.bytes)) = some (some (.float .f32 0), 1, 4) by kernel_rfl)
    have := run_make (P := Try.prog) w 23 22 i (.float .f32 0) Try.underlying23 hi hz0 .i64 .i64 ((n + 1 : Nat) : Int) ((n + 1 : Nat) : Int) (by omega) (Int.le_refl _) (by rw [hz2]; omega) (by omega)
    rw [hz1, Int.toNat_natCast] at this
    exact this
  have HMD : Hid (∀ w : World, Slots (w.alloc (.cells (madeCells (Value.float .f32 0).cells ((n + 1) * 1)) 22)) w.heap.size (n + 1) 22) := Lib.hid fun w => slots_made w 22 _ (n + 1) (by simp [madeCells])
  generalize madeCells (Value.float .f32 0).cells ((n + 1) * 1) = C0 at *
  have HS0 := Lib.hid (HMD.out w)
  have HS1 := Lib.hid (HS0.out.set 0 (.float .f32 (exM m)))
  have HF1 : Hid (FHead1 ((w.alloc (.cells C0 22)).setCell ⟨w.heap.size, 0, none⟩ (.float .f32 (exM m))) w.heap.size (ndL m 1)) := by
    show FHead1 _ _ _
    rw [HFST.out]
    exact fhead_one HS0.out (Nat.succ_pos n) _
  have HB1 : Hid (Below w.heap.size w ((w.alloc (.cells C0 22)).setCell ⟨w.heap.size, 0, none⟩ (.float .f32 (exM m)))) := ((Below.refl _ _).alloc (Nat.le_refl _) _).setCell (p := ⟨w.heap.size, 0, none⟩) (Nat.le_refl _) _
  obtain ⟨u0, hu0⟩ := HS0.out.cell (Nat.succ_pos n)
  rw [set_made] at HS1 HF1 HB1
  have hfr0 := HS0.out.frozen 0
  have hnl : ¬ ((n : Int) < 0) := by omega
  have hng : ¬ ((n : Int) > 32) := by omega
  clear HMD
  go_enter Try.func11, Try.ntmps11
  go_wp2_with fail
  refine (c_implMean m _).mono ?_
  rintro e w1 ⟨rfl, rfl⟩
  rw [HQ.out]
  go_wp2_with fail
  refine (C _).out.mono ?_
  rintro e w1 ⟨rfl, rfl⟩
  go_wp2_with fail
  clear hu0 hfr0
  go_loopg [7] n (fun q i wr => ∃ k : Nat, i = .int .i64 ((k : Int) + 1) ∧ Hid (k + q = n) ∧ k ≤ n ∧ Hid (Slots wr w.heap.size (n + 1) 22) ∧ Hid (FHead1 wr w.heap.size (ndL m (k + 1))) ∧ Hid (Below w.heap.size w wr))
  case atStart => exact ⟨0, rfl, by show _ = _; omega, Nat.zero_le _, HS1.out, HF1.out, HB1.out⟩
  case round =>
    obtain ⟨k, rfl, hk, hkl, hS, hF, hB⟩ := hrel
    by_cases hlt : k < n
    · have hlz : (k : Int) + 1 ≤ (n : Int) := by omega
      have hc := hF.out k (by rw [ndL_len]; omega)
      rw [ndL_get _ _ _ (Nat.lt_succ_self k)] at hc
      have HJ : Hid (k + 1 + (gk - 1) = n) := by have := hk.out; show _ = _; omega
      have HG : Hid (gk - 1 < gk) := by have := hk.out; show _ < _; omega
      obtain ⟨hs1, hs2⟩ := HST.out k (by omega)
      have hr1 : ∀ w, (binOp .mul 22 (.float .f32 (nd m k)) (.float .f32 m)).run Try.prog w = .ok (.float .f32 (mulM m (nd m k))) w := fun w => run_float_arith w .mul 22 .f32 _ _ _ hs1
      have hr2 : ∀ w, (binOp .quo 22 (.float .f32 (mulM m (nd m k))) (.float .f32 (floatOfInt .f32 ((k : Int) + 1)))).run Try.prog w = .ok (.float .f32 (nd m (k + 1))) w := fun w => run_float_arith w .quo 22 .f32 _ _ _ hs2
      obtain ⟨u, hu⟩ := hS.out.cell (show k + 1 < n + 1 by omega)
      have hfr := hS.out.frozen (k + 1)
      have HS3 := Lib.hid (hS.out.set (k + 1) (.float .f32 (nd m (k + 1))))
      have HF3 : Hid (FHead1 (wr.setCell ⟨w.heap.size, k + 1, none⟩ (.float .f32 (nd m (k + 1)))) w.heap.size (ndL m (k + 1 + 1))) := by
        have := FHead1.snoc hF.out hS.out (by rw [ndL_len]; omega) (nd m (k + 1))
        rw [ndL_len] at this
        show FHead1 _ _ _
        rw [ndL_snoc m (k + 1)]
        exact this
      have HB3 := Lib.hid (hB.out.setCell (p := ⟨w.heap.size, k + 1, none⟩) (Nat.le_refl _) (.float .f32 (nd m (k + 1))))
      generalize mulM m (nd m k) = u1 at *
      generalize nd m k = v at *
      generalize nd m (k + 1) = v1 at *
      clear hS hF hB hs1 hs2
      go_wp2_with fail
      go_roundg (gk - 1)
      case measure => exact HG.out
      case rel => exact ⟨k + 1, by go_num, HJ, by omega, HS3.out, HF3.out, HB3.out⟩
    · obtain rfl : k = n := by have := hk.out; omega
      have HR : Hid (FRow wr (some ⟨w.heap.size, 0, none⟩) (k + 1) (ndL m (k + 1))) := by
        refine ⟨ndL_len _ _, by unfold maxLen; omega, HLT.out, fun j hj => ⟨w.heap.size, 0, rfl, hS.out.lt, ?_⟩⟩
        rw [Nat.zero_add]
        exact hF.out j (by rw [ndL_len]; exact hj)
      have HS := Lib.hid hS.out
      have HB := Lib.hid hB.out
      clear hlt hS hF hB
      go_wp2_with fail
      refine (onlyFin_any _ (k + 1) (k + 1) _ _ HR.out).mono ?_
      rintro e w2 ⟨rfl, b2⟩
      rw [if_pos HALL.out]
      have R2 := Lib.hid (HR.out.keep b2)
      have S2 := Lib.hid (HS.out.keep b2)
      have B2 := Lib.hid (HB.out.trans (b2.mono HB.out.size))
      clear b2
      go_wp2_with fail
      go_ret2
      exact ⟨⟨_, _, rfl, R2.out, .inr ⟨_, rfl, Nat.le_refl _, S2.out⟩⟩, B2.out⟩
theorem iNeedShares_any (m : Nat) (n : Int) (w : World) (hm : m < 4294967296) :
    Calls Try.prog 11 #[.float .f32 m, .int .i64 n] w fun e w' => (∃ a c, e = .returned (.tuple #[.slice a (ndA m n).length c, .bool (ndB m n)]) ∧ FRow w' a (ndA m n).length (ndA m n) ∧ Dec.Own w' w.heap.size a (ndA m n).length 22) ∧ Below w.heap.size w w' := by
  cases hq : mn m with
  | false =>
    have hb : ndB m n = false := by unfold ndB; rw [hq]; rfl
    rw [ndA_no hb, hb]
    clear hb
    have HQ := Lib.hid hq
    clear hq
    go_enter Try.func11, Try.ntmps11
    go_wp2_with fail
    refine (c_implMean m _).mono ?_
    rintro e w1 ⟨rfl, rfl⟩
    rw [HQ.out]
    go_wp2_with fail
    go_ret2
    exact ⟨⟨_, _, rfl, frow_nil _ _, .inl rfl⟩, Below.refl _ _⟩
  | true =>
    have HM := mean_of hm hq
    by_cases hn : 0 ≤ n ∧ n ≤ 32
    · obtain ⟨j, rfl⟩ : ∃ j : Nat, n = j := ⟨n.toNat, by omega⟩
      have hj : j ≤ 32 := by omega
      obtain ⟨hb, ha⟩ := ndA_yes hq hj
      rw [hb, ha, ndL_len]
      exact iNeedYes_any m j HM hq hj w
    · have hb : ndB m n = false := by unfold ndB; rw [decide_eq_false hn]; exact Bool.and_false _
      rw [ndA_no hb, hb]
      have HQ := Lib.hid hq
      clear hb hq HM
      by_cases h0 : n < 0
      · clear hn
        go_enter Try.func11, Try.ntmps11
        go_wp2_with fail
        refine (c_implMean m _).mono ?_
        rintro e w1 ⟨rfl, rfl⟩
        rw [HQ.out]
        go_wp2_with fail
        go_ret2
        exact ⟨⟨_, _, rfl, frow_nil _ _, .inl rfl⟩, Below.refl _ _⟩
      · have h1 : 32 < n := by omega
        clear hn
        go_enter Try.func11, Try.ntmps11
        go_wp2_with fail
        refine (c_implMean m _).mono ?_
        rintro e w1 ⟨rfl, rfl⟩
        rw [HQ.out]
        go_wp2_with fail
        go_ret2
        exact ⟨⟨_, _, rfl, frow_nil _ _, .inl rfl⟩, Below.refl _ _⟩
theorem sumOf_some (a : Option Addr) (len cap : Nat) (zs : List Nat) (s : Nat) (w : World) (h : FRow w a len zs) (hn : len ≤ 256) (hs : sumO zs = some s) :
    Calls Try.prog 52 #[.slice a len cap] w fun e w' => e = .returned (.float .f32 s) ∧ Drawn w w' := by
  have H := Lib.hid h
  have HS := Lib.hid hs
  clear h hs
  go_enter Try.func52, Try.ntmps52
  go_wp2_with fail
  refine (implSum_yes a len cap zs _ H.out hn).mono ?_
  rintro e w1 ⟨v, rfl, hi, d1⟩
  obtain rfl : v = s := by rw [HS.out] at hi; exact hi.1
  clear hi
  go_wp2_with fail
  go_ret
  exact ⟨rfl, d1⟩
/-- how likely at most so many needs are, if that can be told -/
def srA (m : Nat) (n : Int) : Nat := if ndB m n then srv m (n.toNat + 1) else 0
set_option maxHeartbeats 1600000 in
theorem shareNeeds_any (m : Nat) (n : Int) (w : World) (hm : m < 4294967296) :
    Calls Try.prog 45 #[.float .f32 m, .int .i64 n] w fun e w' => e = .returned (.tuple #[.float .f32 (srA m n), .bool (ndB m n)]) ∧ Below w.heap.size w w' := by
  cases hb : ndB m n with
  | false =>
    have HA : Hid (srA m n = 0) := by show _ = _; unfold srA; rw [hb]; rfl
    have HB := Lib.hid hb
    clear hb
    rw [HA.out]
    go_enter Try.func45, Try.ntmps45
    go_wp2_with fail
    refine (iNeedShares_any m n _ hm).mono ?_
    rintro e w1 ⟨⟨a, c, rfl, _, _⟩, b1⟩
    rw [HB.out, ndA_no HB.out]
    go_wp2_with fail
    go_ret2
    exact ⟨rfl, b1⟩
  | true =>
    have hq : mn m = true ∧ 0 ≤ n ∧ n ≤ 32 := by unfold ndB at hb; rw [Bool.and_eq_true, decide_eq_true_eq] at hb; exact hb
    have HM := Lib.hid (mean_of hm hq.1)
    obtain ⟨j, rfl⟩ : ∃ j : Nat, n = j := ⟨n.toNat, by omega⟩
    have hj : j ≤ 32 := by omega
    have HA : Hid (srA m j = srv m (j + 1)) := by show _ = _; unfold srA; rw [hb]; rfl
    have HL : Hid (ndA m j = ndL m (j + 1)) := (ndA_yes hq.1 hj).2
    have HB := Lib.hid hb
    have HFN := Lib.hid (srv_fin HM.out (show j + 1 ≤ 33 by omega))
    have HSM := Lib.hid (sumO_ndL HM.out (j + 1) (by omega))
    clear hb hq
    rw [HA.out]
    go_enter Try.func45, Try.ntmps45
    go_wp2_with fail
    refine (iNeedShares_any m j _ hm).mono ?_
    rintro e w1 ⟨⟨a, c, rfl, hr, _⟩, b1⟩
    rw [HL.out, ndL_len] at hr
    rw [HB.out, HL.out, ndL_len]
    have R1 := Lib.hid hr
    have B1 := Lib.hid b1
    clear hr b1
    go_wp2_with fail
    refine (sumOf_some a (j + 1) c _ _ _ R1.out (by omega) HSM.out).mono ?_
    rintro e w2 ⟨rfl, d2⟩
    have B2 := Lib.hid (B1.out.trans (d2.below _))
    clear d2
    go_wp2_with fail
    refine (c_onlyFinite _ _).mono ?_
    rintro e w3 ⟨rfl, d3⟩
    rw [HFN.out, if_pos rfl]
    have B3 := Lib.hid (B2.out.trans (d3.below _))
    clear d3
    go_wp2_with fail
    go_ret2
    exact ⟨rfl, B3.out⟩
end Go.Proofs.Ytiebbmgehhcdmaa
