/-
  The library's Compact at 32-bit numbers, over a block of the call's own. Conditions: the numbers are finite and greater than 0.
-/
import Derived.Test.YtplfmdjccmhclabSrtF
import Derived.Test.YtplfmdjccmhclabFOwnW
import Derived.Test.YtplfmdjccmhclabOrd
import Derived.Lib.SlicesCompact
import Derived.Lib.SliceRun
import Derived.Sort.WalkB12
namespace Liv
open Go Go.Sort Dec Flt Go.Lib
def VF (x : Nat) : Prop := posB x = true ∧ x < 4294967296
theorem FArr.set {e : TypeId} {w : World} {g : Nat} {d : Array Nat} (h : FArr e w g d) {i : Nat} (_hi : i < d.size) (x : Nat) : FArr e (w.setCell ⟨g, i, none⟩ (.float .f32 x)) g (d.setIfInBounds i x) := by
  obtain ⟨h1, h2⟩ := h
  refine ⟨by rw [Array.size_setIfInBounds]; exact h1.set _ _, fun t ht => ?_⟩
  rw [Array.size_setIfInBounds] at ht
  have hg : (d.setIfInBounds i x)[t]! = if i = t then x else d[t]! := by
    rw [getElem!_pos (d.setIfInBounds i x) t (by rw [Array.size_setIfInBounds]; exact ht), getElem!_pos d t ht, Array.getElem_setIfInBounds]
  rw [hg]
  by_cases c : i = t
  · subst c
    rw [if_pos rfl]
    obtain ⟨u, hu⟩ := h1.cell ht
    exact World.cell?_setCell_same _ _ _ hu
  · rw [if_neg c, World.cell?_setCell_other _ _ _ _ (by intro e; apply c; injection e with _ e2 _)]
    exact h2 t ht
theorem eq_VF {x y : Nat} (hx : VF x) (hy : VF y) : (FloatKind.f32.format.order x y == some .eq) = decide (x = y) ∧ (FloatKind.f32.format.order x y != some .eq) = !decide (x = y) := by
  obtain ⟨_, _, nx, sx⟩ := pos_bits hx.1 hx.2
  obtain ⟨_, _, ny, sy⟩ := pos_bits hy.1 hy.2
  rw [neB .f32 x y nx ny, eqB .f32 x y nx ny, sx, sy]
  have e : decide ((x : Int) = (y : Int)) = decide (x = y) := by
    by_cases c : x = y
    · rw [decide_eq_true c, decide_eq_true (by omega)]
    · rw [decide_eq_false c, decide_eq_false (by omega)]
  rw [e]; exact ⟨rfl, rfl⟩
/-- the head of a block, as a list -/
def FHead (w : World) (g : Nat) (l : List Nat) : Prop := ∀ j, j < l.length → w.cell? ⟨g, j, none⟩ = some (.float .f32 (l.getD j 0))
theorem FHead.keep {w w' : World} {g : Nat} {l : List Nat} (h : FHead w g l) (hg : g < w.heap.size) (hb : Go.RowKit.Below w.heap.size w w') : FHead w' g l := by
  intro j hj
  rw [World.cell?_of_block (w := w) (hb.block g hg)]; exact h j hj
theorem FHead.row {w : World} {g : Nat} {l : List Nat} (h : FHead w g l) (hg : g < w.heap.size) (hm : l.length ≤ maxLen) (hz : ∀ z ∈ l, z < 4294967296) : FRow w (some ⟨g, 0, none⟩) l.length l :=
  ⟨rfl, hm, hz, fun i hi => ⟨g, 0, rfl, hg, by rw [Nat.zero_add]; exact h i hi⟩⟩
theorem setCells_slots {e : TypeId} {g n : Nat} : ∀ (vs : List Value) (k : Nat) (w : World), Slots w g n e → Slots (w.setCells g k vs) g n e
  | [], _, _, h => h
  | v :: r, k, _, h => setCells_slots r (k + 1) _ (h.set k v)
theorem setCells_below {g B : Nat} (hB : B ≤ g) : ∀ (vs : List Value) (k : Nat) (w : World), Go.RowKit.Below B w (w.setCells g k vs)
  | [], _, _ => Go.RowKit.Below.refl _ _
  | v :: r, k, w => (show Go.RowKit.Below B w (w.setCell { block := g, off := k, spot := none } v) from (Go.RowKit.Below.refl B w).setCell hB v).trans (setCells_below hB r (k + 1) _)
theorem setCells_cell {g j : Nat} : ∀ (vs : List Value) (k : Nat) (w : World), j < k → (w.setCells g k vs).cell? ⟨g, j, none⟩ = w.cell? ⟨g, j, none⟩
  | [], _, _, _ => rfl
  | v :: r, k, _, h => by
    rw [World.setCells, setCells_cell r (k + 1) _ (by omega), World.cell?_setCell_other _ _ _ _ (by intro e; injection e with _ e2 _; omega)]
theorem compact_len_le {α : Type} [Inhabited α] [DecidableEq α] (zs : List α) : (Go.Lib.compact zs).length ≤ zs.length := by
  unfold Go.Lib.compact compactUpTo
  rw [List.length_map]
  exact Nat.le_trans (List.length_filter_le _ _) (by simp)
end Liv
namespace Go.Proofs.Ytplfmdjccmhclab
open Go.RowKit Liv Flt Go.Sort Stb Dec
set_option maxHeartbeats 4000000 in
set_option maxRecDepth 100000 in
theorem compactF_any (g cap n : Nat) (d : Array Nat) (hsz : d.size = n) (w : World) (h : FArr 23 w g d) (hs : Slots w g n 23) (hV : ∀ i, i < d.size → VF d[i]!) (hn : n ≤ 1048576) (hcap : n ≤ cap) :
    Calls Try.prog 122 #[.slice (some ⟨g, 0, none⟩) n cap] w fun e w' => e = .returned (.slice (some ⟨g, 0, none⟩) (Go.Lib.compact d.toList).length cap) ∧ FHead w' g (Go.Lib.compact d.toList) ∧ Slots w' g n 23 ∧ Below g w w' := by
  have mixed : Try.prog.follows .mixedOrders = true := by kernel_rfl
  have H := Lib.hid h
  have HSZ := Lib.hid hsz
  have HV := Lib.hid hV
  have HSl := Lib.hid hs
  have HCe : Hid (Go.Lib.compact d.toList = Go.Lib.compactUpTo d d.size) := by show _ = _; unfold Go.Lib.compact; simp
  have HALL : Hid ((∀ j, j < d.size → Go.Lib.keeps d j = true) → Go.Lib.compact d.toList = d.toList) := Lib.hid fun hall => by rw [HCe.out, Go.Lib.compactUpTo_all d _ hall, Go.Lib.range_map_get]
  clear h hsz hV hs
  by_cases h2 : n < 2
  · have hz : (n : Int) < 2 := by omega
    go_enter Try.func122, Try.ntmps122
    go_wp2_with fail
    go_ret
    have e1 := HALL.out (fun j hj => Go.Lib.keeps_lt_one d j (by have := HSZ.out; omega))
    rw [e1, Array.length_toList]
    refine ⟨by rw [HSZ.out]; rfl, fun j hj => ?_, HSl.out, Below.refl _ _⟩
    have hj' : j < d.size := by simpa using hj
    have := H.out.2 j hj'
    rw [getElem!_pos d j hj'] at this
    simpa [List.getD, hj'] using this
  · have hz : ¬ (n : Int) < 2 := by omega
    go_enter Try.func122, Try.ntmps122
    go_wp2_with fail
    go_loopg [3] n (fun k s3 wr => ∃ i : Nat, s3 = .int .i64 i ∧ 1 ≤ i ∧ i ≤ n ∧ Hid (n - i ≤ k) ∧ Hid (∀ j, j < i → Go.Lib.keeps d j = true) ∧ Hid (FArr 23 wr g d) ∧ Hid (Below g w wr))
    case atStart => exact ⟨1, rfl, Nat.le_refl _, by omega, by show _ ≤ _; omega, Go.Lib.keeps_lt_one d, H.out, Below.refl _ _⟩
    case round =>
      obtain ⟨k, rfl, hk1, hk, hg, hK, hA, hB⟩ := hrel
      by_cases hlt : k < n
      · obtain ⟨kp, rfl⟩ : ∃ kp, k = kp + 1 := ⟨k - 1, by omega⟩
        have hltz : (kp : Int) + 1 < (n : Int) := by omega
        have jz1 : (kp : Int) < (n : Int) := by omega
        have p0 : (0 : Int) ≤ (kp : Int) + 1 := by omega
        have e0 : ((kp : Int) + 1).toNat = kp + 1 := by omega
        have hwp : IntKind.i64.wrap (kp : Int) = (kp : Int) := by rw [IntKind.wrap_i64]; omega
        obtain ⟨x, hx⟩ : ∃ x, d[kp + 1]! = x := ⟨_, rfl⟩
        obtain ⟨y, hy⟩ : ∃ y, d[kp]! = y := ⟨_, rfl⟩
        have HX := Lib.hid hx
        have HY := Lib.hid hy
        have hAg : ∀ m, FArr 23 (wr.drewN m) g d := fun m => hA.out.keep (below_drewN (Below.refl _ wr) m)
        have r1 : ∀ m, (wr.drewN m).cell? ⟨g, kp + 1, none⟩ = some (.float .f32 x) := fun m => by rw [← hx]; exact (hAg m).2 (kp + 1) (by have := HSZ.out; omega)
        have r2 : ∀ m, (wr.drewN m).cell? ⟨g, kp, none⟩ = some (.float .f32 y) := fun m => by rw [← hy]; exact (hAg m).2 kp (by have := HSZ.out; omega)
        have r1' := r1 0
        have r2' := r2 0
        have hq := (eq_VF (x := x) (y := y) (by rw [← hx]; exact HV.out _ (by have := HSZ.out; omega)) (by rw [← hy]; exact HV.out _ (by have := HSZ.out; omega))).1
        have HA := Lib.hid hAg
        have HB : Hid (∀ m, Below g w (wr.drewN m)) := Lib.hid fun m => below_drewN hB.out m
        clear hx hy hAg hA hB
        by_cases hdup : x = y
        · rw [decide_eq_true hdup] at hq
          have HD := Lib.hid hdup
          clear hdup
          go_wp2_with fail
          go_quiet (fail)
          go_wp2_with fail
          have hkcn : kp + 1 ≤ cap := by omega
          have HST : Hid (Go.Lib.CompInv d (kp + 1 + 1) (kp + 1) d) := Lib.hid (Go.Lib.CompInv.start hK.out (Go.Lib.keeps_neg (by omega) (by rw [Nat.add_sub_cancel, HX.out, HY.out]; exact HD.out)))
          clear r1 r2 r1' r2' hq hK hg
          go_loopg [3, 5] n (fun q s3 s5 wr => ∃ (kk k2 : Nat) (dk : Array Nat), s3 = .int .i64 kk ∧ s5 = .int .i64 k2 ∧ 1 ≤ k2 ∧ kp + 1 + k2 ≤ n ∧ kk < kp + 1 + k2 ∧ Hid (n - (kp + 1 + k2) ≤ q) ∧ Hid (Go.Lib.CompInv d (kp + 1 + k2) kk dk) ∧ Hid (FArr 23 wr g dk) ∧ Hid (Below g w wr))
          case atStart => exact ⟨kp + 1, 1, d, rfl, rfl, Nat.le_refl _, by omega, by omega, by show _ ≤ _; omega, HST.out, HA.out _, HB.out _⟩
          case round =>
            clear HA HB HST
            obtain ⟨kk, k2, dk, rfl, rfl, h1, hle, hkk, hg2, hI, hA, hB⟩ := hrel
            have hds : Hid (dk.size = n) := hI.out.size.trans HSZ.out
            by_cases hlt2 : kp + 1 + k2 < n
            · obtain ⟨m, rfl⟩ : ∃ m, k2 = m + 1 := ⟨k2 - 1, by omega⟩
              have hz3 : (m : Int) + 1 < (n : Int) - ((kp : Int) + 1) := by omega
              have hz4 : (m : Int) < (n : Int) - ((kp : Int) + 1) := by omega
              have p1 : (0 : Int) ≤ (m : Int) + 1 := by omega
              have e1 : ((m : Int) + 1).toNat = m + 1 := by omega
              have hwm : IntKind.i64.wrap (m : Int) = (m : Int) := by rw [IntKind.wrap_i64]; omega
              obtain ⟨u, hu⟩ : ∃ u, d[kp + 1 + (m + 1)]! = u := ⟨_, rfl⟩
              obtain ⟨v, hv⟩ : ∃ v, d[kp + 1 + m]! = v := ⟨_, rfl⟩
              have HU := Lib.hid hu
              have HVv := Lib.hid hv
              have hAg : ∀ m, FArr 23 (wr.drewN m) g dk := fun m => hA.out.keep (below_drewN (Below.refl _ wr) m)
              have hh := hI.out.high
              have r1 : ∀ q, (wr.drewN q).cell? ⟨g, kp + 1 + (m + 1), none⟩ = some (.float .f32 u) := fun q => by rw [← hu, ← hh _ (by omega)]; exact (hAg q).2 _ (by have := hds.out; omega)
              have r2 : ∀ q, (wr.drewN q).cell? ⟨g, kp + 1 + m, none⟩ = some (.float .f32 v) := fun q => by rw [← hv, ← hh _ (by omega)]; exact (hAg q).2 _ (by have := hds.out; omega)
              have hq := (eq_VF (x := u) (y := v) (by rw [← hu]; exact HV.out _ (by have := HSZ.out; omega)) (by rw [← hv]; exact HV.out _ (by have := HSZ.out; omega))).2
              have HA := Lib.hid hAg
              have HB : Hid (∀ m, Below g w (wr.drewN m)) := Lib.hid fun m => below_drewN hB.out m
              clear hu hv hAg hA hB hh
              by_cases huv : u = v
              · rw [decide_eq_true huv] at hq
                have HI2 := Lib.hid (hI.out.skip (Go.Lib.keeps_neg (by omega) (by rw [HU.out, show kp + 1 + (m + 1) - 1 = kp + 1 + m by omega, HVv.out]; exact huv)))
                clear hI huv
                go_wp2_with fail
                go_quiet (fail)
                go_wp2_with fail
                go_roundg (n - (kp + 1 + (m + 1 + 1)))
                case measure => have := hg2.out; omega
                case rel => exact ⟨kk, m + 1 + 1, dk, rfl, by go_num, by omega, by omega, by omega, Nat.le_refl _, by rw [show kp + 1 + (m + 1 + 1) = kp + 1 + (m + 1) + 1 by omega]; exact HI2.out, HA.out _, HB.out _⟩
              · rw [decide_eq_false huv] at hq
                have HI2 := Lib.hid (hI.out.keep (by have := HSZ.out; omega) (Go.Lib.keeps_pos (by rw [HU.out, show kp + 1 + (m + 1) - 1 = kp + 1 + m by omega, HVv.out]; exact huv)))
                rw [HU.out] at HI2
                have HKS : Hid (kk < dk.size) := by have := hds.out; show _ < _; omega
                have hkz : (kk : Int) < (n : Int) := by omega
                have HA2 : Hid (∀ q, FArr 23 ((wr.drewN q).setCell ⟨g, kk, none⟩ (.float .f32 u)) g (dk.setIfInBounds kk u)) := Lib.hid fun q => (HA.out q).set HKS.out u
                have HB2 : Hid (∀ q, Below g w ((wr.drewN q).setCell ⟨g, kk, none⟩ (.float .f32 u))) := Lib.hid fun q => (HB.out q).setCell (Nat.le_refl _) _
                have c1 : ∀ q, (wr.drewN q).cell? ⟨g, kk, none⟩ = some (.float .f32 dk[kk]!) := fun q => (HA.out q).2 kk HKS.out
                have f1 : ∀ q, (wr.drewN q).frozen? ⟨g, kk, none⟩ = false := fun q => (HA.out q).1.frozen kk
                generalize dk[kk]! = old at c1
                clear hI huv
                go_wp2_with fail
                go_quiet (fail)
                go_wp2_with fail
                go_roundg (n - (kp + 1 + (m + 1 + 1)))
                case measure => have := hg2.out; omega
                case rel => exact ⟨kk + 1, m + 1 + 1, _, by go_num, by go_num, by omega, by omega, by omega, Nat.le_refl _, by rw [show kp + 1 + (m + 1 + 1) = kp + 1 + (m + 1) + 1 by omega]; exact HI2.out, HA2.out _, HB2.out _⟩
            · have hz3 : ¬ (k2 : Int) < (n : Int) - ((kp : Int) + 1) := by omega
              have hend : kp + 1 + k2 = n := by omega
              have hkn : kk < n := by omega
              have hsl := hA.out.1
              have hds' := hds.out
              rw [hds'] at hsl
              have hcl : ∀ ty, (Builtin.clear_ #[33] ty #[.slice (some ⟨g, kk, none⟩) (n - kk) (cap - kk)]).run Try.prog wr = .ok (.tuple #[]) (wr.setCells g kk (List.replicate (n - kk) (.float .f32 0))) :=
                fun ty => Lib.run_clear_slice wr _ _ ty _ Try.underlying33 (by intro w; kernel_rfl) rfl rfl g kk _ _ (by omega) (fun j hj => by rw [hA.out.2 (kk + j) (by omega)]; rfl) (fun j hj => hsl.frozen _)
              have HF : Hid (kk = (Go.Lib.compact d.toList).length ∧ FHead (wr.setCells g kk (List.replicate (n - kk) (.float .f32 0))) g (Go.Lib.compact d.toList)) := by
                have hI' := hI.out
                rw [hend, ← HSZ.out] at hI'
                have hl := hI'.len
                rw [← HCe.out] at hl
                refine ⟨hl.symm, fun j hj => ?_⟩
                have hjk : j < kk := by omega
                have hlow := hI'.low j hjk
                rw [← HCe.out] at hlow
                rw [setCells_cell _ _ _ hjk, hA.out.2 j (by omega)]
                simp [List.getD, hlow]
              have HS2 := Lib.hid (setCells_slots (List.replicate (n - kk) (.float .f32 0)) kk wr hsl)
              have HB2 := Lib.hid (hB.out.trans (setCells_below (Nat.le_refl g) (List.replicate (n - kk) (.float .f32 0)) kk wr))
              clear hsl hds' hI hA hB hend
              go_wp2_with fail
              go_ret
              exact ⟨by rw [← HF.out.1]; rfl, HF.out.2, HS2.out, HB2.out⟩
        · rw [decide_eq_false hdup] at hq
          have HK2 : Hid (∀ j, j < kp + 1 + 1 → Go.Lib.keeps d j = true) := Lib.hid fun j hj => by
            by_cases e : j = kp + 1
            · subst e; exact Go.Lib.keeps_pos (by rw [Nat.add_sub_cancel, HX.out, HY.out]; exact hdup)
            · exact hK.out j (by omega)
          clear hK hdup
          go_wp2_with fail
          go_quiet (fail)
          go_wp2_with fail
          go_roundg (n - (kp + 1 + 1))
          case measure => have := hg.out; omega
          case rel => exact ⟨kp + 1 + 1, by go_num, by omega, by omega, Nat.le_refl _, HK2.out, HA.out _, HB.out _⟩
      · obtain rfl : k = n := by omega
        have hz2 : ¬ (k : Int) < (k : Int) := by omega
        clear hlt
        go_wp2_with fail
        go_ret
        have e1 := HALL.out (fun j hj => hK.out j (by have := HSZ.out; omega))
        rw [e1, Array.length_toList]
        refine ⟨by rw [HSZ.out]; rfl, fun j hj => ?_, by have := hA.out.1; rw [HSZ.out] at this; exact this, hB.out⟩
        have hj' : j < d.size := by simpa using hj
        have := hA.out.2 j hj'
        rw [getElem!_pos d j hj'] at this
        simpa [List.getD, hj'] using this
end Go.Proofs.Ytplfmdjccmhclab
