/-
  The sets with which something is so, one behind the other: the program's iterator, by its contract. Conditions: from 1 to 10 parts; the test answers for each set.
-/
import Derived.RangeFuncNested
import Derived.RangeFuncBound
import Derived.RangeFuncCalls
import Derived.RangeFuncLeaves
import Derived.RangeFuncFrom
import Derived.Shelf.Abstract
import Derived.Shelf.RegionOpen
import Derived.WalkKit
import Derived.OwnWalkIn
import Derived.TacticsInMore
import Derived.LoopNIn
import Derived.LoopIn
import Derived.Test.YtaecdeickncpcaaLstW
namespace Syl
open Go Dec
/-- the sets below 'k' with which it is so -/
def setsF (T : Nat) (is : Int → Bool) : Nat → List (Fin T)
  | 0 => []
  | k + 1 => if h : k < T then (if is (k : Int) then setsF T is k ++ [⟨k, h⟩] else setsF T is k) else setsF T is k
theorem setsF_yes {T : Nat} {is : Int → Bool} {k : Nat} (h : k < T) (hi : is (k : Int) = true) : setsF T is (k + 1) = setsF T is k ++ [⟨k, h⟩] := by rw [setsF, dif_pos h, if_pos hi]
theorem setsF_no {T : Nat} {is : Int → Bool} {k : Nat} (h : k < T) (hi : is (k : Int) = false) : setsF T is (k + 1) = setsF T is k := by rw [setsF, dif_pos h, if_neg (by rw [hi]; decide)]
theorem setsF_len (T : Nat) (is : Int → Bool) (k : Nat) : (setsF T is k).length ≤ k := by
  induction k with
  | zero => simp [setsF]
  | succ k ih =>
    rw [setsF]
    split
    · split
      · rw [List.length_append]; simp; omega
      · omega
    · omega
/-- what a round keeps -/
def KpS (C : World → Prop) (g1 g2 : Nat) (W W' : World) : Prop := (C W → C W') ∧ W'.heap[g1]? = W.heap[g1]? ∧ W'.heap[g2]? = W.heap[g2]?
theorem kpS_refl (C : World → Prop) (g1 g2 : Nat) (W : World) : KpS C g1 g2 W W := ⟨id, rfl, rfl⟩
theorem kpS_t {C : World → Prop} {g1 g2 : Nat} {A B D : World} (h : KpS C g1 g2 A B) (k : KpS C g1 g2 B D) : KpS C g1 g2 A D := ⟨fun h0 => k.1 (h.1 h0), k.2.1.trans h.2.1, k.2.2.trans h.2.2⟩
theorem kpS_of {C : World → Prop} {g1 g2 : Nat} {A B : World} (hC : ∀ W W' : World, Go.RowKit.Below W.heap.size W W' → C W → C W') (h : Go.RowKit.Below A.heap.size A B) (h1 : g1 < A.heap.size) (h2 : g2 < A.heap.size) : KpS C g1 g2 A B := ⟨hC A B h, h.block g1 h1, h.block g2 h2⟩
theorem kpS_b {C : World → Prop} {g1 g2 : Nat} {w : World} (hC : ∀ (W : World) (l : Nat) (o o' : Obj), w.heap.size ≤ l → W.heap[l]? = some o → o.isCells = false → C W → C (W.putObj l o')) (h1 : g1 < w.heap.size) (h2 : g2 < w.heap.size) (W : World) (l : Nat) (o o' : Obj) (hl : w.heap.size ≤ l) (h : W.heap[l]? = some o) (h3 : o.isCells = false) (_ : o.isWalk = false) : KpS C g1 g2 W (W.putObj l o') :=
  ⟨hC W l o o' hl h h3, World.putObj_heap_other (by omega), World.putObj_heap_other (by omega)⟩
theorem kpS_set {C : World → Prop} {g1 g2 g : Nat} (W : World) (j : Nat) (v : Value) (hC : C W → C (W.setCell ⟨g, j, none⟩ v)) (h1 : g ≠ g1) (h2 : g ≠ g2) : KpS C g1 g2 W (W.setCell ⟨g, j, none⟩ v) :=
  ⟨hC, heap_setCell_other W ⟨g, j, none⟩ g1 v (Ne.symm h1), heap_setCell_other W ⟨g, j, none⟩ g2 v (Ne.symm h2)⟩
theorem kpS_drew {C : World → Prop} {g1 g2 : Nat} {W W' : World} (hC : ∀ W : World, C W → C W.drew) (h : KpS C g1 g2 W W') : KpS C g1 g2 W W'.drew := ⟨fun h0 => hC _ (h.1 h0), h.2.1, h.2.2⟩
/-- what lies below 'n' is as it was: such a condition -/
theorem belowC (n : Nat) (w : World) (hn : n ≤ w.heap.size) : ∀ W W' : World, Go.RowKit.Below W.heap.size W W' → Go.RowKit.Below n w W → Go.RowKit.Below n w W' := fun _ _ h h0 => h0.trans (h.mono (Nat.le_trans hn h0.size))
theorem belowP (n : Nat) (w w1 : World) (hn : n ≤ w1.heap.size) (W : World) (l : Nat) (o o' : Obj) (hl : w1.heap.size ≤ l) (h : W.heap[l]? = some o) (_ : o.isCells = false) (h0 : Go.RowKit.Below n w W) : Go.RowKit.Below n w (W.putObj l o') :=
  h0.trans ((Go.RowKit.Below.refl n W).grown (grownBy_putObj' W l o') (by have := (Array.getElem?_eq_some_iff.1 h).1; omega) (fun k e => by cases e; omega))
theorem keepsO_of_below {W W' : World} (h : Go.RowKit.Below W.heap.size W W') : KeepsOthers W W' := KeepsOthers.of_grownBy (row := none) ⟨h.os, h.tape, h.output, h.size, fun k hk _ => h.block k hk⟩ (fun j o e => by cases e)
/-- a block of cells stays where another object is turned -/
theorem _root_.Blk.Blk.grown {W W' : World} {row : Option Nat} {g : Nat} {cs : List Value} {t : TypeId} (h : Blk.Blk W g cs t) (hg : W.grownBy W' row) (hr : ∀ r, row = some r → ∃ o : Obj, W.heap[r]? = some o ∧ o.isCells = false) : Blk.Blk W' g cs t := by
  unfold Blk.Blk
  rw [hg.block g h.lt (fun e => by
    obtain ⟨o, ho, hc⟩ := hr g e.symm
    unfold Blk.Blk at h
    rw [h] at ho; cases ho; cases hc)]
  exact h
theorem grown_of_below {W W' : World} (h : Go.RowKit.Below W.heap.size W W') : W.grownBy W' none := ⟨h.os, h.tape, h.output, h.size, fun k hk _ => h.block k hk⟩
end Syl
namespace Go.Proofs.Ytaecdeickncpcaa
open Go.RowKit Go.Shelf Dec Flt Syl Sep
attribute [local go_sem] Oper.semAt_some
/-- what is asked of a test of sets, in worlds of a kind -/
def TestsC (n : Int) (p : Int → Bool) (g : Nat) (lb : Array Value) (C : World → Prop) : Prop :=
  ∀ (W : World) (t : Int), 0 ≤ t → t < n → C W → Calls Try.prog g (#[.int .i64 t] ++ lb) W fun e w' => e = .returned (.bool (p t)) ∧ Below W.heap.size W w'
set_option maxRecDepth 100000 in
set_option maxHeartbeats 4000000 in
theorem sets1_in (n : Nat) (hn : 1 ≤ n) (p T : Nat) (hT : 2 ^ p = T) (is : Int → Bool) (g : Nat) (lb : Array Value) (eg : ∀ args w, (callFunc g args).run Try.prog w = .ok (.enter g args) w) (C : World → Prop) (hC : ∀ W W' : World, Below W.heap.size W W' → C W → C W') (hp1 : 1 ≤ p) (hp2 : p ≤ 10) (hi : TestsC (two p) is g lb C) (l g1 g2 : Nat)
    (J Jx : List (Fin T) → World → Prop) (W : World) (hB : C W) (hJ : AbidesFrom W.heap.size J)
    (hY : ∀ pre x W1, J pre W1 → pre.length < T → YieldAt Fence.wide (n - 1) Try.prog l #[.int .i64 ((x : Fin T).val : Int)] W1 fun e W' =>
      (e = .returned (.bool true) ∧ J (pre ++ [x]) W' ∧ (KpS C g1 g2 W1 W' ∧ W1.heap.size ≤ W'.heap.size)) ∨ (e = .returned (.bool false) ∧ Jx (pre ++ [x]) W'))
    (h1 : Blk.Blk W g1 [.int .i64 (p : Int)] 2) (h2 : W.heap[g2]? = some (.cells #[.func (.func g) #[] lb] 80 (0, 0))) (h0 : J [] W) :
    CallsIn Fence.wide n Try.prog 108 #[.func (.yield l) #[] #[], .pointer (some ⟨g1, 0, none⟩), .pointer (some ⟨g2, 0, none⟩)] W fun e W' => (∃ v, e = .returned v) ∧
      ((∃ xs, xs = setsF T is T ∧ J xs W') ∨ (∃ pre : List (Fin T), True ∧ Jx pre W')) := by
  have HI := Lib.hid hi
  have ht := two_bd p (by omega) (by omega)
  have hTT : two p = (T : Int) := by unfold two; rw [← hT, Int.toNat_natCast]; simp
  rw [hTT] at ht
  have HTT := Lib.hid hTT
  have hw : IntKind.i64.wrap (1 * 2 ^ p) = (T : Int) := by rw [Int.one_mul, ← hT]; rw [show ((2 ^ p : Nat) : Int) = (2 : Int) ^ p from by simp]; exact wrap_i64 _ (by rw [← show ((2 ^ p : Nat) : Int) = (2 : Int) ^ p from by simp, hT]; omega) (by rw [← show ((2 ^ p : Nat) : Int) = (2 : Int) ^ p from by simp, hT]; omega)
  have hw2 : IntKind.i64.wrap (2 ^ p) = (T : Int) := by rw [← hw, Int.one_mul]
  clear hT hTT hi
  have hc1 := h1.cell 0
  have hc2 : W.cell? ⟨g2, 0, none⟩ = some (.func (.func g) #[] lb) := by simp [World.cell?, h2]
  have HK := Lib.hid h1
  have HK2 := Lib.hid h2
  have HJA := Lib.hid hJ
  have HB0 := Lib.hid hB
  have HCC := Lib.hid hC
  clear h1 h2 hJ hB hC
  refine callsIn_of_wp Try.func108 rfl trivial ?_ rfl
  simp only [Try.ntmps108, List.size_toArray, List.length_cons, List.length_nil, Nat.reduceAdd, Nat.reduceSub, Array.replicate_succ, Array.replicate_zero, List.push_toArray, List.append_toArray, List.nil_append, List.cons_append]
  gi_wp2
  gi_loopw [7] (fun i wr => ∃ k : Nat, k ≤ T ∧ i = .int .i64 k ∧ J (setsF T is k) wr ∧ Hid (KpS C g1 g2 W wr) ∧ Hid (W.heap.size ≤ wr.heap.size)) (fun i _ => T - (intOf i).toNat)
  case atStart => exact ⟨0, Nat.zero_le _, rfl, h0, kpS_refl _ _ _ _, Nat.le_refl _⟩
  case round =>
    obtain ⟨k, hk, rfl, hJs, hkp, hsz⟩ := hrel
    by_cases hlt : k < T
    · have hcell1 : wr.cell? ⟨g1, 0, none⟩ = some (.int .i64 (p : Int)) := by rw [World.cell?_of_block (w := W) hkp.out.2.1]; exact hc1
      have hcell2 : wr.cell? ⟨g2, 0, none⟩ = some (.func (.func g) #[] lb) := by rw [World.cell?_of_block (w := W) hkp.out.2.2]; exact hc2
      have hlti : (k : Int) < (T : Int) := by omega
      have hcall := HI.out wr (k : Int) (by omega) (by rw [HTT.out]; omega) (hkp.out.1 HB0.out)
      cases hq : is (k : Int) with
      | false =>
        rw [hq] at hcall
        have HN := Lib.hid (setsF_no (is := is) hlt hq)
        have HC := Lib.hid hcall
        clear hcall hq
        gi_wp2
        refine ⟨trivial, (callsIn_wide.2 HC.out).mono ?_⟩
        rintro e w1 ⟨rfl, b1⟩
        have HJ1 : Hid (J (setsF T is (k + 1)) w1) := by show J _ _; rw [HN.out]; exact HJA.out _ _ _ none hJs (grown_of_below b1) (fun r e => by cases e)
        have HK1 := Lib.hid (kpS_t hkp.out (kpS_of HCC.out b1 (Nat.lt_of_lt_of_le HK.out.lt hsz.out) (Nat.lt_of_lt_of_le (Array.getElem?_eq_some_iff.1 HK2.out).1 hsz.out)))
        have HS1 : Hid (W.heap.size ≤ w1.heap.size) := Nat.le_trans hsz.out b1.size
        clear b1
        gi_wp2
        refine ⟨fun _ h => (by cases h), ?_⟩
        gi_wp2
        go_roundw
        case rel => exact ⟨k + 1, by omega, by go_num, HJ1.out, HK1.out, HS1.out⟩
        case measure => simp [intOf]; omega
      | true =>
        rw [hq] at hcall
        have HN := Lib.hid (setsF_yes (is := is) hlt hq)
        have HC := Lib.hid hcall
        clear hcall hq
        gi_wp2
        refine ⟨trivial, (callsIn_wide.2 HC.out).mono ?_⟩
        rintro e w1 ⟨rfl, b1⟩
        have hJ1 : J (setsF T is k) w1 := HJA.out _ _ _ none hJs (grown_of_below b1) (fun r e => by cases e)
        have HK1 := Lib.hid (kpS_t hkp.out (kpS_of HCC.out b1 (Nat.lt_of_lt_of_le HK.out.lt hsz.out) (Nat.lt_of_lt_of_le (Array.getElem?_eq_some_iff.1 HK2.out).1 hsz.out)))
        have HS1 : Hid (W.heap.size ≤ w1.heap.size) := Nat.le_trans hsz.out b1.size
        obtain ⟨fn, tmps, assign, body, hy, hR⟩ := hY _ ⟨k, hlt⟩ w1 hJ1 (Nat.lt_of_le_of_lt (setsF_len T is k) hlt)
        dsimp only at hy
        clear b1
        gi_wp2
        refine hR.mono ?_
        rintro e w3 (⟨rfl, hJ3, hk3, hz3⟩ | ⟨rfl, hJx3⟩)
        · have HJ3 : Hid (J (setsF T is (k + 1)) w3) := by show J _ _; rw [HN.out]; exact hJ3
          have HK3 := Lib.hid (kpS_t HK1.out hk3)
          have HS3 : Hid (W.heap.size ≤ w3.heap.size) := Nat.le_trans HS1.out hz3
          clear hJ3 hk3 hz3
          gi_wp2
          go_roundw
          case rel => exact ⟨k + 1, by omega, by go_num, HJ3.out, HK3.out, HS3.out⟩
          case measure => simp [intOf]; omega
        · gi_wp2
          refine bodyPost_ret (results_none rfl _ _ _) rfl ?_
          exact ⟨⟨_, rfl⟩, .inr ⟨_, trivial, hJx3⟩⟩
    · obtain rfl : k = T := by omega
      have hge : ¬ ((k : Int) < (k : Int)) := by omega
      gi_wp2
      go_end0
      first
        | exact ⟨⟨_, rfl⟩, .inl ⟨_, rfl, hJs⟩⟩
        | exact ⟨⟨_, rfl⟩, .inl hJs⟩
theorem setsWhere_any (p : Int) (g : Nat) (lb : Array Value) (w : World) :
    Calls Try.prog 66 #[.int .i64 p, .func (.func g) #[] lb] w fun e w' => e = .returned (.func (.func 108) #[] #[.pointer (some ⟨w.heap.size, 0, none⟩), .pointer (some ⟨w.heap.size + 1, 0, none⟩)]) ∧ w' = (w.alloc (.cells #[.int .i64 p] 2)).alloc (.cells #[.func (.func g) #[] lb] 80) := by
  go_enter Try.func66, Try.ntmps66
  go_wp2_with fail
  go_ret
  exact ⟨rfl, rfl⟩
/-- the iterator's contract -/
theorem sets_stops (n : Nat) (hn : 1 ≤ n) (p T : Nat) (hT : 2 ^ p = T) (is : Int → Bool) (g : Nat) (lb : Array Value) (eg : ∀ args w, (callFunc g args).run Try.prog w = .ok (.enter g args) w) (C : World → Prop) (hC : ∀ W W' : World, Below W.heap.size W W' → C W → C W') (hp1 : 1 ≤ p) (hp2 : p ≤ 10) (hi : TestsC (two p) is g lb C) (g1 g2 : Nat) (w : World) (hB : C w)
    (h1 : Blk.Blk w g1 [.int .i64 (p : Int)] 2) (h2 : w.heap[g2]? = some (.cells #[.func (.func g) #[] lb] 80 (0, 0))) :
    SeqStopsK Fence.wide n Try.prog 108 #[.pointer (some ⟨g1, 0, none⟩), .pointer (some ⟨g2, 0, none⟩)] (fun x : Fin T => #[Value.int .i64 (x.val : Int)]) (fun W W' => KpS C g1 g2 W W' ∧ W.heap.size ≤ W'.heap.size) (fun xs => xs = setsF T is T) (fun _ => True) T w := fun l J Jx W hW hJ _ hY h0 => by
  have h2' : W.heap[g2]? = some (.cells #[.func (.func g) #[] lb] 80 (0, 0)) := by rw [hW.block g2 (Array.getElem?_eq_some_iff.1 h2).1]; exact h2
  exact sets1_in n hn p T hT is g lb eg C hC hp1 hp2 hi l g1 g2 J Jx W (hC _ _ hW hB) hJ hY (h1.keep hW) h2' h0
theorem kpZ_t {C : World → Prop} {g1 g2 : Nat} {A B D : World} (h : KpS C g1 g2 A B ∧ A.heap.size ≤ B.heap.size) (k : KpS C g1 g2 B D ∧ B.heap.size ≤ D.heap.size) : KpS C g1 g2 A D ∧ A.heap.size ≤ D.heap.size := ⟨kpS_t h.1 k.1, Nat.le_trans h.2 k.2⟩
theorem kpZ_b {C : World → Prop} {g1 g2 : Nat} {w : World} (hC : ∀ (W : World) (l : Nat) (o o' : Obj), w.heap.size ≤ l → W.heap[l]? = some o → o.isCells = false → C W → C (W.putObj l o')) (h1 : g1 < w.heap.size) (h2 : g2 < w.heap.size) (W : World) (l : Nat) (o o' : Obj) (hl : w.heap.size ≤ l) (h : W.heap[l]? = some o) (h3 : o.isCells = false) (h4 : o.isWalk = false) : KpS C g1 g2 W (W.putObj l o') ∧ W.heap.size ≤ (W.putObj l o').heap.size :=
  ⟨kpS_b hC h1 h2 W l o o' hl h h3 h4, (grownBy_putObj' W l o').size⟩
end Go.Proofs.Ytaecdeickncpcaa
