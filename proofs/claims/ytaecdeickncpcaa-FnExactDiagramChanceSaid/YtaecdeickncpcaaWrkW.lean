/-
  Contracts: whether a system works with a set of parts, in the program and in its model. Conditions: the lists read as lists of whole numbers.
-/
import Derived.Test.YtaecdeickncpcaaSep
namespace Go.Proofs.Ytaecdeickncpcaa
open Go.RowKit Dec Flt Syl
theorem areParts_any (p : Int) (w : World) : Calls Try.prog 73 #[.int .i64 p] w fun e w' => e = .returned (.bool (partsB p)) ∧ w = w' := by
  by_cases h1 : 1 ≤ p
  · by_cases h2 : p ≤ 10
    · rw [show partsB p = true from decide_eq_true ⟨h1, h2⟩]
      go_enter Try.func73, Try.ntmps73
      go_wp2
      go_ret
      exact ⟨by simp, rfl⟩
    · rw [show partsB p = false from decide_eq_false (by omega)]
      go_enter Try.func73, Try.ntmps73
      go_wp2
      go_ret
      exact ⟨by simp, rfl⟩
  · rw [show partsB p = false from decide_eq_false (by omega)]
    go_enter Try.func73, Try.ntmps73
    go_wp2
    go_ret
    exact ⟨by first | rfl | (simp; omega), rfl⟩
theorem isSet_any (p s : Int) (w : World) (h1 : 1 ≤ p) (h2 : p ≤ 10) : Calls Try.prog 79 #[.int .i64 p, .int .i64 s] w fun e w' => e = .returned (.bool (setB p s)) ∧ w = w' := by
  have ht := two_bd p h1 h2
  by_cases hs : 0 ≤ s
  · have hd : setB p s = decide (s < two p) := by
      unfold setB; congr 1; exact propext ⟨fun h => h.2, fun h => ⟨hs, h⟩⟩
    rw [hd]
    have hw : IntKind.i64.wrap (1 * 2 ^ p.toNat) = two p := by rw [Int.one_mul]; exact wrap_i64 _ (by unfold two at ht; omega) (by unfold two at ht; omega)
    have hw2 : IntKind.i64.wrap (2 ^ p.toNat) = two p := by rw [← hw, Int.one_mul]
    clear hd
    go_enter Try.func79, Try.ntmps79
    go_wp2
    go_ret
    exact ⟨by first | rfl | (simp [two]), rfl⟩
  · have hd : setB p s = false := decide_eq_false (by omega)
    rw [hd]
    go_enter Try.func79, Try.ntmps79
    go_wp2
    go_ret
    exact ⟨rfl, rfl⟩
theorem hasAll_any (a b : Int) (w : World) : Calls Try.prog 102 #[.int .i64 a, .int .i64 b] w fun e w' => e = .returned (.bool (hasB a b)) ∧ w = w' := by
  go_enter Try.func102, Try.ntmps102
  go_wp2
  go_ret
  exact ⟨rfl, rfl⟩
/-- what is asked of a test of whole numbers that is handed on -/
def TestsI (p : Int → Bool) (g : Nat) (lb : Array Value) (w : World) : Prop :=
  ∀ (W : World) (t : Int), Below w.heap.size w W → Calls Try.prog g (#[.int .i64 t] ++ lb) W fun e w' => e = .returned (.bool (p t)) ∧ Below W.heap.size W w'
set_option maxHeartbeats 1600000 in
theorem indexI_any (p : Int → Bool) (g : Nat) (lb : Array Value) (eg : ∀ args w, (callFunc g args).run Try.prog w = .ok (.enter g args) w) (a : Option Addr) (len cap : Nat) (zs : List Int) (w : World) (h : IRow w a len zs) (hp : TestsI p g lb w) :
    Calls Try.prog 127 #[.slice a len cap, .func (.func g) #[] lb] w fun e w' => (∃ i : Int, e = .returned (.int .i64 i) ∧ decide (0 ≤ i) = zs.any p) ∧ Below w.heap.size w w' := by
  have H := Lib.hid h
  have HP := Lib.hid hp
  have hm : len ≤ 9223372036854775807 := by have := h.2.1; unfold maxLen at this; exact this
  clear h hp
  go_enter Try.func127, Try.ntmps127
  go_wp2_with fail
  go_loopg [5, 8] len (fun n i5 i8 wr => ∃ k : Nat, i8 = .int .i64 k ∧ Hid (k + n = len) ∧ k ≤ len ∧ Hid (Below w.heap.size w wr) ∧ Hid (∀ j, j < k → p (zs.getD j 0) = false))
  case atStart => exact ⟨0, rfl, by show _ = _; omega, Nat.zero_le _, Below.refl _ _, fun j hj => absurd hj (Nat.not_lt_zero _)⟩
  case round =>
    obtain ⟨k, rfl, hk, hkl, hB, hN⟩ := hrel
    by_cases hlt : k < len
    · obtain ⟨b, off, rfl, hbl, hc⟩ := (H.out.keep hB.out).2.2.2 k hlt
      have HJ : Hid (k + 1 + (gk - 1) = len) := by have := hk.out; show _ = _; omega
      have HG : Hid (gk - 1 < gk) := by have := hk.out; show _ < _; omega
      have hcall := HP.out wr (zs.getD k 0) hB.out
      have HZ : Hid (k < zs.length) := by show _ < _; rw [H.out.1]; exact hlt
      obtain ⟨t, ht⟩ : ∃ t, zs.getD k 0 = t := ⟨_, rfl⟩
      rw [ht] at hc hcall
      have HT := Lib.hid ht
      clear ht
      cases hq : p t with
      | true =>
        rw [hq] at hcall
        have HQ := Lib.hid hq
        clear hq
        go_wp2_with fail
        refine hcall.mono ?_
        rintro e w1 ⟨rfl, g1⟩
        have G := Lib.hid (hB.out.trans (g1.mono hB.out.size))
        clear g1
        go_wp2_with fail
        go_ret
        refine ⟨⟨k, rfl, ?_⟩, G.out⟩
        rw [decide_eq_true (by omega)]
        refine (List.any_eq_true.2 ⟨zs.getD k 0, ?_, by rw [HT.out]; exact HQ.out⟩).symm
        rw [show zs.getD k 0 = zs[k]'HZ.out from by simp [List.getD, HZ.out]]
        exact List.getElem_mem HZ.out
      | false =>
        rw [hq] at hcall
        have HQ := Lib.hid hq
        clear hq
        go_wp2_with fail
        refine hcall.mono ?_
        rintro e w1 ⟨rfl, g1⟩
        have G := Lib.hid (hB.out.trans (g1.mono hB.out.size))
        clear g1
        go_wp2_with fail
        go_roundg (gk - 1)
        case measure => exact HG.out
        case rel =>
          refine ⟨k + 1, by go_num, HJ, by omega, G.out, (show Hid _ from fun j hj => ?_)⟩
          by_cases e : j = k
          · subst e; rw [HT.out]; exact HQ.out
          · exact hN.out j (by omega)
    · obtain rfl : k = len := by have := hk.out; omega
      clear hlt
      go_wp2_with fail
      go_ret
      refine ⟨⟨-1, rfl, ?_⟩, hB.out⟩
      rw [decide_eq_false (by omega)]
      refine (List.any_eq_false.2 fun z hz => ?_).symm
      obtain ⟨j, hj, rfl⟩ := List.mem_iff_getElem.1 hz
      have := hN.out j (by rw [← H.out.1]; exact hj)
      rw [show zs.getD j 0 = zs[j] from by simp [List.getD, hj]] at this
      rw [this]; decide
theorem containsI_any (p : Int → Bool) (g : Nat) (lb : Array Value) (eg : ∀ args w, (callFunc g args).run Try.prog w = .ok (.enter g args) w) (a : Option Addr) (len cap : Nat) (zs : List Int) (w : World) (h : IRow w a len zs) (hp : TestsI p g lb w) :
    Calls Try.prog 110 #[.slice a len cap, .func (.func g) #[] lb] w fun e w' => e = .returned (.bool (zs.any p)) ∧ Below w.heap.size w w' := by
  have H := Lib.hid h
  have HP := Lib.hid hp
  clear h hp
  go_enter Try.func110, Try.ntmps110
  go_wp2_with fail
  refine (indexI_any p g lb eg a len cap zs _ H.out HP.out).mono ?_
  rintro e w1 ⟨⟨i, rfl, hi⟩, b1⟩
  have HI := Lib.hid hi
  clear hi
  go_wp2_with fail
  go_ret
  exact ⟨congrArg (fun b => Ending.returned (.bool b)) HI.out, b1⟩
theorem hasAllOf1_any (s z : Int) (g : Nat) (w : World) (h : w.cell? ⟨g, 0, none⟩ = some (.int .i64 s)) : Calls Try.prog 111 #[.int .i64 z, .pointer (some ⟨g, 0, none⟩)] w fun e w' => e = .returned (.bool (hasB s z)) ∧ Below w.heap.size w w' := by
  go_enter Try.func111, Try.ntmps111
  go_wp2_with fail
  refine (hasAll_any s z _).mono ?_
  rintro e w1 ⟨rfl, rfl⟩
  go_wp2_with fail
  go_ret
  exact ⟨rfl, Below.refl _ _⟩
theorem hasOne_any (s : Int) (a : Option Addr) (len cap : Nat) (zs : List Int) (w : World) (h : IRow w a len zs) :
    Calls Try.prog 69 #[.int .i64 s, .slice a len cap] w fun e w' => e = .returned (.bool (worksB zs s)) ∧ Below w.heap.size w w' := by
  have H := Lib.hid h
  clear h
  go_enter Try.func69, Try.ntmps69
  go_wp2_with fail
  have b0 : Below w.heap.size w (w.alloc (.cells #[.int .i64 s] 2)) := (Below.refl _ _).alloc (Nat.le_refl _) _
  have k0 := Blk.Blk.new w #[.int .i64 s] 2
  refine (containsI_any (hasB s) 111 #[.pointer (some ⟨w.heap.size, 0, none⟩)] (by intro args w; kernel_rfl) a len cap zs _ (H.out.keep b0) (fun W t hb => hasAllOf1_any s t w.heap.size W ?_)).mono ?_
  · exact (k0.keep hb).cell 0
  rintro e w1 ⟨rfl, b1⟩
  have B1 := Lib.hid (b0.trans (b1.mono b0.size))
  clear b0 b1 k0
  go_wp2_with fail
  go_ret
  exact ⟨rfl, B1.out⟩
end Go.Proofs.Ytaecdeickncpcaa
