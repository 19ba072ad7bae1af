/-
  Contracts: chances for the parts of a system, whether they are such, and the product over the parts for a set, in the program and in its model. Conditions: the lists read as lists of numbers.
-/
import Derived.Test.YtaecdeickncpcaaTfW
import Derived.Test.YtaecdeickncpcaaSlW
import Derived.Test.YtaecdeickncpcaaChP
import Derived.Test.YtaecdeickncpcaaWcW
namespace Chn
open Go Flt Syl
def chsB (cs : List Nat) : Bool := cs.all shB
theorem chs_unis {cs : List Nat} (hz : ∀ z ∈ cs, z < 4294967296) (h : chsB cs = true) : unis cs := fun z hm => uni_of (hz z hm) (List.all_eq_true.1 h z hm)
theorem chs_any (cs : List Nat) : (!cs.any fun z => !shB z) = chsB cs := by unfold chsB; rw [List.all_eq_not_any_not]
/-- chances for the parts of a valid system -/
def hvB (p : Int) (zs : List Int) (cs : List Nat) : Bool := sysB p zs && (decide ((cs.length : Int) = p) && chsB cs)
/-- the sum over the sets below 'k' with which it is so -/
def suS (cs : List Nat) (T : Nat) (is : Int → Bool) (k : Nat) : Nat := suC cs ((setsF T is k).map fun x => (x.val : Int))
def suT (cs : List Nat) {T : Nat} (pre : List (Fin T)) : Nat := suC cs (pre.map fun x => (x.val : Int))
theorem suS_no {cs : List Nat} {T : Nat} {is : Int → Bool} {k : Nat} (h : k < T) (hi : is (k : Int) = false) : suS cs T is (k + 1) = suS cs T is k := by unfold suS; rw [setsF_no h hi]
theorem suT_next {cs : List Nat} (hu : unis cs) {T : Nat} (pre : List (Fin T)) (x : Fin T) : Go.floatBits .add .f32 (suT cs pre) (chP cs (x.val : Int) cs.length) = some (suT cs (pre ++ [x])) := by
  unfold suT; rw [List.map_append]; exact suC_next hu _ _
theorem suS_yes {cs : List Nat} (hu : unis cs) {T : Nat} {is : Int → Bool} {k : Nat} (h : k < T) (hi : is (k : Int) = true) : Go.floatBits .add .f32 (suS cs T is k) (chP cs (k : Int) cs.length) = some (suS cs T is (k + 1)) := by
  unfold suS; rw [setsF_yes h hi]
  exact suT_next hu (setsF T is k) ⟨k, h⟩
end Chn
namespace Go.Proofs.Ytaecdeickncpcaa
open Go.RowKit Dec Flt Syl Sep Chn
theorem isChance_any (x : Nat) (w : World) : Calls Try.prog 117 #[.float .f32 x] w fun e w' => e = .returned (.bool (shB x)) ∧ w = w' := by
  unfold shB
  cases h1 : geC x 0
  · unfold geC at h1
    go_enter Try.func117, Try.ntmps117
    go_wp2
    go_ret
    exact ⟨rfl, rfl⟩
  · unfold geC at h1
    unfold leC
    go_enter Try.func117, Try.ntmps117
    go_wp2
    go_ret
    exact ⟨rfl, rfl⟩
theorem specShare_any (x : Nat) (w : World) : Calls Try.prog 114 #[.float .f32 x] w fun e w' => e = .returned (.bool (shB x)) ∧ w = w' := by
  unfold shB
  cases h1 : geC x 0
  · unfold geC at h1
    go_enter Try.func114, Try.ntmps114
    go_wp2
    go_ret
    exact ⟨rfl, rfl⟩
  · unfold geC at h1
    unfold leC
    go_enter Try.func114, Try.ntmps114
    go_wp2
    go_ret
    exact ⟨rfl, rfl⟩
theorem areChances1_any (x : Nat) (w : World) : Calls Try.prog 116 #[.float .f32 x] w fun e w' => e = .returned (.bool (!shB x)) ∧ Below w.heap.size w w' := by
  go_enter Try.func116, Try.ntmps116
  go_wp2_with fail
  refine (isChance_any x _).mono ?_
  rintro e w1 ⟨rfl, rfl⟩
  go_wp2_with fail
  go_ret
  exact ⟨rfl, Below.refl _ _⟩
theorem areChances_any (a : Option Addr) (len cap : Nat) (cs : List Nat) (w : World) (h : FRow w a len cs) :
    Calls Try.prog 84 #[.slice a len cap] w fun e w' => e = .returned (.bool (chsB cs)) ∧ Below w.heap.size w w' := by
  have H := Lib.hid h
  have hx := Lib.hid (chs_any cs)
  clear h
  go_enter Try.func84, Try.ntmps84
  go_wp2_with fail
  refine (containsFl_any (fun z => !shB z) 116 #[] (by intro args w; kernel_rfl) a len cap cs _ H.out (fun W t _ => areChances1_any t W)).mono ?_
  rintro e w1 ⟨rfl, b1⟩
  go_wp2_with fail
  go_ret
  exact ⟨congrArg (fun b => Ending.returned (.bool b)) hx.out, b1⟩
set_option maxRecDepth 20000 in
set_option maxHeartbeats 1600000 in
theorem specChances_any (n : Int) (b : Option Addr) (lb cb : Nat) (cs : List Nat) (w : World) (hc : FRow w b lb cs) :
    Calls Try.prog 83 #[.slice b lb cb, .int .i64 n] w fun e w' => e = .returned (.bool (decide ((cs.length : Int) = n) && chsB cs)) ∧ w = w' := by
  have HC := Lib.hid hc
  have HLN := Lib.hid hc.1
  have hm : lb ≤ 9223372036854775807 := by have := hc.2.1; unfold maxLen at this; exact this
  clear hc
  go_enter Try.func83, Try.ntmps83
  go_wp2_with fail
  go_loopg [5, 8] lb (fun n i5 i8 wr => ∃ k : Nat, i8 = .int .i64 k ∧ Hid (k + n = lb) ∧ k ≤ lb ∧ w = wr ∧ Hid (∀ j, j < k → shB (cs.getD j 0) = true))
  case atStart => exact ⟨0, rfl, by show _ = _; omega, Nat.zero_le _, rfl, fun j hj => absurd hj (Nat.not_lt_zero _)⟩
  case round =>
    obtain ⟨k, rfl, hk, hkl, rfl, hN⟩ := hrel
    by_cases hlt : k < lb
    · obtain ⟨g, off, rfl, hbl, hc⟩ := HC.out.2.2.2 k hlt
      have HJ : Hid (k + 1 + (gk - 1) = lb) := by have := hk.out; show _ = _; omega
      have HG : Hid (gk - 1 < gk) := by have := hk.out; show _ < _; omega
      have HZ : Hid (k < cs.length) := by show _ < _; rw [HLN.out]; exact hlt
      obtain ⟨t, ht⟩ : ∃ t, cs.getD k 0 = t := ⟨_, rfl⟩
      rw [ht] at hc
      have HT := Lib.hid ht
      clear ht
      cases hq : shB t with
      | true =>
        have HQ := Lib.hid hq
        go_wp2_with fail
        refine (specShare_any t _).mono ?_
        rintro e w1 ⟨rfl, rfl⟩
        rw [hq]
        clear hq
        go_wp2_with fail
        go_roundg (gk - 1)
        case measure => exact HG.out
        case rel =>
          refine ⟨k + 1, by go_num, HJ, by omega, rfl, (show Hid _ from fun j hj => ?_)⟩
          by_cases e : j = k
          · subst e; rw [HT.out]; exact HQ.out
          · exact hN.out j (by omega)
      | false =>
        have HQ := Lib.hid hq
        go_wp2_with fail
        refine (specShare_any t _).mono ?_
        rintro e w1 ⟨rfl, rfl⟩
        rw [hq]
        clear hq
        go_wp2_with fail
        go_ret
        refine ⟨congrArg (fun b => Ending.returned (.bool b)) ?_, rfl⟩
        have : chsB cs = false := by
          unfold chsB
          refine List.all_eq_false.2 ⟨cs.getD k 0, ?_, by rw [HT.out, HQ.out]; decide⟩
          rw [show cs.getD k 0 = cs[k]'HZ.out from by simp [List.getD, HZ.out]]
          exact List.getElem_mem HZ.out
        rw [this, Bool.and_false]
    · obtain rfl : k = lb := by have := hk.out; omega
      clear hlt
      have HA : Hid (chsB cs = true) := by
        show _ = _
        refine List.all_eq_true.2 fun z hz => ?_
        obtain ⟨j, hj, rfl⟩ := List.mem_iff_getElem.1 hz
        have := hN.out j (by rw [← HLN.out]; exact hj)
        rw [show cs.getD j 0 = cs[j] from by simp [List.getD, hj]] at this
        exact this
      go_wp2_with fail
      go_ret
      rw [HA.out, HLN.out, Bool.and_true]
      exact ⟨rfl, rfl⟩
end Go.Proofs.Ytaecdeickncpcaa
