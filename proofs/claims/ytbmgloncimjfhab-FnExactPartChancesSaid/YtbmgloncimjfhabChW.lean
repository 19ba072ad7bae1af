/-
  Contracts: chances for the parts of a system, whether they are such, and the product over the parts for a set, in the program and in its model. Conditions: the lists read as lists of numbers.
-/
import Derived.Test.YtbmgloncimjfhabSlW
import Derived.Test.YtbmgloncimjfhabChP
import Derived.Test.YtbmgloncimjfhabWcW
namespace Chn
open Go Flt Syl
def chsB (cs : List Nat) : Bool := cs.all shB
theorem chs_unis {cs : List Nat} (hz : ∀ z ∈ cs, z < 4294967296) (h : chsB cs = true) : unis cs := fun z hm => uni_of (hz z hm) (List.all_eq_true.1 h z hm)
theorem chs_any (cs : List Nat) : (!cs.any fun z => !shB z) = chsB cs := by unfold chsB; rw [List.all_eq_not_any_not]
/-- chances for the parts of a valid system -/
def hvB (p : Int) (zs : List Int) (cs : List Nat) : Bool := sysB p zs && (decide ((cs.length : Int) = p) && chsB cs)
/-- the sum over the sets below 'k' with which it is so -/
def suS (cs : List Nat) (T : Nat) (is : Int → Bool) (k : Nat) : Nat := suC cs ((setsF T is k).map fun x => (x.val : Int))
def suT (cs : List Nat) {T : Nat} (pre : List (Fin T)) : Nat := suC cs (pre.map fun x => (x.val : Int))
theorem suS_no {cs : List Nat} {T : Nat} {is : Int → Bool} {k : Nat} (h : k < T) (hi : is (k : Int) = false) : suS cs T is (k + 1) = suS cs T is k := by unfold suS; rw [setsF_no h hi]
theorem suT_next {cs : List Nat} (hu : unis cs) {T : Nat} (pre : List (Fin T)) (x : Fin T) : Go.floatBits .add .f32 (suT cs pre) (chP cs (x.val : Int) cs.length) = some (suT cs (pre ++ [x])) := by
  unfold suT; rw [List.map_append]; exact suC_next hu _ _
theorem suS_yes {cs : List Nat} (hu : unis cs) {T : Nat} {is : Int → Bool} {k : Nat} (h : k < T) (hi : is (k : Int) = true) : Go.floatBits .add .f32 (suS cs T is k) (chP cs (k : Int) cs.length) = some (suS cs T is (k + 1)) := by
  unfold suS; rw [setsF_yes h hi]
  exact suT_next hu (setsF T is k) ⟨k, h⟩
end Chn
namespace Go.Proofs.Ytbmgloncimjfhab
open Go.RowKit Dec Flt Syl Sep Chn
theorem isChance_any (x : Nat) (w : World) : Calls Try.prog 81 #[.float .f32 x] w fun e w' => e = .returned (.bool (shB x)) ∧ w = w' := by
  unfold shB
  cases h1 : geC x 0
  · unfold geC at h1
    go_enter Try.func81, Try.ntmps81
    go_wp2
    go_ret
    exact ⟨rfl, rfl⟩
  · unfold geC at h1
    unfold leC
    go_enter Try.func81, Try.ntmps81
    go_wp2
    go_ret
    exact ⟨rfl, rfl⟩
theorem specShare_any (x : Nat) (w : World) : Calls Try.prog 79 #[.float .f32 x] w fun e w' => e = .returned (.bool (shB x)) ∧ w = w' := by
  unfold shB
  cases h1 : geC x 0
  · unfold geC at h1
    go_enter Try.func79, Try.ntmps79
    go_wp2
    go_ret
    exact ⟨rfl, rfl⟩
  · unfold geC at h1
    unfold leC
    go_enter Try.func79, Try.ntmps79
    go_wp2
    go_ret
    exact ⟨rfl, rfl⟩
/-- what is asked of a test of numbers that is handed on -/
def TestsF (p : Nat → Bool) (g : Nat) (lb : Array Value) (w : World) : Prop :=
  ∀ (W : World) (t : Nat), Below w.heap.size w W → Calls Try.prog g (#[.float .f32 t] ++ lb) W fun e w' => e = .returned (.bool (p t)) ∧ Below W.heap.size W w'
set_option maxHeartbeats 1600000 in
theorem indexFl_any (p : Nat → Bool) (g : Nat) (lb : Array Value) (eg : ∀ args w, (callFunc g args).run Try.prog w = .ok (.enter g args) w) (a : Option Addr) (len cap : Nat) (zs : List Nat) (w : World) (h : FRow w a len zs) (hp : TestsF p g lb w) :
    Calls Try.prog 150 #[.slice a len cap, .func (.func g) #[] lb] w fun e w' => (∃ i : Int, e = .returned (.int .i64 i) ∧ decide (0 ≤ i) = zs.any p) ∧ Below w.heap.size w w' := by
  have H := Lib.hid h
  have HP := Lib.hid hp
  have hm : len ≤ 9223372036854775807 := by have := h.2.1; unfold maxLen at this; exact this
  clear h hp
  go_enter Try.func150, Try.ntmps150
  go_wp2_with fail
  go_loopg [5, 8] len (fun n i5 i8 wr => ∃ k : Nat, i8 = .int .i64 k ∧ Hid (k + n = len) ∧ k ≤ len ∧ Hid (Below w.heap.size w wr) ∧ Hid (∀ j, j < k → p (zs.getD j 0) = false))
  case atStart => exact ⟨0, rfl, by show _ = _; omega, Nat.zero_le _, Below.refl _ _, fun j hj => absurd hj (Nat.not_lt_zero _)⟩
  case round =>
    obtain ⟨k, rfl, hk, hkl, hB, hN⟩ := hrel
    by_cases hlt : k < len
    · obtain ⟨b, off, rfl, hbl, hc⟩ := (frow_keep H.out hB.out).2.2.2 k hlt
      have HJ : Hid (k + 1 + (gk - 1) = len) := by have := hk.out; show _ = _; omega
      have HG : Hid (gk - 1 < gk) := by have := hk.out; show _ < _; omega
      have hcall := HP.out wr (zs.getD k 0) hB.out
      have HZ : Hid (k < zs.length) := by show _ < _; rw [H.out.1]; exact hlt
      obtain ⟨t, ht⟩ : ∃ t, zs.getD k 0 = t := ⟨_, rfl⟩
      rw [ht] at hc hcall
      have HT := Lib.hid ht
      clear ht
      cases hq : p t with
      | true =>
        rw [hq] at hcall
        have HQ := Lib.hid hq
        clear hq
        go_wp2_with fail
        refine hcall.mono ?_
        rintro e w1 ⟨rfl, g1⟩
        have G := Lib.hid (hB.out.trans (g1.mono hB.out.size))
        clear g1
        go_wp2_with fail
        go_ret
        refine ⟨⟨k, rfl, ?_⟩, G.out⟩
        rw [decide_eq_true (by omega)]
        refine (List.any_eq_true.2 ⟨zs.getD k 0, ?_, by rw [HT.out]; exact HQ.out⟩).symm
        rw [show zs.getD k 0 = zs[k]'HZ.out from by simp [List.getD, HZ.out]]
        exact List.getElem_mem HZ.out
      | false =>
        rw [hq] at hcall
        have HQ := Lib.hid hq
        clear hq
        go_wp2_with fail
        refine hcall.mono ?_
        rintro e w1 ⟨rfl, g1⟩
        have G := Lib.hid (hB.out.trans (g1.mono hB.out.size))
        clear g1
        go_wp2_with fail
        go_roundg (gk - 1)
        case measure => exact HG.out
        case rel =>
          refine ⟨k + 1, by go_num, HJ, by omega, G.out, (show Hid _ from fun j hj => ?_)⟩
          by_cases e : j = k
          · subst e; rw [HT.out]; exact HQ.out
          · exact hN.out j (by omega)
    · obtain rfl : k = len := by have := hk.out; omega
      clear hlt
      go_wp2_with fail
      go_ret
      refine ⟨⟨-1, rfl, ?_⟩, hB.out⟩
      rw [decide_eq_false (by omega)]
      refine (List.any_eq_false.2 fun z hz => ?_).symm
      obtain ⟨j, hj, rfl⟩ := List.mem_iff_getElem.1 hz
      have := hN.out j (by rw [← H.out.1]; exact hj)
      rw [show zs.getD j 0 = zs[j] from by simp [List.getD, hj]] at this
      rw [this]; decide
theorem containsFl_any (p : Nat → Bool) (g : Nat) (lb : Array Value) (eg : ∀ args w, (callFunc g args).run Try.prog w = .ok (.enter g args) w) (a : Option Addr) (len cap : Nat) (zs : List Nat) (w : World) (h : FRow w a len zs) (hp : TestsF p g lb w) :
    Calls Try.prog 132 #[.slice a len cap, .func (.func g) #[] lb] w fun e w' => e = .returned (.bool (zs.any p)) ∧ Below w.heap.size w w' := by
  have H := Lib.hid h
  have HP := Lib.hid hp
  clear h hp
  go_enter Try.func132, Try.ntmps132
  go_wp2_with fail
  refine (indexFl_any p g lb eg a len cap zs _ H.out HP.out).mono ?_
  rintro e w1 ⟨⟨i, rfl, hi⟩, b1⟩
  have HI := Lib.hid hi
  clear hi
  go_wp2_with fail
  go_ret
  exact ⟨congrArg (fun b => Ending.returned (.bool b)) HI.out, b1⟩
theorem areChances1_any (x : Nat) (w : World) : Calls Try.prog 133 #[.float .f32 x] w fun e w' => e = .returned (.bool (!shB x)) ∧ Below w.heap.size w w' := by
  go_enter Try.func133, Try.ntmps133
  go_wp2_with fail
  refine (isChance_any x _).mono ?_
  rintro e w1 ⟨rfl, rfl⟩
  go_wp2_with fail
  go_ret
  exact ⟨rfl, Below.refl _ _⟩
theorem areChances_any (a : Option Addr) (len cap : Nat) (cs : List Nat) (w : World) (h : FRow w a len cs) :
    Calls Try.prog 97 #[.slice a len cap] w fun e w' => e = .returned (.bool (chsB cs)) ∧ Below w.heap.size w w' := by
  have H := Lib.hid h
  have hx := Lib.hid (chs_any cs)
  clear h
  go_enter Try.func97, Try.ntmps97
  go_wp2_with fail
  refine (containsFl_any (fun z => !shB z) 133 #[] (by intro args w; kernel_rfl) a len cap cs _ H.out (fun W t _ => areChances1_any t W)).mono ?_
  rintro e w1 ⟨rfl, b1⟩
  go_wp2_with fail
  go_ret
  exact ⟨congrArg (fun b => Ending.returned (.bool b)) hx.out, b1⟩
set_option maxRecDepth 20000 in
set_option maxHeartbeats 1600000 in
theorem haveChances_any (p : Int) (a : Option Addr) (len cap : Nat) (zs : List Int) (b : Option Addr) (lb cb : Nat) (cs : List Nat) (w : World) (h : IRow w a len zs) (hcap : len ≤ cap) (hc : FRow w b lb cs) :
    Calls Try.prog 73 #[.agg #[.int .i64 p, .slice a len cap], .slice b lb cb] w fun e w' => e = .returned (.bool (hvB p zs cs)) ∧ Below w.heap.size w w' := by
  have H := Lib.hid h
  have HC := Lib.hid hc
  have HLN := Lib.hid hc.1
  have hm : lb ≤ 9223372036854775807 := by have := hc.2.1; unfold maxLen at this; exact this
  clear h hc
  go_enter Try.func73, Try.ntmps73
  go_wp2_with fail
  have b0 : Below w.heap.size w (w.alloc (.cells #[.int .i64 p, .slice a len cap] 30)) := (Below.refl _ _).alloc (Nat.le_refl _) _
  have k0 : SVar 30 (w.alloc (.cells #[.int .i64 p, .slice a len cap] 30)) w.heap.size p a len cap := Blk.Blk.new _ _ _
  refine (implVSys_any p a len cap zs _ (H.out.keep b0) hcap).mono ?_
  rintro e w1 ⟨rfl, b1⟩
  have B1 := Lib.hid (b0.trans (b1.mono b0.size))
  have K1 := Lib.hid (k0.keep b1)
  clear b0 b1 k0
  cases hs : sysB p zs with
  | false =>
    have HP : Hid (hvB p zs cs = false) := by show _ = _; unfold hvB; rw [hs]; rfl
    clear hs
    go_wp2_with fail
    go_ret
    rw [HP.out]
    exact ⟨rfl, B1.out⟩
  | true =>
    obtain ⟨⟨v0, v1⟩, _, _⟩ := K1.out.two
    by_cases hl : (lb : Int) = p
    · have HP : Hid (hvB p zs cs = chsB cs) := by show _ = _; unfold hvB; rw [hs, HLN.out, decide_eq_true hl]; rfl
      clear hs
      subst hl
      go_wp2_with fail
      refine (areChances_any b lb cb cs _ (frow_keep HC.out B1.out)).mono ?_
      rintro e w2 ⟨rfl, b2⟩
      have B2 := Lib.hid (B1.out.trans (b2.mono B1.out.size))
      clear b2
      go_wp2_with fail
      go_ret
      rw [HP.out]
      exact ⟨rfl, B2.out⟩
    · have HP : Hid (hvB p zs cs = false) := by show _ = _; unfold hvB; rw [hs, HLN.out, decide_eq_false hl]; rfl
      clear hs
      go_wp2_with fail
      go_ret
      rw [HP.out]
      exact ⟨rfl, B1.out⟩
set_option maxRecDepth 20000 in
set_option maxHeartbeats 1600000 in
theorem chanceOfSet_any (s : Int) (b : Option Addr) (lb cb : Nat) (cs : List Nat) (w : World) (hc : FRow w b lb cs) (hu : unis cs) (hl : lb ≤ 10) :
    Calls Try.prog 125 #[.int .i64 s, .slice b lb cb] w fun e w' => e = .returned (.float .f32 (chP cs s cs.length)) ∧ w = w' := by
  have HC := Lib.hid hc
  have HU := Lib.hid hu
  have HLN := Lib.hid hc.1
  clear hc hu
  go_enter Try.func125, Try.ntmps125
  go_wp2_with fail
  go_loopg [5, 6, 7, 10] lb (fun n i5 i6 i7 i10 wr => ∃ k : Nat, i10 = .int .i64 k ∧ i5 = .float .f32 (chP cs s k) ∧ Hid (k + n = lb) ∧ k ≤ lb ∧ w = wr)
  case atStart => exact ⟨0, rfl, rfl, by show _ = _; omega, Nat.zero_le _, rfl⟩
  case round =>
    obtain ⟨k, rfl, rfl, hk, hkl, rfl⟩ := hrel
    by_cases hlt : k < lb
    · obtain ⟨g, off, rfl, hbl, hc⟩ := HC.out.2.2.2 k hlt
      have HJ : Hid (k + 1 + (gk - 1) = lb) := by have := hk.out; show _ = _; omega
      have HG : Hid (gk - 1 < gk) := by have := hk.out; show _ < _; omega
      have hn := chP_next HU.out s (k := k) (by rw [HLN.out]; exact hlt)
      have hz := unis_at HU.out (k := k) (by rw [HLN.out]; exact hlt)
      unfold tkC at hn
      obtain ⟨z, hz0⟩ : ∃ z, cs.getD k 0 = z := ⟨_, rfl⟩
      rw [hz0] at hc hn hz
      clear hz0
      cases hp : partB s (k : Int) with
      | true =>
        rw [hp] at hn
        simp only [↓reduceIte] at hn
        have hr1 : ∀ w, (binOp .mul 27 (.float .f32 (chP cs s k)) (.float .f32 z)).run Try.prog w = .ok (.float .f32 (chP cs s (k + 1))) w := fun w => run_float_arith w .mul 27 .f32 _ _ _ hn
        go_wp2_with fail
        refine (hasPart_any s k _ (by omega) (by omega)).mono ?_
        rintro e w1 ⟨rfl, rfl⟩
        rw [hp]
        go_wp2_with fail
        go_roundg (gk - 1)
        case measure => exact HG.out
        case rel => exact ⟨k + 1, by go_num, rfl, HJ, by omega, rfl⟩
      | false =>
        rw [hp] at hn
        simp only [Bool.false_eq_true, ↓reduceIte] at hn
        have hsb := (subC_ok hz).1
        have hr0 : ∀ w, (binOp .sub 27 (.float .f32 1065353216) (.float .f32 z)).run Try.prog w = .ok (.float .f32 (subC 1065353216 z)) w := fun w => run_float_arith w .sub 27 .f32 _ _ _ hsb
        have hr1 : ∀ w, (binOp .mul 27 (.float .f32 (chP cs s k)) (.float .f32 (subC 1065353216 z))).run Try.prog w = .ok (.float .f32 (chP cs s (k + 1))) w := fun w => run_float_arith w .mul 27 .f32 _ _ _ hn
        go_wp2_with fail
        refine (hasPart_any s k _ (by omega) (by omega)).mono ?_
        rintro e w1 ⟨rfl, rfl⟩
        rw [hp]
        go_wp2_with fail
        go_roundg (gk - 1)
        case measure => exact HG.out
        case rel => exact ⟨k + 1, by go_num, rfl, HJ, by omega, rfl⟩
    · obtain rfl : k = lb := by have := hk.out; omega
      clear hlt
      go_wp2_with fail
      go_ret
      rw [HLN.out]
      exact ⟨rfl, rfl⟩
set_option maxRecDepth 20000 in
set_option maxHeartbeats 1600000 in
theorem specChances_any (n : Int) (b : Option Addr) (lb cb : Nat) (cs : List Nat) (w : World) (hc : FRow w b lb cs) :
    Calls Try.prog 71 #[.slice b lb cb, .int .i64 n] w fun e w' => e = .returned (.bool (decide ((cs.length : Int) = n) && chsB cs)) ∧ w = w' := by
  have HC := Lib.hid hc
  have HLN := Lib.hid hc.1
  have hm : lb ≤ 9223372036854775807 := by have := hc.2.1; unfold maxLen at this; exact this
  clear hc
  go_enter Try.func71, Try.ntmps71
  go_wp2_with fail
  go_loopg [5, 8] lb (fun n i5 i8 wr => ∃ k : Nat, i8 = .int .i64 k ∧ Hid (k + n = lb) ∧ k ≤ lb ∧ w = wr ∧ Hid (∀ j, j < k → shB (cs.getD j 0) = true))
  case atStart => exact ⟨0, rfl, by show _ = _; omega, Nat.zero_le _, rfl, fun j hj => absurd hj (Nat.not_lt_zero _)⟩
  case round =>
    obtain ⟨k, rfl, hk, hkl, rfl, hN⟩ := hrel
    by_cases hlt : k < lb
    · obtain ⟨g, off, rfl, hbl, hc⟩ := HC.out.2.2.2 k hlt
      have HJ : Hid (k + 1 + (gk - 1) = lb) := by have := hk.out; show _ = _; omega
      have HG : Hid (gk - 1 < gk) := by have := hk.out; show _ < _; omega
      have HZ : Hid (k < cs.length) := by show _ < _; rw [HLN.out]; exact hlt
      obtain ⟨t, ht⟩ : ∃ t, cs.getD k 0 = t := ⟨_, rfl⟩
      rw [ht] at hc
      have HT := Lib.hid ht
      clear ht
      cases hq : shB t with
      | true =>
        have HQ := Lib.hid hq
        go_wp2_with fail
        refine (specShare_any t _).mono ?_
        rintro e w1 ⟨rfl, rfl⟩
        rw [hq]
        clear hq
        go_wp2_with fail
        go_roundg (gk - 1)
        case measure => exact HG.out
        case rel =>
          refine ⟨k + 1, by go_num, HJ, by omega, rfl, (show Hid _ from fun j hj => ?_)⟩
          by_cases e : j = k
          · subst e; rw [HT.out]; exact HQ.out
          · exact hN.out j (by omega)
      | false =>
        have HQ := Lib.hid hq
        go_wp2_with fail
        refine (specShare_any t _).mono ?_
        rintro e w1 ⟨rfl, rfl⟩
        rw [hq]
        clear hq
        go_wp2_with fail
        go_ret
        refine ⟨congrArg (fun b => Ending.returned (.bool b)) ?_, rfl⟩
        have : chsB cs = false := by
          unfold chsB
          refine List.all_eq_false.2 ⟨cs.getD k 0, ?_, by rw [HT.out, HQ.out]; decide⟩
          rw [show cs.getD k 0 = cs[k]'HZ.out from by simp [List.getD, HZ.out]]
          exact List.getElem_mem HZ.out
        rw [this, Bool.and_false]
    · obtain rfl : k = lb := by have := hk.out; omega
      clear hlt
      have HA : Hid (chsB cs = true) := by
        show _ = _
        refine List.all_eq_true.2 fun z hz => ?_
        obtain ⟨j, hj, rfl⟩ := List.mem_iff_getElem.1 hz
        have := hN.out j (by rw [← HLN.out]; exact hj)
        rw [show cs.getD j 0 = cs[j] from by simp [List.getD, hj]] at this
        exact this
      go_wp2_with fail
      go_ret
      rw [HA.out, HLN.out, Bool.and_true]
      exact ⟨rfl, rfl⟩
end Go.Proofs.Ytbmgloncimjfhab
