/-
  Contracts: whether lives are lives, in the program and in its model. Conditions: times are words of 32 bits.
-/
import Derived.Test.YtplfmdjccmhclabLivW
import Derived.Test.YtplfmdjccmhclabMathW
namespace Liv
open Go Flt
theorem grn_drawn {w w' : World} (h : Drawn w w') : Grn w w' := by obtain ⟨n, rfl⟩ := h; exact (Grn.refl w).drewN n
/-- a number that is finite and greater than 0 -/
def posB (t : Nat) : Bool := fin .f32 t && (FloatKind.f32.format.order t 0 == some .gt)
/-- a number that is finite and at least 0 -/
def nngB (t : Nat) : Bool := fin .f32 t && ((FloatKind.f32.format.order t 0 == some .gt) || (FloatKind.f32.format.order t 0 == some .eq))
def livB (zs : List (Nat × Bool)) : Bool := decide (1 ≤ zs.length ∧ zs.length ≤ 48) && zs.all fun z => posB z.1
theorem all_at {zs : List (Nat × Bool)} {k : Nat} (hk : k < zs.length) : (zs.all fun z => posB z.1) = false ∨ posB (tm zs k) = true := by
  cases h : zs.all fun z => posB z.1
  · exact .inl rfl
  · right
    have := List.all_eq_true.1 h (zs.getD k (0, false)) (by rw [show zs.getD k (0, false) = zs[k] from by simp [List.getD, hk]]; exact List.getElem_mem hk)
    exact this
end Liv
namespace Go.Proofs.Ytplfmdjccmhclab
open Go.RowKit Liv Flt
theorem implAbove_any (t : Nat) (w : World) : Calls Try.prog 69 #[.float .f32 t] w fun e w' => e = .returned (.bool (posB t)) ∧ Drawn w w' := by
  have hp : posB t = (fin .f32 t && (FloatKind.f32.format.order t 0 == some .gt)) := rfl
  rw [hp]
  clear hp
  cases hf : fin .f32 t
  · have Hf := Lib.hid hf
    clear hf
    go_enter Try.func69, Try.ntmps69
    go_wp2_with fail
    refine (implIsFinite_any t _).mono ?_
    rintro e w1 ⟨rfl, d1⟩
    rw [Hf.out]
    go_wp2_with fail
    go_ret
    exact ⟨rfl, d1⟩
  · have Hf := Lib.hid hf
    clear hf
    go_enter Try.func69, Try.ntmps69
    go_wp2_with fail
    refine (implIsFinite_any t _).mono ?_
    rintro e w1 ⟨rfl, d1⟩
    rw [Hf.out]
    go_wp2_with fail
    go_ret
    exact ⟨rfl, d1⟩
theorem specAbove_any (t : Nat) (w : World) : Calls Try.prog 67 #[.float .f32 t] w fun e w' => e = .returned (.bool (posB t)) ∧ Drawn w w' := by
  have hp : posB t = (fin .f32 t && (FloatKind.f32.format.order t 0 == some .gt)) := rfl
  rw [hp]
  clear hp
  cases hf : fin .f32 t
  · have Hf := Lib.hid hf
    clear hf
    go_enter Try.func67, Try.ntmps67
    go_wp2_with fail
    refine (specFinite_any t _).mono ?_
    rintro e w1 ⟨rfl, d1⟩
    rw [Hf.out]
    go_wp2_with fail
    go_ret
    exact ⟨rfl, d1⟩
  · have Hf := Lib.hid hf
    clear hf
    go_enter Try.func67, Try.ntmps67
    go_wp2_with fail
    refine (specFinite_any t _).mono ?_
    rintro e w1 ⟨rfl, d1⟩
    rw [Hf.out]
    go_wp2_with fail
    go_ret
    exact ⟨rfl, d1⟩
theorem implFrom_any (t : Nat) (w : World) : Calls Try.prog 57 #[.float .f32 t] w fun e w' => e = .returned (.bool (nngB t)) ∧ Drawn w w' := by
  have hp : nngB t = (fin .f32 t && ((FloatKind.f32.format.order t 0 == some .gt) || (FloatKind.f32.format.order t 0 == some .eq))) := rfl
  rw [hp]
  clear hp
  cases hf : fin .f32 t
  · have Hf := Lib.hid hf
    clear hf
    go_enter Try.func57, Try.ntmps57
    go_wp2_with fail
    refine (implIsFinite_any t _).mono ?_
    rintro e w1 ⟨rfl, d1⟩
    rw [Hf.out]
    go_wp2_with fail
    go_ret
    exact ⟨rfl, d1⟩
  · have Hf := Lib.hid hf
    clear hf
    go_enter Try.func57, Try.ntmps57
    go_wp2_with fail
    refine (implIsFinite_any t _).mono ?_
    rintro e w1 ⟨rfl, d1⟩
    rw [Hf.out]
    go_wp2_with fail
    go_ret
    exact ⟨rfl, d1⟩
theorem specLeast_any (t : Nat) (w : World) : Calls Try.prog 52 #[.float .f32 t] w fun e w' => e = .returned (.bool (nngB t)) ∧ Drawn w w' := by
  have hp : nngB t = (fin .f32 t && ((FloatKind.f32.format.order t 0 == some .gt) || (FloatKind.f32.format.order t 0 == some .eq))) := rfl
  rw [hp]
  clear hp
  cases hf : fin .f32 t
  · have Hf := Lib.hid hf
    clear hf
    go_enter Try.func52, Try.ntmps52
    go_wp2_with fail
    refine (specFinite_any t _).mono ?_
    rintro e w1 ⟨rfl, d1⟩
    rw [Hf.out]
    go_wp2_with fail
    go_ret
    exact ⟨rfl, d1⟩
  · have Hf := Lib.hid hf
    clear hf
    go_enter Try.func52, Try.ntmps52
    go_wp2_with fail
    refine (specFinite_any t _).mono ?_
    rintro e w1 ⟨rfl, d1⟩
    rw [Hf.out]
    go_wp2_with fail
    go_ret
    exact ⟨rfl, d1⟩
theorem areLives1_any (t : Nat) (f : Bool) (w : World) : Calls Try.prog 93 #[.agg #[.float .f32 t, .bool f]] w fun e w' => e = .returned (.bool (!posB t)) ∧ Grn w w' := by
  go_enter Try.func93, Try.ntmps93
  go_wp2_with fail
  refine (implAbove_any t _).mono ?_
  rintro e w1 ⟨rfl, d1⟩
  have G := Lib.hid (((Grn.refl _).alloc _).trans (grn_drawn d1))
  clear d1
  go_wp2_with fail
  go_ret
  exact ⟨rfl, G.out⟩
/-- what is asked of a test of lives that is handed on -/
def Tests (p : Nat × Bool → Bool) (g : Nat) (lb : Array Value) (w : World) : Prop :=
  ∀ (W : World) (t : Nat) (f : Bool), t < 4294967296 → Below w.heap.size w W → Calls Try.prog g (#[.agg #[.float .f32 t, .bool f]] ++ lb) W fun e w' => e = .returned (.bool (p (t, f))) ∧ Grn W w'
set_option maxHeartbeats 1600000 in
theorem indexFunc_any (p : Nat × Bool → Bool) (g : Nat) (lb : Array Value) (eg : ∀ args w, (callFunc g args).run Try.prog w = .ok (.enter g args) w) (a : Option Addr) (len cap : Nat) (zs : List (Nat × Bool)) (w : World) (h : LRow w a len zs) (hp : Tests p g lb w) :
    Calls Try.prog 109 #[.slice a len cap, .func (.func g) #[] lb] w fun e w' => (∃ i : Int, e = .returned (.int .i64 i) ∧ decide (0 ≤ i) = zs.any p) ∧ Below w.heap.size w w' := by
  have H := Lib.hid h
  have HP := Lib.hid hp
  have hm : len ≤ 9223372036854775807 := by have := h.2.1; unfold maxLen at this; exact this
  clear h hp
  go_enter Try.func109, Try.ntmps109
  go_wp2_with fail
  go_loopg [5, 8] len (fun n i5 i8 wr => ∃ k : Nat, i8 = .int .i64 k ∧ Hid (k + n = len) ∧ k ≤ len ∧ Hid (Below w.heap.size w wr) ∧ Hid (∀ j, j < k → p (zs.getD j (0, false)) = false))
  case atStart => exact ⟨0, rfl, by show _ = _; omega, Nat.zero_le _, Below.refl _ _, fun j hj => absurd hj (Nat.not_lt_zero _)⟩
  case round =>
    obtain ⟨k, rfl, hk, hkl, hB, hN⟩ := hrel
    by_cases hlt : k < len
    · obtain ⟨b, off, rfl, hbl, hc, hd⟩ := (H.out.keep hB.out).2.2.2 k hlt
      have HJ : Hid (k + 1 + (gk - 1) = len) := by have := hk.out; show _ = _; omega
      have HG : Hid (gk - 1 < gk) := by have := hk.out; show _ < _; omega
      have hcall := HP.out wr (tm zs k) (fl zs k) (H.out.bd hlt) hB.out
      have hz : (tm zs k, fl zs k) = zs.getD k (0, false) := rfl
      rw [hz] at hcall
      have HZ : Hid (k < zs.length) := by show _ < _; rw [H.out.1]; exact hlt
      cases hq : p (zs.getD k (0, false)) with
      | true =>
        rw [hq] at hcall
        have HQ := Lib.hid hq
        clear hq hz
        generalize tm zs k = t at *
        generalize fl zs k = f at *
        go_wp2_with fail
        refine hcall.mono ?_
        rintro e w1 ⟨rfl, g1⟩
        have G := Lib.hid (hB.out.trans (g1.below.mono hB.out.size))
        clear g1
        go_wp2_with fail
        go_ret
        refine ⟨⟨k, rfl, ?_⟩, G.out⟩
        rw [decide_eq_true (by omega)]
        refine (List.any_eq_true.2 ⟨zs.getD k (0, false), ?_, HQ.out⟩).symm
        rw [show zs.getD k (0, false) = zs[k]'HZ.out from by simp [List.getD, HZ.out]]
        exact List.getElem_mem HZ.out
      | false =>
        rw [hq] at hcall
        have HQ := Lib.hid hq
        clear hq hz
        generalize tm zs k = t at *
        generalize fl zs k = f at *
        go_wp2_with fail
        refine hcall.mono ?_
        rintro e w1 ⟨rfl, g1⟩
        have G := Lib.hid (hB.out.trans (g1.below.mono hB.out.size))
        clear g1
        go_wp2_with fail
        go_roundg (gk - 1)
        case measure => exact HG.out
        case rel =>
          refine ⟨k + 1, by go_num, HJ, by omega, G.out, (show Hid _ from fun j hj => ?_)⟩
          by_cases e : j = k
          · subst e; exact HQ.out
          · exact hN.out j (by omega)
    · obtain rfl : k = len := by have := hk.out; omega
      clear hlt
      go_wp2_with fail
      go_ret
      refine ⟨⟨-1, rfl, ?_⟩, hB.out⟩
      rw [decide_eq_false (by omega)]
      refine (List.any_eq_false.2 fun z hz => ?_).symm
      obtain ⟨j, hj, rfl⟩ := List.mem_iff_getElem.1 hz
      have := hN.out j (by rw [← H.out.1]; exact hj)
      rw [show zs.getD j (0, false) = zs[j] from by simp [List.getD, hj]] at this
      rw [this]; decide
theorem containsFunc_any (p : Nat × Bool → Bool) (g : Nat) (lb : Array Value) (eg : ∀ args w, (callFunc g args).run Try.prog w = .ok (.enter g args) w) (a : Option Addr) (len cap : Nat) (zs : List (Nat × Bool)) (w : World) (h : LRow w a len zs) (hp : Tests p g lb w) :
    Calls Try.prog 92 #[.slice a len cap, .func (.func g) #[] lb] w fun e w' => e = .returned (.bool (zs.any p)) ∧ Below w.heap.size w w' := by
  have H := Lib.hid h
  have HP := Lib.hid hp
  clear h hp
  go_enter Try.func92, Try.ntmps92
  go_wp2_with fail
  refine (indexFunc_any p g lb eg a len cap zs _ H.out HP.out).mono ?_
  rintro e w1 ⟨⟨i, rfl, hi⟩, b1⟩
  have HI := Lib.hid hi
  clear hi
  go_wp2_with fail
  go_ret
  exact ⟨congrArg (fun b => Ending.returned (.bool b)) HI.out, b1⟩
theorem livB_yes {zs : List (Nat × Bool)} (h : 1 ≤ zs.length ∧ zs.length ≤ 48) : (!zs.any fun z => !posB z.1) = livB zs := by
  unfold livB
  rw [decide_eq_true h, Bool.true_and, List.all_eq_not_any_not]
theorem livB_no {zs : List (Nat × Bool)} (h : ¬ (1 ≤ zs.length ∧ zs.length ≤ 48)) : false = livB zs := by
  unfold livB
  rw [decide_eq_false h, Bool.false_and]
theorem implAre_any (a : Option Addr) (len cap : Nat) (zs : List (Nat × Bool)) (w : World) (h : LRow w a len zs) :
    Calls Try.prog 56 #[.slice a len cap] w fun e w' => e = .returned (.bool (livB zs)) ∧ Below w.heap.size w w' := by
  have H := Lib.hid h
  have hm : len ≤ 9223372036854775807 := by have := h.2.1; unfold maxLen at this; exact this
  have hl := Lib.hid h.1
  clear h
  by_cases h1 : (len : Int) < 1
  · have hx : Hid (false = livB zs) := Lib.hid (livB_no (by rw [hl.out]; omega))
    go_enter Try.func56, Try.ntmps56
    go_wp2_with fail
    go_ret
    exact ⟨congrArg (fun b => Ending.returned (.bool b)) hx.out, Below.refl _ _⟩
  · by_cases h2 : (48 : Int) < len
    · have hx : Hid (false = livB zs) := Lib.hid (livB_no (by rw [hl.out]; omega))
      go_enter Try.func56, Try.ntmps56
      go_wp2_with fail
      all_goals first | (exfalso; omega) | skip
      go_ret
      exact ⟨congrArg (fun b => Ending.returned (.bool b)) hx.out, Below.refl _ _⟩
    · have hx := Lib.hid (livB_yes (zs := zs) (by rw [hl.out]; omega))
      go_enter Try.func56, Try.ntmps56
      go_wp2_with fail
      all_goals first | (exfalso; omega) | skip
      refine (containsFunc_any (fun z => !posB z.1) 93 #[] (by intro args w; kernel_rfl) a len cap zs _ H.out (fun W t f _ _ => areLives1_any t f W)).mono ?_
      rintro e w1 ⟨rfl, b1⟩
      go_wp2_with fail
      go_ret
      exact ⟨congrArg (fun b => Ending.returned (.bool b)) hx.out, b1⟩
set_option maxHeartbeats 1600000 in
theorem specLives_any (a : Option Addr) (len cap : Nat) (zs : List (Nat × Bool)) (w : World) (h : LRow w a len zs) :
    Calls Try.prog 51 #[.slice a len cap] w fun e w' => e = .returned (.bool (livB zs)) ∧ Grn w w' := by
  have H := Lib.hid h
  have hm : len ≤ 9223372036854775807 := by have := h.2.1; unfold maxLen at this; exact this
  clear h
  go_enter Try.func51, Try.ntmps51
  go_wp2_with fail
  go_loopg [3] len (fun n i wr => ∃ k : Nat, i = .int .i64 k ∧ Hid (k + n = len) ∧ k ≤ len ∧ Hid (Grn w wr) ∧ Hid (∀ j, j < k → posB (tm zs j) = true))
  case atStart => exact ⟨0, rfl, by show _ = _; omega, Nat.zero_le _, Grn.refl _, fun j hj => absurd hj (Nat.not_lt_zero _)⟩
  case round =>
    obtain ⟨k, rfl, hk, hkl, hB, hN⟩ := hrel
    by_cases hlt : k < len
    · obtain ⟨b, off, rfl, hbl, hc, _⟩ := (H.out.keep hB.out.below).2.2.2 k hlt
      have HJ : Hid (k + 1 + (gk - 1) = len) := by have := hk.out; show _ = _; omega
      have HG : Hid (gk - 1 < gk) := by have := hk.out; show _ < _; omega
      have HZ : Hid (k < zs.length) := by show _ < _; rw [H.out.1]; exact hlt
      obtain ⟨t, ht⟩ : ∃ t, t = tm zs k := ⟨_, rfl⟩
      rw [← ht] at hc
      have HT := Lib.hid ht
      clear ht
      cases hq : posB t with
      | true =>
        have HQ := Lib.hid hq
        clear hq
        go_wp2_with fail
        refine (specAbove_any t _).mono ?_
        rintro e w1 ⟨rfl, d1⟩
        rw [HQ.out]
        have G := Lib.hid (hB.out.trans (grn_drawn d1))
        clear d1
        go_wp2_with fail
        go_roundg (gk - 1)
        case measure => exact HG.out
        case rel =>
          refine ⟨k + 1, by go_num, HJ, by omega, G.out, (show Hid _ from fun j hj => ?_)⟩
          by_cases e : j = k
          · subst e; rw [← HT.out]; exact HQ.out
          · exact hN.out j (by omega)
      | false =>
        have HQ := Lib.hid hq
        clear hq
        go_wp2_with fail
        refine (specAbove_any t _).mono ?_
        rintro e w1 ⟨rfl, d1⟩
        rw [HQ.out]
        have G := Lib.hid (hB.out.trans (grn_drawn d1))
        clear d1
        go_wp2_with fail
        go_ret
        have hx : livB zs = false := by
          unfold livB
          rcases all_at HZ.out with h | h
          · rw [h, Bool.and_false]
          · rw [← HT.out, HQ.out] at h; cases h
        exact ⟨congrArg (fun b => Ending.returned (.bool b)) hx.symm, G.out⟩
    · obtain rfl : k = len := by have := hk.out; omega
      have hx : Hid ((zs.all fun z => posB z.1) = true) := by
        show _ = _
        refine List.all_eq_true.2 fun z hz => ?_
        obtain ⟨j, hj, rfl⟩ := List.mem_iff_getElem.1 hz
        have := hN.out j (by rw [← H.out.1]; exact hj)
        unfold tm at this
        rw [show zs.getD j (0, false) = zs[j] from by simp [List.getD, hj]] at this
        exact this
      have hy : Hid (livB zs = decide (1 ≤ (k : Int) ∧ (k : Int) ≤ 48)) := by
        show _ = _
        unfold livB
        rw [hx.out, Bool.and_true, H.out.1]
        congr 1
        apply propext
        omega
      clear hlt hN hx
      by_cases h1 : 1 ≤ (k : Int)
      · by_cases h2 : (k : Int) ≤ 48
        · have hz : Hid (true = livB zs) := by
            rw [hy.out]
            exact (show decide (1 ≤ (k : Int) ∧ (k : Int) ≤ 48) = true from decide_eq_true ⟨h1, h2⟩).symm
          go_wp2_with fail
          all_goals first | (exfalso; omega) | skip
          go_ret
          exact ⟨congrArg (fun b => Ending.returned (.bool b)) hz.out, hB.out⟩
        · have hz : Hid (false = livB zs) := by
            rw [hy.out]
            exact (show decide (1 ≤ (k : Int) ∧ (k : Int) ≤ 48) = false from decide_eq_false (by omega)).symm
          go_wp2_with fail
          all_goals first | (exfalso; omega) | skip
          go_ret
          exact ⟨congrArg (fun b => Ending.returned (.bool b)) hz.out, hB.out⟩
      · have hz : Hid (false = livB zs) := by
            rw [hy.out]
            exact (show decide (1 ≤ (k : Int) ∧ (k : Int) ≤ 48) = false from decide_eq_false (by omega)).symm
        go_wp2_with fail
        all_goals first | (exfalso; omega) | skip
        go_ret
        exact ⟨congrArg (fun b => Ending.returned (.bool b)) hz.out, hB.out⟩
end Go.Proofs.Ytplfmdjccmhclab
