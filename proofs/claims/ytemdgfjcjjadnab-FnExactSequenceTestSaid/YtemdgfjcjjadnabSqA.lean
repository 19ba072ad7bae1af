/-
  Contracts: how long a run takes, and the bars of a test, in both. Conditions: numbers are words.
-/
import Derived.Test.YtemdgfjcjjadnabWeP
import Derived.Test.YtemdgfjcjjadnabLogW
import Derived.Test.YtemdgfjcjjadnabIntW
import Derived.Test.YtemdgfjcjjadnabIxF
namespace Sq
open Go Flt F32 Cm We
/-- greater than 0 -/
def gt0 (z : Nat) : Bool := FloatKind.f32.format.order z 0 == some .gt
def wf0 (sh : Nat) (n : Int) : Bool := shr sh && (gt0 sh && decide (1 ≤ n ∧ n ≤ 32))
def wfO (sh : Nat) : Nat → Option Nat
  | 0 => some 0
  | k + 1 => F32.opO .quo (F32.opO .add (wfO sh k) (some 1065353216)) (some sh)
def wfE (sh : Nat) (n : Int) : Option Nat := wfO sh n.toNat
theorem shr_num {z : Nat} (h : shr z = true) : nan .f32 z = false := by
  cases hn : nan .f32 z
  · rfl
  · unfold shr gq at h
    rw [order_nan .f32 z 0 (.inl hn)] at h
    simp at h
/-- from 0 on: it is 0, or greater -/
theorem eq_gt {z : Nat} (h : shr z = true) : (FloatKind.f32.format.order z 0 == some .eq) = !gt0 z := by
  unfold shr gq at h
  unfold gt0
  rw [Bool.and_eq_true, Bool.or_eq_true] at h
  rcases h.1 with h1 | h1
  · have := eq_of_beq h1; rw [this]; rfl
  · have := eq_of_beq h1; rw [this]; rfl
def half : Nat := 1056964608
def rk (z : Nat) : Bool := gt0 z && (FloatKind.f32.format.order z 1056964608 == some .lt)
theorem rk_is {z : Nat} (h : rk z = true) (hz : z < 4294967296) : F32.Is (some z) z := by
  refine ⟨rfl, ?_, hz⟩
  cases hn : nan .f32 z
  · rfl
  · unfold rk gt0 at h
    rw [order_nan .f32 z 0 (.inl hn)] at h
    simp at h
/-- two numbers of a new block -/
theorem frow_two (w : World) (t : TypeId) (x y : Nat) (hx : x < 4294967296) (hy : y < 4294967296) : FRow (w.alloc (.cells #[.float .f32 x, .float .f32 y] t)) (some ⟨w.heap.size, 0, none⟩) 2 [x, y] := by
  refine ⟨rfl, by decide, by simp; exact ⟨hx, hy⟩, fun i hi => ⟨w.heap.size, 0, rfl, by simp, ?_⟩⟩
  match i, hi with
  | 0, _ => rw [World.cell?_alloc_mark]; rfl
  | 1, _ => rw [World.cell?_alloc_mark]; rfl
end Sq
namespace Go.Proofs.Ytemdgfjcjjadnab
open Go.RowKit Flt Dec Cm We F32 Sq
def lgO (o : Option Nat) : Option Nat := o.bind logOut
theorem lg_is {o : Option Nat} {x v : Nat} (hx : x < 4294967296) (h : F32.Is o x) (hv : F32.Is (logOut x) v) : F32.Is (lgO o) v := by
  cases o with
  | none =>
    have hn : nan .f32 x = true := h
    rcases log_kinds x hx with ⟨_, ho⟩ | ⟨hn', _⟩ | ⟨hn', _⟩ | ⟨rfl, _⟩ | ⟨hn', _⟩
    · rw [ho] at hv; exact hv
    · rw [hn] at hn'; cases hn'
    · rw [hn] at hn'; cases hn'
    · exact absurd hn (by decide)
    · rw [hn] at hn'; cases hn'
  | some u => obtain ⟨rfl, _, _⟩ := h; exact hv
def sqL (al be : Nat) : Option Nat := lgO (F32.opO .quo (some be) (F32.opO .sub (some 1065353216) (some al)))
def sqH (al be : Nat) : Option Nat := lgO (F32.opO .quo (F32.opO .sub (some 1065353216) (some be)) (some al))
def sq0 (al be : Nat) : Bool := rk al && rk be
def sqB (al be : Nat) : Bool := sq0 al be && (finO (sqL al be) && finO (sqH al be))
def sqV (al be : Nat) (o : Option Nat) : Nat := if sqB al be then o.getD 0 else 0
theorem sq_no {al be : Nat} (h : sqB al be = false) (o : Option Nat) : sqV al be o = 0 := by unfold sqV; rw [h]; rfl
theorem sq_yes {al be : Nat} (h : sqB al be = true) (o : Option Nat) : sqV al be o = o.getD 0 := by unfold sqV; rw [h]; rfl
theorem sqB_0 {al be : Nat} (h : sq0 al be = false) : sqB al be = false := by unfold sqB; rw [h]; rfl
theorem sqB_1 {al be : Nat} (h : sq0 al be = true) : sqB al be = (finO (sqL al be) && finO (sqH al be)) := by unfold sqB; rw [h]; rfl
theorem sq_fin {o : Option Nat} (h : finO o = true) : fin .f32 (o.getD 0) = true := by
  cases o with
  | none => cases h
  | some v => exact h
theorem is_get {o : Option Nat} {v : Nat} (h : F32.Is o v) (hf : finO o = true) : v = o.getD 0 := by
  cases o with
  | none => cases hf
  | some u => exact h.1
theorem sqV_num (al be : Nat) {o : Option Nat} (h : sqB al be = true → finO o = true) : nan .f32 (sqV al be o) = false := by
  cases hb : sqB al be with
  | false => rw [sq_no hb]; decide
  | true => rw [sq_yes hb]; exact fin_num (sq_fin (h hb))
theorem sqB_parts {al be : Nat} (h : sqB al be = true) : sq0 al be = true ∧ finO (sqL al be) = true ∧ finO (sqH al be) = true := by
  unfold sqB at h
  simp only [Bool.and_eq_true] at h
  exact h
theorem implLogL_any (a : Nat) (ha : a < 4294967296) (w : World) :
    Calls Try.prog 62 #[.float .f32 a] w fun e w' => ∃ v, e = .returned (.float .f32 v) ∧ F32.Is (logOut a) v ∧ v < 4294967296 ∧ Drawn w w' := by
  have hN := narrow_nan 9221120237041090561 (by decide)
  rcases log_kinds a ha with ⟨hn, ho⟩ | ⟨hn, hz, ho⟩ | ⟨hn, hs, ho⟩ | ⟨hi, ho⟩ | ⟨hn, hf, h1, h2, v, hv, ho⟩
  · rw [ho]
    have c1 : (FloatKind.f32.format.order a 0 == some .eq) = false := by rw [order_nan .f32 a _ (.inl hn)]; rfl
    have c2 : (FloatKind.f32.format.order a 2139095039 == some .gt) = false := by rw [order_nan .f32 a _ (.inl hn)]; rfl
    have c3 : (FloatKind.f32.format.order a 0 == some .gt) = false := by rw [order_nan .f32 a _ (.inl hn)]; rfl
    have hx := Lib.hid (convNan_nan .f32 9221120237041090561 w)
    clear hn ho
    go_enter Try.func62, Try.ntmps62
    go_wp2_with fail
    refine (mNaN_any _).mono ?_
    rintro e w1 ⟨rfl, rfl⟩
    go_wp2_with fail
    go_ret
    exact ⟨_, rfl, hx.out, convNan_lt .f32 9221120237041090561 _, Drawn.one _⟩
  · rw [ho]
    obtain ⟨c1, _, _⟩ := cmp0 a ha hn
    rw [decide_eq_true hz] at c1
    have hM := narrow_some 18442240474082181120 4286578688 (by decide +kernel)
    clear hn ho hz
    go_enter Try.func62, Try.ntmps62
    go_wp2_with fail
    refine (mInf_any _).mono ?_
    rintro e w1 ⟨rfl, rfl⟩
    go_wp2_with fail
    go_ret
    exact ⟨_, rfl, ⟨rfl, by decide, by decide⟩, by decide, Drawn.refl _⟩
  · rw [ho]
    obtain ⟨c1, c2, c3⟩ := cmp0 a ha hn
    rw [decide_eq_false (by omega)] at c1 c2 c3
    have hx := Lib.hid (convNan_nan .f32 9221120237041090561 w)
    clear hn ho hs
    go_enter Try.func62, Try.ntmps62
    go_wp2_with fail
    refine (mNaN_any _).mono ?_
    rintro e w1 ⟨rfl, rfl⟩
    go_wp2_with fail
    go_ret
    exact ⟨_, rfl, hx.out, convNan_lt .f32 9221120237041090561 _, Drawn.one _⟩
  · rw [ho]
    subst hi
    obtain ⟨c1, c2, c3⟩ := cmp0 2139095040 ha (by decide)
    rw [decide_eq_false (by omega)] at c1
    rw [decide_eq_true (by omega)] at c2
    clear ho c3
    go_enter Try.func62, Try.ntmps62
    go_wp2_with fail
    go_ret
    exact ⟨_, rfl, ⟨rfl, by decide, by decide⟩, by decide, Drawn.refl _⟩
  · obtain ⟨r1, r2⟩ := W_range hf (by omega) (by omega)
    rw [ho, hv]
    obtain ⟨c1, c2, c3⟩ := cmp0 a ha hn
    rw [decide_eq_false (by omega)] at c1 c2
    rw [decide_eq_true (by omega)] at c3
    have hW := widen a hn
    obtain ⟨v', hv', g1, g2⟩ := narrow_ok (logC_le r1 r2) (by omega)
    obtain rfl : v' = v := by rw [hv'] at hv; exact Option.some.inj hv
    have HI : Hid (F32.Is (some v') v') := ⟨rfl, g2, g1⟩
    have hM := narrow_some _ v' hv'
    clear hn ho hf h1 h2 hv hv' g1 g2
    go_enter Try.func62, Try.ntmps62
    go_wp2_with fail
    refine (implLog_any _ r1 r2 _).mono ?_
    rintro e w1 ⟨rfl, rfl, _⟩
    clear r1 r2
    go_wp2_with fail
    go_ret
    exact ⟨_, rfl, HI.out, HI.out.2.2, Drawn.refl _⟩
set_option maxHeartbeats 1600000 in
theorem c_isRun (sh : Nat) (n : Int) (w : World) : Calls Try.prog 52 #[.float .f32 sh, .int .i64 n] w fun e w' => e = .returned (.bool (wf0 sh n)) ∧ w = w' := by
  cases h1 : shr sh with
  | false =>
    have HR : Hid (wf0 sh n = false) := by show _ = _; unfold wf0; rw [h1]; rfl
    have H1 := Lib.hid h1
    clear h1
    go_enter Try.func52, Try.ntmps52
    go_wp2_with fail
    refine (c_implChance sh _).mono ?_
    rintro e w1 ⟨rfl, rfl⟩
    rw [H1.out]
    go_wp2_with fail
    go_ret
    exact ⟨by rw [HR.out] <;> rfl, rfl⟩
  | true =>
    have H1 := Lib.hid h1
    cases h2 : gt0 sh with
    | false =>
      have HR : Hid (wf0 sh n = false) := by show _ = _; unfold wf0; rw [h2]; simp
      unfold gt0 at h2
      clear h1
      go_enter Try.func52, Try.ntmps52
      go_wp2_with fail
      refine (c_implChance sh _).mono ?_
      rintro e w1 ⟨rfl, rfl⟩
      rw [H1.out]
      go_wp2_with fail
      go_ret
      exact ⟨by rw [HR.out] <;> rfl, rfl⟩
    | true =>
      by_cases h3 : 1 ≤ n
      · have HR : Hid (wf0 sh n = decide (n ≤ 32)) := by
          show _ = _; unfold wf0; rw [h1, h2]
          by_cases c : n ≤ 32
          · rw [decide_eq_true c, decide_eq_true ⟨h3, c⟩]; rfl
          · rw [decide_eq_false c, decide_eq_false (by omega)]; rfl
        unfold gt0 at h2
        clear h1
        go_enter Try.func52, Try.ntmps52
        go_wp2_with fail
        refine (c_implChance sh _).mono ?_
        rintro e w1 ⟨rfl, rfl⟩
        rw [H1.out]
        go_wp2_with fail
        go_ret
        exact ⟨by rw [HR.out] <;> rfl, rfl⟩
      · have HR : Hid (wf0 sh n = false) := by show _ = _; unfold wf0; rw [decide_eq_false (by omega)]; simp
        unfold gt0 at h2
        clear h1
        go_enter Try.func52, Try.ntmps52
        go_wp2_with fail
        refine (c_implChance sh _).mono ?_
        rintro e w1 ⟨rfl, rfl⟩
        rw [H1.out]
        go_wp2_with fail
        go_ret
        exact ⟨by rw [HR.out] <;> rfl, rfl⟩
set_option maxHeartbeats 1600000 in
theorem iWaitForRun_any (sh : Nat) (n : Int) (w : World) (hsh : sh < 4294967296) :
    Calls Try.prog 18 #[.float .f32 sh, .int .i64 n] w fun e w' => e = .returned (.tuple #[.float .f32 (okV (wf0 sh n) (wfE sh n)), .bool (okB (wf0 sh n) (wfE sh n))]) ∧ Below w.heap.size w w' := by
  cases h : wf0 sh n with
  | false =>
    have HR := Lib.hid (ok_no (c := wf0 sh n) h (wfE sh n))
    have H := Lib.hid h
    rw [h] at HR
    clear h
    go_enter Try.func18, Try.ntmps18
    go_wp2_with fail
    refine (c_isRun sh n _).mono ?_
    rintro e w1 ⟨rfl, rfl⟩
    rw [H.out]
    go_wp2_with fail
    go_ret2
    rw [HR.out.1, HR.out.2]
    exact ⟨rfl, Below.refl _ _⟩
  | true =>
    have HR := Lib.hid (ok_yes (c := wf0 sh n) h (wfE sh n))
    have H := Lib.hid h
    rw [h] at HR
    have hp : shr sh = true ∧ gt0 sh = true ∧ (1 ≤ n ∧ n ≤ 32) := by
      unfold wf0 at h
      simp only [Bool.and_eq_true, decide_eq_true_eq] at h
      exact h
    have HSH : Hid (F32.Is (some sh) sh) := ⟨rfl, shr_num hp.1, hsh⟩
    have hn := hp.2.2
    clear h hp
    obtain ⟨n, rfl⟩ : ∃ m : Nat, n = m := ⟨n.toNat, by omega⟩
    have HE : Hid (wfE sh n = wfO sh n) := rfl
    go_enter Try.func18, Try.ntmps18
    go_wp2_with fail
    refine (c_isRun sh (n : Int) _).mono ?_
    rintro e w1 ⟨rfl, rfl⟩
    rw [H.out]
    go_wp2_with fail
    go_loopg [6, 12] n (fun q y z wr => ∃ k x : Nat, y = .float .f32 x ∧ z = .int .i64 (k : Int) ∧ Hid (k + q = n) ∧ k ≤ n ∧ Hid (F32.Is (wfO sh k) x) ∧ Hid (Drawn w wr))
    case atStart => exact ⟨0, 0, rfl, by go_num, by show _ = _; omega, Nat.zero_le _, zero_is, Drawn.refl _⟩
    case round =>
      obtain ⟨k, x, rfl, rfl, hk, hkn, hX, hD⟩ := hrel
      by_cases hlt : k < n
      · have hltI : (k : Int) < (n : Int) := by omega
        have HJ : Hid (k + 1 + (gk - 1) = n ∧ gk - 1 < gk) := by have := hk.out; show _ ∧ _; omega
        obtain ⟨x1, v1, r1, j1, l1, e1⟩ := F32.arith_ex (P := Try.prog) (op := .add) (.inl rfl) 24 hX.out one_is wr
        obtain ⟨x2, v2, r2, j2, l2, e2⟩ := F32.arith_ex (P := Try.prog) (op := .quo) (.inr (.inr (.inr rfl))) 24 j1 HSH.out v1
        have D2 := Lib.hid (e1.trans e2)
        have J2 : Hid (F32.Is (wfO sh (k + 1)) x2) := j2
        clear j1 l1 e1 j2 l2 e2 hk
        go_wp2_with fail
        go_roundg (gk - 1)
        case measure => exact HJ.out.2
        case rel => exact ⟨k + 1, x2, rfl, by go_num, HJ.out.1, by omega, J2.out, hD.out.trans D2.out⟩
      · obtain rfl : k = n := by omega
        have hltI : ¬ ((k : Int) < (k : Int)) := by omega
        have HF := Lib.hid (fin_is (show F32.Is (wfE sh k) x from hX.out))
        clear hlt hk
        go_wp2_with fail
        refine (c_onlyFinite x _).mono ?_
        rintro e w4 ⟨rfl, d4⟩
        rw [HF.out.2, HF.out.1, ← HR.out.2, ← HR.out.1]
        have D4 := Lib.hid (hD.out.trans d4)
        clear d4
        go_wp2_with fail
        go_ret2
        exact ⟨rfl, D4.out.below _⟩
set_option maxHeartbeats 1600000 in
theorem sWaitForRun_any (sh : Nat) (n : Int) (w : World) (hsh : sh < 4294967296) :
    Calls Try.prog 17 #[.float .f32 sh, .int .i64 n] w fun e w' => e = .returned (.tuple #[.float .f32 (okV (wf0 sh n) (wfE sh n)), .bool (okB (wf0 sh n) (wfE sh n))]) ∧ Below w.heap.size w w' := by
  cases h1 : shr sh with
  | false =>
    have HR := Lib.hid (ok_no (show wf0 sh n = false by unfold wf0; rw [h1]; rfl) (wfE sh n))
    have H1 := Lib.hid h1
    clear h1
    go_enter Try.func17, Try.ntmps17
    go_wp2_with fail
    refine (c_specShare sh _).mono ?_
    rintro e w1 ⟨rfl, rfl⟩
    rw [H1.out]
    go_wp2_with fail
    go_ret2
    rw [HR.out.1, HR.out.2]
    exact ⟨rfl, Below.refl _ _⟩
  | true =>
    have H1 := Lib.hid h1
    have he := eq_gt h1
    have HSH : Hid (F32.Is (some sh) sh) := ⟨rfl, shr_num h1, hsh⟩
    cases h2 : gt0 sh with
    | false =>
      have HR := Lib.hid (ok_no (show wf0 sh n = false by unfold wf0; rw [h2]; simp) (wfE sh n))
      rw [h2] at he
      clear h1 h2
      go_enter Try.func17, Try.ntmps17
      go_wp2_with fail
      refine (c_specShare sh _).mono ?_
      rintro e w1 ⟨rfl, rfl⟩
      rw [H1.out]
      go_wp2_with fail
      go_ret2
      rw [HR.out.1, HR.out.2]
      exact ⟨rfl, Below.refl _ _⟩
    | true =>
      rw [h2] at he
      cases h3 : decide (1 ≤ n ∧ n ≤ 32) with
      | false =>
        have HR := Lib.hid (ok_no (show wf0 sh n = false by unfold wf0; rw [h3]; simp) (wfE sh n))
        have H3 := Lib.hid h3
        clear h1 h2 h3
        go_enter Try.func17, Try.ntmps17
        go_wp2_with fail
        refine (c_specShare sh _).mono ?_
        rintro e w1 ⟨rfl, rfl⟩
        rw [H1.out]
        go_wp2_with fail
        refine (c_In n 1 32 _).mono ?_
        rintro e w1 ⟨rfl, rfl⟩
        rw [H3.out]
        go_wp2_with fail
        go_ret2
        rw [HR.out.1, HR.out.2]
        exact ⟨rfl, Below.refl _ _⟩
      | true =>
        have HR := Lib.hid (ok_yes (show wf0 sh n = true by unfold wf0; rw [h1, h2, h3]; rfl) (wfE sh n))
        have H3 := Lib.hid h3
        have hn := of_decide_eq_true h3
        clear h1 h2 h3
        obtain ⟨n, rfl⟩ : ∃ m : Nat, n = m := ⟨n.toNat, by omega⟩
        go_enter Try.func17, Try.ntmps17
        go_wp2_with fail
        refine (c_specShare sh _).mono ?_
        rintro e w1 ⟨rfl, rfl⟩
        rw [H1.out]
        go_wp2_with fail
        refine (c_In (n : Int) 1 32 _).mono ?_
        rintro e w1 ⟨rfl, rfl⟩
        rw [H3.out]
        go_wp2_with fail
        clear he
        go_loopg [6, 7] n (fun q y z wr => ∃ k x : Nat, y = .float .f32 x ∧ z = .int .i64 (k : Int) ∧ Hid (k + q = n) ∧ k ≤ n ∧ Hid (F32.Is (wfO sh k) x) ∧ Hid (Drawn w wr))
        case atStart => exact ⟨0, 0, rfl, by go_num, by show _ = _; omega, Nat.zero_le _, zero_is, Drawn.refl _⟩
        case round =>
          obtain ⟨k, x, rfl, rfl, hk, hkn, hX, hD⟩ := hrel
          by_cases hlt : k < n
          · have hltI : (k : Int) < (n : Int) := by omega
            have HJ : Hid (k + 1 + (gk - 1) = n ∧ gk - 1 < gk) := by have := hk.out; show _ ∧ _; omega
            obtain ⟨x1, v1, r1, j1, l1, e1⟩ := F32.arith_ex (P := Try.prog) (op := .add) (.inl rfl) 24 hX.out one_is wr
            obtain ⟨x2, v2, r2, j2, l2, e2⟩ := F32.arith_ex (P := Try.prog) (op := .quo) (.inr (.inr (.inr rfl))) 24 j1 HSH.out v1
            have D2 := Lib.hid (e1.trans e2)
            have J2 : Hid (F32.Is (wfO sh (k + 1)) x2) := j2
            clear j1 l1 e1 j2 l2 e2 hk
            go_wp2_with fail
            go_roundg (gk - 1)
            case measure => exact HJ.out.2
            case rel => exact ⟨k + 1, x2, rfl, by go_num, HJ.out.1, by omega, J2.out, hD.out.trans D2.out⟩
          · obtain rfl : k = n := by omega
            have hltI : ¬ ((k : Int) < (k : Int)) := by omega
            have HF := Lib.hid (fin_is (show F32.Is (wfE sh k) x from hX.out))
            clear hlt hk
            go_wp2_with fail
            refine (c_Number x _).mono ?_
            rintro e w4 ⟨rfl, d4⟩
            rw [HF.out.2, HF.out.1, ← HR.out.2, ← HR.out.1]
            have D4 := Lib.hid (hD.out.trans d4)
            clear d4
            go_wp2_with fail
            go_ret2
            exact ⟨rfl, D4.out.below _⟩
theorem c_smallRisk (z : Nat) (w : World) : Calls Try.prog 61 #[.float .f32 z] w fun e w' => e = .returned (.bool (rk z)) ∧ w = w' := by
  cases h1 : gt0 z with
  | false =>
    have HR : Hid (rk z = false) := by show _ = _; unfold rk; rw [h1]; rfl
    unfold gt0 at h1
    go_enter Try.func61, Try.ntmps61
    go_wp2_with fail
    go_ret
    exact ⟨by rw [HR.out] <;> rfl, rfl⟩
  | true =>
    have HR : Hid (rk z = (FloatKind.f32.format.order z 1056964608 == some .lt)) := by show _ = _; unfold rk; rw [h1]; rfl
    unfold gt0 at h1
    go_enter Try.func61, Try.ntmps61
    go_wp2_with fail
    go_ret
    exact ⟨by rw [HR.out] <;> rfl, rfl⟩
set_option maxHeartbeats 1600000 in
theorem c_Risks (al be : Nat) (w : World) : Calls Try.prog 58 #[.float .f32 al, .float .f32 be] w fun e w' => e = .returned (.bool (sq0 al be)) ∧ w = w' := by
  cases h1 : gt0 al with
  | false =>
    have HR : Hid (sq0 al be = false) := by show _ = _; unfold sq0 rk; rw [h1]; rfl
    unfold gt0 at h1
    go_enter Try.func58, Try.ntmps58
    go_wp2_with fail
    go_ret
    exact ⟨by rw [HR.out] <;> rfl, rfl⟩
  | true =>
    cases h2 : (FloatKind.f32.format.order al 1056964608 == some .lt) with
    | false =>
      have HR : Hid (sq0 al be = false) := by show _ = _; unfold sq0 rk; rw [h2]; simp
      unfold gt0 at h1
      go_enter Try.func58, Try.ntmps58
      go_wp2_with fail
      go_ret
      exact ⟨by rw [HR.out] <;> rfl, rfl⟩
    | true =>
      cases h3 : gt0 be with
      | false =>
        have HR : Hid (sq0 al be = false) := by show _ = _; unfold sq0 rk; rw [h3]; simp
        unfold gt0 at h1 h3
        go_enter Try.func58, Try.ntmps58
        go_wp2_with fail
        go_ret
        exact ⟨by rw [HR.out] <;> rfl, rfl⟩
      | true =>
        have HR : Hid (sq0 al be = (FloatKind.f32.format.order be 1056964608 == some .lt)) := by show _ = _; unfold sq0 rk; rw [h1, h2, h3]; rfl
        unfold gt0 at h1 h3
        go_enter Try.func58, Try.ntmps58
        go_wp2_with fail
        go_ret
        exact ⟨by rw [HR.out] <;> rfl, rfl⟩
set_option maxHeartbeats 1600000 in
theorem c_Bars (al be : Nat) (w : World) (ha : F32.Is (some al) al) (hb : F32.Is (some be) be) :
    Calls Try.prog 59 #[.float .f32 al, .float .f32 be] w fun e w' => (∃ x y : Nat, e = .returned (.tuple #[.float .f32 x, .float .f32 y]) ∧ F32.Is (sqL al be) x ∧ F32.Is (sqH al be) y) ∧ Drawn w w' := by
  have HA := Lib.hid ha
  have HB := Lib.hid hb
  obtain ⟨x1, v1, r1, j1, l1, e1⟩ := F32.arith_ex (P := Try.prog) (op := .sub) (.inr (.inl rfl)) 24 one_is ha w
  obtain ⟨x2, v2, r2, j2, l2, e2⟩ := F32.arith_ex (P := Try.prog) (op := .quo) (.inr (.inr (.inr rfl))) 24 hb j1 v1
  have D2 := Lib.hid (e1.trans e2)
  have J2 := Lib.hid j2
  clear ha hb j1 l1 e1 j2 e2
  go_enter Try.func59, Try.ntmps59
  go_wp2_with fail
  refine (specLogN_any x2 l2 _).mono ?_
  rintro e w3 ⟨lo, rfl, hlo, d3⟩
  have HLO : Hid (F32.Is (sqL al be) lo) := lg_is l2 J2.out hlo
  have D3 := Lib.hid (D2.out.trans d3)
  obtain ⟨x4, v4, r4, j4, l4, e4⟩ := F32.arith_ex (P := Try.prog) (op := .sub) (.inr (.inl rfl)) 24 one_is HB.out w3
  obtain ⟨x5, v5, r5, j5, l5, e5⟩ := F32.arith_ex (P := Try.prog) (op := .quo) (.inr (.inr (.inr rfl))) 24 j4 HA.out v4
  have D5 := Lib.hid (D3.out.trans (e4.trans e5))
  have J5 := Lib.hid j5
  clear hlo d3 j4 l4 e4 j5 e5 r1 r2 l2
  go_wp2_with fail
  refine (specLogN_any x5 l5 _).mono ?_
  rintro e w6 ⟨hi, rfl, hhi, d6⟩
  have HHI : Hid (F32.Is (sqH al be) hi) := lg_is l5 J5.out hhi
  have D6 := Lib.hid (D5.out.trans d6)
  clear hhi d6 r4 r5 l5
  go_wp2_with fail
  go_ret2
  exact ⟨⟨_, _, rfl, HLO.out, HHI.out⟩, D6.out⟩
set_option maxHeartbeats 1600000 in
theorem sSequenceBars_drawn (al be : Nat) (w : World) (hal : al < 4294967296) (hbe : be < 4294967296) :
    Calls Try.prog 24 #[.float .f32 al, .float .f32 be] w fun e w' => e = .returned (.tuple #[.float .f32 (sqV al be (sqL al be)), .float .f32 (sqV al be (sqH al be)), .bool (sqB al be)]) ∧ Drawn w w' := by
  cases h0 : sq0 al be with
  | false =>
    have HB := Lib.hid (sqB_0 h0)
    have HV := Lib.hid (fun o => sq_no HB.out o)
    have H0 := Lib.hid h0
    clear h0
    go_enter Try.func24, Try.ntmps24
    go_wp2_with fail
    refine (c_Risks al be _).mono ?_
    rintro e w1 ⟨rfl, rfl⟩
    rw [H0.out]
    go_wp2_with fail
    go_ret3
    rw [HV.out, HV.out, HB.out]
    exact ⟨rfl, Drawn.refl _⟩
  | true =>
    have H0 := Lib.hid h0
    have HS := Lib.hid (sqB_1 h0)
    have hp : rk al = true ∧ rk be = true := by unfold sq0 at h0; rwa [Bool.and_eq_true] at h0
    have HA := Lib.hid (rk_is hp.1 hal)
    have HBE := Lib.hid (rk_is hp.2 hbe)
    clear h0 hp
    cases h1 : finO (sqL al be) with
    | false =>
      have HB : Hid (sqB al be = false) := by show _ = _; rw [HS.out, h1]; rfl
      have HV := Lib.hid (fun o => sq_no HB.out o)
      have H1 := Lib.hid h1
      clear h1
      go_enter Try.func24, Try.ntmps24
      go_wp2_with fail
      refine (c_Risks al be _).mono ?_
      rintro e w1 ⟨rfl, rfl⟩
      rw [H0.out]
      go_wp2_with fail
      refine (c_Bars al be _ HA.out HBE.out).mono ?_
      rintro e w2 ⟨⟨x, y, rfl, hx, hy⟩, d2⟩
      have HF : Hid (fin .f32 x = false) := by show _ = _; rw [(fin_is hx).1]; exact H1.out
      have D2 := Lib.hid d2
      clear hx hy d2
      go_wp2_with fail
      refine (specFinite_any x _).mono ?_
      rintro e w3 ⟨rfl, d3⟩
      rw [HF.out]
      have D3 := Lib.hid (D2.out.trans d3)
      clear d3
      go_wp2_with fail
      go_ret3
      rw [HV.out, HV.out, HB.out]
      exact ⟨rfl, D3.out⟩
    | true =>
      have H1 := Lib.hid h1
      cases h2 : finO (sqH al be)
      all_goals
        have HB : Hid (sqB al be = finO (sqH al be)) := by show _ = _; rw [HS.out, h1]; rfl
        have H2 := Lib.hid h2
        rw [h2] at HB
        clear h2
        try clear h1
        go_enter Try.func24, Try.ntmps24
        go_wp2_with fail
        refine (c_Risks al be _).mono ?_
        rintro e w1 ⟨rfl, rfl⟩
        rw [H0.out]
        go_wp2_with fail
        refine (c_Bars al be _ HA.out HBE.out).mono ?_
        rintro e w2 ⟨⟨x, y, rfl, hx, hy⟩, d2⟩
        have HF : Hid (fin .f32 x = true) := by show _ = _; rw [(fin_is hx).1]; exact H1.out
        have HF2 := Lib.hid ((fin_is hy).1.trans H2.out)
        have HX := Lib.hid (is_get hx H1.out)
        have HY : Hid (finO (sqH al be) = true → y = (sqH al be).getD 0) := Lib.hid fun h => is_get hy h
        have D2 := Lib.hid d2
        clear hx hy d2
        go_wp2_with fail
        refine (specFinite_any x _).mono ?_
        rintro e w3 ⟨rfl, d3⟩
        rw [HF.out]
        have D3 := Lib.hid (D2.out.trans d3)
        clear d3
        go_wp2_with fail
        refine (specFinite_any y _).mono ?_
        rintro e w4 ⟨rfl, d4⟩
        rw [HF2.out]
        have D4 := Lib.hid (D3.out.trans d4)
        clear d4
        go_wp2_with fail
        go_ret3
        first
          | (rw [sq_no HB.out, sq_no HB.out, HB.out]; exact ⟨rfl, D4.out⟩)
          | (rw [sq_yes HB.out, sq_yes HB.out, HB.out, ← HX.out, ← HY.out H2.out]; exact ⟨rfl, D4.out⟩)
theorem sSequenceBars_any (al be : Nat) (w : World) (hal : al < 4294967296) (hbe : be < 4294967296) :
    Calls Try.prog 24 #[.float .f32 al, .float .f32 be] w fun e w' => e = .returned (.tuple #[.float .f32 (sqV al be (sqL al be)), .float .f32 (sqV al be (sqH al be)), .bool (sqB al be)]) ∧ Below w.heap.size w w' :=
  (sSequenceBars_drawn al be w hal hbe).mono fun _ _ h => ⟨h.1, h.2.below _⟩
set_option maxHeartbeats 1600000 in
theorem iSequenceBars_any (al be : Nat) (w : World) (hal : al < 4294967296) (hbe : be < 4294967296) :
    Calls Try.prog 25 #[.float .f32 al, .float .f32 be] w fun e w' => e = .returned (.tuple #[.float .f32 (sqV al be (sqL al be)), .float .f32 (sqV al be (sqH al be)), .bool (sqB al be)]) ∧ Below w.heap.size w w' := by
  cases h1 : rk al with
  | false =>
    have HB := Lib.hid (sqB_0 (show sq0 al be = false by unfold sq0; rw [h1]; rfl))
    have HV := Lib.hid (fun o => sq_no HB.out o)
    have H1 := Lib.hid h1
    clear h1
    go_enter Try.func25, Try.ntmps25
    go_wp2_with fail
    refine (c_smallRisk al _).mono ?_
    rintro e w1 ⟨rfl, rfl⟩
    rw [H1.out]
    go_wp2_with fail
    go_ret3
    rw [HV.out, HV.out, HB.out]
    exact ⟨rfl, Below.refl _ _⟩
  | true =>
    have H1 := Lib.hid h1
    cases h2 : rk be with
    | false =>
      have HB := Lib.hid (sqB_0 (show sq0 al be = false by unfold sq0; rw [h2, Bool.and_false]))
      have HV := Lib.hid (fun o => sq_no HB.out o)
      have H2 := Lib.hid h2
      clear h1 h2
      go_enter Try.func25, Try.ntmps25
      go_wp2_with fail
      refine (c_smallRisk al _).mono ?_
      rintro e w1 ⟨rfl, rfl⟩
      rw [H1.out]
      go_wp2_with fail
      refine (c_smallRisk be _).mono ?_
      rintro e w1 ⟨rfl, rfl⟩
      rw [H2.out]
      go_wp2_with fail
      go_ret3
      rw [HV.out, HV.out, HB.out]
      exact ⟨rfl, Below.refl _ _⟩
    | true =>
      have H2 := Lib.hid h2
      have HS := Lib.hid (sqB_1 (show sq0 al be = true by unfold sq0; rw [h1, h2]; rfl))
      have ha := rk_is h1 hal
      have hb := rk_is h2 hbe
      have HA := Lib.hid ha
      have HBE := Lib.hid hb
      obtain ⟨x1, v1, r1, j1, l1, e1⟩ := F32.arith_ex (P := Try.prog) (op := .sub) (.inr (.inl rfl)) 24 one_is ha w
      obtain ⟨x2, v2, r2, j2, l2, e2⟩ := F32.arith_ex (P := Try.prog) (op := .quo) (.inr (.inr (.inr rfl))) 24 hb j1 v1
      have D2 := Lib.hid (e1.trans e2)
      have J2 := Lib.hid j2
      clear ha hb j1 l1 e1 j2 e2 h1 h2
      go_enter Try.func25, Try.ntmps25
      go_wp2_with fail
      refine (c_smallRisk al _).mono ?_
      rintro e w1 ⟨rfl, rfl⟩
      rw [H1.out]
      go_wp2_with fail
      refine (c_smallRisk be _).mono ?_
      rintro e w1 ⟨rfl, rfl⟩
      rw [H2.out]
      go_wp2_with fail
      refine (implLogL_any x2 l2 _).mono ?_
      rintro e w3 ⟨lo, rfl, hlo, llo, d3⟩
      have hlo' : F32.Is (sqL al be) lo := lg_is l2 J2.out hlo
      have HLO := Lib.hid hlo'
      have D3 := Lib.hid (D2.out.trans d3)
      obtain ⟨x4, v4, r4, j4, l4, e4⟩ := F32.arith_ex (P := Try.prog) (op := .sub) (.inr (.inl rfl)) 24 one_is HBE.out w3
      obtain ⟨x5, v5, r5, j5, l5, e5⟩ := F32.arith_ex (P := Try.prog) (op := .quo) (.inr (.inr (.inr rfl))) 24 j4 HA.out v4
      have D5 := Lib.hid (D3.out.trans (e4.trans e5))
      have J5 := Lib.hid j5
      clear hlo hlo' d3 j4 l4 e4 j5 e5 r1 r2 l2
      go_wp2_with fail
      refine (implLogL_any x5 l5 _).mono ?_
      rintro e w6 ⟨hi, rfl, hhi, lhi, d6⟩
      have hhi' : F32.Is (sqH al be) hi := lg_is l5 J5.out hhi
      have HHI := Lib.hid hhi'
      have D6 := Lib.hid (D5.out.trans d6)
      have HL2 : Hid (lo < 4294967296 ∧ hi < 4294967296) := ⟨llo, lhi⟩
      clear llo lhi hhi hhi' d6 r4 r5 l5
      go_wp2_with fail
      have HRW := Lib.hid (frow_two w6 24 lo hi HL2.out.1 HL2.out.2)
      have B6 : Hid (Below w.heap.size w (w6.alloc (.cells #[.float .f32 lo, .float .f32 hi] 24))) := Lib.hid ((D6.out.below w.heap.size).alloc (D6.out.below w.heap.size).size _)
      have HALL : Hid (([lo, hi].all fun z => fin .f32 z) = sqB al be) := by show _ = _; rw [HS.out, ← (fin_is HLO.out).1, ← (fin_is HHI.out).1]; simp
      refine (areFinD_any _ 2 _ [lo, hi] _ HRW.out).mono ?_
      rintro e w7 ⟨rfl, d7⟩
      have B7 := Lib.hid (B6.out.trans ((d7.below _).mono B6.out.size))
      clear d7
      rw [HALL.out]
      cases hq : sqB al be with
      | false =>
        have HQ := Lib.hid hq
        have HV := Lib.hid (fun o => sq_no hq o)
        clear hq
        go_wp2_with fail
        go_ret3
        rw [HV.out, HV.out, HQ.out]
        exact ⟨rfl, B7.out⟩
      | true =>
        have HQ := Lib.hid hq
        have HP := Lib.hid (sqB_parts hq)
        have HX := Lib.hid (is_get HLO.out HP.out.2.1)
        have HY := Lib.hid (is_get HHI.out HP.out.2.2)
        have HV := Lib.hid (fun o => sq_yes hq o)
        clear hq
        go_wp2_with fail
        go_ret3
        rw [HV.out, HV.out, ← HX.out, ← HY.out, HQ.out]
        exact ⟨rfl, B7.out⟩
end Go.Proofs.Ytemdgfjcjjadnab
