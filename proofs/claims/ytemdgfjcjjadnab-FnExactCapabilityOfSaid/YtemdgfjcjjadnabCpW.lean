/-
  How well a process keeps its bounds: contracts of small tests, of the sum, and of the model's function. Conditions: the list reads as a list of numbers.
-/
import Derived.Test.YtemdgfjcjjadnabCpP
import Derived.Test.YtemdgfjcjjadnabSumW
import Derived.Test.YtemdgfjcjjadnabIxF
namespace Cp
open Go Ieee Flt Dec F32
theorem whole_n (k : Nat) (h : k ≤ 256) : nan .f32 (Go.floatOfInt .f32 (k : Int)) = false ∧ Go.floatOfInt .f32 (k : Int) < 4294967296 := by
  have : (List.range 257).all (fun k => !nan .f32 (Go.floatOfInt .f32 ((k : Nat) : Int)) && decide (Go.floatOfInt .f32 ((k : Nat) : Int) < 4294967296)) = true := by decide +kernel
  have := List.all_eq_true.1 this k (List.mem_range.2 (by omega))
  simp only [Bool.and_eq_true, Bool.not_eq_true', decide_eq_true_eq] at this
  exact this
theorem whole_i (k : Nat) (h : k ≤ 256) : F32.Is (We.fi k) (Go.floatOfInt .f32 (k : Int)) := ⟨rfl, (whole_n k h).1, (whole_n k h).2⟩
end Cp
namespace Go.Proofs.Ytemdgfjcjjadnab
open Go.RowKit Flt Dec Cm We Cp
theorem six_is : F32.Is (some 1086324736) 1086324736 := ⟨rfl, by decide, by decide⟩
theorem three_is : F32.Is (some 1077936128) 1077936128 := ⟨rfl, by decide, by decide⟩
def tol (T : List Nat) : Bool := decide (1 ≤ T.length ∧ T.length ≤ 256) && finL T
theorem cap_no {T : List Nat} {l h : Nat} (hc : cp0 T l h = false) : cpB T l h = false ∧ ∀ o, cpX T l h o = 0 := by
  have : cpB T l h = false := by unfold cpB; rw [hc]; rfl
  exact ⟨this, fun o => by unfold cpX; rw [this]; rfl⟩
theorem cap_t {T : List Nat} {l h : Nat} (hc : tol T = false) : cpB T l h = false ∧ ∀ o, cpX T l h o = 0 := by
  refine cap_no ?_
  unfold cp0; unfold tol at hc; rw [← Bool.and_assoc, hc]; rfl
theorem cap_2 {T : List Nat} {l h : Nat} (hc : ¬ 2 ≤ T.length) : cpB T l h = false ∧ ∀ o, cpX T l h o = 0 := by
  refine cap_no ?_
  unfold cp0; rw [decide_eq_false hc]; simp
theorem cap_l {T : List Nat} {l h : Nat} (hc : fin .f32 l = false) : cpB T l h = false ∧ ∀ o, cpX T l h o = 0 := by
  refine cap_no ?_
  unfold cp0; rw [hc]; simp
theorem cap_h {T : List Nat} {l h : Nat} (hc : fin .f32 h = false) : cpB T l h = false ∧ ∀ o, cpX T l h o = 0 := by
  refine cap_no ?_
  unfold cp0; rw [hc]; simp
theorem cap_g {T : List Nat} {l h : Nat} (hc : geB h l = true) : cpB T l h = false ∧ ∀ o, cpX T l h o = 0 := by
  refine cap_no ?_
  unfold cp0; rw [hc]; simp
theorem cap_yes {T : List Nat} {l h : Nat} (h1 : tol T = true) (h2 : 2 ≤ T.length) (h3 : fin .f32 l = true) (h4 : fin .f32 h = true) (h5 : geB h l = false) : cp0 T l h = true := by
  unfold cp0; unfold tol at h1; rw [← Bool.and_assoc, h1, decide_eq_true h2, h3, h4, h5]; rfl
theorem cap_s {T : List Nat} {l h : Nat} (hc : posO (cpS T) = false) : cpB T l h = false ∧ ∀ o, cpX T l h o = 0 := by
  have : cpB T l h = false := by unfold cpB; rw [hc]; simp
  exact ⟨this, fun o => by unfold cpX; rw [this]; rfl⟩
theorem cap_b {T : List Nat} {l h : Nat} (h0 : cp0 T l h = true) (hs : posO (cpS T) = true) : cpB T l h = (F32.finO (cpA T l h) && F32.finO (cpE T l h)) := by
  unfold cpB; rw [h0, hs]; rfl
theorem cap_o {T : List Nat} {l h : Nat} (hb : cpB T l h = true) {o : Option Nat} {x : Nat} (ho : F32.finO o = true) (hx : F32.Is o x) : cpX T l h o = x := by
  unfold cpX; rw [hb, if_pos rfl]
  cases o with
  | none => cases ho
  | some v => exact hx.1.symm
theorem cap_n {T : List Nat} {l h : Nat} (hb : cpB T l h = false) (o : Option Nat) : cpX T l h o = 0 := by
  unfold cpX; rw [hb]; rfl
set_option maxHeartbeats 1600000 in
theorem sTold_any (a : Option Addr) (len cap : Nat) (T : List Nat) (w : World) (h : FRow w a len T) (hm : len ≤ 1048576) :
    Calls Try.prog 70 #[.slice a len cap] w fun e w' => e = .returned (.bool (tol T)) ∧ Drawn w w' := by
  have hl : T.length = len := h.1
  have HT : Hid (tol T = (decide (1 ≤ len ∧ len ≤ 256) && finL T)) := by show _ = _; unfold tol; rw [hl]
  have H := Lib.hid h
  rw [HT.out]
  clear h hl
  by_cases h1 : 1 ≤ len
  · by_cases h2 : len ≤ 256
    · have q1 : (1 : Int) ≤ (len : Int) := by omega
      have q2 : (len : Int) ≤ 256 := by omega
      rw [decide_eq_true (show 1 ≤ len ∧ len ≤ 256 from ⟨h1, h2⟩), Bool.true_and]
      go_enter Try.func70, Try.ntmps70
      go_wp2_with fail
      refine (specFinD_any a len cap T _ H.out hm).mono ?_
      rintro e w1 ⟨rfl, d1⟩
      have D1 := Lib.hid d1
      clear d1
      go_wp2_with fail
      go_ret
      exact ⟨rfl, D1.out⟩
    · have q1 : (1 : Int) ≤ (len : Int) := by omega
      have q2 : ¬ (len : Int) ≤ 256 := by omega
      rw [decide_eq_false (show ¬ (1 ≤ len ∧ len ≤ 256) from by omega), Bool.false_and]
      go_enter Try.func70, Try.ntmps70
      go_wp2_with fail
      go_ret
      exact ⟨rfl, Drawn.refl _⟩
  · have q1 : ¬ (1 : Int) ≤ (len : Int) := by omega
    rw [decide_eq_false (show ¬ (1 ≤ len ∧ len ≤ 256) from by omega), Bool.false_and]
    go_enter Try.func70, Try.ntmps70
    go_wp2_with fail
    go_ret
    exact ⟨rfl, Drawn.refl _⟩
set_option maxHeartbeats 1600000 in
theorem iTold_any (a : Option Addr) (len cap : Nat) (T : List Nat) (w : World) (h : FRow w a len T) :
    Calls Try.prog 73 #[.slice a len cap] w fun e w' => e = .returned (.bool (tol T)) ∧ Drawn w w' := by
  have hl : T.length = len := h.1
  have HT : Hid (tol T = (decide (1 ≤ len ∧ len ≤ 256) && finL T)) := by show _ = _; unfold tol; rw [hl]
  have H := Lib.hid h
  rw [HT.out]
  clear h hl
  by_cases h1 : 1 ≤ len
  · by_cases h2 : len ≤ 256
    · have q1 : (1 : Int) ≤ (len : Int) := by omega
      have q2 : (len : Int) ≤ 256 := by omega
      rw [decide_eq_true (show 1 ≤ len ∧ len ≤ 256 from ⟨h1, h2⟩), Bool.true_and]
      go_enter Try.func73, Try.ntmps73
      go_wp2_with fail
      refine (areFinD_any a len cap T _ H.out).mono ?_
      rintro e w1 ⟨rfl, d1⟩
      have D1 := Lib.hid d1
      clear d1
      go_wp2_with fail
      go_ret
      exact ⟨rfl, D1.out⟩
    · have q1 : (1 : Int) ≤ (len : Int) := by omega
      have q2 : ¬ (len : Int) ≤ 256 := by omega
      rw [decide_eq_false (show ¬ (1 ≤ len ∧ len ≤ 256) from by omega), Bool.false_and]
      go_enter Try.func73, Try.ntmps73
      go_wp2_with fail
      go_ret
      exact ⟨rfl, Drawn.refl _⟩
  · have q1 : ¬ (1 : Int) ≤ (len : Int) := by omega
    rw [decide_eq_false (show ¬ (1 ≤ len ∧ len ≤ 256) from by omega), Bool.false_and]
    go_enter Try.func73, Try.ntmps73
    go_wp2_with fail
    go_ret
    exact ⟨rfl, Drawn.refl _⟩
set_option maxHeartbeats 1600000 in
theorem sTotal_any (a : Option Addr) (len cap : Nat) (T : List Nat) (w : World) (h : FRow w a len T) (hf : finL T = true) (hm : len ≤ 1048576) :
    Calls Try.prog 54 #[.slice a len cap] w fun e w' => (∃ v, e = .returned (.float .f32 v) ∧ F32.Is (sm (at_ T) len) v) ∧ Drawn w w' := by
  have HT := Lib.hid h
  have HTI : Hid (∀ k, k < len → F32.Is (at_ T k) (T.getD k 0)) := Lib.hid fun k hk => at_is hf h hk
  clear h hf
  go_enter Try.func54, Try.ntmps54
  go_wp2_with fail
  go_loopg [3, 4] len (fun n s i wr => ∃ t p : Nat, s = .float .f32 p ∧ i = .int .i64 (t : Int) ∧ Hid (t + n = len) ∧ t ≤ len ∧ Hid (F32.Is (sm (at_ T) t) p) ∧ Hid (Drawn w wr))
  case atStart => exact ⟨0, 0, rfl, rfl, by show _ = _; omega, Nat.zero_le _, zero_is, Drawn.refl _⟩
  case round =>
    obtain ⟨t, p, rfl, rfl, ht, htl, hP, hD⟩ := hrel
    by_cases hlt : t < len
    · have HJ : Hid (t + 1 + (gk - 1) = len) := by have := ht.out; show _ = _; omega
      have HG : Hid (gk - 1 < gk) := by have := ht.out; show _ < _; omega
      obtain ⟨bt, ot, rfl, hbl1, hc1⟩ := (frow_drawn HT.out hD.out).2.2.2 t hlt
      have I1 := HTI.out t hlt
      generalize T.getD t 0 = z1 at *
      obtain ⟨x1, v1, r1, j1, l1, e1⟩ := F32.arith_ex (P := Try.prog) (op := .add) (.inl rfl) 24 hP.out I1 wr
      have DD := Lib.hid e1
      have J2 : Hid (F32.Is (sm (at_ T) (t + 1)) x1) := j1
      have DR := Lib.hid (hD.out.trans DD.out)
      clear j1 l1 e1
      clear hP hD DD I1 hbl1
      go_wp2_with fail
      go_roundg (gk - 1)
      case measure => exact HG.out
      case rel => exact ⟨t + 1, x1, rfl, by go_num, HJ, by omega, J2.out, DR.out⟩
    · obtain rfl : t = len := by omega
      have DR := Lib.hid hD.out
      have HP := Lib.hid hP.out
      clear hlt ht hP hD
      go_wp2_with fail
      go_ret
      exact ⟨⟨p, rfl, HP.out⟩, DR.out⟩
end Go.Proofs.Ytemdgfjcjjadnab
