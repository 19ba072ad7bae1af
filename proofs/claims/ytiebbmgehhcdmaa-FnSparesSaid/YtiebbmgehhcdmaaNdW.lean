/-
  How likely needs are: contracts of both. Conditions: the mean is from 0 to 64, and there are at most 32 needs.
-/
import Derived.Test.YtiebbmgehhcdmaaNdP
import Derived.Test.YtiebbmgehhcdmaaCmW
import Derived.Test.YtiebbmgehhcdmaaFinW
import Derived.Test.YtiebbmgehhcdmaaSumW
namespace Flt.Nd
open Go Flt Cm
theorem mean_of {m : Nat} (hm : m < 4294967296) (h : mn m = true) : mean m := (mean_iff hm).1 h
/-- whether both answer, and what -/
def ndB (m : Nat) (n : Int) : Bool := mn m && decide (0 ≤ n ∧ n ≤ 32)
def ndA (m : Nat) (n : Int) : List Nat := if ndB m n then ndL m (n.toNat + 1) else []
theorem ndA_len (m : Nat) (n : Int) : (ndA m n).length ≤ 1023 := by
  unfold ndA
  cases h : ndB m n with
  | true =>
    unfold ndB at h
    rw [Bool.and_eq_true, decide_eq_true_eq] at h
    rw [if_pos rfl, ndL_len]
    omega
  | false => simp
theorem ndA_no {m : Nat} {n : Int} (h : ndB m n = false) : ndA m n = [] := by unfold ndA; rw [h]; rfl
theorem ndA_yes {m : Nat} {n : Nat} (h1 : mn m = true) (h2 : n ≤ 32) : ndB m n = true ∧ ndA m n = ndL m (n + 1) := by
  have : ndB m n = true := by unfold ndB; rw [h1, decide_eq_true (by omega)]; rfl
  refine ⟨this, ?_⟩
  unfold ndA; rw [this, Int.toNat_natCast]; rfl
theorem sumO_ndL {m : Nat} (h : mean m) : ∀ n, n ≤ 33 → sumO (ndL m n) = some (srv m n)
  | 0, _ => rfl
  | n + 1, hn => by
    rw [ndL_snoc, sumO_snoc, sumO_ndL h n (by omega)]
    have e : numO (nd m n) = some (nd m n) := by unfold numO; rw [if_neg (by rw [fin_num (nd_fin h (by omega))]; decide)]
    rw [e]
    exact srv_step h n (by omega)
end Flt.Nd
namespace Go.Proofs.Ytiebbmgehhcdmaa
open Go.RowKit Flt Dec Cm Nd Liv
theorem c_specNarrow (x v : Nat) (h : floatToFloatBits .f64 x .f32 = some v) (w : World) : Calls Try.prog 77 #[.float .f64 x] w fun e w' => e = .returned (.float .f32 v) ∧ w = w' := by
  have hr := fun w => narrow_some x v h w
  clear h
  go_enter Try.func77, Try.ntmps77
  go_wp2_with fail
  go_ret
  exact ⟨rfl, rfl⟩
set_option maxHeartbeats 800000 in
theorem specExpWide_some (wx t p q : Nat) (d0 : (FloatKind.f64.format.order wx wx != some .eq) = false) (d1 : (FloatKind.f64.format.order wx 4641240890982006784 == some .gt) = false) (d2 : (FloatKind.f64.format.order wx 13864612927836782592 == some .lt) = false)
    (ht : Go.floatBits .quo .f64 wx 4643211215818981376 = some t) (hp : expL t 12 4607182418800017408 = some p) (hq : sqL 8 p = some q) (w : World) :
    Calls Try.prog 78 #[.float .f64 wx] w fun e w' => e = .returned (.float .f64 q) ∧ w = w' := by
  have HP := Lib.hid hp
  have HQ := Lib.hid hq
  have r1 : ∀ w, (binOp .quo 35 (.float .f64 wx) (.float .f64 4643211215818981376)).run Try.prog w = .ok (.float .f64 t) w := fun w => run_float_arith w .quo 35 .f64 _ _ _ ht
  clear hp hq ht
  go_enter Try.func78, Try.ntmps78
  go_wp2_with fail
  go_loopg [4, 5] 12 (fun n u k wr => ∃ v : Nat, u = .float .f64 v ∧ k = .int .i64 n ∧ n ≤ 12 ∧ Hid (expL t n v = some p) ∧ w = wr)
  case atStart => exact ⟨_, rfl, rfl, Nat.le_refl _, HP.out, rfl⟩
  case round =>
    obtain ⟨v, rfl, rfl, hk12, hE, rfl⟩ := hrel
    cases gk with
    | zero =>
      have hv : v = p := by have := hE.out; simp [expL] at this; exact this
      subst hv
      clear hE HP
      go_wp2_with fail
      go_loopg [4, 6] 8 (fun n u i wr => ∃ (v j : Nat), u = .float .f64 v ∧ i = .int .i64 j ∧ Hid (j + n = 8) ∧ Hid (sqL n v = some q) ∧ w = wr)
      case atStart => exact ⟨_, 0, rfl, rfl, rfl, HQ.out, rfl⟩
      case round =>
        obtain ⟨v, j, rfl, rfl, hj, hS, rfl⟩ := hrel
        cases gk with
        | zero =>
          have hv : v = q := by have := hS.out; simp [sqL] at this; exact this
          obtain rfl : j = 8 := by have := hj.out; omega
          subst hv
          clear hS HQ
          go_wp2_with fail
          go_ret
          exact ⟨rfl, rfl⟩
        | succ n =>
          have hS' := hS.out
          unfold sqL at hS'
          obtain ⟨y, hy, hS2⟩ := Option.bind_eq_some_iff.1 hS'
          have HS2 := Lib.hid hS2
          have ry : ∀ w, (binOp .mul 35 (.float .f64 v) (.float .f64 v)).run Try.prog w = .ok (.float .f64 y) w := fun w => run_float_arith w .mul 35 .f64 _ _ _ hy
          have hj8 : j < 8 := by have := hj.out; omega
          have HJ : Hid (j + 1 + n = 8) := by have := hj.out; show _ = _; omega
          clear hS hS' hS2 hy
          go_wp2_with fail
          go_roundg n
          case measure => omega
          case rel => exact ⟨y, j + 1, rfl, by go_num, HJ, HS2.out, rfl⟩
    | succ n =>
      have hE' := hE.out
      unfold expL at hE'
      obtain ⟨m, hm, hE2⟩ := Option.bind_eq_some_iff.1 hE'
      obtain ⟨d, hd, hE3⟩ := Option.bind_eq_some_iff.1 hE2
      obtain ⟨y, hy, hE4⟩ := Option.bind_eq_some_iff.1 hE3
      have HE4 := Lib.hid hE4
      have rm : ∀ w, (binOp .mul 35 (.float .f64 t) (.float .f64 v)).run Try.prog w = .ok (.float .f64 m) w := fun w => run_float_arith w .mul 35 .f64 _ _ _ hm
      have rd : ∀ w, (binOp .quo 35 (.float .f64 m) (.float .f64 (floatOfInt .f64 ((n : Int) + 1)))).run Try.prog w = .ok (.float .f64 d) w := fun w => run_float_arith w .quo 35 .f64 _ _ _ hd
      have ry : ∀ w, (binOp .add 35 (.float .f64 4607182418800017408) (.float .f64 d)).run Try.prog w = .ok (.float .f64 y) w := fun w => run_float_arith w .add 35 .f64 _ _ _ hy
      clear hE hE' hE2 hE3 hE4 hm hd hy
      go_wp2_with fail
      go_roundg n
      case measure => omega
      case rel => exact ⟨y, rfl, by go_num, by omega, HE4.out, rfl⟩
theorem specExp_some (x r : Nat) (hg : Nd.Good x) (h : expRun x = some r) (w : World) :
    Calls Try.prog 68 #[.float .f32 x] w fun e w' => e = .returned (.float .f32 r) ∧ w = w' := by
  unfold expRun at h
  obtain ⟨t, ht, h⟩ := Option.bind_eq_some_iff.1 h
  obtain ⟨p, hp, h⟩ := Option.bind_eq_some_iff.1 h
  obtain ⟨q, hq, hr⟩ := Option.bind_eq_some_iff.1 h
  have hW := widen x hg.num
  have C := fun w => Lib.hid (specExpWide_some (W x) t p q hg.d0 hg.d1 hg.d2 ht hp hq w)
  have D := fun w => Lib.hid (c_specNarrow q r hr w)
  clear h ht hp hq hr hg
  generalize W x = wx at *
  go_enter Try.func68, Try.ntmps68
  go_wp2_with fail
  refine (C _).out.mono ?_
  rintro e w1 ⟨rfl, rfl⟩
  go_wp2_with fail
  refine (D _).out.mono ?_
  rintro e w1 ⟨rfl, rfl⟩
  go_wp2_with fail
  go_ret
  exact ⟨rfl, rfl⟩
set_option maxHeartbeats 4000000 in
set_option maxRecDepth 100000 in
theorem specNeeds_any (m n : Nat) (hm : mean m) (hn : n ≤ 32) (w : World) :
    Calls Try.prog 38 #[.float .f32 m, .int .i64 n] w fun e w' => (∃ a c, e = .returned (.slice a (n + 1) c) ∧ FRow w' a (n + 1) (ndL m (n + 1))) ∧ Below w.heap.size w w' := by
  obtain ⟨e1, e2, e3, _⟩ := ex_ok hm
  have r0 : ∀ w, (binOp .sub 22 (.float .f32 0) (.float .f32 m)).run Try.prog w = .ok (.float .f32 (lessM m)) w := fun w => run_float_arith w .sub 22 .f32 _ _ _ e1
  have C := fun w => Lib.hid (specExp_some (lessM m) (exM m) e2 e3 w)
  have HM := Lib.hid hm
  have HST : Hid (∀ k, k < 32 → Go.floatBits .mul .f32 (nd m k) m = some (mulM m (nd m k)) ∧ Go.floatBits .quo .f32 (mulM m (nd m k)) (Go.floatOfInt .f32 ((k + 1 : Nat) : Int)) = some (nd m (k + 1))) := Lib.hid fun k hk => nd_step hm k hk
  have HLT : Hid (∀ k, k ≤ 33 → ∀ z ∈ ndL m k, z < 4294967296) := Lib.hid fun k hk => ndL_lt hm hk
  have HFST : Hid (ndL m 1 = [exM m]) := Lib.hid rfl
  clear e1 e2 e3 hm
  generalize lessM m = x0 at *
  obtain ⟨i0, hi, hz0, hz1, hz2⟩ := info_parts (show (Try.prog.info? 22).map (fun i => (i.zero, i.size, i.bytes)) = some (some (.float .f32 0), 1, 4) by kernel_rfl)
  have HO0 : Hid ((w.alloc (.cells #[.float .f32 (exM m)] 22)).ownsRow w.heap.size 22 1 (.slice (some ⟨w.heap.size, 0, none⟩) 1 1) 1 (fv (ndL m 1))) := by
    show World.ownsRow _ _ _ _ _ _ _
    rw [HFST.out]
    exact Cm.owned_first w _ _
  go_enter Try.func38, Try.ntmps38
  go_wp2_with fail
  refine (C _).out.mono ?_
  rintro e w1 ⟨rfl, rfl⟩
  go_wp2_with fail
  go_loopg [5, 6] n (fun q v5 i wr => ∃ (k c3 : Nat) (a3 : Option Addr), v5 = .slice a3 (k + 1) c3 ∧ i = .int .i64 ((k : Int) + 1) ∧ Hid (k + q = n) ∧ k ≤ n ∧ Hid (wr.ownsRow w.heap.size 22 1 (.slice a3 (k + 1) c3) (k + 1) (fv (ndL m (k + 1)))) ∧ Hid (Below w.heap.size w wr))
  case atStart => exact ⟨0, _, _, rfl, rfl, by show _ = _; omega, Nat.zero_le _, HO0.out, (Below.refl _ w).alloc (Nat.le_refl _) _⟩
  case round =>
    obtain ⟨k, c3, a3, rfl, rfl, hk, hkl, hO, hB⟩ := hrel
    by_cases hlt : k < n
    · have hlz : (k : Int) + 1 ≤ (n : Int) := by omega
      have HJ : Hid (k + 1 + (gk - 1) = n) := by have := hk.out; show _ = _; omega
      have HG : Hid (gk - 1 < gk) := by have := hk.out; show _ < _; omega
      have HTS : Hid (ndL m (k + 1 + 1) = ndL m (k + 1) ++ [nd m (k + 1)]) := ndL_snoc _ _
      have hrow : FRow wr a3 (k + 1) (ndL m (k + 1)) := Cm.row_owned hO.out (ndL_len _ _) (by omega) (HLT.out _ (by omega))
      obtain ⟨b, off, rfl, hbl, hc⟩ := hrow.2.2.2 k (by omega)
      rw [ndL_get _ _ _ (Nat.lt_succ_self k)] at hc
      obtain ⟨hs1, hs2⟩ := HST.out k (by omega)
      have hr1 : ∀ w, (binOp .mul 22 (.float .f32 (nd m k)) (.float .f32 m)).run Try.prog w = .ok (.float .f32 (mulM m (nd m k))) w := fun w => run_float_arith w .mul 22 .f32 _ _ _ hs1
      have hr2 : ∀ w, (binOp .quo 22 (.float .f32 (mulM m (nd m k))) (.float .f32 (floatOfInt .f32 ((k : Int) + 1)))).run Try.prog w = .ok (.float .f32 (nd m (k + 1))) w := fun w => run_float_arith w .quo 22 .f32 _ _ _ hs2
      obtain ⟨x, hx⟩ : ∃ x, nd m (k + 1) = x := ⟨_, rfl⟩
      rw [hx] at hr2 HTS
      generalize mulM m (nd m k) = u at *
      generalize nd m k = v at *
      have HCELL : Hid (∀ (j : Nat) (u : Value), [Value.float .f32 x][j]? = some u → (wr.alloc (.cells #[.float .f32 x] 22)).cell? ((⟨wr.heap.size, 0, none⟩ : Addr).add j) = some u) := Lib.hid (Cm.cell_new1 wr 22 (.float .f32 x))
      have HO1 := Lib.hid (hO.out.alloc (.cells #[.float .f32 x] 22))
      have HB1 := Lib.hid (hB.out.alloc hB.out.size (.cells #[.float .f32 x] 22))
      have HLE : Hid (k + 1 + 1 ≤ maxLen ∧ (k + 1 + 1) * 4 ≤ 140737488355328) := by show _ ∧ _; unfold maxLen; omega
      clear hO hB hs1 hs2 hx hrow
      go_wp2_with (at_builtin; refine wpList_append_own _ rfl _ _ 23 rfl w.heap.size 22 i0 (.float .f32 0) 1 4 Try.underlying23 hi hz0 hz1 hz2 rfl (by decide) (.slice (some ⟨b, off, none⟩) (k + 1) c3) (k + 1) (fv (ndL m (k + 1))) rfl HO1.out ⟨wr.heap.size, 0, none⟩ 1 1 [.float .f32 x] rfl rfl HCELL.out (by intro u hu; simp at hu; subst hu; rfl) HLE.out.1 HLE.out.2 HB1.out.size ?_)
      intro v' w3 hown' hgrow _
      have HO3 : Hid (w3.ownsRow w.heap.size 22 1 v' (k + 1 + 1) (fv (ndL m (k + 1 + 1)))) := by
        show World.ownsRow _ _ _ _ _ _ _
        rw [HTS.out, Cm.fv_snoc]; exact hown'
      have HB3 : Hid (Below w.heap.size w w3) := Lib.hid (HB1.out.grown hgrow HB1.out.size (fun q hq => (HO1.out.lt q hq).1))
      clear hown' hgrow HO1 HB1 HCELL
      obtain ⟨a5, c5, rfl⟩ := Cm.owns_shape HO3.out
      go_wp2_with fail
      go_roundg (gk - 1)
      case measure => exact HG.out
      case rel => exact ⟨k + 1, c5, a5, rfl, by go_num, HJ, by omega, HO3.out, HB3.out⟩
    · obtain rfl : k = n := by have := hk.out; omega
      have HF : Hid (FRow wr a3 (k + 1) (ndL m (k + 1))) := Cm.row_owned hO.out (ndL_len _ _) (by omega) (HLT.out _ (by omega))
      have B2 := Lib.hid hB.out
      clear hO hB hlt
      go_wp2_with fail
      go_ret
      exact ⟨⟨_, _, rfl, HF.out⟩, B2.out⟩
set_option maxHeartbeats 1600000 in
theorem sNeedShares_any (m : Nat) (n : Int) (w : World) (hm : m < 4294967296) :
    Calls Try.prog 10 #[.float .f32 m, .int .i64 n] w fun e w' => (∃ a c, e = .returned (.tuple #[.slice a (ndA m n).length c, .bool (ndB m n)]) ∧ FRow w' a (ndA m n).length (ndA m n)) ∧ Below w.heap.size w w' := by
  cases hq : mn m with
  | false =>
    have hb : ndB m n = false := by unfold ndB; rw [hq]; rfl
    rw [ndA_no hb, hb]
    clear hb
    have HQ := Lib.hid hq
    clear hq
    go_enter Try.func10, Try.ntmps10
    go_wp2_with fail
    refine (c_specMean m _).mono ?_
    rintro e w1 ⟨rfl, rfl⟩
    rw [HQ.out]
    go_wp2_with fail
    go_ret2
    exact ⟨⟨_, _, rfl, frow_nil _ _⟩, Below.refl _ _⟩
  | true =>
    have HQ := Lib.hid hq
    have HM := Lib.hid (mean_of hm hq)
    by_cases hn : 0 ≤ n ∧ n ≤ 32
    · obtain ⟨j, rfl⟩ : ∃ j : Nat, n = j := ⟨n.toNat, by omega⟩
      have hj : j ≤ 32 := by omega
      obtain ⟨hb, ha⟩ := ndA_yes hq hj
      rw [hb, ha, ndL_len]
      have HD : Hid (decide ((0 : Int) ≤ (j : Int) ∧ (j : Int) ≤ 32) = true) := decide_eq_true hn
      have HALL := Lib.hid (ndL_fin HM.out (show j + 1 ≤ 33 by omega))
      clear hb ha hn hq
      go_enter Try.func10, Try.ntmps10
      go_wp2_with fail
      refine (c_specMean m _).mono ?_
      rintro e w1 ⟨rfl, rfl⟩
      rw [HQ.out]
      go_wp2_with fail
      refine (c_In _ _ _ _).mono ?_
      rintro e w1 ⟨rfl, rfl⟩
      rw [HD.out]
      go_wp2_with fail
      refine (specNeeds_any m j HM.out hj _).mono ?_
      rintro e w1 ⟨⟨a, c, rfl, hr⟩, b1⟩
      have R1 := Lib.hid hr
      have B1 := Lib.hid b1
      clear hr b1
      go_wp2_with fail
      refine (specList_any a (j + 1) c _ _ R1.out (by omega)).mono ?_
      rintro e w2 ⟨rfl, b2⟩
      rw [if_pos HALL.out]
      have R2 := Lib.hid (R1.out.keep b2)
      have B2 := Lib.hid (B1.out.trans (b2.mono B1.out.size))
      clear b2
      go_wp2_with fail
      go_ret2
      exact ⟨⟨_, _, rfl, R2.out⟩, B2.out⟩
    · have hb : ndB m n = false := by unfold ndB; rw [decide_eq_false hn]; exact Bool.and_false _
      rw [ndA_no hb, hb]
      have HD : Hid (decide ((0 : Int) ≤ n ∧ n ≤ 32) = false) := decide_eq_false hn
      clear hb hq hn
      go_enter Try.func10, Try.ntmps10
      go_wp2_with fail
      refine (c_specMean m _).mono ?_
      rintro e w1 ⟨rfl, rfl⟩
      rw [HQ.out]
      go_wp2_with fail
      refine (c_In _ _ _ _).mono ?_
      rintro e w1 ⟨rfl, rfl⟩
      rw [HD.out]
      go_wp2_with fail
      go_ret2
      exact ⟨⟨_, _, rfl, frow_nil _ _⟩, Below.refl _ _⟩
set_option maxHeartbeats 1600000 in
theorem specService_any (m n : Nat) (hm : mean m) (hn : n ≤ 32) (w : World) :
    Calls Try.prog 43 #[.float .f32 m, .int .i64 n] w fun e w' => e = .returned (.float .f32 (srv m (n + 1))) ∧ Below w.heap.size w w' := by
  have HM := Lib.hid hm
  have HST : Hid (∀ k, k ≤ 32 → Go.floatBits .add .f32 (srv m k) (nd m k) = some (srv m (k + 1))) := Lib.hid fun k hk => srv_step hm k hk
  clear hm
  go_enter Try.func43, Try.ntmps43
  go_wp2_with fail
  refine (specNeeds_any m n HM.out hn _).mono ?_
  rintro e w1 ⟨⟨a, c, rfl, hr⟩, b1⟩
  have R1 := Lib.hid hr
  have B1 := Lib.hid b1
  clear hr b1
  go_wp2_with fail
  go_loopg [6, 7] (n + 1) (fun q s i wr => ∃ k : Nat, s = .float .f32 (srv m k) ∧ i = .int .i64 k ∧ Hid (k + q = n + 1) ∧ k ≤ n + 1 ∧ w1 = wr)
  case atStart => exact ⟨0, rfl, rfl, by show _ = _; omega, Nat.zero_le _, rfl⟩
  case round =>
    obtain ⟨k, rfl, rfl, hk, hkl, rfl⟩ := hrel
    by_cases hlt : k < n + 1
    · have hlz : (k : Int) < (n : Int) + 1 := by omega
      obtain ⟨b, off, rfl, hbl, hc⟩ := R1.out.2.2.2 k hlt
      rw [ndL_get _ _ _ hlt] at hc
      have HJ : Hid (k + 1 + (gk - 1) = n + 1) := by have := hk.out; show _ = _; omega
      have HG : Hid (gk - 1 < gk) := by have := hk.out; show _ < _; omega
      have hs := HST.out k (by omega)
      have hr1 : ∀ w, (binOp .add 22 (.float .f32 (srv m k)) (.float .f32 (nd m k))).run Try.prog w = .ok (.float .f32 (srv m (k + 1))) w := fun w => run_float_arith w .add 22 .f32 _ _ _ hs
      generalize nd m k = v at *
      clear hs
      go_wp2_with fail
      go_roundg (gk - 1)
      case measure => exact HG.out
      case rel => exact ⟨k + 1, by go_num, by go_num, HJ, by omega, rfl⟩
    · obtain rfl : k = n + 1 := by have := hk.out; omega
      clear hlt
      go_wp2_with fail
      go_ret
      exact ⟨rfl, B1.out⟩
end Go.Proofs.Ytiebbmgehhcdmaa
