/-
  Contracts of TenthsOf in the program and in its model, and the walk of its exact law. Conditions: arguments are bits that fit their kind.
-/
import Derived.Test.YtmgmelbpggedkacLogW
namespace Go.Proofs.Ytmgmelbpggedkac
open Go.RowKit Flt

theorem mfloor (x : Nat) (h : nan .f64 x = false) (w : World) : (callFunc 68 #[.float .f64 x]).run Try.prog w = .ok (.value (.float .f64 (fl x))) w := by
  rw [run_callFunc_extern (e := Extern.MathFloor.toIntegral "math.archFloor" .down) Try.func68 (by kernel_rfl) (by kernel_rfl) (by kernel_rfl) (by kernel_rfl)]
  have e : Extern.MathFloor.toIntegral "math.archFloor" .down #[.float .f64 x] = (match FloatKind.f64.decode x with
    | .nan s t =>
      if FloatKind.f64.format.quiet t = t then pure (.float .f64 x) else do
      let kept ← choose (.extern "math.Floor,Ceil,Trunc,RoundToEven.signallingNaN kept" 2)
      pure (.float .f64 (if kept == 1 then x else FloatKind.f64.encode (.nan s (FloatKind.f64.format.quiet t))))
    | d => pure (.float .f64 (FloatKind.f64.encode (d.integral .down)))) := rfl
  rw [e]
  have hf := fl_run h
  have hfl : fl x = FloatKind.f64.encode ((FloatKind.f64.decode x).integral .down) := rfl
  rw [hfl]
  generalize FloatKind.f64.decode x = d at *
  cases d with
  | number s m e => simp
  | infinity s => simp
  | nan s t => exact absurd rfl (hf s t)

theorem floor_any (x : Nat) (h : nan .f64 x = false) (w : World) : Calls Try.prog 50 #[.float .f64 x] w fun e w' => e = .returned (.float .f64 (fl x)) ∧ w = w' := by
  have hm := mfloor x h
  clear h
  go_enter Try.func50, Try.ntmps50
  go_wp2
  go_ret
  exact ⟨rfl, rfl⟩

theorem toInt64 (x : Nat) (n : Int) (h : floatToIntVal .f64 x .i64 = some n) (w : World) : (convert 25 2 (.float .f64 x)).run Try.prog w = .ok (.int .i64 n) w :=
  run_convert_float_int w 25 2 .f64 .i64 x n (by rw [Try.underlying25]; rfl) Try.underlying2 h

theorem specTenths_any (a : Nat) (hn : nan .f32 a = false) (r1 : 3603000000000000000 ≤ W a) (r2 : W a ≤ 5700000000000000000) (w : World) :
    Calls Try.prog 48 #[.float .f32 a] w fun e w' => e = .returned (.int .i64 (tenthsI (W a))) ∧ w = w' := by
  have hW := widen a hn
  obtain ⟨m, r, m1, r1', hr, hI⟩ := tenth_step r1 r2
  have rm : ∀ w, (binOp .mul 25 (.float .f64 (logC (W a))) (.float .f64 4631308968768463603)).run Try.prog w = .ok (.float .f64 m) w := fun w => run_float_arith w .mul 25 .f64 _ _ _ m1
  have ra : ∀ w, (binOp .add 25 (.float .f64 m) (.float .f64 4602678819172646912)).run Try.prog w = .ok (.float .f64 r) w := fun w => run_float_arith w .add 25 .f64 _ _ _ r1'
  have rc := toInt64 _ _ hI
  clear m1 r1' hI hn
  go_enter Try.func48, Try.ntmps48
  go_wp2_with fail
  refine (specLog_any _ r1 r2 _).mono ?_
  rintro e w1 ⟨rfl, rfl, _⟩
  clear r1 r2
  go_wp2_with fail
  refine (floor_any r hr _).mono ?_
  rintro e w1 ⟨rfl, rfl⟩
  go_wp2_with fail
  go_ret
  exact ⟨rfl, rfl⟩

/-- which powers have tenths -/
def hasTen (a : Nat) : Bool := fin .f32 a && decide (0 < a % 2147483648 ∧ a < 2147483648)

theorem le0 (a : Nat) (ha : a < 4294967296) (hf : fin .f32 a = true) : (FloatKind.f32.format.order a 0 == some .lt || FloatKind.f32.format.order a 0 == some .eq) = !decide (0 < a % 2147483648 ∧ a < 2147483648) := by
  rw [leB .f32 a 0 (fin_num hf) (by decide), S32 a ha, S32 0 (by decide), Bool.eq_iff_iff]
  simp
  split <;> omega

theorem specTen_any (a : Nat) (ha : a < 4294967296) (w : World) :
    Calls Try.prog 22 #[.float .f32 a] w fun e w' => (e = .returned (if hasTen a then .tuple #[.int .i64 (tenthsI (W a)), .bool true] else .tuple #[.int .i64 0, .bool false])) ∧ Drawn w w' := by
  cases hf : fin .f32 a
  · have hh : hasTen a = false := by unfold hasTen; rw [hf]; rfl
    rw [hh]
    have HF := Lib.hid hf
    clear hf hh
    go_enter Try.func22, Try.ntmps22
    go_wp2_with fail
    refine (specFinite_any a _).mono ?_
    rintro e w1 ⟨rfl, d1⟩
    rw [HF.out]
    go_wp2_with fail
    go_ret2
    exact ⟨rfl, d1⟩
  · have hc := le0 a ha hf
    cases hd : decide (0 < a % 2147483648 ∧ a < 2147483648)
    · have hh : hasTen a = false := by unfold hasTen; rw [hf, hd]; rfl
      rw [hh]
      rw [hd] at hc
      have HF := Lib.hid hf
      clear hf hh hd
      go_enter Try.func22, Try.ntmps22
      go_wp2_with fail
      refine (specFinite_any a _).mono ?_
      rintro e w1 ⟨rfl, d1⟩
      rw [HF.out]
      go_wp2_with fail
      go_ret2
      exact ⟨rfl, d1⟩
    · have hh : hasTen a = true := by unfold hasTen; rw [hf, hd]; rfl
      rw [hh]
      rw [hd] at hc
      obtain ⟨p1, p2⟩ := of_decide_eq_true hd
      obtain ⟨r1, r2⟩ := W_range hf (by omega) p2
      have hn := fin_num hf
      have HF := Lib.hid hf
      have HN := Lib.hid hn
      clear hf hh hd hn p1 p2
      go_enter Try.func22, Try.ntmps22
      go_wp2_with fail
      refine (specFinite_any a _).mono ?_
      rintro e w1 ⟨rfl, d1⟩
      rw [HF.out]
      go_wp2_with fail
      refine (specTenths_any a HN.out r1 r2 _).mono ?_
      rintro e w2 ⟨rfl, rfl⟩
      clear r1 r2
      go_wp2_with fail
      go_ret2
      exact ⟨rfl, d1⟩

theorem implTen_any (a : Nat) (ha : a < 4294967296) (w : World) :
    Calls Try.prog 23 #[.float .f32 a] w fun e w' => (e = .returned (if hasTen a then .tuple #[.int .i64 (tenthsI (W a)), .bool true] else .tuple #[.int .i64 0, .bool false])) ∧ Drawn w w' := by
  cases hf : fin .f32 a
  · have hh : hasTen a = false := by unfold hasTen; rw [hf]; rfl
    rw [hh]
    have HF := Lib.hid hf
    clear hf hh
    go_enter Try.func23, Try.ntmps23
    go_wp2_with fail
    refine (implIsFinite_any a _).mono ?_
    rintro e w1 ⟨rfl, d1⟩
    rw [HF.out]
    go_wp2_with fail
    go_ret2
    exact ⟨rfl, d1⟩
  · have hc := le0 a ha hf
    cases hd : decide (0 < a % 2147483648 ∧ a < 2147483648)
    · have hh : hasTen a = false := by unfold hasTen; rw [hf, hd]; rfl
      rw [hh]
      rw [hd] at hc
      have HF := Lib.hid hf
      clear hf hh hd
      go_enter Try.func23, Try.ntmps23
      go_wp2_with fail
      refine (implIsFinite_any a _).mono ?_
      rintro e w1 ⟨rfl, d1⟩
      rw [HF.out]
      go_wp2_with fail
      go_ret2
      exact ⟨rfl, d1⟩
    · have hh : hasTen a = true := by unfold hasTen; rw [hf, hd]; rfl
      rw [hh]
      rw [hd] at hc
      obtain ⟨p1, p2⟩ := of_decide_eq_true hd
      obtain ⟨r1, r2⟩ := W_range hf (by omega) p2
      have hn := fin_num hf
      have hW := widen a hn
      obtain ⟨m, r, m1, r1', hr, hI⟩ := tenth_step r1 r2
      have rm : ∀ w, (binOp .mul 25 (.float .f64 (logC (W a))) (.float .f64 4631308968768463603)).run Try.prog w = .ok (.float .f64 m) w := fun w => run_float_arith w .mul 25 .f64 _ _ _ m1
      have ra : ∀ w, (binOp .add 25 (.float .f64 m) (.float .f64 4602678819172646912)).run Try.prog w = .ok (.float .f64 r) w := fun w => run_float_arith w .add 25 .f64 _ _ _ r1'
      have rc := toInt64 _ _ hI
      have HF := Lib.hid hf
      clear hf hh hd hn p1 p2 m1 r1' hI
      go_enter Try.func23, Try.ntmps23
      go_wp2_with fail
      refine (implIsFinite_any a _).mono ?_
      rintro e w1 ⟨rfl, d1⟩
      rw [HF.out]
      go_wp2_with fail
      refine (implLog_any _ r1 r2 _).mono ?_
      rintro e w2 ⟨rfl, rfl, _⟩
      clear r1 r2
      go_wp2_with fail
      refine (floor_any r hr _).mono ?_
      rintro e w3 ⟨rfl, rfl⟩
      go_wp2_with fail
      go_ret2
      exact ⟨rfl, d1⟩

theorem fnExactTenthsOf_walk (a : Nat) (wa : (Lit.float .f32 a).wf = true) (w : World) :
    Calls Try.prog 7 #[.float .f32 a] w fun e w' => e = .returned (.bool true) ∧ Below w.heap.size w w' := by
  have ha := lt32 wa
  clear wa
  have hx : ∀ x : Int, (x != x) = false := by simp
  obtain ⟨n, b, hnb⟩ : ∃ (n : Int) (b : Bool), (if hasTen a then Value.tuple #[.int .i64 (tenthsI (W a)), .bool true] else .tuple #[.int .i64 0, .bool false]) = .tuple #[.int .i64 n, .bool b] := by
    cases hasTen a
    · exact ⟨_, _, rfl⟩
    · exact ⟨_, _, rfl⟩
  have HN := Lib.hid hnb
  clear hnb
  go_enter Try.func7, Try.ntmps7
  go_wp2_with fail
  refine (specTen_any a ha _).mono ?_
  rintro e w1 ⟨he, d1⟩
  rw [HN.out] at he
  subst he
  go_wp2_with fail
  refine (implTen_any a ha _).mono ?_
  rintro e w2 ⟨he, d2⟩
  rw [HN.out] at he
  subst he
  cases b
  all_goals
    go_wp2_with fail
    go_ret
    exact ⟨rfl, (d1.trans d2).below _⟩
end Go.Proofs.Ytmgmelbpggedkac
