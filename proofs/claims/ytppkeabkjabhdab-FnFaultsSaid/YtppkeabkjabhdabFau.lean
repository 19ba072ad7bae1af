/-
  Faults that were found, and faults that were not, in both; when a line is at a limit, in both. Conditions: numbers are words.
-/
import Derived.Test.YtppkeabkjabhdabGcd
import Derived.Test.YtppkeabkjabhdabWeP
import Derived.Test.YtppkeabkjabhdabGrn
namespace We
open Go Flt Dec
theorem ff_s {s f b : Int} (h : ¬ (1 ≤ s ∧ s ≤ 100000)) : ffB s f b = false := by unfold ffB; rw [decide_eq_false h]; rfl
theorem ff_b {s f b : Int} (h : ¬ (1 ≤ b ∧ b ≤ s)) : ffB s f b = false := by unfold ffB; rw [decide_eq_false h]; simp
theorem ff_f {s f b : Int} (h : ¬ (0 ≤ f ∧ f ≤ 100000)) : ffB s f b = false := by unfold ffB; rw [decide_eq_false h]; simp
theorem ff_all {s f b : Int} (h1 : 1 ≤ s ∧ s ≤ 100000) (h2 : 1 ≤ b ∧ b ≤ s) (h3 : 0 ≤ f ∧ f ≤ 100000) : ffB s f b = true := by unfold ffB; rw [decide_eq_true h1, decide_eq_true h2, decide_eq_true h3]; rfl
theorem mul_small {s f : Nat} (h1 : s ≤ 100000) (h2 : f ≤ 100000) : s * f ≤ 10000000000 := Nat.le_trans (Nat.mul_le_mul h1 h2) (by decide)
end We
namespace Go.Proofs.Ytppkeabkjabhdab
open Go.RowKit Flt Dec Cm We
set_option maxHeartbeats 1600000 in
theorem iFoundFaults_any (s f b : Int) (w : World) :
    Calls Try.prog 23 #[.int .i64 s, .int .i64 f, .int .i64 b] w fun e w' => e = .returned (.tuple #[.int .i64 (ffX s f b), .int .i64 (ffY s f b), .bool (ffB s f b)]) ∧ Below w.heap.size w w' := by
  by_cases h1 : 1 ≤ s ∧ s ≤ 100000
  · by_cases h2 : 1 ≤ b ∧ b ≤ s
    · by_cases h3 : 0 ≤ f ∧ f ≤ 100000
      · have hy := ff_all h1 h2 h3
        obtain ⟨s, rfl⟩ : ∃ n : Nat, s = n := ⟨s.toNat, by omega⟩
        obtain ⟨f, rfl⟩ : ∃ n : Nat, f = n := ⟨f.toNat, by omega⟩
        obtain ⟨b, rfl⟩ : ∃ n : Nat, b = n := ⟨b.toNat, by omega⟩
        have hp := mul_small (s := s) (f := f) (by omega) (by omega)
        have C := fun w => Lib.hid (c_lowest (s * f) b hp (by omega) (by omega) w)
        have HX := Lib.hid (ff_yes hy)
        have HY := Lib.hid hy
        have hm : ((s : Int) * (f : Int)) = ((s * f : Nat) : Int) := (Int.natCast_mul s f).symm
        clear hy
        generalize s * f = m at *
        go_enter Try.func23, Try.ntmps23
        go_wp2_with fail
        refine (C _).out.mono ?_
        rintro e w1 ⟨rfl, d1⟩
        have D := Lib.hid d1
        clear d1
        go_wp2_with fail
        go_ret3
        rw [HX.out.1, HX.out.2, HY.out]
        exact ⟨rfl, D.out.below _⟩
      · have HN := Lib.hid (ff_f (s := s) (b := b) h3)
        have HM := Lib.hid (ff_no HN.out)
        by_cases q : f < 0
        all_goals
          go_enter Try.func23, Try.ntmps23
          go_wp2_with fail
          go_ret3
          rw [HM.out.1, HM.out.2, HN.out]
          exact ⟨rfl, Below.refl _ _⟩
    · have HN := Lib.hid (ff_b (s := s) (f := f) h2)
      have HM := Lib.hid (ff_no HN.out)
      by_cases q1 : f < 0
      · clear h2
        go_enter Try.func23, Try.ntmps23
        go_wp2_with fail
        go_ret3
        rw [HM.out.1, HM.out.2, HN.out]
        exact ⟨rfl, Below.refl _ _⟩
      · by_cases q2 : f > 100000
        · clear h2
          go_enter Try.func23, Try.ntmps23
          go_wp2_with fail
          go_ret3
          rw [HM.out.1, HM.out.2, HN.out]
          exact ⟨rfl, Below.refl _ _⟩
        · by_cases q3 : b < 1
          all_goals
            go_enter Try.func23, Try.ntmps23
            go_wp2_with fail
            go_ret3
            rw [HM.out.1, HM.out.2, HN.out]
            exact ⟨rfl, Below.refl _ _⟩
  · have HN := Lib.hid (ff_s (f := f) (b := b) h1)
    have HM := Lib.hid (ff_no HN.out)
    by_cases q : s < 1
    all_goals
      go_enter Try.func23, Try.ntmps23
      go_wp2_with fail
      go_ret3
      rw [HM.out.1, HM.out.2, HN.out]
      exact ⟨rfl, Below.refl _ _⟩
end Go.Proofs.Ytppkeabkjabhdab
