/-
  Contracts of sets of a size, in both, and of plans: whether they are valid, the laws' copy and comparison of them, and how one that came in lies. Conditions: things are at most 40.
-/
import Derived.Test.YtemdgfjcjjadnabPlG
import Derived.Test.YtemdgfjcjjadnabGrn
import Derived.Lib.SmallJoins
namespace Pl
open Go Flt Go.ChangeShapes Go.WideShapes Go.Deep
def plB (s a : Int) : Bool := decide (1 ≤ s ∧ s ≤ 40) && decide (0 ≤ a ∧ a ≤ s)
def lwB (l b : Int) : Bool := decide (1 ≤ l ∧ l ≤ 40) && decide (0 ≤ b ∧ b ≤ l)
def pfB (l s a : Int) : Bool := decide (1 ≤ l ∧ l ≤ 40) && (plB s a && decide (s ≤ l))
variable {H : Type} {enc : TypeId × Value → H} {P : Program} {w : World} {base : Nat} {spare : Nat → Bool} {held : Bool}
theorem open_plan {r : Reach} {b0 : Nat} {t : TypeId} {f0 f1 : Field} {v : Value} {d : DataW H} {p : List MemPlace} (hs : P.underlying t = some (.struct #[f0, f1])) (hone : oneCellFields P #[f0, f1] = true) (hC : P.cellsOf t = 2)
    (u0 : P.underlying f0.type = some (.int .i64)) (u1 : P.underlying f1.type = some (.int .i64)) (hv : Value.okWide P w r b0 t v) (h : DataW.Trod enc P w base spare held t v d p) :
    ∃ (x : Int) (_ : (Lit.int .i64 x).wf = true) (y : Int) (_ : (Lit.int .i64 y).wf = true), v = .agg #[.int .i64 x, .int .i64 y] ∧ d = .agg [.lit (.int .i64 x), .lit (.int .i64 y)] ∧ p = [] := by
  obtain ⟨v0, v1, y0, y1, n, rfl, rfl, rfl, h0, h1⟩ := Go.Joins.open_agg2 hs hone hC hv h
  obtain ⟨x, hx, rfl, wx⟩ := DataW.trod_int u0 h0
  obtain ⟨y, hy, rfl, wy⟩ := DataW.trod_int u1 h1
  obtain rfl : v0 = .int .i64 x := by simpa using hx
  obtain rfl : v1 = .int .i64 y := by simpa using hy
  exact ⟨x, wx, y, wy, rfl, rfl, rfl⟩
theorem shut_plan {t : TypeId} {f0 f1 : Field} (hs : P.underlying t = some (.struct #[f0, f1])) (hone : oneCellFields P #[f0, f1] = true) (hC : P.cellsOf t = 2)
    (u0 : P.underlying f0.type = some (.int .i64)) (u1 : P.underlying f1.type = some (.int .i64)) {x y : Int} (wx : (Lit.int .i64 x).wf = true) (wy : (Lit.int .i64 y).wf = true) :
    DataW.Trod enc P w base spare held t (.agg #[.int .i64 x, .int .i64 y]) (.agg [.lit (.int .i64 x), .lit (.int .i64 y)]) [] :=
  Go.Joins.shut_agg2 (y0 := (.lit (.int .i64 x), [])) (y1 := (.lit (.int .i64 y), [])) hs hone hC
    ⟨1, by simp [DataW.trod, u0, wx]⟩ ⟨1, by simp [DataW.trod, u1, wy]⟩
theorem ch_step {n j : Nat} (h : j ≤ n) : ((cho n j : Nat) : Int) * ((n : Int) - (j : Int)) = ((cho n (j + 1) * (j + 1) : Nat) : Int) := by
  rw [← cho_step h, show (n : Int) - (j : Int) = ((n - j : Nat) : Int) from by omega]; exact (Int.natCast_mul _ _).symm
theorem ch_quo (Y j : Nat) : ((Y * (j + 1) : Nat) : Int).tdiv ((j : Int) + 1) = (Y : Int) := by
  rw [show (j : Int) + 1 = ((j + 1 : Nat) : Int) from by omega, ← Int.ofNat_tdiv]
  exact congrArg Int.ofNat (Nat.mul_div_cancel _ (Nat.succ_pos j))
theorem ch_prod {n j : Nat} (hn : n ≤ 40) (h : j < n) : cho n (j + 1) * (j + 1) ≤ 43980465111040 := by
  have h1 := cho_40 hn (j + 1)
  have := Nat.mul_le_mul h1 (show j + 1 ≤ 40 by omega)
  omega
/-- the model's sets: of one thing more, one more -/
theorem cho_up {m j : Nat} : ((cho m j : Nat) : Int) * ((m : Int) + 1) = ((cho (m + 1) (j + 1) * (j + 1) : Nat) : Int) := by
  have h1 := cho_mul m j
  rw [Nat.mul_comm (j + 1), Nat.mul_comm (m + 1)] at h1
  rw [h1, show (m : Int) + 1 = ((m + 1 : Nat) : Int) from by omega]
  exact (Int.natCast_mul _ _).symm
theorem cho_small {n j : Nat} (hn : n ≤ 40) (h : j ≤ 40) : cho n j * j ≤ 43980465111040 := by
  have h1 := cho_40 hn j
  have := Nat.mul_le_mul h1 h
  omega
end Pl
namespace Go.Proofs.Ytemdgfjcjjadnab
open Go.RowKit Flt Dec Cm Pl
set_option maxHeartbeats 1600000 in
theorem c_setsOf (n k : Int) (hn : n ≤ 40) (w : World) :
    Calls Try.prog 77 #[.int .i64 n, .int .i64 k] w fun e w' => e = .returned (.int .i64 ((chI n k : Nat) : Int)) ∧ w = w' := by
  by_cases h1 : k < 0
  · rw [chI_neg h1]
    go_enter Try.func77, Try.ntmps77
    go_wp2_with fail
    go_ret
    exact ⟨rfl, rfl⟩
  · by_cases h2 : n < k
    · rw [chI_gt h2]
      go_enter Try.func77, Try.ntmps77
      go_wp2_with fail
      go_ret
      exact ⟨rfl, rfl⟩
    · obtain ⟨n, rfl⟩ : ∃ m : Nat, n = m := ⟨n.toNat, by omega⟩
      obtain ⟨k, rfl⟩ : ∃ m : Nat, k = m := ⟨k.toNat, by omega⟩
      rw [chI_nat]
      go_enter Try.func77, Try.ntmps77
      go_wp2_with fail
      go_loopg [5, 6, 15] k (fun m s i c wr => ∃ j x : Nat, s = .int .i64 (x : Int) ∧ c = .int .i64 (j : Int) ∧ Hid (x = cho n j) ∧ Hid (j + m = k) ∧ j ≤ k ∧ Hid (w = wr))
      case atStart => exact ⟨0, 1, rfl, rfl, (cho_0 n).symm, by show _ = _; omega, Nat.zero_le _, rfl⟩
      case round =>
        obtain ⟨j, x, rfl, rfl, hx, hm, hj, hw⟩ := hrel
        by_cases hlt : j < k
        · have h3 := ch_step (n := n) (j := j) (by omega)
          have h4 := ch_quo (cho n (j + 1)) j
          have h5 := ch_prod (n := n) (j := j) (by omega) (by omega)
          have h6 : cho n (j + 1) ≤ 1099511627776 := cho_40 (by omega) _
          rw [← hx.out] at h3
          obtain ⟨Y, hY⟩ : ∃ Y, cho n (j + 1) = Y := ⟨_, rfl⟩
          obtain ⟨Z, hZ⟩ : ∃ Z, cho n (j + 1) * (j + 1) = Z := ⟨_, rfl⟩
          have HY := Lib.hid hY
          rw [hZ] at h3 h4 h5
          rw [hY] at h4 h6
          have hxb : x ≤ 1099511627776 := by rw [hx.out]; exact cho_40 (by omega) _
          have hz : ¬ ((j : Int) + 1 = 0) := by omega
          have HM : Hid (j + 1 + (gk - 1) = k ∧ gk - 1 < gk) := by have := hm.out; show _ ∧ _; omega
          clear hY hZ hx hm
          go_wp2_with fail
          go_roundg (gk - 1)
          case measure => exact HM.out.2
          case rel => exact ⟨j + 1, Y, rfl, by go_num, HY.out.symm, HM.out.1, by omega, hw.out⟩
        · obtain rfl : j = k := by omega
          clear hlt
          go_wp2_with fail
          go_ret
          exact ⟨by rw [← hx.out] <;> rfl, hw.out⟩
set_option maxHeartbeats 1600000 in
theorem c_Choose (n k : Int) (hn : n ≤ 40) (w : World) :
    Calls Try.prog 100 #[.int .i64 n, .int .i64 k] w fun e w' => e = .returned (.int .i64 ((chI n k : Nat) : Int)) ∧ w = w' := by
  by_cases h1 : k < 0
  · rw [chI_neg h1]
    go_enter Try.func100, Try.ntmps100
    go_wp2_with fail
    go_ret
    exact ⟨rfl, rfl⟩
  · by_cases h2 : n < k
    · rw [chI_gt h2]
      go_enter Try.func100, Try.ntmps100
      go_wp2_with fail
      go_ret
      exact ⟨rfl, rfl⟩
    · obtain ⟨k, rfl⟩ : ∃ m : Nat, k = m := ⟨k.toNat, by omega⟩
      obtain ⟨d, rfl⟩ : ∃ m : Nat, n = ((m + k : Nat) : Int) := ⟨(n - k).toNat, by omega⟩
      rw [chI_nat]
      go_enter Try.func100, Try.ntmps100
      go_wp2_with fail
      go_loopg [5, 6] k (fun m s i wr => ∃ j x : Nat, s = .int .i64 (x : Int) ∧ i = .int .i64 ((j : Int) + 1) ∧ Hid (x = cho (d + j) j) ∧ Hid (j + m = k) ∧ j ≤ k ∧ Hid (w = wr))
      case atStart => exact ⟨0, 1, rfl, by go_num, (cho_0 _).symm, by show _ = _; omega, Nat.zero_le _, rfl⟩
      case round =>
        obtain ⟨j, x, rfl, rfl, hx, hm, hj, hw⟩ := hrel
        by_cases hlt : j < k
        · have h3 := cho_up (m := d + j) (j := j)
          have h4 := ch_quo (cho (d + j + 1) (j + 1)) j
          have h5 := cho_small (n := d + j + 1) (j := j + 1) (by omega) (by omega)
          have h6 : cho (d + j + 1) (j + 1) ≤ 1099511627776 := cho_40 (by omega) _
          rw [← hx.out, show ((d + j : Nat) : Int) + 1 = (d : Int) + ((j : Int) + 1) from by omega] at h3
          obtain ⟨Y, hY⟩ : ∃ Y, cho (d + j + 1) (j + 1) = Y := ⟨_, rfl⟩
          obtain ⟨Z, hZ⟩ : ∃ Z, cho (d + j + 1) (j + 1) * (j + 1) = Z := ⟨_, rfl⟩
          have HY := Lib.hid hY
          rw [hZ] at h3 h4 h5
          rw [hY] at h4 h6
          have hxb : x ≤ 1099511627776 := by rw [hx.out]; exact cho_40 (by omega) _
          have hz : ¬ ((j : Int) + 1 = 0) := by omega
          have HM : Hid (j + 1 + (gk - 1) = k ∧ gk - 1 < gk) := by have := hm.out; show _ ∧ _; omega
          clear hY hZ hx hm
          go_wp2_with fail
          go_roundg (gk - 1)
          case measure => exact HM.out.2
          case rel => exact ⟨j + 1, Y, rfl, by go_num, HY.out.symm, HM.out.1, by omega, hw.out⟩
        · obtain rfl : j = k := by omega
          clear hlt
          go_wp2_with fail
          go_ret
          exact ⟨by rw [← hx.out] <;> rfl, hw.out⟩
end Go.Proofs.Ytemdgfjcjjadnab
