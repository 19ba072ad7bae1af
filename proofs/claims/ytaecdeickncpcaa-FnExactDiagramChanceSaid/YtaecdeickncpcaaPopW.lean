/-
  How many parts a set has: the library's count of bits, for sets of at most ten parts. Conditions: the set is less than 1024.
-/
import Derived.Test.YtaecdeickncpcaaOthW
namespace Syl
open Go
def pop1 (x : Int) : Int := IntKind.u64.wrap (bits .and .u64 (x / 2) 6148914691236517205 + bits .and .u64 x 6148914691236517205)
def pop2 (x : Int) : Int := IntKind.u64.wrap (bits .and .u64 (x / 4) 3689348814741910323 + bits .and .u64 x 3689348814741910323)
def pop3 (x : Int) : Int := bits .and .u64 (IntKind.u64.wrap (x / 16 + x)) 1085102592571150095
def pop4 (x : Int) : Int := IntKind.u64.wrap (x + x / 256)
def pop5 (x : Int) : Int := IntKind.u64.wrap (x + x / 65536)
def pop6 (x : Int) : Int := IntKind.u64.wrap (x + x / 4294967296)
def pop64 (x : Int) : Int := bits .and .i64 (RowKit.wrap64 (pop6 (pop5 (pop4 (pop3 (pop2 (pop1 x))))))) 127
/-- how many parts a set has -/
def sizeN : Nat → Nat → Nat
  | 0, _ => 0
  | f + 1, n => if n = 0 then 0 else n % 2 + sizeN f (n / 2)
def sizeB (n : Nat) : Nat := sizeN 10 n
theorem pop_all : ((List.range 1024).all fun n => pop64 (n : Int) == (sizeB n : Int)) = true := by kernel_rfl
theorem pop_size (n : Nat) (h : n < 1024) : pop64 (n : Int) = (sizeB n : Int) := eq_of_beq (List.all_eq_true.1 pop_all n (List.mem_range.2 h))
theorem pop_part : ((List.range 1024).all fun s => (List.range 10).all fun j => s / 2 ^ j % 2 != 1 || sizeB (s - 2 ^ j) + 1 == sizeB s) = true := by kernel_rfl
theorem pop_any : ((List.range 1024).all fun s => sizeB s == 0 || (List.range 10).any fun j => s / 2 ^ j % 2 == 1) = true := by kernel_rfl
theorem size_part {s j : Nat} (hs : s < 1024) (hj : j < 10) (h : partB s j = true) : sizeB (s - 2 ^ j) + 1 = sizeB s := by
  have h1 := List.all_eq_true.1 (List.all_eq_true.1 pop_part s (List.mem_range.2 hs)) j (List.mem_range.2 hj)
  rw [partB_nat s j (by omega)] at h
  have h2 := of_decide_eq_true h
  rw [h2] at h1
  simpa using h1
theorem size_some {s : Nat} (hs : s < 1024) (h : sizeB s ≠ 0) : ∃ j : Nat, j < 10 ∧ partB s j = true := by
  have h1 := List.all_eq_true.1 pop_any s (List.mem_range.2 hs)
  rw [Bool.or_eq_true] at h1
  rcases h1 with h1 | h1
  · exact absurd (eq_of_beq h1) h
  · obtain ⟨j, hj, h2⟩ := List.any_eq_true.1 h1
    exact ⟨j, List.mem_range.1 hj, by rw [partB_nat s j (by omega)]; exact decide_eq_true (eq_of_beq h2)⟩
/-- at least so many parts -/
def voteIs (v : Int) (s : Int) : Bool := decide (v ≤ (sizeB s.toNat : Int))
theorem vote_least {p s : Nat} {v : Int} (hp : p ≤ 10) (hs : s < 2 ^ p) (hv : 1 ≤ v) : leastAt p (voteIs v) s = decide ((sizeB s : Int) = v) := by
  have h1024 : s < 1024 := Nat.lt_of_lt_of_le hs (Nat.pow_le_pow_right (n := 2) (by decide) hp)
  have hsub : ∀ j : Nat, 2 ^ j ≤ s → ((s : Int) - 2 ^ j).toNat = s - 2 ^ j := by
    intro j hj
    have e : (2 : Int) ^ j = ((2 ^ j : Nat) : Int) := by simp
    rw [e]; omega
  have hst : ((s : Int)).toNat = s := Int.toNat_natCast s
  rcases Int.lt_trichotomy (sizeB s : Int) v with h | h | h
  · rw [leastAt_no (by unfold voteIs; rw [hst]; exact decide_eq_false (by omega)), decide_eq_false (by omega)]
  · rw [decide_eq_true h]
    refine leastAt_yes (by unfold voteIs; rw [hst]; exact decide_eq_true (by omega)) fun j hj => ?_
    cases hb : partB s j with
    | false => rfl
    | true =>
      have h2 := size_part h1024 (by omega) hb
      rw [Bool.true_and]
      unfold voteIs
      rw [hsub j (partB_le (by omega) hb)]
      exact decide_eq_false (by omega)
  · rw [decide_eq_false (by omega)]
    obtain ⟨j, hj, hb⟩ := size_some h1024 (by omega)
    have hle := partB_le (by omega) hb
    have hjp : j < p := by
      refine Nat.lt_of_not_le fun h => ?_
      have := Nat.pow_le_pow_right (n := 2) (by decide) h
      omega
    have h2 := size_part h1024 hj hb
    refine leastAt_part hjp hb ?_
    unfold voteIs
    rw [hsub j hle]
    exact decide_eq_true (by omega)
theorem sizeN_le (f n : Nat) : sizeN f n ≤ f := by
  induction f generalizing n with
  | zero => exact Nat.le_refl _
  | succ f ih =>
    unfold sizeN
    split
    · omega
    · have := ih (n / 2); omega
theorem sizeN_step {f n : Nat} (h : n ≠ 0) : sizeN (f + 1) n = n % 2 + sizeN f (n / 2) := by rw [sizeN, if_neg h]
theorem sizeN_zero (f : Nat) : sizeN f 0 = 0 := by cases f <;> simp [sizeN]
end Syl
namespace Go.Proofs.Ytaecdeickncpcaa
open Go.RowKit Dec Flt Syl Sep
set_option maxRecDepth 40000 in
theorem ones_any (x : Int) (w : World) (_h1 : 0 ≤ x) (_h2 : x < 1024) : Calls Try.prog 131 #[.int .u64 x] w fun e w' => e = .returned (.int .i64 (pop64 x)) ∧ w = w' := by
  go_enter Try.func131, Try.ntmps131
  go_wp2
  go_ret
  refine ⟨congrArg (fun n => Ending.returned (.int .i64 n)) (?_ : _ = pop64 x), rfl⟩
  rfl
theorem sizeOf_any (s : Nat) (w : World) (h : s < 1024) : Calls Try.prog 121 #[.int .i64 s] w fun e w' => e = .returned (.int .i64 (sizeB s : Int)) ∧ w = w' := by
  have hp := pop_size s h
  have hpl := sizeN_le 10 s
  go_enter Try.func121, Try.ntmps121
  go_wp2_with fail
  refine (ones_any (s : Int) _ (by omega) (by omega)).mono ?_
  rintro e w1 ⟨rfl, rfl⟩
  rw [hp]
  go_wp2_with fail
  go_ret
  exact ⟨rfl, rfl⟩
theorem specSize_any (s : Nat) (w : World) (h : s < 1024) : Calls Try.prog 96 #[.int .i64 s] w fun e w' => e = .returned (.int .i64 (sizeB s : Int)) ∧ w = w' := by
  go_enter Try.func96, Try.ntmps96
  go_wp2_with fail
  go_loopg [0, 3] 10 (fun f v0 v3 wr => ∃ (k n : Nat), v0 = .int .i64 k ∧ v3 = .int .i64 n ∧ Hid (n + sizeN f k = sizeB s) ∧ k < 2 ^ f ∧ f ≤ 10 ∧ n ≤ 10 ∧ w = wr)
  case atStart => exact ⟨s, 0, rfl, rfl, by show _ = _; rw [Nat.zero_add]; rfl, by omega, Nat.le_refl _, by omega, rfl⟩
  case round =>
    obtain ⟨k, n, rfl, rfl, hk, hlt, hf, hn, rfl⟩ := hrel
    have hk10 : k < 1024 := Nat.lt_of_lt_of_le hlt (Nat.pow_le_pow_right (n := 2) (by decide) hf)
    by_cases h0 : k = 0
    · subst h0
      have HE : Hid (n = sizeB s) := by have := hk.out; rw [sizeN_zero] at this; show _ = _; omega
      clear hk
      go_wp2_with fail
      go_ret
      rw [← HE.out]
      exact ⟨rfl, rfl⟩
    · obtain ⟨f', hf'⟩ : ∃ f', gk = f' + 1 := by
        rcases gk with _ | f'
        · simp at hlt; omega
        · exact ⟨f', rfl⟩
      have hpos : (0 : Int) < (k : Int) := by omega
      have HN : Hid (n + k % 2 + sizeN f' (k / 2) = sizeB s) := by
        have := hk.out
        rw [hf', sizeN_step h0] at this
        show _ = _; omega
      have hn10 : n + k % 2 ≤ 10 := by have := HN.out; have h2 := sizeN_le 10 s; unfold sizeB at this; omega
      have HG : Hid (gk - 1 < gk) := by show _ < _; omega
      have hlt2 : k / 2 < 2 ^ (gk - 1) := by
        rw [hf'] at hlt ⊢
        rw [Nat.pow_succ] at hlt
        show k / 2 < 2 ^ f'
        omega
      have HL := Lib.hid hlt2
      have HF : Hid (gk - 1 = f') := by show _ = _; omega
      clear hlt hlt2 hk hf'
      go_wp2_with fail
      go_roundg (gk - 1)
      case measure => exact HG.out
      case rel => exact ⟨k / 2, n + k % 2, by first | go_num | (congr 1; omega), by first | go_num | (congr 1; omega), by show _ = _; rw [HF.out]; exact HN.out, HL.out, by omega, hn10, rfl⟩
end Go.Proofs.Ytaecdeickncpcaa
