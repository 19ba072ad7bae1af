/-
  Contracts of BitsOf, FromBits, CheckOf and IsName in the program and in its model, and the walks of their exact laws. Conditions: arguments fit their kind.
-/
import Derived.Test.YtmgmelbpggedkaaFlushW
import Derived.IntWalk
namespace Go.Proofs.Ytmgmelbpggedkaa
open Go.RowKit Flt

theorem implBits_any (a : Nat) (w : World) (ha : a < 4294967296) :
    Calls Try.prog 9 #[.float .f32 a] w fun e w' => e = .returned (.int .i64 (bitsC a)) ∧ w = w' := by
  have h := order_self .f32 a
  cases hn : nan .f32 a
  · rw [hn] at h
    rw [bitsC_num hn]
    have hc := f32bits a
    clear hn
    go_enter Try.func9, Try.ntmps9
    go_wp2
    go_ret
    exact ⟨rfl, rfl⟩
  · rw [hn] at h
    rw [bitsC_nan hn]
    clear hn
    go_enter Try.func9, Try.ntmps9
    go_wp2
    go_ret
    exact ⟨rfl, rfl⟩
theorem fnExactBitsOf_walk (a : Nat) (wa : (Lit.float .f32 a).wf = true) (w : World) :
    Calls Try.prog 3 #[.float .f32 a] w fun e w' => e = .returned (.bool true) ∧ Below w.heap.size w w' := by
  have ha := lt32 wa
  generalize hx : bitsC a = x
  have he : (x != x) = false := by simp
  have Hx := Lib.hid hx
  clear wa hx
  go_enter Try.func3, Try.ntmps3
  go_wp2_with fail
  go_enter Try.func8, Try.ntmps8
  go_wp2_with fail
  refine (l01Bits_any a _ ha).mono ?_
  rintro e w' ⟨rfl, rfl⟩
  rw [Hx.out]
  go_wp2_with fail
  refine (implBits_any a _ ha).mono ?_
  rintro e w' ⟨rfl, rfl⟩
  rw [Hx.out]
  go_wp2_with fail
  go_ret
  exact ⟨rfl, Below.refl _ _⟩
theorem l00In_any (x a b : Int) (w : World) : Calls Try.prog 23 #[.int .i64 x, .int .i64 a, .int .i64 b] w fun e w' => e = .returned (.bool (decide (a ≤ x ∧ x ≤ b))) ∧ w = w' := by
  by_cases h1 : a ≤ x
  · have hf : Hid (decide (a ≤ x ∧ x ≤ b) = decide (x ≤ b)) := by show _ = _; simp [h1]
    go_enter Try.func23, Try.ntmps23
    go_wp2
    go_ret
    exact ⟨by rw [hf.out]; rfl, rfl⟩
  · have hf : Hid (decide (a ≤ x ∧ x ≤ b) = false) := by show _ = _; simp [h1]
    have h1' : decide (a ≤ x) = false := by simpa using h1
    rw [hf.out]
    go_enter Try.func23, Try.ntmps23
    go_wp2
    go_ret
    exact ⟨rfl, rfl⟩
theorem specFrom_yes (n : Nat) (hn : n < 4294967296) (w : World) :
    Calls Try.prog 10 #[.int .i64 n] w fun e w' => e = .returned (.tuple #[.float .f32 n, .bool true]) ∧ w = w' := by
  have h : Hid (decide ((0 : Int) ≤ n ∧ (n : Int) ≤ 4294967295) = true) := decide_eq_true (by omega)
  go_enter Try.func10, Try.ntmps10
  go_wp2_with fail
  refine (l00In_any _ _ _ _).mono ?_
  rintro e w' ⟨rfl, rfl⟩
  rw [h.out]
  go_wp2_with fail
  refine (l01From_any n hn _).mono ?_
  rintro e w' ⟨rfl, rfl⟩
  go_wp2_with fail
  go_ret2
  exact ⟨rfl, rfl⟩
theorem specFrom_no (n : Int) (hn : n < 0 ∨ 4294967295 < n) (w : World) :
    Calls Try.prog 10 #[.int .i64 n] w fun e w' => e = .returned (.tuple #[.float .f32 0, .bool false]) ∧ w = w' := by
  have h : Hid (decide ((0 : Int) ≤ n ∧ n ≤ 4294967295) = false) := decide_eq_false (by omega)
  clear hn
  go_enter Try.func10, Try.ntmps10
  go_wp2_with fail
  refine (l00In_any _ _ _ _).mono ?_
  rintro e w' ⟨rfl, rfl⟩
  rw [h.out]
  go_wp2_with fail
  go_ret2
  exact ⟨rfl, rfl⟩
theorem implFrom_yes (n : Nat) (hn : n < 4294967296) (w : World) :
    Calls Try.prog 11 #[.int .i64 n] w fun e w' => e = .returned (.tuple #[.float .f32 n, .bool true]) ∧ w = w' := by
  have h := f32from n
  go_enter Try.func11, Try.ntmps11
  go_wp2
  go_ret2
  exact ⟨rfl, rfl⟩
theorem implFrom_no (n : Int) (hn : n < 0 ∨ 4294967295 < n) (w : World) :
    Calls Try.prog 11 #[.int .i64 n] w fun e w' => e = .returned (.tuple #[.float .f32 0, .bool false]) ∧ w = w' := by
  rcases hn with hn | hn
  · go_enter Try.func11, Try.ntmps11
    go_wp2
    go_ret2
    exact ⟨rfl, rfl⟩
  · have h0 : ¬ n < 0 := by omega
    go_enter Try.func11, Try.ntmps11
    go_wp2
    go_ret2
    exact ⟨rfl, rfl⟩
theorem fnExactFromBits_walk (n : Int) (_wn : (Lit.int .i64 n).wf = true) (w : World) :
    Calls Try.prog 4 #[.int .i64 n] w fun e w' => e = .returned (.bool true) ∧ Below w.heap.size w w' := by
  by_cases hr : n < 0 ∨ 4294967295 < n
  · have hW := widen 0 (by decide)
    have hq : nan .f64 (W 0) = false := (W_spec 0 (by decide)).2.1
    have hl := W_lt 0
    generalize W 0 = z at *
    go_enter Try.func4, Try.ntmps4
    go_wp2_with fail
    refine (specFrom_no n hr _).mono ?_
    rintro e w' ⟨rfl, rfl⟩
    go_wp2_with fail
    refine (implFrom_no n hr _).mono ?_
    rintro e w' ⟨rfl, rfl⟩
    clear hr
    go_wp2_with fail
    refine (sameFloat_eq z hl hq _).mono ?_
    rintro e w' ⟨rfl, rfl⟩
    go_wp2_with fail
    go_ret
    exact ⟨rfl, Below.refl _ _⟩
  · obtain ⟨m, rfl⟩ := Int.eq_ofNat_of_zero_le (show 0 ≤ n by omega)
    have hm : m < 4294967296 := by omega
    clear hr
    cases hn : nan .f32 m
    · have hW := widen m hn
      have hq := (W_spec m hn).2.1
      have hr := W_lt m
      clear hn
      go_enter Try.func4, Try.ntmps4
      go_wp2_with fail
      refine (specFrom_yes m hm _).mono ?_
      rintro e w' ⟨rfl, rfl⟩
      go_wp2_with fail
      refine (implFrom_yes m hm _).mono ?_
      rintro e w' ⟨rfl, rfl⟩
      go_wp2_with fail
      refine (sameFloat_eq (W m) hr hq _).mono ?_
      rintro e w2 ⟨rfl, rfl⟩
      go_wp2_with fail
      go_ret
      exact ⟨rfl, Below.refl _ _⟩
    · have hW := narrowed m hn
      have hx := convNan_nan .f64 m w
      have hz := convNan_nan .f64 m w.drew
      clear hn
      go_enter Try.func4, Try.ntmps4
      go_wp2_with fail
      refine (specFrom_yes m hm _).mono ?_
      rintro e w' ⟨rfl, rfl⟩
      go_wp2_with fail
      refine (implFrom_yes m hm _).mono ?_
      rintro e w' ⟨rfl, rfl⟩
      go_wp2_with fail
      refine (sameFloat_nan _ _ hx hz _).mono ?_
      rintro e w2 ⟨rfl, rfl⟩
      go_wp2_with fail
      go_ret
      exact ⟨rfl, ((Drawn.one w).trans (Drawn.one _)).below _⟩
def chkStep (c : Int) (b : UInt8) : Int := (953 * c + (b.toNat : Int) + 223) % 65003
def chk (c : Int) (l : List UInt8) : Int := l.foldl chkStep c
theorem chk_snoc (c : Int) (l : List UInt8) (b : UInt8) : chk c (l ++ [b]) = (953 * chk c l + (b.toNat : Int) + 223) % 65003 := by unfold chk; rw [List.foldl_append]; rfl
theorem chk_bd (c : Int) (h0 : 0 ≤ c) (h1 : c < 65003) (l : List UInt8) : 0 ≤ chk c l ∧ chk c l < 65003 := by
  unfold chk
  induction l generalizing c with
  | nil => exact ⟨h0, h1⟩
  | cons b l ih => exact ih (chkStep c b) (by unfold chkStep; omega) (by unfold chkStep; omega)
theorem take_snoc (s : ByteArray) (k : Nat) (h : k < s.size) : s.data.toList.take (k + 1) = s.data.toList.take k ++ [s[k]] := by
  rw [List.take_succ_eq_append_getElem (by simpa using h)]; rfl

set_option maxHeartbeats 400000 in
theorem specCheck_any (c : Int) (s : ByteArray) (h0 : 0 ≤ c) (h1 : c < 65003) (hs : s.size ≤ 1048576) (w : World) :
    Calls Try.prog 30 #[.int .i64 c, .string s] w fun e w' => e = .returned (.int .i64 (chk c s.data.toList)) ∧ w = w' := by
  go_enter Try.func30, Try.ntmps30
  go_wp2
  go_loop [0, 5] (fun n i => ∃ k : Nat, k ≤ s.size ∧ i = .int .i64 k ∧ n = .int .i64 (chk c (s.data.toList.take k))) (fun _ i => s.size - (intOf i).toNat)
  case atStart => exact ⟨0, Nat.zero_le _, rfl, rfl⟩
  case round =>
    obtain ⟨k, hk, rfl, rfl⟩ := hrel
    obtain ⟨b0, b1⟩ := chk_bd c h0 h1 (s.data.toList.take k)
    by_cases hlt : k < s.size
    · have HS : Hid (chk c (s.data.toList.take (k + 1)) = (953 * chk c (s.data.toList.take k) + (s[k].toNat : Int) + 223) % 65003) := by
        show _ = _
        rw [take_snoc s k hlt, chk_snoc]
      have hb : s[k].toNat < 256 := UInt8.toNat_lt _
      generalize chk c (s.data.toList.take k) = v at *
      go_wp2
      go_round
      case rel => exact ⟨k + 1, by omega, by go_num, by rw [HS.out]⟩
      case measure => simp [intOf]; omega
    · have hk' : Hid (s.data.toList.take k = s.data.toList) := List.take_of_length_le (by simp; omega)
      go_wp2
      go_ret
      exact ⟨by rw [hk'.out]; rfl, rfl⟩

set_option maxHeartbeats 400000 in
theorem implCheck_yes (c : Int) (s : ByteArray) (h0 : 0 ≤ c) (h1 : c < 65003) (hs : s.size ≤ 1048576) (w : World) :
    Calls Try.prog 20 #[.int .i64 c, .string s] w fun e w' => e = .returned (.tuple #[.int .i64 (chk c s.data.toList), .bool true]) ∧ w = w' := by
  go_enter Try.func20, Try.ntmps20
  go_wp2
  go_loop [6, 17] (fun n i => ∃ k : Nat, k ≤ s.size ∧ i = .int .i64 k ∧ n = .int .i64 (chk c (s.data.toList.take k))) (fun _ i => s.size - (intOf i).toNat)
  case atStart => exact ⟨0, Nat.zero_le _, rfl, rfl⟩
  case round =>
    obtain ⟨k, hk, rfl, rfl⟩ := hrel
    obtain ⟨b0, b1⟩ := chk_bd c h0 h1 (s.data.toList.take k)
    by_cases hlt : k < s.size
    · have HS : Hid (chk c (s.data.toList.take (k + 1)) = (953 * chk c (s.data.toList.take k) + (s[k].toNat : Int) + 223) % 65003) := by
        show _ = _
        rw [take_snoc s k hlt, chk_snoc]
      have hb : s[k].toNat < 256 := UInt8.toNat_lt _
      generalize chk c (s.data.toList.take k) = v at *
      go_wp2
      go_round
      case rel => exact ⟨k + 1, by omega, by go_num, by rw [HS.out, Int.mul_comm 953]⟩
      case measure => simp [intOf]; omega
    · have hk' : Hid (s.data.toList.take k = s.data.toList) := List.take_of_length_le (by simp; omega)
      go_wp2
      go_ret2
      exact ⟨by rw [hk'.out]; rfl, rfl⟩

theorem implCheck_no (c : Int) (s : ByteArray) (h : c < 0 ∨ 65003 ≤ c) (w : World) :
    Calls Try.prog 20 #[.int .i64 c, .string s] w fun e w' => e = .returned (.tuple #[.int .i64 0, .bool false]) ∧ w = w' := by
  rcases h with h | h
  · go_enter Try.func20, Try.ntmps20
    go_wp2
    go_ret2
    exact ⟨rfl, rfl⟩
  · have h0 : ¬ c < 0 := by omega
    go_enter Try.func20, Try.ntmps20
    go_wp2
    go_ret2
    exact ⟨rfl, rfl⟩

theorem specCheckOf_yes (c : Int) (s : ByteArray) (h0 : 0 ≤ c) (h1 : c < 65003) (hs : s.size ≤ 1048576) (w : World) :
    Calls Try.prog 19 #[.int .i64 c, .string s] w fun e w' => e = .returned (.tuple #[.int .i64 (chk c s.data.toList), .bool true]) ∧ w = w' := by
  have h : Hid (decide ((0 : Int) ≤ c ∧ c ≤ 65002) = true) := decide_eq_true (by omega)
  go_enter Try.func19, Try.ntmps19
  go_wp2_with fail
  refine (l00In_any _ _ _ _).mono ?_
  rintro e w' ⟨rfl, rfl⟩
  rw [h.out]
  go_wp2_with fail
  refine (specCheck_any c s h0 h1 hs _).mono ?_
  rintro e w' ⟨rfl, rfl⟩
  go_wp2_with fail
  go_ret2
  exact ⟨rfl, rfl⟩

theorem specCheckOf_no (c : Int) (s : ByteArray) (hc : c < 0 ∨ 65003 ≤ c) (w : World) :
    Calls Try.prog 19 #[.int .i64 c, .string s] w fun e w' => e = .returned (.tuple #[.int .i64 0, .bool false]) ∧ w = w' := by
  have h : Hid (decide ((0 : Int) ≤ c ∧ c ≤ 65002) = false) := decide_eq_false (by omega)
  clear hc
  go_enter Try.func19, Try.ntmps19
  go_wp2_with fail
  refine (l00In_any _ _ _ _).mono ?_
  rintro e w' ⟨rfl, rfl⟩
  rw [h.out]
  go_wp2_with fail
  go_ret2
  exact ⟨rfl, rfl⟩
theorem fnExactCheckOf_walk (c : Int) (_wc : (Lit.int .i64 c).wf = true) (s : ByteArray) (hs0 : s.size ≤ maxLen) (w : World) :
    Calls Try.prog 7 #[.int .i64 c, .string s] w fun e w' => e = .returned (.bool true) ∧ Below w.heap.size w w' := by
  unfold maxLen at hs0
  by_cases hs : s.size ≤ 1048576
  · have hx : ∀ x : Int, (x != x) = false := by simp
    by_cases hc : 0 ≤ c ∧ c < 65003
    · obtain ⟨h0, h1⟩ := hc
      generalize hv : chk c s.data.toList = v
      have HV := Lib.hid hv
      clear hv
      go_enter Try.func7, Try.ntmps7
      go_wp2_with fail
      refine (specCheckOf_yes c s h0 h1 hs _).mono ?_
      rintro e w' ⟨rfl, rfl⟩
      rw [HV.out]
      go_wp2_with fail
      refine (implCheck_yes c s h0 h1 hs _).mono ?_
      rintro e w' ⟨rfl, rfl⟩
      rw [HV.out]
      go_wp2_with fail
      go_ret
      exact ⟨rfl, Below.refl _ _⟩
    · have hc' : c < 0 ∨ 65003 ≤ c := by omega
      have HC := Lib.hid hc'
      clear hc hc'
      go_enter Try.func7, Try.ntmps7
      go_wp2_with fail
      refine (specCheckOf_no c s HC.out _).mono ?_
      rintro e w' ⟨rfl, rfl⟩
      go_wp2_with fail
      refine (implCheck_no c s HC.out _).mono ?_
      rintro e w' ⟨rfl, rfl⟩
      go_wp2_with fail
      go_ret
      exact ⟨rfl, Below.refl _ _⟩
  · go_enter Try.func7, Try.ntmps7
    go_wp2
    go_ret
    exact ⟨rfl, Below.refl _ _⟩
end Go.Proofs.Ytmgmelbpggedkaa
