/-
  Contracts: how many lives failed, and the sum of all their times, in the program and in its model. Conditions: times are words of 32 bits; for the sum, all of them are finite.
-/
import Derived.Test.YtncekpiabklkeaaLok
import Derived.Test.YtncekpiabklkeaaF32
namespace Liv
open Go Flt F32
theorem take_next' {α : Type} (d : α) (zs : List α) (k : Nat) (h : k < zs.length) : zs.take (k + 1) = zs.take k ++ [zs.getD k d] := by
  rw [List.take_add_one]
  simp [List.getD, h]
theorem count_next (p : Nat × Bool → Bool) (zs : List (Nat × Bool)) (k : Nat) (h : k < zs.length) : (zs.take (k + 1)).countP p = (zs.take k).countP p + if p (zs.getD k (0, false)) then 1 else 0 := by
  rw [take_next' (0, false) zs k h, List.countP_append]
  simp [List.countP_cons]
/-- one operation on 32-bit numbers that has an answer -/
def op32 (op : Go.BinOp) (a b : Nat) : Nat := (Go.floatBits op .f32 a b).getD 0
theorem op32_of {op : Go.BinOp} {a b r : Nat} (h : Go.floatBits op .f32 a b = some r) : op32 op a b = r := by unfold op32; rw [h]; rfl
def tot (zs : List (Nat × Bool)) : Nat := zs.foldl (fun s z => op32 .add s z.1) 0
theorem tot_next (zs : List (Nat × Bool)) (k : Nat) (h : k < zs.length) : tot (zs.take (k + 1)) = op32 .add (tot (zs.take k)) (tm zs k) := by
  rw [take_next' (0, false) zs k h]
  unfold tot
  rw [List.foldl_append]
  rfl
theorem tot_num {zs : List (Nat × Bool)} (h : ∀ j, j < zs.length → fin .f32 (tm zs j) = true) : ∀ k, k ≤ zs.length → nan .f32 (tot (zs.take k)) = false ∧ tot (zs.take k) < 4294967296 := by
  intro k
  induction k with
  | zero => intro _; exact ⟨(by decide : nan .f32 0 = false), (by decide : (0 : Nat) < 4294967296)⟩
  | succ k ih =>
    intro hk
    obtain ⟨h1, _⟩ := ih (by omega)
    obtain ⟨r, hr, h3, h4⟩ := add_fin h1 (h k (by omega))
    rw [tot_next zs k (by omega), op32_of hr]
    exact ⟨h3, h4⟩
theorem liv_pos {zs : List (Nat × Bool)} (h : livB zs = true) {j : Nat} (hj : j < zs.length) : posB (tm zs j) = true := by
  unfold livB at h
  rw [Bool.and_eq_true] at h
  rcases all_at hj with h2 | h2
  · rw [h2] at h; exact absurd h.2 (by decide)
  · exact h2
theorem liv_fin {zs : List (Nat × Bool)} (h : livB zs = true) {j : Nat} (hj : j < zs.length) : fin .f32 (tm zs j) = true := by
  have := liv_pos h hj
  unfold posB at this
  rw [Bool.and_eq_true] at this
  exact this.1
theorem liv_len {zs : List (Nat × Bool)} (h : livB zs = true) : 1 ≤ zs.length ∧ zs.length ≤ 48 := by
  unfold livB at h
  rw [Bool.and_eq_true] at h
  exact of_decide_eq_true h.1
/-- what the sum of all times is told to be -/
def totA (zs : List (Nat × Bool)) : Nat := if livB zs && fin .f32 (tot zs) then tot zs else 0
theorem totA_num (zs : List (Nat × Bool)) : nan .f32 (totA zs) = false := by
  unfold totA
  split
  · rename_i h
    rw [Bool.and_eq_true] at h
    exact fin_num h.2
  · decide
end Liv
namespace Go.Proofs.Ytncekpiabklkeaa
open Go.RowKit Liv Flt F32
theorem hasFailed_any (t : Nat) (f : Bool) (w : World) : Calls Try.prog 71 #[.agg #[.float .f32 t, .bool f]] w fun e w' => e = .returned (.bool f) ∧ Grn w w' := by
  go_enter Try.func71, Try.ntmps71
  go_wp2_with fail
  go_ret
  exact ⟨rfl, (Grn.refl _).alloc _⟩
/-- what is asked of a test of lives that is handed on -/
def Tests2 (p : Nat × Bool → Bool) (g : Nat) (lb : Array Value) (w : World) : Prop :=
  ∀ (W : World) (t : Nat) (f : Bool), t < 4294967296 → Below w.heap.size w W → Calls Try.prog g (#[.agg #[.float .f32 t, .bool f]] ++ lb) W fun e w' => e = .returned (.bool (p (t, f))) ∧ Grn W w'
set_option maxHeartbeats 1600000 in
theorem countLives_any (p : Nat × Bool → Bool) (g : Nat) (lb : Array Value) (eg : ∀ args w, (callFunc g args).run Try.prog w = .ok (.enter g args) w) (a : Option Addr) (len cap : Nat) (zs : List (Nat × Bool)) (w : World) (h : LRow w a len zs) (hp : Tests2 p g lb w) (hn : len ≤ 1048576) :
    Calls Try.prog 70 #[.slice a len cap, .func (.func g) #[] lb] w fun e w' => e = .returned (.int .i64 (zs.countP p)) ∧ Grn w w' := by
  have H := Lib.hid h
  have HP := Lib.hid hp
  clear h hp
  go_enter Try.func70, Try.ntmps70
  go_wp2_with fail
  go_loopg [5, 10] len (fun n i5 i10 wr => ∃ k c : Nat, i5 = .int .i64 c ∧ i10 = .int .i64 k ∧ Hid (k + n = len) ∧ k ≤ len ∧ c ≤ k ∧ Hid (Grn w wr) ∧ Hid (c = (zs.take k).countP p))
  case atStart => exact ⟨0, 0, rfl, rfl, by show _ = _; omega, Nat.zero_le _, Nat.le_refl _, Grn.refl _, rfl⟩
  case round =>
    obtain ⟨k, c, rfl, rfl, hk, hkl, hck, hB, hN⟩ := hrel
    by_cases hlt : k < len
    · obtain ⟨b, off, rfl, hbl, hc, hd⟩ := (H.out.keep hB.out.below).2.2.2 k hlt
      have HJ : Hid (k + 1 + (gk - 1) = len) := by have := hk.out; show _ = _; omega
      have HG : Hid (gk - 1 < gk) := by have := hk.out; show _ < _; omega
      have hz : (tm zs k, fl zs k) = zs.getD k (0, false) := rfl
      have hcall := fun W hW => HP.out W (tm zs k) (fl zs k) (H.out.bd hlt) hW
      rw [hz] at hcall
      have HC := Lib.hid hcall
      have HX := Lib.hid (count_next p zs k (by rw [H.out.1]; exact hlt))
      clear hcall hz
      generalize tm zs k = t at *
      generalize fl zs k = f at *
      cases hq : p (zs.getD k (0, false)) with
      | true =>
        have HQ := Lib.hid hq
        clear hq
        go_wp2_with fail
        refine (HC.out _ (hB.out.alloc _).below).mono ?_
        rintro e w1 ⟨rfl, g1⟩
        rw [HQ.out]
        have G := Lib.hid ((hB.out.alloc _).trans g1)
        clear g1
        go_wp2_with fail
        go_roundg (gk - 1)
        case measure => exact HG.out
        case rel => exact ⟨k + 1, c + 1, by go_num, by go_num, HJ, by omega, by omega, G.out, by show _ = _; rw [HX.out, HQ.out, ← hN.out]; rfl⟩
      | false =>
        have HQ := Lib.hid hq
        clear hq
        go_wp2_with fail
        refine (HC.out _ (hB.out.alloc _).below).mono ?_
        rintro e w1 ⟨rfl, g1⟩
        rw [HQ.out]
        have G := Lib.hid ((hB.out.alloc _).trans g1)
        clear g1
        go_wp2_with fail
        go_roundg (gk - 1)
        case measure => exact HG.out
        case rel => exact ⟨k + 1, c, by go_num, by go_num, HJ, by omega, by omega, G.out, by show _ = _; rw [HX.out, HQ.out, ← hN.out]; rfl⟩
    · have hke : Hid (k = len) := by show _ = _; have := hk.out; omega
      have HN : Hid (c = zs.countP p) := by
        show _ = _
        have := hN.out
        rw [hke.out, ← H.out.1, List.take_length] at this
        exact this
      go_wp2_with fail
      go_ret
      exact ⟨by rw [← HN.out]; rfl, hB.out⟩
set_option maxHeartbeats 1600000 in
theorem specFailed_any (a : Option Addr) (len cap : Nat) (zs : List (Nat × Bool)) (w : World) (h : LRow w a len zs) (hn : len ≤ 1048576) :
    Calls Try.prog 69 #[.slice a len cap] w fun e w' => e = .returned (.int .i64 (zs.countP (·.2))) ∧ w = w' := by
  have H := Lib.hid h
  clear h
  go_enter Try.func69, Try.ntmps69
  go_wp2_with fail
  go_loopg [3, 4] len (fun n i3 i4 wr => ∃ k c : Nat, i3 = .int .i64 c ∧ i4 = .int .i64 k ∧ Hid (k + n = len) ∧ k ≤ len ∧ c ≤ k ∧ w = wr ∧ Hid (c = (zs.take k).countP (·.2)))
  case atStart => exact ⟨0, 0, rfl, rfl, by show _ = _; omega, Nat.zero_le _, Nat.le_refl _, rfl, rfl⟩
  case round =>
    obtain ⟨k, c, rfl, rfl, hk, hkl, hck, rfl, hN⟩ := hrel
    by_cases hlt : k < len
    · obtain ⟨b, off, rfl, hbl, _, hc⟩ := H.out.2.2.2 k hlt
      have HJ : Hid (k + 1 + (gk - 1) = len) := by have := hk.out; show _ = _; omega
      have HG : Hid (gk - 1 < gk) := by have := hk.out; show _ < _; omega
      have HX := Lib.hid (count_next (·.2) zs k (by rw [H.out.1]; exact hlt))
      have hz : fl zs k = (zs.getD k (0, false)).2 := rfl
      rw [hz] at hc
      have HC := Lib.hid hN.out
      clear hz
      cases hq : (zs.getD k (0, false)).2 with
      | true =>
        rw [hq] at hc
        have HQ := Lib.hid hq
        clear hq
        go_wp2_with fail
        go_roundg (gk - 1)
        case measure => exact HG.out
        case rel => exact ⟨k + 1, c + 1, by go_num, by go_num, HJ, by omega, by omega, rfl, by show _ = _; rw [HX.out, HQ.out, ← hN.out]; rfl⟩
      | false =>
        rw [hq] at hc
        have HQ := Lib.hid hq
        clear hq
        go_wp2_with fail
        go_roundg (gk - 1)
        case measure => exact HG.out
        case rel => exact ⟨k + 1, c, by go_num, by go_num, HJ, by omega, by omega, rfl, by show _ = _; rw [HX.out, HQ.out, ← hN.out]; rfl⟩
    · have hke : Hid (k = len) := by show _ = _; have := hk.out; omega
      have HN : Hid (c = zs.countP (·.2)) := by
        show _ = _
        have := hN.out
        rw [hke.out, ← H.out.1, List.take_length] at this
        exact this
      go_wp2_with fail
      go_ret
      exact ⟨by rw [← HN.out]; rfl, rfl⟩
theorem implCount_any (a : Option Addr) (len cap : Nat) (zs : List (Nat × Bool)) (w : World) (h : LRow w a len zs) (hn : len ≤ 1048576) :
    Calls Try.prog 27 #[.slice a len cap] w fun e w' => e = .returned (.tuple #[.int .i64 (if livB zs then ((zs.countP (·.2) : Nat) : Int) else (0 : Int)), .bool (livB zs)]) ∧ Below w.heap.size w w' := by
  have H := Lib.hid h
  clear h
  cases hL : livB zs
  · have HL := Lib.hid hL
    go_enter Try.func27, Try.ntmps27
    go_wp2_with fail
    refine (implAre_any a len cap zs _ H.out).mono ?_
    rintro e w1 ⟨rfl, b1⟩
    rw [HL.out]
    go_wp2_with fail
    go_ret2
    exact ⟨rfl, b1⟩
  · have HL := Lib.hid hL
    go_enter Try.func27, Try.ntmps27
    go_wp2_with fail
    refine (implAre_any a len cap zs _ H.out).mono ?_
    rintro e w1 ⟨rfl, b1⟩
    rw [HL.out]
    have B1 := Lib.hid b1
    clear b1
    go_wp2_with fail
    refine (countLives_any (·.2) 71 #[] (by intro args w; kernel_rfl) a len cap zs _ (H.out.keep B1.out) (fun W t f _ _ => hasFailed_any t f W) hn).mono ?_
    rintro e w2 ⟨rfl, g2⟩
    have B2 := Lib.hid (B1.out.trans (g2.below.mono B1.out.size))
    clear g2
    go_wp2_with fail
    go_ret2
    exact ⟨rfl, B2.out⟩
theorem specCount_any (a : Option Addr) (len cap : Nat) (zs : List (Nat × Bool)) (w : World) (h : LRow w a len zs) (hn : len ≤ 1048576) :
    Calls Try.prog 26 #[.slice a len cap] w fun e w' => e = .returned (.tuple #[.int .i64 (if livB zs then ((zs.countP (·.2) : Nat) : Int) else (0 : Int)), .bool (livB zs)]) ∧ Below w.heap.size w w' := by
  have H := Lib.hid h
  clear h
  cases hL : livB zs
  · have HL := Lib.hid hL
    go_enter Try.func26, Try.ntmps26
    go_wp2_with fail
    refine (specLives_any a len cap zs _ H.out).mono ?_
    rintro e w1 ⟨rfl, g1⟩
    rw [HL.out]
    go_wp2_with fail
    go_ret2
    exact ⟨rfl, g1.below⟩
  · have HL := Lib.hid hL
    go_enter Try.func26, Try.ntmps26
    go_wp2_with fail
    refine (specLives_any a len cap zs _ H.out).mono ?_
    rintro e w1 ⟨rfl, g1⟩
    rw [HL.out]
    have B1 := Lib.hid g1.below
    clear g1
    go_wp2_with fail
    refine (specFailed_any a len cap zs _ (H.out.keep B1.out) hn).mono ?_
    rintro e w2 ⟨rfl, rfl⟩
    go_wp2_with fail
    go_ret2
    exact ⟨rfl, B1.out⟩
theorem onlyFinite_any (x : Nat) (w : World) : Calls Try.prog 74 #[.float .f32 x] w fun e w' => e = .returned (.tuple #[.float .f32 (if fin .f32 x then x else 0), .bool (fin .f32 x)]) ∧ Drawn w w' := by
  cases hf : fin .f32 x
  · have Hf := Lib.hid hf
    go_enter Try.func74, Try.ntmps74
    go_wp2_with fail
    refine (implIsFinite_any x _).mono ?_
    rintro e w1 ⟨rfl, d1⟩
    rw [Hf.out]
    go_wp2_with fail
    go_ret2
    exact ⟨rfl, d1⟩
  · have Hf := Lib.hid hf
    go_enter Try.func74, Try.ntmps74
    go_wp2_with fail
    refine (implIsFinite_any x _).mono ?_
    rintro e w1 ⟨rfl, d1⟩
    rw [Hf.out]
    go_wp2_with fail
    go_ret2
    exact ⟨rfl, d1⟩
theorem l02Number_any (x : Nat) (w : World) : Calls Try.prog 72 #[.float .f32 x] w fun e w' => e = .returned (.tuple #[.float .f32 (if fin .f32 x then x else 0), .bool (fin .f32 x)]) ∧ Drawn w w' := by
  cases hf : fin .f32 x
  · have Hf := Lib.hid hf
    go_enter Try.func72, Try.ntmps72
    go_wp2_with fail
    refine (specFinite_any x _).mono ?_
    rintro e w1 ⟨rfl, d1⟩
    rw [Hf.out]
    go_wp2_with fail
    go_ret2
    exact ⟨rfl, d1⟩
  · have Hf := Lib.hid hf
    go_enter Try.func72, Try.ntmps72
    go_wp2_with fail
    refine (specFinite_any x _).mono ?_
    rintro e w1 ⟨rfl, d1⟩
    rw [Hf.out]
    go_wp2_with fail
    go_ret2
    exact ⟨rfl, d1⟩
set_option maxHeartbeats 1600000 in
theorem specTotal_any (a : Option Addr) (len cap : Nat) (zs : List (Nat × Bool)) (w : World) (h : LRow w a len zs) (hf : ∀ j, j < zs.length → fin .f32 (tm zs j) = true) :
    Calls Try.prog 73 #[.slice a len cap] w fun e w' => e = .returned (.float .f32 (tot zs)) ∧ w = w' := by
  have H := Lib.hid h
  have HF := Lib.hid hf
  have hm : len ≤ 9223372036854775807 := by have := h.2.1; unfold maxLen at this; exact this
  clear h hf
  go_enter Try.func73, Try.ntmps73
  go_wp2_with fail
  go_loopg [3, 4] len (fun n i3 i4 wr => ∃ k c : Nat, i3 = .float .f32 c ∧ i4 = .int .i64 k ∧ Hid (k + n = len) ∧ k ≤ len ∧ w = wr ∧ Hid (c = tot (zs.take k)))
  case atStart => exact ⟨0, 0, rfl, rfl, by show _ = _; omega, Nat.zero_le _, rfl, rfl⟩
  case round =>
    obtain ⟨k, c, rfl, rfl, hk, hkl, rfl, hN⟩ := hrel
    by_cases hlt : k < len
    · obtain ⟨b, off, rfl, hbl, hc, _⟩ := H.out.2.2.2 k hlt
      have HJ : Hid (k + 1 + (gk - 1) = len) := by have := hk.out; show _ = _; omega
      have HG : Hid (gk - 1 < gk) := by have := hk.out; show _ < _; omega
      have HX := Lib.hid (tot_next zs k (by rw [H.out.1]; exact hlt))
      obtain ⟨r, hr, hr2⟩ : ∃ r, Go.floatBits .add .f32 c (tm zs k) = some r ∧ op32 .add c (tm zs k) = r := by
        have h1 := (tot_num HF.out k (by rw [H.out.1]; omega)).1
        rw [← hN.out] at h1
        obtain ⟨r, h2, _⟩ := add_fin h1 (HF.out k (by rw [H.out.1]; exact hlt))
        exact ⟨r, h2, op32_of h2⟩
      have HR := Lib.hid hr2
      have hrun : ∀ w, (binOp .add 35 (.float .f32 c) (.float .f32 (tm zs k))).run Try.prog w = .ok (.float .f32 r) w := fun w => run_float_arith w .add 35 .f32 c (tm zs k) r hr
      clear hr hr2
      obtain ⟨t, ht⟩ : ∃ t, t = tm zs k := ⟨_, rfl⟩
      rw [← ht] at hc hrun HR HX
      clear ht
      go_wp2_with fail
      go_roundg (gk - 1)
      case measure => exact HG.out
      case rel => exact ⟨k + 1, r, by go_num, by go_num, HJ, by omega, rfl, by show _ = _; rw [HX.out, ← hN.out, HR.out]⟩
    · have hke : Hid (k = len) := by show _ = _; have := hk.out; omega
      have HN : Hid (c = tot zs) := by
        show _ = _
        have := hN.out
        rw [hke.out, ← H.out.1, List.take_length] at this
        exact this
      go_wp2_with fail
      go_ret
      exact ⟨by rw [← HN.out]; rfl, rfl⟩
set_option maxHeartbeats 1600000 in
theorem implTime_any (a : Option Addr) (len cap : Nat) (zs : List (Nat × Bool)) (w : World) (h : LRow w a len zs) :
    Calls Try.prog 29 #[.slice a len cap] w fun e w' => e = .returned (.tuple #[.float .f32 (if livB zs && fin .f32 (tot zs) then tot zs else 0), .bool (livB zs && fin .f32 (tot zs))]) ∧ Below w.heap.size w w' := by
  have H := Lib.hid h
  have hm : len ≤ 9223372036854775807 := by have := h.2.1; unfold maxLen at this; exact this
  clear h
  cases hL : livB zs
  · have HL := Lib.hid hL
    go_enter Try.func29, Try.ntmps29
    go_wp2_with fail
    refine (implAre_any a len cap zs _ H.out).mono ?_
    rintro e w1 ⟨rfl, b1⟩
    rw [HL.out]
    go_wp2_with fail
    go_ret2
    exact ⟨rfl, b1⟩
  · have HL := Lib.hid hL
    rw [Bool.true_and]
    go_enter Try.func29, Try.ntmps29
    go_wp2_with fail
    refine (implAre_any a len cap zs _ H.out).mono ?_
    rintro e w1 ⟨rfl, b1⟩
    rw [HL.out]
    have B1 := Lib.hid b1
    clear b1
    go_wp2_with fail
    go_loopg [4, 12] len (fun n i3 i4 wr => ∃ k c : Nat, i3 = .float .f32 c ∧ i4 = .int .i64 k ∧ Hid (k + n = len) ∧ k ≤ len ∧ Hid (Below w.heap.size w wr) ∧ Hid (c = tot (zs.take k)))
    case atStart => exact ⟨0, 0, rfl, rfl, by show _ = _; omega, Nat.zero_le _, B1.out, rfl⟩
    case round =>
      obtain ⟨k, c, rfl, rfl, hk, hkl, hB, hN⟩ := hrel
      by_cases hlt : k < len
      · obtain ⟨b, off, rfl, hbl, hc, hd⟩ := (H.out.keep hB.out).2.2.2 k hlt
        have HJ : Hid (k + 1 + (gk - 1) = len) := by have := hk.out; show _ = _; omega
        have HG : Hid (gk - 1 < gk) := by have := hk.out; show _ < _; omega
        have HX := Lib.hid (tot_next zs k (by rw [H.out.1]; exact hlt))
        obtain ⟨r, hr, hr2⟩ : ∃ r, Go.floatBits .add .f32 c (tm zs k) = some r ∧ op32 .add c (tm zs k) = r := by
          have h1 := (tot_num (fun j hj => liv_fin HL.out hj) k (by rw [H.out.1]; omega)).1
          rw [← hN.out] at h1
          obtain ⟨r, h2, _⟩ := add_fin h1 (liv_fin HL.out (by rw [H.out.1]; exact hlt))
          exact ⟨r, h2, op32_of h2⟩
        have HR := Lib.hid hr2
        have hrun : ∀ w, (binOp .add 35 (.float .f32 c) (.float .f32 (tm zs k))).run Try.prog w = .ok (.float .f32 r) w := fun w => run_float_arith w .add 35 .f32 c (tm zs k) r hr
        clear hr hr2
        obtain ⟨t, ht⟩ : ∃ t, t = tm zs k := ⟨_, rfl⟩
        rw [← ht] at hc hrun HR HX
        clear ht
        generalize fl zs k = f at *
        have HB : ∀ o, Hid (Below w.heap.size w (wr.alloc o)) := fun o => Lib.hid (hB.out.alloc hB.out.size o)
        clear hB
        go_wp2_with fail
        go_roundg (gk - 1)
        case measure => exact HG.out
        case rel => exact ⟨k + 1, r, by go_num, by go_num, HJ, by omega, (HB _).out, by show _ = _; rw [HX.out, ← hN.out, HR.out]⟩
      · have hke : Hid (k = len) := by show _ = _; have := hk.out; omega
        have HN : Hid (c = tot zs) := by
          show _ = _
          have := hN.out
          rw [hke.out, ← H.out.1, List.take_length] at this
          exact this
        go_wp2_with fail
        refine (onlyFinite_any c _).mono ?_
        rintro e w2 ⟨rfl, d2⟩
        rw [HN.out]
        have B2 := Lib.hid (hB.out.trans (d2.below _))
        clear d2 hB
        go_wp2_with fail
        all_goals (go_ret2; exact ⟨rfl, B2.out⟩)
set_option maxHeartbeats 1600000 in
theorem specTime_any (a : Option Addr) (len cap : Nat) (zs : List (Nat × Bool)) (w : World) (h : LRow w a len zs) :
    Calls Try.prog 28 #[.slice a len cap] w fun e w' => e = .returned (.tuple #[.float .f32 (if livB zs && fin .f32 (tot zs) then tot zs else 0), .bool (livB zs && fin .f32 (tot zs))]) ∧ Below w.heap.size w w' := by
  have H := Lib.hid h
  clear h
  cases hL : livB zs
  · have HL := Lib.hid hL
    go_enter Try.func28, Try.ntmps28
    go_wp2_with fail
    refine (specLives_any a len cap zs _ H.out).mono ?_
    rintro e w1 ⟨rfl, g1⟩
    rw [HL.out]
    go_wp2_with fail
    go_ret2
    exact ⟨rfl, g1.below⟩
  · have HL := Lib.hid hL
    rw [Bool.true_and]
    go_enter Try.func28, Try.ntmps28
    go_wp2_with fail
    refine (specLives_any a len cap zs _ H.out).mono ?_
    rintro e w1 ⟨rfl, g1⟩
    rw [HL.out]
    have B1 := Lib.hid g1.below
    clear g1
    go_wp2_with fail
    refine (specTotal_any a len cap zs _ (H.out.keep B1.out) (fun j hj => liv_fin HL.out hj)).mono ?_
    rintro e w2 ⟨rfl, rfl⟩
    go_wp2_with fail
    refine (l02Number_any (tot zs) _).mono ?_
    rintro e w2 ⟨rfl, d2⟩
    have B2 := Lib.hid (B1.out.trans (d2.below _))
    clear d2
    go_wp2_with fail
    all_goals (go_ret2; exact ⟨rfl, B2.out⟩)
end Go.Proofs.Ytncekpiabklkeaa
