/-
  Contracts: how many lives failed, and the sum of all their times, in the program and in its model. Conditions: times are words of 32 bits; for the sum, all of them are finite.
-/
import Derived.Test.YtplfmdjccmhclabLok
import Derived.Test.YtplfmdjccmhclabF32
namespace Liv
open Go Flt F32
theorem take_next' {α : Type} (d : α) (zs : List α) (k : Nat) (h : k < zs.length) : zs.take (k + 1) = zs.take k ++ [zs.getD k d] := by
  rw [List.take_add_one]
  simp [List.getD, h]
theorem count_next (p : Nat × Bool → Bool) (zs : List (Nat × Bool)) (k : Nat) (h : k < zs.length) : (zs.take (k + 1)).countP p = (zs.take k).countP p + if p (zs.getD k (0, false)) then 1 else 0 := by
  rw [take_next' (0, false) zs k h, List.countP_append]
  simp [List.countP_cons]
/-- one operation on 32-bit numbers that has an answer -/
def op32 (op : Go.BinOp) (a b : Nat) : Nat := (Go.floatBits op .f32 a b).getD 0
theorem op32_of {op : Go.BinOp} {a b r : Nat} (h : Go.floatBits op .f32 a b = some r) : op32 op a b = r := by unfold op32; rw [h]; rfl
def tot (zs : List (Nat × Bool)) : Nat := zs.foldl (fun s z => op32 .add s z.1) 0
theorem tot_next (zs : List (Nat × Bool)) (k : Nat) (h : k < zs.length) : tot (zs.take (k + 1)) = op32 .add (tot (zs.take k)) (tm zs k) := by
  rw [take_next' (0, false) zs k h]
  unfold tot
  rw [List.foldl_append]
  rfl
theorem tot_num {zs : List (Nat × Bool)} (h : ∀ j, j < zs.length → fin .f32 (tm zs j) = true) : ∀ k, k ≤ zs.length → nan .f32 (tot (zs.take k)) = false ∧ tot (zs.take k) < 4294967296 := by
  intro k
  induction k with
  | zero => intro _; exact ⟨(by decide : nan .f32 0 = false), (by decide : (0 : Nat) < 4294967296)⟩
  | succ k ih =>
    intro hk
    obtain ⟨h1, _⟩ := ih (by omega)
    obtain ⟨r, hr, h3, h4⟩ := add_fin h1 (h k (by omega))
    rw [tot_next zs k (by omega), op32_of hr]
    exact ⟨h3, h4⟩
theorem liv_pos {zs : List (Nat × Bool)} (h : livB zs = true) {j : Nat} (hj : j < zs.length) : posB (tm zs j) = true := by
  unfold livB at h
  rw [Bool.and_eq_true] at h
  rcases all_at hj with h2 | h2
  · rw [h2] at h; exact absurd h.2 (by decide)
  · exact h2
theorem liv_fin {zs : List (Nat × Bool)} (h : livB zs = true) {j : Nat} (hj : j < zs.length) : fin .f32 (tm zs j) = true := by
  have := liv_pos h hj
  unfold posB at this
  rw [Bool.and_eq_true] at this
  exact this.1
theorem liv_len {zs : List (Nat × Bool)} (h : livB zs = true) : 1 ≤ zs.length ∧ zs.length ≤ 48 := by
  unfold livB at h
  rw [Bool.and_eq_true] at h
  exact of_decide_eq_true h.1
/-- what the sum of all times is told to be -/
def totA (zs : List (Nat × Bool)) : Nat := if livB zs && fin .f32 (tot zs) then tot zs else 0
theorem totA_num (zs : List (Nat × Bool)) : nan .f32 (totA zs) = false := by
  unfold totA
  split
  · rename_i h
    rw [Bool.and_eq_true] at h
    exact fin_num h.2
  · decide
end Liv
namespace Go.Proofs.Ytplfmdjccmhclab
open Go.RowKit Liv Flt F32
/-- what is asked of a test of lives that is handed on -/
def Tests2 (p : Nat × Bool → Bool) (g : Nat) (lb : Array Value) (w : World) : Prop :=
  ∀ (W : World) (t : Nat) (f : Bool), t < 4294967296 → Below w.heap.size w W → Calls Try.prog g (#[.agg #[.float .f32 t, .bool f]] ++ lb) W fun e w' => e = .returned (.bool (p (t, f))) ∧ Grn W w'
set_option maxHeartbeats 1600000 in
theorem countLives_any (p : Nat × Bool → Bool) (g : Nat) (lb : Array Value) (eg : ∀ args w, (callFunc g args).run Try.prog w = .ok (.enter g args) w) (a : Option Addr) (len cap : Nat) (zs : List (Nat × Bool)) (w : World) (h : LRow w a len zs) (hp : Tests2 p g lb w) (hn : len ≤ 1048576) :
    Calls Try.prog 71 #[.slice a len cap, .func (.func g) #[] lb] w fun e w' => e = .returned (.int .i64 (zs.countP p)) ∧ Grn w w' := by
  have H := Lib.hid h
  have HP := Lib.hid hp
  clear h hp
  go_enter Try.func71, Try.ntmps71
  go_wp2_with fail
  go_loopg [5, 10] len (fun n i5 i10 wr => ∃ k c : Nat, i5 = .int .i64 c ∧ i10 = .int .i64 k ∧ Hid (k + n = len) ∧ k ≤ len ∧ c ≤ k ∧ Hid (Grn w wr) ∧ Hid (c = (zs.take k).countP p))
  case atStart => exact ⟨0, 0, rfl, rfl, by show _ = _; omega, Nat.zero_le _, Nat.le_refl _, Grn.refl _, rfl⟩
  case round =>
    obtain ⟨k, c, rfl, rfl, hk, hkl, hck, hB, hN⟩ := hrel
    by_cases hlt : k < len
    · obtain ⟨b, off, rfl, hbl, hc, hd⟩ := (H.out.keep hB.out.below).2.2.2 k hlt
      have HJ : Hid (k + 1 + (gk - 1) = len) := by have := hk.out; show _ = _; omega
      have HG : Hid (gk - 1 < gk) := by have := hk.out; show _ < _; omega
      have hz : (tm zs k, fl zs k) = zs.getD k (0, false) := rfl
      have hcall := fun W hW => HP.out W (tm zs k) (fl zs k) (H.out.bd hlt) hW
      rw [hz] at hcall
      have HC := Lib.hid hcall
      have HX := Lib.hid (count_next p zs k (by rw [H.out.1]; exact hlt))
      clear hcall hz
      generalize tm zs k = t at *
      generalize fl zs k = f at *
      cases hq : p (zs.getD k (0, false)) with
      | true =>
        have HQ := Lib.hid hq
        clear hq
        go_wp2_with fail
        refine (HC.out _ (hB.out.alloc _).below).mono ?_
        rintro e w1 ⟨rfl, g1⟩
        rw [HQ.out]
        have G := Lib.hid ((hB.out.alloc _).trans g1)
        clear g1
        go_wp2_with fail
        go_roundg (gk - 1)
        case measure => exact HG.out
        case rel => exact ⟨k + 1, c + 1, by go_num, by go_num, HJ, by omega, by omega, G.out, by show _ = _; rw [HX.out, HQ.out, ← hN.out]; rfl⟩
      | false =>
        have HQ := Lib.hid hq
        clear hq
        go_wp2_with fail
        refine (HC.out _ (hB.out.alloc _).below).mono ?_
        rintro e w1 ⟨rfl, g1⟩
        rw [HQ.out]
        have G := Lib.hid ((hB.out.alloc _).trans g1)
        clear g1
        go_wp2_with fail
        go_roundg (gk - 1)
        case measure => exact HG.out
        case rel => exact ⟨k + 1, c, by go_num, by go_num, HJ, by omega, by omega, G.out, by show _ = _; rw [HX.out, HQ.out, ← hN.out]; rfl⟩
    · have hke : Hid (k = len) := by show _ = _; have := hk.out; omega
      have HN : Hid (c = zs.countP p) := by
        show _ = _
        have := hN.out
        rw [hke.out, ← H.out.1, List.take_length] at this
        exact this
      go_wp2_with fail
      go_ret
      exact ⟨by rw [← HN.out]; rfl, hB.out⟩
theorem onlyFinite_any (x : Nat) (w : World) : Calls Try.prog 81 #[.float .f32 x] w fun e w' => e = .returned (.tuple #[.float .f32 (if fin .f32 x then x else 0), .bool (fin .f32 x)]) ∧ Drawn w w' := by
  cases hf : fin .f32 x
  · have Hf := Lib.hid hf
    go_enter Try.func81, Try.ntmps81
    go_wp2_with fail
    refine (implIsFinite_any x _).mono ?_
    rintro e w1 ⟨rfl, d1⟩
    rw [Hf.out]
    go_wp2_with fail
    go_ret2
    exact ⟨rfl, d1⟩
  · have Hf := Lib.hid hf
    go_enter Try.func81, Try.ntmps81
    go_wp2_with fail
    refine (implIsFinite_any x _).mono ?_
    rintro e w1 ⟨rfl, d1⟩
    rw [Hf.out]
    go_wp2_with fail
    go_ret2
    exact ⟨rfl, d1⟩
theorem l02Number_any (x : Nat) (w : World) : Calls Try.prog 79 #[.float .f32 x] w fun e w' => e = .returned (.tuple #[.float .f32 (if fin .f32 x then x else 0), .bool (fin .f32 x)]) ∧ Drawn w w' := by
  cases hf : fin .f32 x
  · have Hf := Lib.hid hf
    go_enter Try.func79, Try.ntmps79
    go_wp2_with fail
    refine (specFinite_any x _).mono ?_
    rintro e w1 ⟨rfl, d1⟩
    rw [Hf.out]
    go_wp2_with fail
    go_ret2
    exact ⟨rfl, d1⟩
  · have Hf := Lib.hid hf
    go_enter Try.func79, Try.ntmps79
    go_wp2_with fail
    refine (specFinite_any x _).mono ?_
    rintro e w1 ⟨rfl, d1⟩
    rw [Hf.out]
    go_wp2_with fail
    go_ret2
    exact ⟨rfl, d1⟩
end Go.Proofs.Ytplfmdjccmhclab
