/-
  Places of numbers by a function that is handed on, in the program. Conditions: the list reads as a list of at most 2^20 numbers; the function only draws.
-/
import Derived.Test.YtppkeabkjabhdaaSfS
import Derived.Test.YtppkeabkjabhdaaCrW
import Derived.Test.YtppkeabkjabhdaaHld
import Derived.Test.YtppkeabkjabhdaaMkF
import Derived.Test.YtppkeabkjabhdaaIxF
namespace Go.Proofs.Ytppkeabkjabhdaa
open Go.RowKit Flt Dec Cm We Cr Liv Hld
/-- what is asked of the function that is handed on -/
def PTest (p : Nat → Option Nat) (f : Nat) : Prop := ∀ (W : World) (z : Nat), z < 4294967296 → pos z = true → Calls Try.prog f #[.float .f32 z] W fun e w' => (∃ x, e = .returned (.float .f32 x) ∧ F32.Is (p z) x ∧ x < 4294967296) ∧ Drawn W w'
set_option maxRecDepth 100000 in
set_option maxHeartbeats 8000000 in
theorem placesOf_any (p : Nat → Option Nat) (f : Nat) (eg : ∀ args w, (callFunc f args).run Try.prog w = .ok (.enter f args) w) (hp : PTest p f) (a : Option Addr) (n ca : Nat) (S : List Nat) (w : World) (h : FRow w a n S) (hn : n ≤ 1048576) :
    Calls Try.prog 99 #[.slice a n ca, .func (.func f) #[] #[]] w fun e w' => ((S.all pos = true ∧ ∃ (g : Nat) (X : List Nat), e = .returned (.tuple #[.slice (some ⟨g, 0, none⟩) n n, .bool true]) ∧ X.length = n ∧ (∀ j, j < n → F32.Is (p (S.getD j 0)) (X.getD j 0)) ∧ FRow w' (some ⟨g, 0, none⟩) n X) ∨ (S.all pos = false ∧ e = .returned (.tuple #[.slice none 0 0, .bool false]))) ∧ Below w.heap.size w w' := by
  have hSL : S.length = n := h.1
  have HS := Lib.hid h
  have HP := Lib.hid hp
  have HKN : Hid (n ≤ 1048576) := hn
  have HNO : Hid (∀ k, k < n → pos (S.getD k 0) = false → S.all pos = false) := Lib.hid fun k hk hq => all_false (by rw [hSL]; exact hk) hq
  have HYE : Hid ((∀ k, k < n → pos (S.getD k 0) = true) → S.all pos = true) := Lib.hid fun k => all_from (by rw [hSL]; exact k)
  have hmk : ∀ w, (Instr.makeSlice 30 (.int .i64 (n : Int)) (.int .i64 (n : Int))).run Try.prog w = .ok (.slice (some ⟨w.heap.size, 0, none⟩) n n) (w.alloc (.cells (madeCells (Value.float .f32 0).cells (n * 1)) 31)) := by
    intro w
    obtain ⟨i, hi, hz0, hz1, hz2⟩ := info_parts (show (Try.prog.info? 31).map (fun i => (i.zero, i.size, i.bytes)) = some (some (.float .f32 0), 1, 4) by kernel_rfl)
    have := run_make (P := Try.prog) w 30 31 i (.float .f32 0) Try.underlying30 hi hz0 .i64 .i64 (n : Int) (n : Int) (by omega) (Int.le_refl _) (by rw [hz2]; omega) (by omega)
    rw [hz1, Int.toNat_natCast] at this
    exact this
  have HM0 : Hid (FHd 31 (w.alloc (.cells (madeCells (Value.float .f32 0).cells (n * 1)) 31)) w.heap.size n (List.replicate n 0)) := Lib.hid (FHd.made w 31 n)
  have HB0 : Hid (Below w.heap.size w (w.alloc (.cells (madeCells (Value.float .f32 0).cells (n * 1)) 31))) := Lib.hid ((Below.refl _ _).alloc (Nat.le_refl _) _)
  generalize madeCells (Value.float .f32 0).cells (n * 1) = C0 at *
  clear h hp hn hSL
  go_enter Try.func99, Try.ntmps99
  go_wp2_with fail
  go_loopg [14] n (fun q vi wr => ∃ (k : Nat) (X : List Nat), vi = .int .i64 (k : Int) ∧ Hid (k + q = n) ∧ k ≤ n ∧ Hid (FHd 31 wr w.heap.size n X) ∧ Hid (∀ j, j < n → (j < k → F32.Is (p (S.getD j 0)) (X.getD j 0)) ∧ X.getD j 0 < 4294967296) ∧ Hid (∀ j, j < k → pos (S.getD j 0) = true) ∧ Hid (Below w.heap.size w wr))
  case atStart => exact ⟨0, _, rfl, by show _ = _; omega, Nat.zero_le _, HM0.out, (show Hid _ from fun j hj => ⟨fun h => absurd h (Nat.not_lt_zero _), by simp [List.getD, hj]⟩), (show Hid _ from fun j hj => absurd hj (Nat.not_lt_zero _)), HB0.out⟩
  case round =>
    clear HM0 HB0
    obtain ⟨k, X, rfl, hk, hkl, hF, hI, hPP, hB⟩ := hrel
    by_cases hlt : k < n
    · have HJ : Hid (k + 1 + (gk - 1) = n) := by have := hk.out; show _ = _; omega
      have HG : Hid (gk - 1 < gk) := by have := hk.out; show _ < _; omega
      obtain ⟨bl, ol, rfl, hbl, hc⟩ := (HS.out.keep hB.out).2.2.2 k hlt
      have HZW := Lib.hid (lt_at HS.out hlt)
      have HNOK := Lib.hid (HNO.out k hlt)
      have HPN : Hid (pos (S.getD k 0) = true → ∀ j, j < k + 1 → pos (S.getD j 0) = true) := Lib.hid fun hq j hj => by
        by_cases e : j = k
        · subst e; exact hq
        · exact hPP.out j (by omega)
      have HIN : Hid (∀ y, F32.Is (p (S.getD k 0)) y → y < 4294967296 → ∀ j, j < n → (j < k + 1 → F32.Is (p (S.getD j 0)) ((X.set k y).getD j 0)) ∧ (X.set k y).getD j 0 < 4294967296) := Lib.hid fun y i1 i2 j hj => by
        have hXl : X.length = n := hF.out.2.1
        by_cases ej : j = k
        · have : (X.set k y).getD k 0 = y := by simp [List.getD, show k < X.length by omega]
          rw [ej, this]; exact ⟨fun _ => i1, i2⟩
        · have : (X.set k y).getD j 0 = X.getD j 0 := by simp [List.getD, show ¬ k = j by omega]
          rw [this]; exact ⟨fun h => (hI.out j hj).1 (by omega), (hI.out j hj).2⟩
      generalize S.getD k 0 = z at *
      clear hbl hI hPP hk
      go_wp2_with fail
      refine (c_implAbove z _).mono ?_
      rintro e w1 ⟨rfl, d1⟩
      have D1 := Lib.hid d1
      clear d1
      cases hq : pos z with
      | false =>
        have HM := Lib.hid (HNOK.out hq)
        clear hq
        go_wp2_with fail
        go_ret2
        exact ⟨.inr ⟨HM.out, rfl⟩, hB.out.trans (D1.out.below _)⟩
      | true =>
        have HQ := Lib.hid hq
        have HPX := Lib.hid (HPN.out hq)
        clear hq HNOK HPN
        go_wp2_with fail
        refine (HP.out _ z HZW.out HQ.out).mono ?_
        rintro e w2 ⟨⟨y, rfl, iy, ly⟩, d2⟩
        have HI5 := Lib.hid (HIN.out y iy ly)
        have D2 := Lib.hid (D1.out.trans d2)
        have hs4 := Cr.fhd_drawn hF.out D2.out
        have HB4 := Lib.hid (hB.out.trans (D2.out.below w.heap.size))
        obtain ⟨u4, hu4⟩ := hs4.1.cell (show k < n by omega)
        have hfr4 := hs4.1.frozen (k)
        have HS5 := Lib.hid (hs4.set (show k < n by omega) y)
        have HB5 := Lib.hid (HB4.out.setCell (p := ⟨w.heap.size, k, none⟩) (Nat.le_refl _) (.float .f32 y))
        have hnn : n ≤ 1048576 := HKN.out
        clear d2 D1 D2 hs4 HB4 hB hF iy ly HIN hc
        go_wp2_with fail
        go_roundg (gk - 1)
        case measure => exact HG.out
        case rel => exact ⟨k + 1, X.set k y, by go_num, HJ, by omega, HS5.out, HI5.out, HPX.out, HB5.out⟩
    · obtain rfl : k = n := by omega
      have HR := Lib.hid (hF.out.row HKN.out (lt_mem hF.out.2.1 fun j hj => (hI.out j hj).2))
      have HXL := Lib.hid hF.out.2.1
      have HA := Lib.hid (HYE.out hPP.out)
      clear hk hlt hF hPP
      go_wp2_with fail
      go_ret2
      exact ⟨.inl ⟨HA.out, _, X, rfl, HXL.out, fun j hj => (hI.out j hj).1 hj, HR.out⟩, hB.out⟩
end Go.Proofs.Ytppkeabkjabhdaa
