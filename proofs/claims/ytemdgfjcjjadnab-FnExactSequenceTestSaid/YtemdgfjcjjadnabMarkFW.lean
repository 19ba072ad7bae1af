/-
  Lists of 32-bit numbers of an answer: the laws' marks in them, and their reading. No conditions beyond those stated.
-/
import Derived.Test.YtemdgfjcjjadnabMarkW
import Derived.Test.YtemdgfjcjjadnabSlW
import Derived.Laws.Cover2
namespace Dec
open Go
def mF (j : Nat) : Value := .float .f32 (Go.floatOfInt .f32 (1 + (j : Int)))
theorem mF_num (j : Nat) (h : j ≤ 1023) : Flt.nan .f32 (Go.floatOfInt .f32 (1 + (j : Int))) = false := by
  have := List.all_eq_true.1 (show ((List.range 1024).all fun j => !Flt.nan .f32 (Go.floatOfInt .f32 (1 + (j : Int)))) = true by kernel_rfl) j (List.mem_range.2 (by omega))
  simpa using this
end Dec
namespace Go.Proofs.Ytemdgfjcjjadnab
open Go.RowKit Dec Flt
set_option maxHeartbeats 800000 in
theorem markF32_any (B : Nat) (a : Option Addr) (len cap : Nat) (w : World) (h : Own w B a len 24) (hn : len ≤ 1023) :
    Calls Try.prog 22 #[.slice a len cap, .int .i64 1] w fun e w' => e = .returned (.int .i64 (1 + len)) ∧ Marked mF w' a len ∧ Below B w w' := by
  have H := Lib.hid h
  clear h
  go_enter Try.func22, Try.ntmps22
  go_wp2_with fail
  go_loopg [1, 5] len (fun n m i wr => ∃ k : Nat, m = .int .i64 (1 + k) ∧ i = .int .i64 k ∧ Hid (k + n = len) ∧ k ≤ len ∧ Hid (Own wr B a len 24) ∧ Hid (Marked mF wr a k) ∧ Hid (Below B w wr))
  case atStart => exact ⟨0, rfl, rfl, by show _ = _; omega, Nat.zero_le _, H.out, fun j hj => absurd hj (Nat.not_lt_zero _), Below.refl _ _⟩
  case round =>
    obtain ⟨k, rfl, rfl, hk, hkl, hO, hM, hd⟩ := hrel
    by_cases hlt : k < len
    · obtain h0 | ⟨g, rfl, hg, hS⟩ := hO.out
      · omega
      obtain ⟨u, hu⟩ := hS.cell hlt
      have hfr := hS.frozen k
      have HJ : Hid (k + 1 + (gk - 1) = len) := by have := hk.out; show _ = _; omega
      have HG : Hid (gk - 1 < gk) := by have := hk.out; show _ < _; omega
      have HO2 : Hid (Own (wr.setCell ⟨g, k, none⟩ (.float .f32 (Go.floatOfInt .f32 (1 + (k : Int))))) B (some ⟨g, 0, none⟩) len 24) := .inr ⟨g, rfl, hg, hS.set k _⟩
      have HM2 := Lib.hid (Marked.set hS hlt hM.out)
      have HB2 : Hid (Below B w (wr.setCell ⟨g, k, none⟩ (.float .f32 (Go.floatOfInt .f32 (1 + (k : Int)))))) := Lib.hid (hd.out.setCell hg _)
      clear hO hM hd hS
      go_wp2_with fail
      go_roundg (gk - 1)
      case measure => exact HG.out
      case rel => exact ⟨k + 1, by go_num, by go_num, HJ, by omega, HO2.out, HM2.out, HB2.out⟩
    · obtain rfl : k = len := by have := hk.out; omega
      clear hO hlt
      go_wp2_with fail
      go_ret
      exact ⟨rfl, hM.out, hd.out⟩
set_option maxHeartbeats 800000 in
theorem heldF32_any (a : Option Addr) (len cap : Nat) (w : World) (h : Marked mF w a len) (hn : len ≤ 1023) :
    Calls Try.prog 23 #[.slice a len cap, .int .i64 1] w fun e w' => e = .returned (.int .i64 (1 + len)) ∧ Below w.heap.size w w' := by
  have H := Lib.hid h
  clear h
  go_enter Try.func23, Try.ntmps23
  go_wp2_with fail
  go_loopg [1, 5] len (fun n m i wr => ∃ k : Nat, m = .int .i64 (1 + k) ∧ i = .int .i64 k ∧ Hid (k + n = len) ∧ k ≤ len ∧ Hid (Below w.heap.size w wr))
  case atStart => exact ⟨0, rfl, rfl, by show _ = _; omega, Nat.zero_le _, Below.refl _ _⟩
  case round =>
    obtain ⟨k, rfl, rfl, hk, hkl, hd⟩ := hrel
    by_cases hlt : k < len
    · obtain ⟨g, rfl, _, hc⟩ := (H.out.keep hd.out) k hlt
      unfold mF at hc
      have hnn := order_self .f32 (Go.floatOfInt .f32 (1 + (k : Int)))
      rw [mF_num k (by omega)] at hnn
      have HJ : Hid (k + 1 + (gk - 1) = len) := by have := hk.out; show _ = _; omega
      have HG : Hid (gk - 1 < gk) := by have := hk.out; show _ < _; omega
      go_wp2_with fail
      go_roundg (gk - 1)
      case measure => exact HG.out
      case rel => exact ⟨k + 1, by go_num, by go_num, HJ, by omega, hd.out⟩
    · obtain rfl : k = len := by have := hk.out; omega
      clear hlt
      go_wp2_with fail
      go_ret
      exact ⟨rfl, hd.out⟩
end Go.Proofs.Ytemdgfjcjjadnab
