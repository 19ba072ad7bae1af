/-
  Contracts of the laws' copy, comparison and marks of slices of lives. Conditions: at most 1048576 lives.
-/
import Derived.Test.YtplfmdjccmhclabLiv
import Derived.Test.YtplfmdjccmhclabEqW
import Derived.Test.YtplfmdjccmhclabGrn
import Derived.Lib.SmallJoins
namespace Go.Proofs.Ytplfmdjccmhclab
open Go.RowKit Liv Flt
@[go_sem] theorem run_store_bool' {P : Program} {w : World} {a : Addr} {m : Mode} (b : Bool) : (store a (.bool b) m).run P w = stored P w a (.bool b) m := run_store P w a _ m rfl
theorem szLifeS_any (a : Option Addr) (len cap : Nat) (n : Int) (w : World) (hn : 0 ≤ n ∧ n ≤ 1048576) (hl : len ≤ maxLen) :
    Calls Try.prog 15 #[.slice a len cap, .int .i64 n] w fun e w' => e = .returned (.int .i64 (if n < (len : Int) then -1 else n - len)) ∧ w = w' := by
  have hm : len ≤ 9223372036854775807 := by unfold maxLen at hl; exact hl
  clear hl
  by_cases h : n < (len : Int)
  · rw [if_pos h]
    go_enter Try.func15, Try.ntmps15
    go_wp2
    go_ret
    exact ⟨rfl, rfl⟩
  · rw [if_neg h]
    go_enter Try.func15, Try.ntmps15
    go_wp2
    go_ret
    exact ⟨by go_num, rfl⟩
set_option maxHeartbeats 800000 in
theorem toLife_any (t : Nat) (f : Bool) (w : World) : Calls Try.prog 55 #[.agg #[.float .f32 t, .bool f]] w fun e w' => e = .returned (.agg #[.float .f32 t, .bool f]) ∧ Below w.heap.size w w' := by
  go_enter Try.func55, Try.ntmps55
  go_wp2
  refine bodyPost_ret (v := .agg #[.float .f32 t, .bool f]) (by simp [results, Try.results55, go_sem]) rfl ⟨rfl, ?_⟩
  exact Go.Joins.below_alloc3 _ _ _ _
set_option maxHeartbeats 1600000 in
theorem toLifeS_made (a : Option Addr) (len cap : Nat) (zs : List (Nat × Bool)) (w : World) (h : LRow w a len zs) (hn : len ≤ 1048576) :
    Calls Try.prog 17 #[.slice a len cap] w fun e w' => e = .returned (.slice (some ⟨w.heap.size, 0, none⟩) len len) ∧ LMade 63 w' w.heap.size len zs ∧ Below w.heap.size w w' := by
  have H := Lib.hid h
  have hmk : ∀ w, (Instr.makeSlice 27 (.int .i64 (len : Int)) (.int .i64 (len : Int))).run Try.prog w = .ok (.slice (some ⟨w.heap.size, 0, none⟩) len len) (w.alloc (.cells (madeCells (Value.agg #[.float .f32 0, .bool false]).cells (len * 2)) 63)) := by
    intro w
    obtain ⟨i, hi, hz0, hz1, hz2⟩ := info_parts (show (Try.prog.info? 63).map (fun i => (i.zero, i.size, i.bytes)) = some (some (.agg #[.float .f32 0, .bool false]), 2, 8) by kernel_rfl)
    have := run_make (P := Try.prog) w 27 63 i (.agg #[.float .f32 0, .bool false]) Try.underlying27 hi hz0 .i64 .i64 len len (by omega) (Int.le_refl _) (by rw [hz2]; omega) (by omega)
    rw [this, hz1, Int.toNat_natCast]
  have hMade := Lib.hid (LSlots.made w 63 (madeCells (Value.agg #[.float .f32 0, .bool false]).cells (len * 2)) len (by simp [madeCells]))
  generalize madeCells (Value.agg #[.float .f32 0, .bool false]).cells (len * 2) = C at *
  clear h
  go_enter Try.func17, Try.ntmps17
  go_wp2_with fail
  go_loopg [4] len (fun n i wr => ∃ k : Nat, i = .int .i64 k ∧ Hid (k + n = len) ∧ k ≤ len ∧ Hid (LSlots wr w.heap.size len 63) ∧ Hid (LHas wr w.heap.size k zs) ∧ Hid (Below w.heap.size w wr))
  case atStart => exact ⟨0, rfl, by show _ = _; omega, Nat.zero_le _, hMade.out, fun j hj => absurd hj (Nat.not_lt_zero _), (Below.refl _ _).alloc (Nat.le_refl _) _⟩
  case round =>
    obtain ⟨k, rfl, hk, hkl, hS, hL, hB⟩ := hrel
    by_cases hlt : k < len
    · obtain ⟨b, off, rfl, hbl, hc, hd⟩ := (H.out.keep hB.out).2.2.2 k hlt
      have hld := load2 (P := Try.prog) hc hd
      have HJ : Hid (k + 1 + (gk - 1) = len) := by have := hk.out; show _ = _; omega
      have HG : Hid (gk - 1 < gk) := by have := hk.out; show _ < _; omega
      obtain ⟨t, ht⟩ : ∃ t, t = tm zs k := ⟨_, rfl⟩
      obtain ⟨f, hf⟩ : ∃ f, f = fl zs k := ⟨_, rfl⟩
      rw [← ht] at hc hld
      rw [← hf] at hd hld
      have HT : Hid (t = tm zs k ∧ f = fl zs k) := ⟨ht, hf⟩
      clear ht hf
      have HN : Hid (k * 2 < len * 2 ∧ k * 2 + 1 < len * 2) := by show _ ∧ _; omega
      go_wp2_with fail
      refine (toLife_any t f wr).mono ?_
      rintro e w1 ⟨rfl, b1⟩
      have s1 := hS.out.keep b1
      obtain ⟨u, hu⟩ := s1.cell (j := k * 2) HN.out.1
      have hfr := s1.frozen (k * 2)
      have s2 := s1.set (k * 2) (.float .f32 t)
      obtain ⟨v, hv⟩ := s2.cell (j := k * 2 + 1) HN.out.2
      have hfr2 := s2.frozen (k * 2 + 1)
      have HS3 := Lib.hid (s2.set (k * 2 + 1) (.bool f))
      have HL3 := Lib.hid (LHas.set s1 hlt (hL.out.keep hS.out.lt b1) HT.out.1 HT.out.2)
      have HB3 : Hid (Below w.heap.size w ((w1.setCell ⟨w.heap.size, k * 2, none⟩ (.float .f32 t)).setCell ⟨w.heap.size, k * 2 + 1, none⟩ (.bool f))) := Lib.hid (((hB.out.trans (b1.mono hB.out.size)).setCell (Nat.le_refl _) _).setCell (Nat.le_refl _) _)
      clear hc hd hld s1 s2 b1 hS hL hB
      go_wp2_with fail
      go_roundg (gk - 1)
      case measure => exact HG.out
      case rel => exact ⟨k + 1, by go_num, HJ, by omega, HS3.out, HL3.out, HB3.out⟩
    · obtain rfl : k = len := by have := hk.out; omega
      clear hlt
      go_wp2_with fail
      go_ret
      exact ⟨rfl, ⟨hS.out, hL.out⟩, hB.out⟩
set_option maxRecDepth 40000 in
set_option maxHeartbeats 1600000 in
theorem eqLife_any (t : Nat) (f : Bool) (w : World) : Calls Try.prog 60 #[.agg #[.float .f32 t, .bool f], .agg #[.float .f32 t, .bool f]] w fun e w' => e = .returned (.bool true) ∧ Grn w w' := by
  have hne : (f != f) = false := by simp
  rcases Bool.eq_false_or_eq_true (nan .f32 t) with hn | hn
  · have hW := narrowed t hn
    have hz := convNan_nan .f64 t
    clear hn
    go_enter Try.func60, Try.ntmps60
    go_wp2_with fail
    refine (sameFloat_nan _ _ (hz _) (hz _) _).mono ?_
    rintro e w1 ⟨rfl, rfl⟩
    go_wp2_with fail
    go_ret
    exact ⟨rfl, (((Grn.refl _).alloc _).alloc _).drewN 2⟩
  · have hW := widen t hn
    have hq := (W_spec t hn).2.1
    have hr := W_lt t
    clear hn
    generalize W t = o at *
    go_enter Try.func60, Try.ntmps60
    go_wp2_with fail
    refine (sameFloat_eq o hr hq _).mono ?_
    rintro e w1 ⟨rfl, rfl⟩
    go_wp2_with fail
    go_ret
    exact ⟨rfl, ((Grn.refl _).alloc _).alloc _⟩
set_option maxHeartbeats 1600000 in
theorem eqLifeS_any (a b : Option Addr) (len c1 c2 : Nat) (zs : List (Nat × Bool)) (w : World) (h1 : LRow w a len zs) (h2 : LRow w b len zs) (hn : len ≤ 1048576) :
    Calls Try.prog 20 #[.slice a len c1, .slice b len c2] w fun e w' => e = .returned (.bool true) ∧ Below w.heap.size w w' := by
  have r1 := Lib.hid h1
  have r2 := Lib.hid h2
  clear h1 h2
  go_enter Try.func20, Try.ntmps20
  go_wp2_with fail
  go_loopg [5] len (fun n i wr => ∃ k : Nat, i = .int .i64 k ∧ Hid (k + n = len) ∧ k ≤ len ∧ Hid (Below w.heap.size w wr))
  case atStart => exact ⟨0, rfl, by show _ = _; omega, Nat.zero_le _, Below.refl _ _⟩
  case round =>
    obtain ⟨k, rfl, hk, hkl, hd⟩ := hrel
    by_cases hlt : k < len
    · obtain ⟨g1, o1, rfl, e1, a1, b1⟩ := (r1.out.keep hd.out).2.2.2 k hlt
      obtain ⟨g2, o2, rfl, e2, a2, b2⟩ := (r2.out.keep hd.out).2.2.2 k hlt
      have m1 := fun n os => Go.cell_grown (n := n) (os := os) e1 a1
      have m2 := fun n os => Go.cell_grown (n := n) (os := os) e2 a2
      have l1 := fun n os => Go.cell_grown (n := n) (os := os) e1 b1
      have l2 := fun n os => Go.cell_grown (n := n) (os := os) e2 b2
      clear a1 b1 a2 b2
      have HJ : Hid (k + 1 + (gk - 1) = len) := by have := hk.out; show _ = _; omega
      have HG : Hid (gk - 1 < gk) := by have := hk.out; show _ < _; omega
      generalize tm zs k = t at *
      generalize fl zs k = f at *
      have HB : ∀ n os, Hid (Below w.heap.size w (Go.Sort.grow (wr.drewN n) os)) := fun n os => Lib.hid (hd.out.trans ((Grn.below ⟨n, os, rfl⟩).mono hd.out.size))
      clear hd
      go_wp2_with fail
      have mixed : Try.prog.follows .mixedOrders = true := by kernel_rfl
      go_quiet_grown (refine Go.Calls.grown_of (eqLife_any t f _))
      go_wp2_with fail
      go_roundg (gk - 1)
      case measure => exact HG.out
      case rel => exact ⟨k + 1, by go_num, HJ, by omega, (HB _ _).out⟩
    · go_wp2_with fail
      go_ret
      exact ⟨rfl, hd.out⟩
set_option maxHeartbeats 1600000 in
theorem markLifeS_any (B : Nat) (g len cap : Nat) (w : World) (h : LSlots w g len 63) (hB : B ≤ g) (hn : len ≤ 1048576) :
    Calls Try.prog 24 #[.slice (some ⟨g, 0, none⟩) len cap, .int .i64 1] w fun e w' => e = .returned (.int .i64 (1 + 2 * len)) ∧ Below B w w' := by
  have H := Lib.hid h
  have HB := Lib.hid hB
  clear h hB
  go_enter Try.func24, Try.ntmps24
  go_wp2_with fail
  go_loopg [1, 5] len (fun n m i wr => ∃ k : Nat, m = .int .i64 (1 + 2 * k) ∧ i = .int .i64 k ∧ Hid (k + n = len) ∧ k ≤ len ∧ Hid (LSlots wr g len 63) ∧ Hid (Below B w wr))
  case atStart => exact ⟨0, rfl, rfl, by show _ = _; omega, Nat.zero_le _, H.out, Below.refl _ _⟩
  case round =>
    obtain ⟨k, rfl, rfl, hk, hkl, hS, hd⟩ := hrel
    by_cases hlt : k < len
    · have HN : Hid (k * 2 < len * 2 ∧ k * 2 + 1 < len * 2) := by show _ ∧ _; omega
      obtain ⟨u, hu⟩ := hS.out.cell (j := k * 2) HN.out.1
      have hfr := hS.out.frozen (k * 2)
      have s2 := hS.out.set (k * 2) (.float .f32 (Go.floatOfInt .f32 (1 + 2 * (k : Int))))
      obtain ⟨v, hv⟩ := s2.cell (j := k * 2 + 1) HN.out.2
      have hfr2 := s2.frozen (k * 2 + 1)
      have HJ : Hid (k + 1 + (gk - 1) = len) := by have := hk.out; show _ = _; omega
      have HG : Hid (gk - 1 < gk) := by have := hk.out; show _ < _; omega
      have HS3 : ∀ x, Hid (LSlots _ g len 63) := fun x => Lib.hid (s2.set (k * 2 + 1) (.bool x))
      have HB3 : ∀ x, Hid (Below B w ((wr.setCell ⟨g, k * 2, none⟩ (.float .f32 (Go.floatOfInt .f32 (1 + 2 * (k : Int))))).setCell ⟨g, k * 2 + 1, none⟩ (.bool x))) := fun x => Lib.hid ((hd.out.setCell HB.out _).setCell HB.out _)
      clear s2 hS hd
      go_wp2_with fail
      go_roundg (gk - 1)
      case measure => exact HG.out
      case rel => exact ⟨k + 1, by go_num, by go_num, HJ, by omega, (HS3 _).out, (HB3 _).out⟩
    · obtain rfl : k = len := by have := hk.out; omega
      clear hlt
      go_wp2_with fail
      go_ret
      exact ⟨by go_num, hd.out⟩
end Go.Proofs.Ytplfmdjccmhclab
