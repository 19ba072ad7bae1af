/-
  Contracts: how likely parts with a share are accepted, and the share of bad parts that go out, in both. Conditions: shares are words.
-/
import Derived.Test.YtemdgfjcjjadnabPlA
import Derived.Test.YtemdgfjcjjadnabWeP
import Derived.Test.YtemdgfjcjjadnabPlK
namespace Pl
open Go Flt F32 Cm We Cr Ieee
theorem foi_num (n : Int) : nan .f32 (Go.floatOfInt .f32 n) = false ∧ Go.floatOfInt .f32 n < 4294967296 := by
  have h : (some (Datum.number (decide (n < 0)) n.natAbs 0)).map FloatKind.f32.format.write = some (Go.floatOfInt .f32 n) := rfl
  exact ⟨F32.write_num h (fun s t e => by cases e), F32.write_lt32 h⟩
theorem foi_is (n : Int) : Is (some (Go.floatOfInt .f32 n)) (Go.floatOfInt .f32 n) := ⟨rfl, (foi_num n).1, (foi_num n).2⟩
theorem shr_is {z : Nat} (h : shr z = true) (hz : z < 4294967296) : Is (some z) z := by
  refine ⟨rfl, ?_, hz⟩
  cases hn : nan .f32 z
  · rfl
  · unfold shr gq at h
    rw [order_nan .f32 z 0 (.inl hn)] at h
    simp at h
/-- a number times another, so many times -/
def pw (o p : Option Nat) : Nat → Option Nat
  | 0 => o
  | j + 1 => F32.opO .mul (pw o p j) p
def caC (s k sh : Nat) : Option Nat := pw (some (Go.floatOfInt .f32 ((chI s k : Nat) : Int))) (some sh) k
def caT (s sh k : Nat) : Option Nat := pw (caC s k sh) (F32.opO .sub (some 1065353216) (some sh)) (s - k)
def caE (s a : Int) (sh : Nat) : Option Nat := We.sm (caT s.toNat sh) (a.toNat + 1)
def ca0 (s a : Int) (sh : Nat) : Bool := plB s a && shr sh
theorem pl_in {s a : Int} (h : plB s a = true) : 1 ≤ s ∧ s ≤ 40 ∧ 0 ≤ a ∧ a ≤ s := by
  unfold plB at h
  simp only [Bool.and_eq_true, decide_eq_true_eq] at h
  omega
/-- the share of bad parts that go out -/
def ogF (l s : Int) : Option Nat := F32.opO .sub (some 1065353216) (F32.opO .quo (some (Go.floatOfInt .f32 s)) (some (Go.floatOfInt .f32 l)))
def ogE (l s a : Int) (sh : Nat) : Option Nat := F32.opO .mul (F32.opO .mul (some sh) (caE s a sh)) (ogF l s)
def og0 (l s a : Int) (sh : Nat) : Bool := pfB l s a && shr sh
end Pl
namespace Go.Proofs.Ytemdgfjcjjadnab
open Go.RowKit Flt Dec Cm Pl We F32

set_option maxRecDepth 40000 in
set_option maxHeartbeats 8000000 in
theorem iChanceAccept_any (s a : Int) (sh : Nat) (w : World) (hsh : sh < 4294967296) :
    Calls Try.prog 37 #[.agg #[.int .i64 s, .int .i64 a], .float .f32 sh] w fun e w' => e = .returned (.tuple #[.float .f32 (okV (ca0 s a sh) (caE s a sh)), .bool (okB (ca0 s a sh) (caE s a sh))]) ∧ Below w.heap.size w w' := by
  have hb : Below w.heap.size w (w.alloc (.cells #[.int .i64 s, .int .i64 a] 27)) := (Below.refl _ _).alloc (Nat.le_refl _) _
  have HB := Lib.hid (Blk.Blk.new w #[.int .i64 s, .int .i64 a] 27)
  have HB0 := Lib.hid hb
  clear hb
  cases h1 : plB s a with
  | false =>
    have HR := Lib.hid (ok_no (show ca0 s a sh = false by unfold ca0; rw [h1]; rfl) (caE s a sh))
    have H1 := Lib.hid h1
    clear h1
    obtain ⟨⟨c1, c2⟩, _, _⟩ := HB.out.two
    go_enter Try.func37, Try.ntmps37
    go_wp2_with fail
    refine (iValidPlan_any s a _).mono ?_
    rintro e w1 ⟨rfl, b1⟩
    rw [H1.out]
    have B1 := Lib.hid (HB0.out.trans (b1.mono HB0.out.size))
    clear b1 c1 c2
    go_wp2_with fail
    go_ret2
    rw [HR.out.1, HR.out.2]
    exact ⟨rfl, B1.out⟩
  | true =>
    have H1 := Lib.hid h1
    cases h2 : shr sh with
    | false =>
      have HR := Lib.hid (ok_no (show ca0 s a sh = false by unfold ca0; rw [h2, Bool.and_false]) (caE s a sh))
      have H2 := Lib.hid h2
      clear h1 h2
      obtain ⟨⟨c1, c2⟩, _, _⟩ := HB.out.two
      go_enter Try.func37, Try.ntmps37
      go_wp2_with fail
      refine (iValidPlan_any s a _).mono ?_
      rintro e w1 ⟨rfl, b1⟩
      rw [H1.out]
      have B1 := Lib.hid (HB0.out.trans (b1.mono HB0.out.size))
      clear b1 c1 c2
      go_wp2_with fail
      refine (c_implChance sh _).mono ?_
      rintro e w2 ⟨rfl, rfl⟩
      rw [H2.out]
      go_wp2_with fail
      go_ret2
      rw [HR.out.1, HR.out.2]
      exact ⟨rfl, B1.out⟩
    | true =>
      have HR := Lib.hid (ok_yes (show ca0 s a sh = true by unfold ca0; rw [h1, h2]; rfl) (caE s a sh))
      have H2 := Lib.hid h2
      have HSH := Lib.hid (shr_is h2 hsh)
      obtain ⟨i1, i2, i3, i4⟩ := pl_in h1
      obtain ⟨s, rfl⟩ : ∃ m : Nat, s = m := ⟨s.toNat, by omega⟩
      obtain ⟨a, rfl⟩ : ∃ m : Nat, a = m := ⟨a.toNat, by omega⟩
      have HE : Hid (caE (s : Int) (a : Int) sh = We.sm (caT s sh) (a + 1)) := rfl
      have C1 := fun (k : Nat) w => Lib.hid (c_setsOf s k i2 w)
      clear h1 h2
      obtain ⟨⟨c1, c2⟩, _, _⟩ := HB.out.two
      go_enter Try.func37, Try.ntmps37
      go_wp2_with fail
      refine (iValidPlan_any (s : Int) (a : Int) _).mono ?_
      rintro e w1 ⟨rfl, b1⟩
      rw [H1.out]
      have B1 := Lib.hid (HB0.out.trans (b1.mono HB0.out.size))
      have K1 := Lib.hid (HB.out.keep b1)
      clear b1 c1 c2
      go_wp2_with fail
      refine (c_implChance sh _).mono ?_
      rintro e w2 ⟨rfl, rfl⟩
      rw [H2.out]
      obtain ⟨⟨c1, c2⟩, _, _⟩ := K1.out.two
      go_wp2_with fail
      clear c1 c2 HB HB0
      go_loopg [6, 7, 8, 20] (a + 1) (fun n v6 v7 v8 v20 wr => ∃ k t : Nat, v6 = .float .f32 t ∧ v20 = .int .i64 (k : Int) ∧ Hid (k + n = a + 1) ∧ k ≤ a + 1 ∧ Hid (F32.Is (We.sm (caT s sh) k) t) ∧ Hid (Below w.heap.size w wr) ∧ Hid (Blk.Blk wr w.heap.size [.int .i64 (s : Int), .int .i64 (a : Int)] 27))
      case atStart => exact ⟨0, 0, rfl, by go_num, by show _ = _; omega, Nat.zero_le _, zero_is, B1.out, K1.out⟩
      case round =>
        clear B1 K1
        obtain ⟨k, t, rfl, rfl, hk, hka, hS, hB, hP⟩ := hrel
        by_cases hlt : k < a + 1
        · have hltI : (k : Int) < (a : Int) + 1 := by omega
          have HJ : Hid (k + 1 + (gk - 1) = a + 1 ∧ gk - 1 < gk) := by have := hk.out; show _ ∧ _; omega
          have hCk := C1 k
          have HC0 := Lib.hid (foi_is ((chI s k : Nat) : Int))
          obtain ⟨⟨c1, c2⟩, _, _⟩ := hP.out.two
          clear hk C1
          go_wp2_with fail
          refine (hCk _).out.mono ?_
          rintro e w2 ⟨rfl, rfl⟩
          go_wp2_with fail
          clear c1 c2 hCk
          generalize go1 : gk = go0 at *
          clear go1
          generalize wr = wo at *
          go_loopg [8, 29] k (fun q y z wr => ∃ j x : Nat, y = .float .f32 x ∧ z = .int .i64 (j : Int) ∧ Hid (j + q = k) ∧ j ≤ k ∧ Hid (F32.Is (pw (some (Go.floatOfInt .f32 ((chI s k : Nat) : Int))) (some sh) j) x) ∧ Hid (Below w.heap.size w wr) ∧ Hid (Blk.Blk wr w.heap.size [.int .i64 (s : Int), .int .i64 (a : Int)] 27))
          case atStart => exact ⟨0, _, by first | rfl | go_num, by go_num, by show _ = _; omega, Nat.zero_le _, HC0.out, hB.out, hP.out⟩
          case round =>
            clear HC0 hB hP
            obtain ⟨j, x, rfl, rfl, hj, hjk, hx, hB, hP⟩ := hrel
            by_cases hlj : j < k
            · have hljI : (j : Int) < (k : Int) := by omega
              have HM : Hid (j + 1 + (gk - 1) = k ∧ gk - 1 < gk) := by have := hj.out; show _ ∧ _; omega
              obtain ⟨x1, v1, r1, j1, l1, e1⟩ := F32.arith_ex (P := Try.prog) (op := .mul) (.inr (.inr (.inl rfl))) 24 hx.out HSH.out wr
              have D1 := Lib.hid e1
              have J1 : Hid (F32.Is (pw (some (Go.floatOfInt .f32 ((chI s k : Nat) : Int))) (some sh) (j + 1)) x1) := j1
              clear e1 j1 l1 hj
              go_wp2_with fail
              go_roundg (gk - 1)
              case measure => exact HM.out.2
              case rel => exact ⟨j + 1, x1, rfl, by go_num, HM.out.1, by omega, J1.out, hB.out.trans ((D1.out.below _).mono hB.out.size), hP.out.keep (D1.out.below _)⟩
            · obtain rfl : j = k := by omega
              have hljI : ¬ ((j : Int) < (j : Int)) := by omega
              have HC1 : Hid (F32.Is (caC s j sh) x) := hx.out
              clear hlj hj hx
              obtain ⟨⟨c1, c2⟩, _, _⟩ := hP.out.two
              go_wp2_with fail
              clear c1 c2
              generalize wr = wo2 at *
              clear hljI
              go_loopg [8, 39] (s - j) (fun q y z wr => ∃ i x : Nat, y = .float .f32 x ∧ z = .int .i64 ((i : Int)) ∧ Hid (i + q = s - j) ∧ i ≤ s - j ∧ Hid (F32.Is (pw (caC s j sh) (F32.opO .sub (some 1065353216) (some sh)) i) x) ∧ Hid (Below w.heap.size w wr) ∧ Hid (Blk.Blk wr w.heap.size [.int .i64 (s : Int), .int .i64 (a : Int)] 27))
              case atStart => exact ⟨0, _, by first | rfl | go_num, by go_num, by show _ = _; omega, Nat.zero_le _, HC1.out, hB.out, hP.out⟩
              case round =>
                clear HC1 hB hP
                obtain ⟨i, x, rfl, rfl, hi, his, hx, hB, hP⟩ := hrel
                obtain ⟨⟨c1, c2⟩, _, _⟩ := hP.out.two
                by_cases hli : i < s - j
                · have hliI : (i : Int) < (s : Int) - (j : Int) := by omega
                  have HM : Hid (i + 1 + (gk - 1) = s - j ∧ gk - 1 < gk) := by have := hi.out; show _ ∧ _; omega
                  obtain ⟨x1, v1, r1, j1, l1, e1⟩ := F32.arith_ex (P := Try.prog) (op := .sub) (.inr (.inl rfl)) 24 one_is HSH.out wr
                  obtain ⟨x2, v2, r2, j2, l2, e2⟩ := F32.arith_ex (P := Try.prog) (op := .mul) (.inr (.inr (.inl rfl))) 24 hx.out j1 v1
                  have D1 := Lib.hid (e1.trans e2)
                  have J1 : Hid (F32.Is (pw (caC s j sh) (F32.opO .sub (some 1065353216) (some sh)) (i + 1)) x2) := j2
                  clear e1 j1 l1 hi e2 j2 l2
                  go_wp2_with fail
                  go_roundg (gk - 1)
                  case measure => exact HM.out.2
                  case rel => exact ⟨i + 1, x2, rfl, by go_num, HM.out.1, by omega, J1.out, hB.out.trans ((D1.out.below _).mono hB.out.size), hP.out.keep (D1.out.below _)⟩
                · obtain rfl : i = s - j := by omega
                  have hliI : ¬ (((s - j : Nat) : Int) < (s : Int) - (j : Int)) := by omega
                  obtain ⟨x1, v1, r1, j1, l1, e1⟩ := F32.arith_ex (P := Try.prog) (op := .add) (.inl rfl) 24 hS.out hx.out wr
                  have D1 := Lib.hid e1
                  have J1 : Hid (F32.Is (We.sm (caT s sh) (j + 1)) x1) := j1
                  clear e1 j1 l1 hi hli hx
                  go_wp2_with fail
                  go_roundg (go0 - 1)
                  case measure => exact HJ.out.2
                  case rel => exact ⟨j + 1, x1, rfl, by go_num, HJ.out.1, by omega, J1.out, hB.out.trans ((D1.out.below _).mono hB.out.size), hP.out.keep (D1.out.below _)⟩
        · have hltI : ¬ ((k : Int) < (a : Int) + 1) := by omega
          obtain rfl : k = a + 1 := by omega
          have F := fin_is (show F32.Is (caE (s : Int) (a : Int) sh) t from by rw [HE.out]; exact hS.out)
          have HF := Lib.hid F
          clear F hlt hk C1
          go_wp2_with fail
          refine (c_onlyFinite t _).mono ?_
          rintro e w3 ⟨rfl, d3⟩
          rw [HF.out.2, HF.out.1, ← HR.out.2, ← HR.out.1]
          have D3 := Lib.hid d3
          clear d3
          go_wp2_with fail
          go_ret2
          exact ⟨rfl, hB.out.trans ((D3.out.below _).mono hB.out.size)⟩
set_option maxRecDepth 40000 in
set_option maxHeartbeats 8000000 in
theorem c_l06Chance (g s a : Nat) (sh : Nat) (hs : 1 ≤ s ∧ s ≤ 40) (ha : a ≤ s) (hsh : F32.Is (some sh) sh) (w : World) (h : Blk.Blk w g [.int .i64 (s : Int), .int .i64 (a : Int)] 27) :
    Calls Try.prog 84 #[.pointer (some ⟨g, 0, none⟩), .float .f32 sh] w fun e w' => (∃ t : Nat, e = .returned (.float .f32 t) ∧ F32.Is (caE s a sh) t ∧ t < 4294967296) ∧ Drawn w w' := by
  have HSH := Lib.hid hsh
  have K1 := Lib.hid h
  have HE : Hid (caE (s : Int) (a : Int) sh = We.sm (caT s sh) (a + 1)) := rfl
  have C1 := fun (k : Nat) w => Lib.hid (c_Choose s k (by omega) w)
  have i2 : (s : Int) ≤ 40 := by omega
  clear h hsh
  go_enter Try.func84, Try.ntmps84
  go_wp2_with fail
  go_loopg [5, 6, 7, 8, 9] (a + 1) (fun n v5 v6 v7 v8 v9 wr => ∃ k t : Nat, v5 = .float .f32 t ∧ v6 = .int .i64 (k : Int) ∧ Hid (k + n = a + 1) ∧ k ≤ a + 1 ∧ t < 4294967296 ∧ Hid (F32.Is (We.sm (caT s sh) k) t) ∧ Hid (Drawn w wr) ∧ Hid (Blk.Blk wr g [.int .i64 (s : Int), .int .i64 (a : Int)] 27))
  case atStart => exact ⟨0, 0, rfl, by go_num, by show _ = _; omega, Nat.zero_le _, by decide, zero_is, Drawn.refl _, K1.out⟩
  case round =>
    clear K1
    obtain ⟨k, t, rfl, rfl, hk, hka, htl, hS, hB, hP⟩ := hrel
    obtain ⟨⟨c1, c2⟩, _, _⟩ := hP.out.two
    by_cases hlt : k < a + 1
    · have hltI : (k : Int) ≤ (a : Int) := by omega
      have HJ : Hid (k + 1 + (gk - 1) = a + 1 ∧ gk - 1 < gk) := by have := hk.out; show _ ∧ _; omega
      have hCk := C1 k
      have HC0 := Lib.hid (foi_is ((chI s k : Nat) : Int))
      clear hk C1
      go_wp2_with fail
      refine (hCk _).out.mono ?_
      rintro e w2 ⟨rfl, rfl⟩
      go_wp2_with fail
      clear c1 c2 hCk
      generalize go1 : gk = go0 at *
      clear go1
      generalize wr = wo at *
      go_loopg [7, 8] k (fun q y z wr => ∃ j x : Nat, y = .float .f32 x ∧ z = .int .i64 (j : Int) ∧ Hid (j + q = k) ∧ j ≤ k ∧ Hid (F32.Is (pw (some (Go.floatOfInt .f32 ((chI s k : Nat) : Int))) (some sh) j) x) ∧ Hid (Drawn w wr) ∧ Hid (Blk.Blk wr g [.int .i64 (s : Int), .int .i64 (a : Int)] 27))
      case atStart => exact ⟨0, _, by first | rfl | go_num, by go_num, by show _ = _; omega, Nat.zero_le _, HC0.out, hB.out, hP.out⟩
      case round =>
        clear HC0 hB hP
        obtain ⟨j, x, rfl, rfl, hj, hjk, hx, hB, hP⟩ := hrel
        by_cases hlj : j < k
        · have hljI : (j : Int) < (k : Int) := by omega
          have HM : Hid (j + 1 + (gk - 1) = k ∧ gk - 1 < gk) := by have := hj.out; show _ ∧ _; omega
          obtain ⟨x1, v1, r1, j1, l1, e1⟩ := F32.arith_ex (P := Try.prog) (op := .mul) (.inr (.inr (.inl rfl))) 24 hx.out HSH.out wr
          have D1 := Lib.hid e1
          have J1 : Hid (F32.Is (pw (some (Go.floatOfInt .f32 ((chI s k : Nat) : Int))) (some sh) (j + 1)) x1) := j1
          clear e1 j1 l1 hj
          go_wp2_with fail
          go_roundg (gk - 1)
          case measure => exact HM.out.2
          case rel => exact ⟨j + 1, x1, rfl, by go_num, HM.out.1, by omega, J1.out, hB.out.trans D1.out, hP.out.keep (D1.out.below _)⟩
        · obtain rfl : j = k := by omega
          have hljI : ¬ ((j : Int) < (j : Int)) := by omega
          have HC1 : Hid (F32.Is (caC s j sh) x) := hx.out
          clear hlj hj hx
          obtain ⟨⟨c1, c2⟩, _, _⟩ := hP.out.two
          go_wp2_with fail
          clear c1 c2
          generalize wr = wo2 at *
          clear hljI
          go_loopg [7, 9] (s - j) (fun q y z wr => ∃ i x : Nat, y = .float .f32 x ∧ z = .int .i64 ((j : Int) + (i : Int)) ∧ Hid (i + q = s - j) ∧ i ≤ s - j ∧ Hid (F32.Is (pw (caC s j sh) (F32.opO .sub (some 1065353216) (some sh)) i) x) ∧ Hid (Drawn w wr) ∧ Hid (Blk.Blk wr g [.int .i64 (s : Int), .int .i64 (a : Int)] 27))
          case atStart => exact ⟨0, _, by first | rfl | go_num, by go_num, by show _ = _; omega, Nat.zero_le _, HC1.out, hB.out, hP.out⟩
          case round =>
            clear HC1 hB hP
            obtain ⟨i, x, rfl, rfl, hi, his, hx, hB, hP⟩ := hrel
            obtain ⟨⟨c1, c2⟩, _, _⟩ := hP.out.two
            by_cases hli : i < s - j
            · have hliI : (j : Int) + (i : Int) < (s : Int) := by omega
              have HM : Hid (i + 1 + (gk - 1) = s - j ∧ gk - 1 < gk) := by have := hi.out; show _ ∧ _; omega
              obtain ⟨x1, v1, r1, j1, l1, e1⟩ := F32.arith_ex (P := Try.prog) (op := .sub) (.inr (.inl rfl)) 24 one_is HSH.out wr
              obtain ⟨x2, v2, r2, j2, l2, e2⟩ := F32.arith_ex (P := Try.prog) (op := .mul) (.inr (.inr (.inl rfl))) 24 hx.out j1 v1
              have D1 := Lib.hid (e1.trans e2)
              have J1 : Hid (F32.Is (pw (caC s j sh) (F32.opO .sub (some 1065353216) (some sh)) (i + 1)) x2) := j2
              clear e1 j1 l1 hi e2 j2 l2
              go_wp2_with fail
              go_roundg (gk - 1)
              case measure => exact HM.out.2
              case rel => exact ⟨i + 1, x2, rfl, by go_num, HM.out.1, by omega, J1.out, hB.out.trans D1.out, hP.out.keep (D1.out.below _)⟩
            · obtain rfl : i = s - j := by omega
              have hliI : ¬ ((j : Int) + ((s - j : Nat) : Int) < (s : Int)) := by omega
              obtain ⟨x1, v1, r1, j1, l1, e1⟩ := F32.arith_ex (P := Try.prog) (op := .add) (.inl rfl) 24 hS.out hx.out wr
              have D1 := Lib.hid e1
              have J1 : Hid (F32.Is (We.sm (caT s sh) (j + 1)) x1) := j1; have L1 := l1
              clear e1 j1 l1 hi hli hx
              go_wp2_with fail
              go_roundg (go0 - 1)
              case measure => exact HJ.out.2
              case rel => exact ⟨j + 1, x1, rfl, by go_num, HJ.out.1, by omega, L1, J1.out, hB.out.trans D1.out, hP.out.keep (D1.out.below _)⟩
    · have hltI : ¬ ((k : Int) ≤ (a : Int)) := by omega
      obtain rfl : k = a + 1 := by omega
      have HI : Hid (F32.Is (caE (s : Int) (a : Int) sh) t) := by show F32.Is _ _; rw [HE.out]; exact hS.out
      clear hlt hk C1
      go_wp2_with fail
      go_ret
      exact ⟨⟨_, rfl, HI.out, htl⟩, hB.out⟩
end Go.Proofs.Ytemdgfjcjjadnab
