/-
  How many failed at a time, and how many are at risk then: contracts of the counting, in both. No conditions.
-/
import Derived.Test.YtplfmdjccmhclabTot
import Derived.Test.YtplfmdjccmhclabF32
import Derived.Test.YtplfmdjccmhclabFit
import Derived.Test.YtplfmdjccmhclabMarkW
namespace Liv
open Go Flt
/-- a life that failed at a time -/
def fellP (t : Nat) (z : Nat × Bool) : Bool := z.2 && (FloatKind.f32.format.order z.1 t == some .eq)
/-- a life that is at risk at a time -/
def riskP (t : Nat) (z : Nat × Bool) : Bool := FloatKind.f32.format.order z.1 t == some .gt || FloatKind.f32.format.order z.1 t == some .eq
end Liv
namespace Go.Proofs.Ytplfmdjccmhclab
open Go.RowKit Liv Flt Dec
set_option maxHeartbeats 1600000 in
theorem specFell_any (a : Option Addr) (len cap t : Nat) (zs : List (Nat × Bool)) (w : World) (h : LRow w a len zs) (hn : len ≤ 1048576) :
    Calls Try.prog 62 #[.slice a len cap, .float .f32 t] w fun e w' => e = .returned (.int .i64 (zs.countP (fellP t))) ∧ w = w' := by
  have H := Lib.hid h
  clear h
  go_enter Try.func62, Try.ntmps62
  go_wp2_with fail
  go_loopg [5, 6] len (fun n i3 i4 wr => ∃ k c : Nat, i3 = .int .i64 c ∧ i4 = .int .i64 k ∧ Hid (k + n = len) ∧ k ≤ len ∧ c ≤ k ∧ w = wr ∧ Hid (c = (zs.take k).countP (fellP t)))
  case atStart => exact ⟨0, 0, rfl, rfl, by show _ = _; omega, Nat.zero_le _, Nat.le_refl _, rfl, rfl⟩
  case round =>
    obtain ⟨k, c, rfl, rfl, hk, hkl, hck, rfl, hN⟩ := hrel
    by_cases hlt : k < len
    · obtain ⟨b, off, rfl, hbl, hc, hd⟩ := H.out.2.2.2 k hlt
      have HJ : Hid (k + 1 + (gk - 1) = len) := by have := hk.out; show _ = _; omega
      have HG : Hid (gk - 1 < gk) := by have := hk.out; show _ < _; omega
      have HX := Lib.hid (count_next (fellP t) zs k (by rw [H.out.1]; exact hlt))
      have HPz : Hid (fellP t (zs.getD k (0, false)) = (fl zs k && (FloatKind.f32.format.order (tm zs k) t == some .eq))) := rfl
      generalize tm zs k = s at *
      generalize fl zs k = f at *
      cases f with
      | false =>
        go_wp2_with fail
        go_roundg (gk - 1)
        case measure => exact HG.out
        case rel => exact ⟨k + 1, c, by go_num, by go_num, HJ, by omega, by omega, rfl, by show _ = _; rw [HX.out, HPz.out, ← hN.out]; rfl⟩
      | true =>
        cases hq : (FloatKind.f32.format.order s t == some .eq) with
        | true =>
          have HQ := Lib.hid hq
          go_wp2_with fail
          go_roundg (gk - 1)
          case measure => exact HG.out
          case rel => exact ⟨k + 1, c + 1, by go_num, by go_num, HJ, by omega, by omega, rfl, by show _ = _; rw [HX.out, HPz.out, HQ.out, ← hN.out]; rfl⟩
        | false =>
          have HQ := Lib.hid hq
          go_wp2_with fail
          go_roundg (gk - 1)
          case measure => exact HG.out
          case rel => exact ⟨k + 1, c, by go_num, by go_num, HJ, by omega, by omega, rfl, by show _ = _; rw [HX.out, HPz.out, HQ.out, ← hN.out]; rfl⟩
    · have hke : Hid (k = len) := by show _ = _; have := hk.out; omega
      have HN : Hid (c = zs.countP (fellP t)) := by
        show _ = _
        have := hN.out
        rw [hke.out, ← H.out.1, List.take_length] at this
        exact this
      go_wp2_with fail
      go_ret
      exact ⟨by rw [← HN.out]; rfl, rfl⟩
set_option maxHeartbeats 1600000 in
theorem specRisk_any (a : Option Addr) (len cap t : Nat) (zs : List (Nat × Bool)) (w : World) (h : LRow w a len zs) (hn : len ≤ 1048576) :
    Calls Try.prog 63 #[.slice a len cap, .float .f32 t] w fun e w' => e = .returned (.int .i64 (zs.countP (riskP t))) ∧ w = w' := by
  have H := Lib.hid h
  clear h
  go_enter Try.func63, Try.ntmps63
  go_wp2_with fail
  go_loopg [5, 6] len (fun n i3 i4 wr => ∃ k c : Nat, i3 = .int .i64 c ∧ i4 = .int .i64 k ∧ Hid (k + n = len) ∧ k ≤ len ∧ c ≤ k ∧ w = wr ∧ Hid (c = (zs.take k).countP (riskP t)))
  case atStart => exact ⟨0, 0, rfl, rfl, by show _ = _; omega, Nat.zero_le _, Nat.le_refl _, rfl, rfl⟩
  case round =>
    obtain ⟨k, c, rfl, rfl, hk, hkl, hck, rfl, hN⟩ := hrel
    by_cases hlt : k < len
    · obtain ⟨b, off, rfl, hbl, hc, hd⟩ := H.out.2.2.2 k hlt
      have HJ : Hid (k + 1 + (gk - 1) = len) := by have := hk.out; show _ = _; omega
      have HG : Hid (gk - 1 < gk) := by have := hk.out; show _ < _; omega
      have HX := Lib.hid (count_next (riskP t) zs k (by rw [H.out.1]; exact hlt))
      have HPz : Hid (riskP t (zs.getD k (0, false)) = (FloatKind.f32.format.order (tm zs k) t == some .gt || FloatKind.f32.format.order (tm zs k) t == some .eq)) := rfl
      generalize tm zs k = s at *
      generalize fl zs k = f at *
      cases hq : (FloatKind.f32.format.order s t == some .gt || FloatKind.f32.format.order s t == some .eq) with
      | true =>
        have HQ := Lib.hid hq
        go_wp2_with fail
        go_roundg (gk - 1)
        case measure => exact HG.out
        case rel => exact ⟨k + 1, c + 1, by go_num, by go_num, HJ, by omega, by omega, rfl, by show _ = _; rw [HX.out, HPz.out, HQ.out, ← hN.out]; rfl⟩
      | false =>
        have HQ := Lib.hid hq
        go_wp2_with fail
        go_roundg (gk - 1)
        case measure => exact HG.out
        case rel => exact ⟨k + 1, c, by go_num, by go_num, HJ, by omega, by omega, rfl, by show _ = _; rw [HX.out, HPz.out, HQ.out, ← hN.out]; rfl⟩
    · have hke : Hid (k = len) := by show _ = _; have := hk.out; omega
      have HN : Hid (c = zs.countP (riskP t)) := by
        show _ = _
        have := hN.out
        rw [hke.out, ← H.out.1, List.take_length] at this
        exact this
      go_wp2_with fail
      go_ret
      exact ⟨by rw [← HN.out]; rfl, rfl⟩
theorem moment1_any (t b s : Nat) (f : Bool) (w : World) (hc : w.cell? ⟨b, 0, none⟩ = some (.float .f32 t)) : Calls Try.prog 112 #[.agg #[.float .f32 s, .bool f], .pointer (some ⟨b, 0, none⟩)] w fun e w' => e = .returned (.bool (fellP t (s, f))) ∧ Grn w w' := by
  have hlt : b < w.heap.size := by
    unfold World.cell? at hc
    by_cases hb : b < w.heap.size
    · exact hb
    · simp [hb] at hc
  have HC : ∀ o, (w.alloc o).cell? ⟨b, 0, none⟩ = some (.float .f32 t) := fun o => Lib.cell?_alloc_some _ hc
  have HP : Hid (fellP t (s, f) = (f && (FloatKind.f32.format.order s t == some .eq))) := rfl
  cases f with
  | false =>
    go_enter Try.func112, Try.ntmps112
    go_wp2_with fail
    go_ret
    exact ⟨by rw [HP.out]; rfl, (Grn.refl _).alloc _⟩
  | true =>
    go_enter Try.func112, Try.ntmps112
    go_wp2_with fail
    go_ret
    exact ⟨by rw [HP.out]; rfl, (Grn.refl _).alloc _⟩
theorem moment2_any (t b s : Nat) (f : Bool) (w : World) (hc : w.cell? ⟨b, 0, none⟩ = some (.float .f32 t)) : Calls Try.prog 113 #[.agg #[.float .f32 s, .bool f], .pointer (some ⟨b, 0, none⟩)] w fun e w' => e = .returned (.bool (riskP t (s, f))) ∧ Grn w w' := by
  have HC : ∀ o, (w.alloc o).cell? ⟨b, 0, none⟩ = some (.float .f32 t) := fun o => Lib.cell?_alloc_some _ hc
  go_enter Try.func113, Try.ntmps113
  go_wp2_with fail
  go_ret
  exact ⟨rfl, (Grn.refl _).alloc _⟩
set_option maxHeartbeats 1600000 in
theorem momentAt_any (a : Option Addr) (len cap t : Nat) (zs : List (Nat × Bool)) (w : World) (h : LRow w a len zs) (hn : len ≤ 1048576) :
    Calls Try.prog 96 #[.slice a len cap, .float .f32 t] w fun e w' => e = .returned (.agg #[.float .f32 t, .float .f32 (Go.floatOfInt .f32 (zs.countP (fellP t))), .float .f32 (Go.floatOfInt .f32 (zs.countP (riskP t)))]) ∧ Below w.heap.size w w' := by
  have H := Lib.hid h
  obtain ⟨W0, hW0⟩ : ∃ W0, W0 = (w.alloc (.cells #[.float .f32 t] 23)).alloc (.cells #[.float .f32 0, .float .f32 0, .float .f32 0] 70) := ⟨_, rfl⟩
  have hg0 : Grn w W0 := by rw [hW0]; exact ((Grn.refl w).alloc _).alloc _
  have hc0 : W0.cell? ⟨w.heap.size, 0, none⟩ = some (.float .f32 t) := by rw [hW0]; exact Lib.cell?_alloc_some _ (by rw [World.cell?_alloc_mark]; rfl)
  have hr : W0.heap[w.heap.size + 1]? = some (.cells #[.float .f32 0, .float .f32 0, .float .f32 0] 70 (0, 0)) := by
    rw [hW0, show w.heap.size + 1 = (w.alloc (.cells #[.float .f32 t] 23)).heap.size by simp]; exact heap_alloc_new _ _
  have HR := Lib.hid hr
  have hlt0 : w.heap.size < W0.heap.size := by rw [hW0]; simp; omega
  have HW := Lib.hid hW0
  have HG0 := Lib.hid hg0
  have HC0 := Lib.hid hc0
  have HLT := Lib.hid hlt0
  have HCK : Hid (∀ W, Below W0.heap.size W0 W → W.cell? ⟨w.heap.size, 0, none⟩ = some (.float .f32 t)) := Lib.hid fun W hb => by rw [World.cell?_of_block (w := W0) (hb.block _ HLT.out)]; exact HC0.out
  clear h hg0 hc0 hr hlt0 hW0
  go_enter Try.func96, Try.ntmps96
  go_wp2_with fail
  rw [← HW.out]
  refine (countLives_any (fellP t) 112 #[.pointer (some ⟨w.heap.size, 0, none⟩)] (by intro args w; kernel_rfl) a len cap zs W0 (H.out.keep HG0.out.below) (fun W s f _ hb => moment1_any t w.heap.size s f W (HCK.out W hb)) hn).mono ?_
  rintro e w1 ⟨rfl, g1⟩
  have G1 := Lib.hid g1
  have C1 : Hid (w1.cell? ⟨w.heap.size, 0, none⟩ = some (.float .f32 t)) := HCK.out w1 g1.below
  clear g1
  go_wp2_with fail
  refine (countLives_any (riskP t) 113 #[.pointer (some ⟨w.heap.size, 0, none⟩)] (by intro args w; kernel_rfl) a len cap zs w1 (H.out.keep (HG0.out.trans G1.out).below) (fun W s f _ hb => moment2_any t w.heap.size s f W (HCK.out W (G1.out.below.trans (hb.mono G1.out.below.size)))) hn).mono ?_
  rintro e w2 ⟨rfl, g2⟩
  have G2 := Lib.hid (G1.out.trans g2)
  have c2 := HCK.out w2 G2.out.below
  obtain ⟨⟨r0, r1, r2⟩, ⟨f0, f1, f2⟩, hlt⟩ := three HR.out G2.out.below
  have HT := Lib.hid (three_set (x := .float .f32 t) (y := .float .f32 (Go.floatOfInt .f32 (zs.countP (fellP t)))) (z := .float .f32 (Go.floatOfInt .f32 (zs.countP (riskP t)))) ⟨r0, r1, r2⟩)
  have B2 := Lib.hid (HG0.out.trans G2.out).below
  clear g2
  go_wp2_with fail
  obtain ⟨t0, t1, t2⟩ := HT.out
  refine bodyPost_ret (v := .agg #[.float .f32 t, .float .f32 (Go.floatOfInt .f32 (zs.countP (fellP t))), .float .f32 (Go.floatOfInt .f32 (zs.countP (riskP t)))]) (by simp [results, Try.results96, go_sem, t0, t1, t2]) rfl ?_
  exact ⟨rfl, ((B2.out.setCell (by simp) _).setCell (by simp) _).setCell (by simp) _⟩
end Go.Proofs.Ytplfmdjccmhclab
