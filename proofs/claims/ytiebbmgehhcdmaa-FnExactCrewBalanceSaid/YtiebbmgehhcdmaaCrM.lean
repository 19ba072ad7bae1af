/-
  How many machines are down in the mean: contracts of both. Conditions: numbers are words of 32 bits.
-/
import Derived.Test.YtiebbmgehhcdmaaCrI
namespace Go.Proofs.Ytiebbmgehhcdmaa
open Go.RowKit Flt Dec Cm Liv Cr Hld
set_option maxHeartbeats 1600000 in
theorem sMeanDown_any (m c : Int) (f p : Nat) (w : World) (hf : f < 4294967296) (hp : p < 4294967296) :
    Calls Try.prog 22 #[.int .i64 m, .int .i64 c, .float .f32 f, .float .f32 p] w fun e w' => e = .returned (.tuple #[.float .f32 (mdV m c f p), .bool (mdB m c f p)]) ∧ Below w.heap.size w w' := by
  cases hb : crB m c f p with
  | false =>
    have HN : Hid (mdV m c f p = 0 ∧ mdB m c f p = false) := ⟨(mdB_no hb).2, (mdB_no hb).1⟩
    have HB := Lib.hid hb
    clear hb
    go_enter Try.func22, Try.ntmps22
    go_wp2_with fail
    refine (sCrewBalance_any m c f p _ hf hp).mono ?_
    rintro e w1 ⟨⟨a, c3, rfl, hr⟩, b1⟩
    rw [HB.out]
    clear hr
    go_wp2_with fail
    go_ret2
    rw [HN.out.1, HN.out.2]
    exact ⟨rfl, b1⟩
  | true =>
    have HB := Lib.hid hb
    have h0 : cr0 m c f p = true := by unfold crB at hb; rw [Bool.and_eq_true] at hb; exact hb.1
    obtain ⟨h1, h2, _, _⟩ := cr0_parts h0
    obtain ⟨n, rfl⟩ : ∃ n : Nat, m = n := ⟨m.toNat, by omega⟩
    obtain ⟨cn, rfl⟩ : ∃ k : Nat, c = k := ⟨c.toNat, by omega⟩
    have hn16 : n ≤ 16 := by omega
    have hL := crA_at hb
    have hok : F32.oks (crO n cn f p) (n + 1) = true := by rw [← crB_at h0, hb]
    have HLL : Hid ((crA n cn f p).length = n + 1) := by show _ = _; rw [hL, F32.outs_len]
    have HFI : Hid (∀ k, k < n + 1 → fin .f32 ((crA n cn f p).getD k 0) = true) := Lib.hid fun k hk => by rw [hL]; exact F32.outs_fin hok hk
    have HY : Hid (mdB n cn f p = F32.finO (mdO (crA n cn f p) (n + 1)) ∧ mdV n cn f p = if F32.finO (mdO (crA n cn f p) (n + 1)) then (mdO (crA n cn f p) (n + 1)).getD 0 else 0) := by
      have := mdB_yes hb
      unfold mdE at this
      rw [Int.toNat_natCast] at this
      exact this
    have HMS : Hid (∀ k, mdO (crA n cn f p) (k + 1) = F32.opO .add (mdO (crA n cn f p) k) (F32.opO .mul (some (Go.floatOfInt .f32 (k : Int))) (some ((crA n cn f p).getD k 0)))) := Lib.hid fun _ => rfl
    have HM0 : Hid (F32.Is (mdO (crA n cn f p) 0) 0) := ⟨rfl, by decide, by decide⟩
    obtain ⟨L, hLe⟩ : ∃ L, crA n cn f p = L := ⟨_, rfl⟩
    rw [hLe] at HLL HFI HY HMS HM0
    have HLE := Lib.hid hLe
    clear hb h0 h1 h2 hL hok hLe
    go_enter Try.func22, Try.ntmps22
    go_wp2_with fail
    refine (sCrewBalance_any n cn f p _ hf hp).mono ?_
    rintro e w1 ⟨⟨a, c3, rfl, hr⟩, b1⟩
    rw [HLE.out, HLL.out] at hr
    rw [HB.out, HLE.out, HLL.out]
    have HR := Lib.hid hr
    have B1 := Lib.hid b1
    clear hr b1
    go_wp2_with fail
    go_loopg [12, 13] (n + 1) (fun q s i wr => ∃ k x : Nat, s = .float .f32 x ∧ i = .int .i64 k ∧ Hid (k + q = n + 1) ∧ k ≤ n + 1 ∧ Hid (F32.Is (mdO L k) x) ∧ Hid (Drawn w1 wr))
    case atStart => exact ⟨0, 0, rfl, rfl, by show _ = _; omega, Nat.zero_le _, HM0.out, Drawn.refl _⟩
    case round =>
      obtain ⟨k, x, rfl, rfl, hk, hkl, hX, hD⟩ := hrel
      by_cases hlt : k < n + 1
      · have hlz : (k : Int) < (n : Int) + 1 := by omega
        obtain ⟨b, off, rfl, hbl, hc⟩ := (HR.out.keep (hD.out.below _)).2.2.2 k hlt
        have HJ : Hid (k + 1 + (gk - 1) = n + 1) := by have := hk.out; show _ = _; omega
        have HG : Hid (gk - 1 < gk) := by have := hk.out; show _ < _; omega
        have hz : F32.Is (some (L.getD k 0)) (L.getD k 0) := ⟨rfl, fin_num (HFI.out k hlt), HR.out.2.2.1 _ (by simp [List.getD, HLL.out, hlt])⟩
        obtain ⟨x1, v1, r1, j1, l1, d1⟩ := F32.arith_ex (P := Try.prog) (op := .mul) (.inr (.inr (.inl rfl))) 22 (whole_is k (by omega)) hz wr
        obtain ⟨x2, v2, r2, j2, l2, d2⟩ := F32.arith_ex (P := Try.prog) (op := .add) (.inl rfl) 22 hX.out j1 v1
        rw [← HMS.out] at j2
        have J2 := Lib.hid j2
        have D2 := Lib.hid ((hD.out.trans d1).trans d2)
        generalize L.getD k 0 = z at *
        clear hz j1 j2 l1 l2 d1 d2 hX
        go_wp2_with fail
        go_roundg (gk - 1)
        case measure => exact HG.out
        case rel => exact ⟨k + 1, x2, rfl, by go_num, HJ, by omega, J2.out, D2.out⟩
      · obtain rfl : k = n + 1 := by omega
        have B2 := Lib.hid (B1.out.trans (hD.out.below _))
        obtain ⟨e1, e2⟩ := F32.fin_is hX.out
        have E1 := Lib.hid e1
        have E2 := Lib.hid e2
        clear hlt hD e1 e2
        go_wp2_with fail
        refine (c_Number x _).mono ?_
        rintro e w3 ⟨rfl, d3⟩
        have B3 := Lib.hid (B2.out.trans (d3.below _))
        rw [E2.out, E1.out, ← HY.out.2, ← HY.out.1]
        clear d3
        go_wp2_with fail
        go_ret2
        exact ⟨rfl, B3.out⟩
set_option maxHeartbeats 1600000 in
theorem iMeanDown_any (m c : Int) (f p : Nat) (w : World) (hf : f < 4294967296) (hp : p < 4294967296) :
    Calls Try.prog 23 #[.int .i64 m, .int .i64 c, .float .f32 f, .float .f32 p] w fun e w' => e = .returned (.tuple #[.float .f32 (mdV m c f p), .bool (mdB m c f p)]) ∧ Below w.heap.size w w' := by
  cases hb : crB m c f p with
  | false =>
    have HN : Hid (mdV m c f p = 0 ∧ mdB m c f p = false) := ⟨(mdB_no hb).2, (mdB_no hb).1⟩
    have HB := Lib.hid hb
    clear hb
    go_enter Try.func23, Try.ntmps23
    go_wp2_with fail
    refine (iCrewBalance_any m c f p _ hf hp).mono ?_
    rintro e w1 ⟨⟨a, c3, rfl, hr, _⟩, b1⟩
    rw [HB.out]
    clear hr
    go_wp2_with fail
    go_ret2
    rw [HN.out.1, HN.out.2]
    exact ⟨rfl, b1⟩
  | true =>
    have HB := Lib.hid hb
    have h0 : cr0 m c f p = true := by unfold crB at hb; rw [Bool.and_eq_true] at hb; exact hb.1
    obtain ⟨h1, h2, _, _⟩ := cr0_parts h0
    obtain ⟨n, rfl⟩ : ∃ n : Nat, m = n := ⟨m.toNat, by omega⟩
    obtain ⟨cn, rfl⟩ : ∃ k : Nat, c = k := ⟨c.toNat, by omega⟩
    have hn16 : n ≤ 16 := by omega
    have hL := crA_at hb
    have hok : F32.oks (crO n cn f p) (n + 1) = true := by rw [← crB_at h0, hb]
    have HLL : Hid ((crA n cn f p).length = n + 1) := by show _ = _; rw [hL, F32.outs_len]
    have HFI : Hid (∀ k, k < n + 1 → fin .f32 ((crA n cn f p).getD k 0) = true) := Lib.hid fun k hk => by rw [hL]; exact F32.outs_fin hok hk
    have HY : Hid (mdB n cn f p = F32.finO (mdO (crA n cn f p) (n + 1)) ∧ mdV n cn f p = if F32.finO (mdO (crA n cn f p) (n + 1)) then (mdO (crA n cn f p) (n + 1)).getD 0 else 0) := by
      have := mdB_yes hb
      unfold mdE at this
      rw [Int.toNat_natCast] at this
      exact this
    have HMS : Hid (∀ k, mdO (crA n cn f p) (k + 1) = F32.opO .add (mdO (crA n cn f p) k) (F32.opO .mul (some (Go.floatOfInt .f32 (k : Int))) (some ((crA n cn f p).getD k 0)))) := Lib.hid fun _ => rfl
    have HM0 : Hid (F32.Is (mdO (crA n cn f p) 0) 0) := ⟨rfl, by decide, by decide⟩
    obtain ⟨L, hLe⟩ : ∃ L, crA n cn f p = L := ⟨_, rfl⟩
    rw [hLe] at HLL HFI HY HMS HM0
    have HLE := Lib.hid hLe
    clear hb h0 h1 h2 hL hok hLe
    go_enter Try.func23, Try.ntmps23
    go_wp2_with fail
    refine (iCrewBalance_any n cn f p _ hf hp).mono ?_
    rintro e w1 ⟨⟨a, c3, rfl, hr, _⟩, b1⟩
    rw [HLE.out, HLL.out] at hr
    rw [HB.out, HLE.out, HLL.out]
    have HR := Lib.hid hr
    have B1 := Lib.hid b1
    clear hr b1
    go_wp2_with fail
    go_loopg [12, 27] (n + 1) (fun q s i wr => ∃ k x : Nat, s = .float .f32 x ∧ i = .int .i64 k ∧ Hid (k + q = n + 1) ∧ k ≤ n + 1 ∧ Hid (F32.Is (mdO L k) x) ∧ Hid (Drawn w1 wr))
    case atStart => exact ⟨0, 0, rfl, rfl, by show _ = _; omega, Nat.zero_le _, HM0.out, Drawn.refl _⟩
    case round =>
      obtain ⟨k, x, rfl, rfl, hk, hkl, hX, hD⟩ := hrel
      by_cases hlt : k < n + 1
      · have hlz : (k : Int) < (n : Int) + 1 := by omega
        obtain ⟨b, off, rfl, hbl, hc⟩ := (HR.out.keep (hD.out.below _)).2.2.2 k hlt
        have HJ : Hid (k + 1 + (gk - 1) = n + 1) := by have := hk.out; show _ = _; omega
        have HG : Hid (gk - 1 < gk) := by have := hk.out; show _ < _; omega
        have hz : F32.Is (some (L.getD k 0)) (L.getD k 0) := ⟨rfl, fin_num (HFI.out k hlt), HR.out.2.2.1 _ (by simp [List.getD, HLL.out, hlt])⟩
        obtain ⟨x1, v1, r1, j1, l1, d1⟩ := F32.arith_ex (P := Try.prog) (op := .mul) (.inr (.inr (.inl rfl))) 22 (whole_is k (by omega)) hz wr
        obtain ⟨x2, v2, r2, j2, l2, d2⟩ := F32.arith_ex (P := Try.prog) (op := .add) (.inl rfl) 22 hX.out j1 v1
        rw [← HMS.out] at j2
        have J2 := Lib.hid j2
        have D2 := Lib.hid ((hD.out.trans d1).trans d2)
        generalize L.getD k 0 = z at *
        clear hz j1 j2 l1 l2 d1 d2 hX
        go_wp2_with fail
        go_roundg (gk - 1)
        case measure => exact HG.out
        case rel => exact ⟨k + 1, x2, rfl, by go_num, HJ, by omega, J2.out, D2.out⟩
      · obtain rfl : k = n + 1 := by omega
        have B2 := Lib.hid (B1.out.trans (hD.out.below _))
        obtain ⟨e1, e2⟩ := F32.fin_is hX.out
        have E1 := Lib.hid e1
        have E2 := Lib.hid e2
        clear hlt hD e1 e2
        go_wp2_with fail
        refine (c_onlyFinite x _).mono ?_
        rintro e w3 ⟨rfl, d3⟩
        have B3 := Lib.hid (B2.out.trans (d3.below _))
        rw [E2.out, E1.out, ← HY.out.2, ← HY.out.1]
        clear d3
        go_wp2_with fail
        go_ret2
        exact ⟨rfl, B3.out⟩
end Go.Proofs.Ytiebbmgehhcdmaa
