/-
  The library's stable sort of 32-bit numbers, as a whole. Conditions: the function that compares tells a strict weak order of the elements.
-/
import Derived.Test.YtplfmdjccmhclabSrtF4
import Derived.Test.YtplfmdjccmhclabSrtL5
namespace Go.Proofs.Ytplfmdjccmhclab
open Go.RowKit Liv Flt Go.Sort Stb
theorem symF_any (cf : Nat → Nat → Int) (V : Nat → Prop) (fc : Nat) (lb : Array Value) (eg : ∀ args w, (callFunc fc args).run Try.prog w = .ok (.enter fc args) w) (hS : SWO (ltF cf)) (hc : CmpF cf V fc lb)
    (cap g sz : Nat) (hs : sz ≤ 1048576) : ∀ N, SymOkF cf V fc lb cap g sz N := by
  intro N
  induction N with
  | zero => intro a m b d w h1 _ _ _ h2 h3; omega
  | succ N ih =>
    intro a m b d w hN hsz hV h ham hmb hb hl hr
    by_cases c1 : m = a + 1
    · exact symAF_any cf V fc lb eg hS hc cap g a m b sz c1 d hsz hV w h hmb hb hs hr
    · by_cases c2 : b = m + 1
      · exact symBF_any cf V fc lb eg hS hc cap g a m b sz c2 d hsz hV w h ham hmb hb hs c1 hl
      · by_cases c3 : (a + b) / 2 < m
        · exact symC1F_any cf V fc lb eg hS hc cap g a m b sz N hN ih c1 c2 _ rfl c3 d hsz hV w h ham hmb hb hs hl hr
        · exact symC2F_any cf V fc lb eg hS hc cap g a m b sz N hN ih c1 c2 _ rfl (by omega) d hsz hV w h ham hmb hb hs hl hr
theorem symNF_any (cf : Nat → Nat → Int) (V : Nat → Prop) (fc : Nat) (lb : Array Value) (eg : ∀ args w, (callFunc fc args).run Try.prog w = .ok (.enter fc args) w) (hS : SWO (ltF cf)) (hc : CmpF cf V fc lb)
    (cap g sz : Nat) (hs : sz ≤ 1048576) (a m b : Nat) (d : Array (Nat)) (w : World) (hsz : d.size = sz) (hV : ∀ i, i < d.size → V d[i]!) (h : FArr 23 w g d) (ham : a < m) (hmb : m < b) (hb : b ≤ sz) (hl : SortedIn (ltF cf) a m d) (hr : SortedIn (ltF cf) m b d) :
    Calls Try.prog 133 #[.slice (some ⟨g, 0, none⟩) sz cap, .int .i64 a, .int .i64 m, .int .i64 b, .func (.func fc) #[] lb] w fun e w' => e = .returned (.tuple #[]) ∧ (∃ d', PermIn a b d d' ∧ SortedIn (ltF cf) a b d' ∧ FArr 23 w' g d') ∧ Below g w w' :=
  symF_any cf V fc lb eg hS hc cap g sz hs (b - a) a m b d w (Nat.le_refl _) hsz hV h ham hmb hb hl hr
set_option maxRecDepth 100000 in
set_option maxHeartbeats 8000000 in
theorem stableF_any (cf : Nat → Nat → Int) (V : Nat → Prop) (fc : Nat) (lb : Array Value) (eg : ∀ args w, (callFunc fc args).run Try.prog w = .ok (.enter fc args) w) (hS : SWO (ltF cf)) (hc : CmpF cf V fc lb)
    (cap g n : Nat) (d : Array (Nat)) (hsz : d.size = n) (hV : ∀ i, i < d.size → V d[i]!) (w : World) (h : FArr 23 w g d) (hs : n ≤ 1048576) :
    Calls Try.prog 131 #[.slice (some ⟨g, 0, none⟩) n cap, .int .i64 n, .func (.func fc) #[] lb] w fun e w' => e = .returned (.tuple #[]) ∧ (∃ d', PermIn 0 n d d' ∧ SortedIn (ltF cf) 0 n d' ∧ FArr 23 w' g d') ∧ Below g w w' := by
  have H := Lib.hid h
  have HSZ := Lib.hid hsz
  have HV := Lib.hid hV
  have HC := Lib.hid hc
  have HS := Lib.hid hS
  clear h hsz hV hc hS
  go_enter Try.func131, Try.ntmps131
  go_wp2_with fail
  go_loopg [7, 8] n (fun k va vb wr => ∃ (A B : Nat) (e : Array (Nat)), va = .int .i64 A ∧ vb = .int .i64 B ∧ B = A + 20 ∧ A ≤ n ∧ Hid (n - A ≤ k) ∧ Hid (PermIn 0 n d e) ∧ Hid (∃ q, A = q * 20 ∧ Don (ltF cf) 20 q e) ∧ Hid (FArr 23 wr g e) ∧ Hid (Below g w wr))
  case atStart => exact ⟨0, 20, d, rfl, rfl, rfl, Nat.zero_le _, Nat.le_refl _, permIn_refl d 0 n, ⟨0, rfl, don_zero 20 d⟩, H.out, Below.refl _ _⟩
  case round =>
    obtain ⟨A, B, e, rfl, rfl, hAB, hAn, hk, hP, hD, hA, hB⟩ := hrel
    have hes : Hid (e.size = n) := hP.out.1.trans HSZ.out
    have HVe : Hid (∀ i, i < e.size → V e[i]!) := Lib.hid (by have q1 := perm_all hP.out (by have := HSZ.out; omega) HV.out; rw [hP.out.1]; exact q1)
    have HAB := Lib.hid hAB
    by_cases hlt : B ≤ n
    · have hltz : (B : Int) ≤ (n : Int) := by omega
      have HG : Hid (n - B ≤ gk - 1 ∧ gk - 1 < gk ∧ A ≤ B) := by have := hk.out; show _ ∧ _; omega
      clear hAB
      go_wp2_with fail
      refine (insertionF_any cf V fc lb eg HS.out HC.out cap g A B n e hes.out HVe.out wr hA.out HG.out.2.2 hlt hs).mono ?_
      rintro x w1 ⟨rfl, ⟨e', p1, s1, a1⟩, b1⟩
      have HP1 := Lib.hid (permIn_trans _ _ _ 0 n hP.out (permIn_mono e e' A B 0 n (by omega) (by omega) (by have := hes.out; omega) p1))
      have HD1 : Hid (∃ q, B = q * 20 ∧ Don (ltF cf) 20 q e') := by
        obtain ⟨q, hq, hd⟩ := hD.out
        have hb : B = q * 20 + 20 := by have := HAB.out; omega
        rw [hb, hq] at p1 s1
        exact ⟨q + 1, by omega, don_next hd p1 s1⟩
      have HA1 := Lib.hid a1
      have HB1 := Lib.hid (hB.out.trans b1)
      clear p1 s1 a1 b1 hP hD hA hB
      go_wp2_with fail
      go_roundg (gk - 1)
      case measure => exact HG.out.2.1
      case rel => exact ⟨B, B + 20, e', rfl, by go_num, rfl, hlt, HG.out.1, HP1.out, HD1.out, HA1.out, HB1.out⟩
    · have hltz : ¬ (B : Int) ≤ (n : Int) := by omega
      clear hAB
      go_wp2_with fail
      refine (insertionF_any cf V fc lb eg HS.out HC.out cap g A n n e hes.out HVe.out wr hA.out hAn (Nat.le_refl _) hs).mono ?_
      rintro x w1 ⟨rfl, ⟨e', p1, s1, a1⟩, b1⟩
      have HP1 := Lib.hid (permIn_trans _ _ _ 0 n hP.out (permIn_mono e e' A n 0 n (by omega) (by omega) (by have := hes.out; omega) p1))
      have HD1 : Hid (Blk (ltF cf) 20 n 0 e') := by
        obtain ⟨q, hq, hd⟩ := hD.out
        subst hq
        exact don_blk (don_out hd p1 (Nat.le_refl _)) hAn (by have := HAB.out; omega) s1
      have HA1 := Lib.hid a1
      have HB1 := Lib.hid (hB.out.trans b1)
      clear p1 s1 a1 b1 hP hD hA hB HVe hes
      go_wp2_with fail
      go_loopg [6] n (fun k vs wr => ∃ (s : Nat) (e : Array (Nat)), vs = .int .i64 s ∧ 0 < s ∧ s ≤ 2097152 ∧ Hid (n - s ≤ k) ∧ Hid (PermIn 0 n d e) ∧ Hid (Blk (ltF cf) s n 0 e) ∧ Hid (FArr 23 wr g e) ∧ Hid (Below g w wr))
      case atStart => exact ⟨20, e', rfl, by omega, by omega, by show _ ≤ _; omega, HP1.out, HD1.out, HA1.out, HB1.out⟩
      case round =>
        clear HP1 HD1 HA1 HB1
        obtain ⟨s, e, rfl, hs0, hs1, hk2, hP, hD, hA, hB⟩ := hrel
        by_cases hsn : s < n
        · have hsnz : (s : Int) < (n : Int) := by omega
          have HG : Hid (n - 2 * s ≤ gk - 1 ∧ gk - 1 < gk ∧ 2 * s ≤ 2097152 ∧ 0 < 2 * s) := by have := hk2.out; show _ ∧ _; omega
          have hw1 : IntKind.i64.wrap (2 * (s : Int)) = 2 * (s : Int) := by rw [IntKind.wrap_i64]; omega
          have hw2 : IntKind.i64.wrap ((s : Int) * 2) = (s : Int) * 2 := by rw [IntKind.wrap_i64]; omega
          have hr1 : ∀ w, (binOp .mul 3 (.int .i64 2) (.int .i64 (s : Int))).run Try.prog w = .ok (.int .i64 (2 * (s : Int))) w := fun w => by go_simp
          have hr2 : ∀ w, (binOp .mul 3 (.int .i64 (s : Int)) (.int .i64 2)).run Try.prog w = .ok (.int .i64 ((s : Int) * 2)) w := fun w => by go_simp
          go_wp2_with fail
          go_loopg [7, 8] n (fun k va vb wr => ∃ (A B : Nat) (e : Array (Nat)), va = .int .i64 A ∧ vb = .int .i64 B ∧ Hid (B = A + 2 * s) ∧ B ≤ n + 2 * s ∧ Hid (n - A ≤ k ∧ A ≤ n) ∧ Hid (PermIn 0 n d e) ∧ Hid (∃ q, A = q * (2 * s) ∧ Don (ltF cf) (2 * s) q e) ∧ Hid (Blk (ltF cf) s n A e) ∧ Hid (FArr 23 wr g e) ∧ Hid (Below g w wr))
          case atStart => exact ⟨0, 2 * s, e, rfl, by go_num, by show _ = _; omega, by omega, by show _ ∧ _; omega, hP.out, ⟨0, by omega, don_zero (2 * s) e⟩, hD.out, hA.out, hB.out⟩
          case round =>
            clear hP hD hA hB
            obtain ⟨A, B, e2, rfl, rfl, hAB, hBn, hk3, hP, hQ, hD, hA, hB⟩ := hrel
            have hes : Hid (e2.size = n) := hP.out.1.trans HSZ.out
            have HVe : Hid (∀ i, i < e2.size → V e2[i]!) := Lib.hid (by have q1 := perm_all hP.out (by have := HSZ.out; omega) HV.out; rw [hP.out.1]; exact q1)
            have HT : Hid (SortedIn (ltF cf) A (min (A + s) n) e2 ∧ SortedIn (ltF cf) (A + s) (min (A + 2 * s) n) e2) := by
              obtain ⟨q, hq, _⟩ := hQ.out
              have := blk_at (q := q) hD.out (by omega)
              rw [← hq] at this
              exact this
            by_cases hlt : B ≤ n
            · have hltz : (B : Int) ≤ (n : Int) := by omega
              have HG3 : Hid (n - B ≤ gk - 1 ∧ gk - 1 < gk ∧ A < A + s ∧ A + s < B) := by have := hk3.out; have := hAB.out; show _ ∧ _; omega
              obtain ⟨m, hm⟩ : ∃ m, m = A + s := ⟨_, rfl⟩
              have hmz : (A : Int) + (s : Int) = (m : Int) := by omega
              have HM := Lib.hid hm
              have HMZ := Lib.hid hmz
              have hA2n : A ≤ n := hk3.out.2
              clear hm hmz
              have HSY := Lib.hid (symNF_any cf V fc lb eg HS.out HC.out cap g n hs A m B e2 wr hes.out HVe.out hA.out (by have := HG3.out; have := HM.out; omega) (by have := HG3.out; have := HM.out; omega) hlt (by rw [HM.out]; have q := HT.out.1; rw [Nat.min_eq_left (by have := HG3.out; omega)] at q; exact q) (by rw [HM.out]; have q := HT.out.2; rw [Nat.min_eq_left (by have := hAB.out; omega), ← hAB.out] at q; exact q))
              go_wp2_with fail
              rw [HMZ.out]
              refine HSY.out.mono ?_
              rintro x w3 ⟨rfl, ⟨e3, p3, s3, a3⟩, b3⟩
              have HP3 := Lib.hid (permIn_trans _ _ _ 0 n hP.out (permIn_mono e2 e3 A B 0 n (by omega) (by omega) (by have := hes.out; omega) p3))
              have HQ3 : Hid (∃ q, B = q * (2 * s) ∧ Don (ltF cf) (2 * s) q e3) := by
                obtain ⟨q, hq, hd⟩ := hQ.out
                have hb : B = q * (2 * s) + 2 * s := by rw [← hq]; exact hAB.out
                rw [hb, hq] at p3 s3
                exact ⟨q + 1, by rw [Nat.add_mul, Nat.one_mul]; exact hb, don_next hd p3 s3⟩
              have HD3 : Hid (Blk (ltF cf) s n B e3) := Lib.hid (blk_next hD.out p3 (by have := HG3.out; omega) (Nat.le_refl _))
              have HA3 := Lib.hid a3
              have HB3 := Lib.hid (hB.out.trans b3)
              clear p3 s3 a3 b3 hP hQ hD hA hB
              go_wp2_with fail
              go_roundg (gk - 1)
              case measure => exact HG3.out.2.1
              case rel => exact ⟨B, B + 2 * s, e3, rfl, by go_num, rfl, by omega, ⟨HG3.out.1, hlt⟩, HP3.out, HQ3.out, HD3.out, HA3.out, HB3.out⟩
            · have hltz : ¬ (B : Int) ≤ (n : Int) := by omega
              obtain ⟨m, hm⟩ : ∃ m, m = A + s := ⟨_, rfl⟩
              have hmz : (A : Int) + (s : Int) = (m : Int) := by omega
              have HM := Lib.hid hm
              have HMZ := Lib.hid hmz
              have hA2n : A ≤ n := hk3.out.2
              clear hm hmz
              by_cases hmn : m < n
              · have hmnz : (A : Int) + (s : Int) < (n : Int) := by have := HMZ.out; omega
                have HSY := Lib.hid (symNF_any cf V fc lb eg HS.out HC.out cap g n hs A m n e2 wr hes.out HVe.out hA.out (by have := HM.out; omega) hmn (Nat.le_refl _) (by rw [HM.out]; have q := HT.out.1; rw [Nat.min_eq_left (by have := HM.out; omega)] at q; exact q) (by rw [HM.out]; have q := HT.out.2; rw [Nat.min_eq_right (by have := hAB.out; omega)] at q; exact q))
                go_wp2_with fail
                rw [HMZ.out]
                refine HSY.out.mono ?_
                rintro x w3 ⟨rfl, ⟨e3, p3, s3, a3⟩, b3⟩
                have HP3 := Lib.hid (permIn_trans _ _ _ 0 n hP.out (permIn_mono e2 e3 A n 0 n (by omega) (by omega) (by have := hes.out; omega) p3))
                have HD3 : Hid (Blk (ltF cf) (2 * s) n 0 e3) := by
                  obtain ⟨q, hq, hd⟩ := hQ.out
                  have hk4 := hk3.out
                  have hab := hAB.out
                  rw [hq] at p3 s3 hab hk4
                  exact Lib.hid (don_blk (don_out hd p3 (Nat.le_refl _)) hk4.2 (by omega) s3)
                have HA3 := Lib.hid a3
                have HB3 := Lib.hid (hB.out.trans b3)
                clear p3 s3 a3 b3 hP hQ hD hA hB HT HVe hes hAB
                go_wp2_with fail
                go_roundg (n - 2 * s)
                case measure => have := HG.out; omega
                case rel => exact ⟨2 * s, e3, by first | rfl | go_num, HG.out.2.2.2, HG.out.2.2.1, Nat.le_refl _, HP3.out, HD3.out, HA3.out, HB3.out⟩
              · have hmnz : ¬ (A : Int) + (s : Int) < (n : Int) := by have := HMZ.out; omega
                have HD3 : Hid (Blk (ltF cf) (2 * s) n 0 e2) := by
                  obtain ⟨q, hq, hd⟩ := hQ.out
                  have s3 := HT.out.1
                  rw [Nat.min_eq_right (by have := HM.out; omega)] at s3
                  have hk4 := hk3.out
                  have hab := hAB.out
                  rw [hq] at s3 hab hk4
                  exact Lib.hid (don_blk hd hk4.2 (by omega) s3)
                clear hQ hD HT HVe hes hAB
                go_wp2_with fail
                go_roundg (n - 2 * s)
                case measure => have := HG.out; omega
                case rel => exact ⟨2 * s, e2, by first | rfl | go_num, HG.out.2.2.2, HG.out.2.2.1, Nat.le_refl _, hP.out, HD3.out, hA.out, hB.out⟩
        · have hsnz : ¬ (s : Int) < (n : Int) := by omega
          have HF : Hid (SortedIn (ltF cf) 0 n e) := by
            have q := hD.out 0 (Nat.zero_le _)
            rw [Nat.zero_mul, Nat.zero_add, Nat.min_eq_right (by omega)] at q
            exact q
          clear hD
          go_wp2_with fail
          go_end0
          exact ⟨rfl, ⟨e, hP.out, HF.out, hA.out⟩, hB.out⟩
theorem sortStableF_any (cf : Nat → Nat → Int) (V : Nat → Prop) (fc : Nat) (lb : Array Value) (eg : ∀ args w, (callFunc fc args).run Try.prog w = .ok (.enter fc args) w) (hS : SWO (ltF cf)) (hc : CmpF cf V fc lb)
    (cap g n : Nat) (d : Array (Nat)) (hsz : d.size = n) (hV : ∀ i, i < d.size → V d[i]!) (w : World) (h : FArr 23 w g d) (hs : n ≤ 1048576) :
    Calls Try.prog 128 #[.slice (some ⟨g, 0, none⟩) n cap, .func (.func fc) #[] lb] w fun e w' => e = .returned (.tuple #[]) ∧ (∃ d', PermIn 0 n d d' ∧ SortedIn (ltF cf) 0 n d' ∧ FArr 23 w' g d') ∧ Below g w w' := by
  go_enter Try.func128, Try.ntmps128
  go_wp2_with fail
  refine (stableF_any cf V fc lb eg hS hc cap g n d hsz hV w h hs).mono ?_
  rintro x w1 ⟨rfl, h1, h2⟩
  go_wp2_with fail
  go_end0
  exact ⟨rfl, h1, h2⟩
end Go.Proofs.Ytplfmdjccmhclab
