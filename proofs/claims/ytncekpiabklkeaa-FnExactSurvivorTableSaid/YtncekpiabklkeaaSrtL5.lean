/-
  The library's stable sort of lives, as a whole. Conditions: the function that compares tells a strict weak order of the elements.
-/
import Derived.Test.YtncekpiabklkeaaSrtL4
namespace Stb
open Go.Sort
variable {α : Type} [Inhabited α] {lt : α → α → Bool}
/-- every block of 's' places from the place 'F' on is in order -/
def Blk (lt : α → α → Bool) (s n F : Nat) (e : Array α) : Prop := ∀ t, F ≤ t * s → SortedIn lt (t * s) (min (t * s + s) n) e
/-- the first 'q' blocks of 's' places are in order -/
def Don (lt : α → α → Bool) (s q : Nat) (e : Array α) : Prop := ∀ t, t < q → SortedIn lt (t * s) (t * s + s) e
theorem two_mul_s (q s : Nat) : 2 * q * s = q * (2 * s) ∧ (2 * q + 1) * s = q * (2 * s) + s := by
  have h1 : 2 * q * s = q * (2 * s) := by rw [Nat.mul_comm 2 q, Nat.mul_assoc]
  exact ⟨h1, by rw [Nat.add_mul, Nat.one_mul, h1]⟩
theorem blk_at {s n F q : Nat} {e : Array α} (h : Blk lt s n F e) (hF : F ≤ q * (2 * s)) : SortedIn lt (q * (2 * s)) (min (q * (2 * s) + s) n) e ∧ SortedIn lt (q * (2 * s) + s) (min (q * (2 * s) + 2 * s) n) e := by
  obtain ⟨h1, h2⟩ := two_mul_s q s
  have a1 := h (2 * q) (by omega)
  have a2 := h (2 * q + 1) (by omega)
  rw [h1] at a1
  rw [h2, show q * (2 * s) + s + s = q * (2 * s) + 2 * s by omega] at a2
  exact ⟨a1, a2⟩
theorem blk_next {s n F G a b : Nat} {e e' : Array α} (h : Blk lt s n F e) (hp : PermIn a b e e') (h1 : F ≤ G) (h2 : b ≤ G) : Blk lt s n G e' :=
  fun t ht => sorted_out (h t (by omega)) hp (.inr (by omega))
theorem don_next {s q : Nat} {e e' : Array α} (h : Don lt s q e) (hp : PermIn (q * s) (q * s + s) e e') (hs : SortedIn lt (q * s) (q * s + s) e') : Don lt s (q + 1) e' := by
  intro t ht
  by_cases c : t = q
  · subst c; exact hs
  · have h1 : t * s + s ≤ q * s := by
      have := Nat.mul_le_mul_right s (show t + 1 ≤ q by omega)
      rwa [Nat.add_mul, Nat.one_mul] at this
    exact sorted_out (h t (by omega)) hp (.inl h1)
theorem don_blk {s q n : Nat} {e : Array α} (h : Don lt s q e) (h1 : q * s ≤ n) (h2 : n < q * s + s) (hs : SortedIn lt (q * s) n e) : Blk lt s n 0 e := by
  intro t _
  rcases Nat.lt_trichotomy t q with c | c | c
  · have h3 : t * s + s ≤ q * s := by
      have := Nat.mul_le_mul_right s (show t + 1 ≤ q by omega)
      rwa [Nat.add_mul, Nat.one_mul] at this
    rw [Nat.min_eq_left (by omega)]
    exact h t c
  · subst c
    rw [Nat.min_eq_right (by omega)]; exact hs
  · have h3 : q * s + s ≤ t * s := by
      have := Nat.mul_le_mul_right s (show q + 1 ≤ t by omega)
      rwa [Nat.add_mul, Nat.one_mul] at this
    intro i j hi hij hj
    omega
theorem don_zero (s : Nat) (e : Array α) : Don lt s 0 e := fun t ht => by omega
theorem don_out {s q a b : Nat} {e e' : Array α} (h : Don lt s q e) (hp : PermIn a b e e') (hq : q * s ≤ a) : Don lt s q e' := by
  intro t ht
  have h3 : t * s + s ≤ q * s := by
    have := Nat.mul_le_mul_right s (show t + 1 ≤ q by omega)
    rwa [Nat.add_mul, Nat.one_mul] at this
  exact sorted_out (h t ht) hp (.inl (by omega))
end Stb
namespace Go.Proofs.Ytncekpiabklkeaa
open Go.RowKit Liv Flt Go.Sort Stb
theorem sym_any (cf : Nat × Bool → Nat × Bool → Int) (V : Nat × Bool → Prop) (fc : Nat) (lb : Array Value) (eg : ∀ args w, (callFunc fc args).run Try.prog w = .ok (.enter fc args) w) (hS : SWO (ltL cf)) (hc : CmpL cf V fc lb)
    (cap g sz : Nat) (hs : sz ≤ 1048576) : ∀ N, SymOk cf V fc lb cap g sz N := by
  intro N
  induction N with
  | zero => intro a m b d w h1 _ _ _ h2 h3; omega
  | succ N ih =>
    intro a m b d w hN hsz hV h ham hmb hb hl hr
    by_cases c1 : m = a + 1
    · exact symA_any cf V fc lb eg hS hc cap g a m b sz c1 d hsz hV w h hmb hb hs hr
    · by_cases c2 : b = m + 1
      · exact symB_any cf V fc lb eg hS hc cap g a m b sz c2 d hsz hV w h ham hmb hb hs c1 hl
      · by_cases c3 : (a + b) / 2 < m
        · exact symC1_any cf V fc lb eg hS hc cap g a m b sz N hN ih c1 c2 _ rfl c3 d hsz hV w h ham hmb hb hs hl hr
        · exact symC2_any cf V fc lb eg hS hc cap g a m b sz N hN ih c1 c2 _ rfl (by omega) d hsz hV w h ham hmb hb hs hl hr
theorem symN_any (cf : Nat × Bool → Nat × Bool → Int) (V : Nat × Bool → Prop) (fc : Nat) (lb : Array Value) (eg : ∀ args w, (callFunc fc args).run Try.prog w = .ok (.enter fc args) w) (hS : SWO (ltL cf)) (hc : CmpL cf V fc lb)
    (cap g sz : Nat) (hs : sz ≤ 1048576) (a m b : Nat) (d : Array (Nat × Bool)) (w : World) (hsz : d.size = sz) (hV : ∀ i, i < d.size → V d[i]!) (h : ARow 57 w g d) (ham : a < m) (hmb : m < b) (hb : b ≤ sz) (hl : SortedIn (ltL cf) a m d) (hr : SortedIn (ltL cf) m b d) :
    Calls Try.prog 146 #[.slice (some ⟨g, 0, none⟩) sz cap, .int .i64 a, .int .i64 m, .int .i64 b, .func (.func fc) #[] lb] w fun e w' => e = .returned (.tuple #[]) ∧ (∃ d', PermIn a b d d' ∧ SortedIn (ltL cf) a b d' ∧ ARow 57 w' g d') ∧ Below g w w' :=
  sym_any cf V fc lb eg hS hc cap g sz hs (b - a) a m b d w (Nat.le_refl _) hsz hV h ham hmb hb hl hr
set_option maxRecDepth 100000 in
set_option maxHeartbeats 8000000 in
theorem stableL_any (cf : Nat × Bool → Nat × Bool → Int) (V : Nat × Bool → Prop) (fc : Nat) (lb : Array Value) (eg : ∀ args w, (callFunc fc args).run Try.prog w = .ok (.enter fc args) w) (hS : SWO (ltL cf)) (hc : CmpL cf V fc lb)
    (cap g n : Nat) (d : Array (Nat × Bool)) (hsz : d.size = n) (hV : ∀ i, i < d.size → V d[i]!) (w : World) (h : ARow 57 w g d) (hs : n ≤ 1048576) :
    Calls Try.prog 131 #[.slice (some ⟨g, 0, none⟩) n cap, .int .i64 n, .func (.func fc) #[] lb] w fun e w' => e = .returned (.tuple #[]) ∧ (∃ d', PermIn 0 n d d' ∧ SortedIn (ltL cf) 0 n d' ∧ ARow 57 w' g d') ∧ Below g w w' := by
  have H := Lib.hid h
  have HSZ := Lib.hid hsz
  have HV := Lib.hid hV
  have HC := Lib.hid hc
  have HS := Lib.hid hS
  clear h hsz hV hc hS
  go_enter Try.func131, Try.ntmps131
  go_wp2_with fail
  go_loopg [7, 8] n (fun k va vb wr => ∃ (A B : Nat) (e : Array (Nat × Bool)), va = .int .i64 A ∧ vb = .int .i64 B ∧ B = A + 20 ∧ A ≤ n ∧ Hid (n - A ≤ k) ∧ Hid (PermIn 0 n d e) ∧ Hid (∃ q, A = q * 20 ∧ Don (ltL cf) 20 q e) ∧ Hid (ARow 57 wr g e) ∧ Hid (Below g w wr))
  case atStart => exact ⟨0, 20, d, rfl, rfl, rfl, Nat.zero_le _, Nat.le_refl _, permIn_refl d 0 n, ⟨0, rfl, don_zero 20 d⟩, H.out, Below.refl _ _⟩
  case round =>
    obtain ⟨A, B, e, rfl, rfl, hAB, hAn, hk, hP, hD, hA, hB⟩ := hrel
    have hes : Hid (e.size = n) := hP.out.1.trans HSZ.out
    have HVe : Hid (∀ i, i < e.size → V e[i]!) := Lib.hid (by have q1 := perm_all hP.out (by have := HSZ.out; omega) HV.out; rw [hP.out.1]; exact q1)
    have HAB := Lib.hid hAB
    by_cases hlt : B ≤ n
    · have hltz : (B : Int) ≤ (n : Int) := by omega
      have HG : Hid (n - B ≤ gk - 1 ∧ gk - 1 < gk ∧ A ≤ B) := by have := hk.out; show _ ∧ _; omega
      clear hAB
      go_wp2_with fail
      refine (insertionL_any cf V fc lb eg HS.out HC.out cap g A B n e hes.out HVe.out wr hA.out HG.out.2.2 hlt hs).mono ?_
      rintro x w1 ⟨rfl, ⟨e', p1, s1, a1⟩, b1⟩
      have HP1 := Lib.hid (permIn_trans _ _ _ 0 n hP.out (permIn_mono e e' A B 0 n (by omega) (by omega) (by have := hes.out; omega) p1))
      have HD1 : Hid (∃ q, B = q * 20 ∧ Don (ltL cf) 20 q e') := by
        obtain ⟨q, hq, hd⟩ := hD.out
        have hb : B = q * 20 + 20 := by have := HAB.out; omega
        rw [hb, hq] at p1 s1
        exact ⟨q + 1, by omega, don_next hd p1 s1⟩
      have HA1 := Lib.hid a1
      have HB1 := Lib.hid (hB.out.trans b1)
      clear p1 s1 a1 b1 hP hD hA hB
      go_wp2_with fail
      go_roundg (gk - 1)
      case measure => exact HG.out.2.1
      case rel => exact ⟨B, B + 20, e', rfl, by go_num, rfl, hlt, HG.out.1, HP1.out, HD1.out, HA1.out, HB1.out⟩
    · have hltz : ¬ (B : Int) ≤ (n : Int) := by omega
      clear hAB
      go_wp2_with fail
      refine (insertionL_any cf V fc lb eg HS.out HC.out cap g A n n e hes.out HVe.out wr hA.out hAn (Nat.le_refl _) hs).mono ?_
      rintro x w1 ⟨rfl, ⟨e', p1, s1, a1⟩, b1⟩
      have HP1 := Lib.hid (permIn_trans _ _ _ 0 n hP.out (permIn_mono e e' A n 0 n (by omega) (by omega) (by have := hes.out; omega) p1))
      have HD1 : Hid (Blk (ltL cf) 20 n 0 e') := by
        obtain ⟨q, hq, hd⟩ := hD.out
        subst hq
        exact don_blk (don_out hd p1 (Nat.le_refl _)) hAn (by have := HAB.out; omega) s1
      have HA1 := Lib.hid a1
      have HB1 := Lib.hid (hB.out.trans b1)
      clear p1 s1 a1 b1 hP hD hA hB HVe hes
      go_wp2_with fail
      go_loopg [6] n (fun k vs wr => ∃ (s : Nat) (e : Array (Nat × Bool)), vs = .int .i64 s ∧ 0 < s ∧ s ≤ 2097152 ∧ Hid (n - s ≤ k) ∧ Hid (PermIn 0 n d e) ∧ Hid (Blk (ltL cf) s n 0 e) ∧ Hid (ARow 57 wr g e) ∧ Hid (Below g w wr))
      case atStart => exact ⟨20, e', rfl, by omega, by omega, by show _ ≤ _; omega, HP1.out, HD1.out, HA1.out, HB1.out⟩
      case round =>
        clear HP1 HD1 HA1 HB1
        obtain ⟨s, e, rfl, hs0, hs1, hk2, hP, hD, hA, hB⟩ := hrel
        by_cases hsn : s < n
        · have hsnz : (s : Int) < (n : Int) := by omega
          have HG : Hid (n - 2 * s ≤ gk - 1 ∧ gk - 1 < gk ∧ 2 * s ≤ 2097152 ∧ 0 < 2 * s) := by have := hk2.out; show _ ∧ _; omega
          have hw1 : IntKind.i64.wrap (2 * (s : Int)) = 2 * (s : Int) := by rw [IntKind.wrap_i64]; omega
          have hw2 : IntKind.i64.wrap ((s : Int) * 2) = (s : Int) * 2 := by rw [IntKind.wrap_i64]; omega
          have hr1 : ∀ w, (binOp .mul 3 (.int .i64 2) (.int .i64 (s : Int))).run Try.prog w = .ok (.int .i64 (2 * (s : Int))) w := fun w => by go_simp
          have hr2 : ∀ w, (binOp .mul 3 (.int .i64 (s : Int)) (.int .i64 2)).run Try.prog w = .ok (.int .i64 ((s : Int) * 2)) w := fun w => by go_simp
          go_wp2_with fail
          go_loopg [7, 8] n (fun k va vb wr => ∃ (A B : Nat) (e : Array (Nat × Bool)), va = .int .i64 A ∧ vb = .int .i64 B ∧ Hid (B = A + 2 * s) ∧ B ≤ n + 2 * s ∧ Hid (n - A ≤ k ∧ A ≤ n) ∧ Hid (PermIn 0 n d e) ∧ Hid (∃ q, A = q * (2 * s) ∧ Don (ltL cf) (2 * s) q e) ∧ Hid (Blk (ltL cf) s n A e) ∧ Hid (ARow 57 wr g e) ∧ Hid (Below g w wr))
          case atStart => exact ⟨0, 2 * s, e, rfl, by go_num, by show _ = _; omega, by omega, by show _ ∧ _; omega, hP.out, ⟨0, by omega, don_zero (2 * s) e⟩, hD.out, hA.out, hB.out⟩
          case round =>
            clear hP hD hA hB
            obtain ⟨A, B, e2, rfl, rfl, hAB, hBn, hk3, hP, hQ, hD, hA, hB⟩ := hrel
            have hes : Hid (e2.size = n) := hP.out.1.trans HSZ.out
            have HVe : Hid (∀ i, i < e2.size → V e2[i]!) := Lib.hid (by have q1 := perm_all hP.out (by have := HSZ.out; omega) HV.out; rw [hP.out.1]; exact q1)
            have HT : Hid (SortedIn (ltL cf) A (min (A + s) n) e2 ∧ SortedIn (ltL cf) (A + s) (min (A + 2 * s) n) e2) := by
              obtain ⟨q, hq, _⟩ := hQ.out
              have := blk_at (q := q) hD.out (by omega)
              rw [← hq] at this
              exact this
            by_cases hlt : B ≤ n
            · have hltz : (B : Int) ≤ (n : Int) := by omega
              have HG3 : Hid (n - B ≤ gk - 1 ∧ gk - 1 < gk ∧ A < A + s ∧ A + s < B) := by have := hk3.out; have := hAB.out; show _ ∧ _; omega
              obtain ⟨m, hm⟩ : ∃ m, m = A + s := ⟨_, rfl⟩
              have hmz : (A : Int) + (s : Int) = (m : Int) := by omega
              have HM := Lib.hid hm
              have HMZ := Lib.hid hmz
              have hA2n : A ≤ n := hk3.out.2
              clear hm hmz
              have HSY := Lib.hid (symN_any cf V fc lb eg HS.out HC.out cap g n hs A m B e2 wr hes.out HVe.out hA.out (by have := HG3.out; have := HM.out; omega) (by have := HG3.out; have := HM.out; omega) hlt (by rw [HM.out]; have q := HT.out.1; rw [Nat.min_eq_left (by have := HG3.out; omega)] at q; exact q) (by rw [HM.out]; have q := HT.out.2; rw [Nat.min_eq_left (by have := hAB.out; omega), ← hAB.out] at q; exact q))
              go_wp2_with fail
              rw [HMZ.out]
              refine HSY.out.mono ?_
              rintro x w3 ⟨rfl, ⟨e3, p3, s3, a3⟩, b3⟩
              have HP3 := Lib.hid (permIn_trans _ _ _ 0 n hP.out (permIn_mono e2 e3 A B 0 n (by omega) (by omega) (by have := hes.out; omega) p3))
              have HQ3 : Hid (∃ q, B = q * (2 * s) ∧ Don (ltL cf) (2 * s) q e3) := by
                obtain ⟨q, hq, hd⟩ := hQ.out
                have hb : B = q * (2 * s) + 2 * s := by rw [← hq]; exact hAB.out
                rw [hb, hq] at p3 s3
                exact ⟨q + 1, by rw [Nat.add_mul, Nat.one_mul]; exact hb, don_next hd p3 s3⟩
              have HD3 : Hid (Blk (ltL cf) s n B e3) := Lib.hid (blk_next hD.out p3 (by have := HG3.out; omega) (Nat.le_refl _))
              have HA3 := Lib.hid a3
              have HB3 := Lib.hid (hB.out.trans b3)
              clear p3 s3 a3 b3 hP hQ hD hA hB
              go_wp2_with fail
              go_roundg (gk - 1)
              case measure => exact HG3.out.2.1
              case rel => exact ⟨B, B + 2 * s, e3, rfl, by go_num, rfl, by omega, ⟨HG3.out.1, hlt⟩, HP3.out, HQ3.out, HD3.out, HA3.out, HB3.out⟩
            · have hltz : ¬ (B : Int) ≤ (n : Int) := by omega
              obtain ⟨m, hm⟩ : ∃ m, m = A + s := ⟨_, rfl⟩
              have hmz : (A : Int) + (s : Int) = (m : Int) := by omega
              have HM := Lib.hid hm
              have HMZ := Lib.hid hmz
              have hA2n : A ≤ n := hk3.out.2
              clear hm hmz
              by_cases hmn : m < n
              · have hmnz : (A : Int) + (s : Int) < (n : Int) := by have := HMZ.out; omega
                have HSY := Lib.hid (symN_any cf V fc lb eg HS.out HC.out cap g n hs A m n e2 wr hes.out HVe.out hA.out (by have := HM.out; omega) hmn (Nat.le_refl _) (by rw [HM.out]; have q := HT.out.1; rw [Nat.min_eq_left (by have := HM.out; omega)] at q; exact q) (by rw [HM.out]; have q := HT.out.2; rw [Nat.min_eq_right (by have := hAB.out; omega)] at q; exact q))
                go_wp2_with fail
                rw [HMZ.out]
                refine HSY.out.mono ?_
                rintro x w3 ⟨rfl, ⟨e3, p3, s3, a3⟩, b3⟩
                have HP3 := Lib.hid (permIn_trans _ _ _ 0 n hP.out (permIn_mono e2 e3 A n 0 n (by omega) (by omega) (by have := hes.out; omega) p3))
                have HD3 : Hid (Blk (ltL cf) (2 * s) n 0 e3) := by
                  obtain ⟨q, hq, hd⟩ := hQ.out
                  have hk4 := hk3.out
                  have hab := hAB.out
                  rw [hq] at p3 s3 hab hk4
                  exact Lib.hid (don_blk (don_out hd p3 (Nat.le_refl _)) hk4.2 (by omega) s3)
                have HA3 := Lib.hid a3
                have HB3 := Lib.hid (hB.out.trans b3)
                clear p3 s3 a3 b3 hP hQ hD hA hB HT HVe hes hAB
                go_wp2_with fail
                go_roundg (n - 2 * s)
                case measure => have := HG.out; omega
                case rel => exact ⟨2 * s, e3, by first | rfl | go_num, HG.out.2.2.2, HG.out.2.2.1, Nat.le_refl _, HP3.out, HD3.out, HA3.out, HB3.out⟩
              · have hmnz : ¬ (A : Int) + (s : Int) < (n : Int) := by have := HMZ.out; omega
                have HD3 : Hid (Blk (ltL cf) (2 * s) n 0 e2) := by
                  obtain ⟨q, hq, hd⟩ := hQ.out
                  have s3 := HT.out.1
                  rw [Nat.min_eq_right (by have := HM.out; omega)] at s3
                  have hk4 := hk3.out
                  have hab := hAB.out
                  rw [hq] at s3 hab hk4
                  exact Lib.hid (don_blk hd hk4.2 (by omega) s3)
                clear hQ hD HT HVe hes hAB
                go_wp2_with fail
                go_roundg (n - 2 * s)
                case measure => have := HG.out; omega
                case rel => exact ⟨2 * s, e2, by first | rfl | go_num, HG.out.2.2.2, HG.out.2.2.1, Nat.le_refl _, hP.out, HD3.out, hA.out, hB.out⟩
        · have hsnz : ¬ (s : Int) < (n : Int) := by omega
          have HF : Hid (SortedIn (ltL cf) 0 n e) := by
            have q := hD.out 0 (Nat.zero_le _)
            rw [Nat.zero_mul, Nat.zero_add, Nat.min_eq_right (by omega)] at q
            exact q
          clear hD
          go_wp2_with fail
          go_end0
          exact ⟨rfl, ⟨e, hP.out, HF.out, hA.out⟩, hB.out⟩
theorem sortStableL_any (cf : Nat × Bool → Nat × Bool → Int) (V : Nat × Bool → Prop) (fc : Nat) (lb : Array Value) (eg : ∀ args w, (callFunc fc args).run Try.prog w = .ok (.enter fc args) w) (hS : SWO (ltL cf)) (hc : CmpL cf V fc lb)
    (cap g n : Nat) (d : Array (Nat × Bool)) (hsz : d.size = n) (hV : ∀ i, i < d.size → V d[i]!) (w : World) (h : ARow 57 w g d) (hs : n ≤ 1048576) :
    Calls Try.prog 107 #[.slice (some ⟨g, 0, none⟩) n cap, .func (.func fc) #[] lb] w fun e w' => e = .returned (.tuple #[]) ∧ (∃ d', PermIn 0 n d d' ∧ SortedIn (ltL cf) 0 n d' ∧ ARow 57 w' g d') ∧ Below g w w' := by
  go_enter Try.func107, Try.ntmps107
  go_wp2_with fail
  refine (stableL_any cf V fc lb eg hS hc cap g n d hsz hV w h hs).mono ?_
  rintro x w1 ⟨rfl, h1, h2⟩
  go_wp2_with fail
  go_end0
  exact ⟨rfl, h1, h2⟩
end Go.Proofs.Ytncekpiabklkeaa
