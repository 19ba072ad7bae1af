/-
  The library's stable sort of lives: the merge in place, where one side has one element. Conditions: the function that compares tells a strict weak order of the elements.
-/
import Derived.Test.YtncekpiabklkeaaSrtL2
namespace Liv
open Go Go.Sort Stb
variable {α : Type} [Inhabited α] {lt : α → α → Bool}
theorem up_left (hS : SWO lt) {a b h : Nat} {d : Array α} {x : α} (hs : SortedIn lt a b d) (hb : h < b) (hl : lt d[h]! x = true) : ∀ t, a ≤ t → t < h + 1 → lt d[t]! x = true := by
  intro t ha ht
  cases hc : lt d[t]! x
  · have := hS.ntrans _ _ _ (sorted_le hS hs ha (show t ≤ h by omega) hb) hc
    rw [hl] at this; cases this
  · rfl
theorem down_left (hS : SWO lt) {a b h : Nat} {d : Array α} {x : α} (hs : SortedIn lt a b d) (ha : a ≤ h) (hl : lt d[h]! x = false) : ∀ t, h ≤ t → t < b → lt d[t]! x = false :=
  fun _ ht hb => hS.ntrans _ _ _ (sorted_le hS hs ha ht hb) hl
theorem up_right (hS : SWO lt) {a b h : Nat} {d : Array α} {x : α} (hs : SortedIn lt a b d) (hb : h < b) (hl : lt x d[h]! = false) : ∀ t, a ≤ t → t < h + 1 → lt x d[t]! = false :=
  fun t ha ht => hS.ntrans _ _ _ hl (sorted_le hS hs ha (show t ≤ h by omega) hb)
theorem down_right (hS : SWO lt) {a b h : Nat} {d : Array α} {x : α} (hs : SortedIn lt a b d) (ha : a ≤ h) (hl : lt x d[h]! = true) : ∀ t, h ≤ t → t < b → lt x d[t]! = true := by
  intro t ht hb
  cases hc : lt x d[t]!
  · have := hS.ntrans _ _ _ hc (sorted_le hS hs ha ht hb)
    rw [hl] at this; cases this
  · rfl
/-- the first element moved 'k' places to the right -/
def Shr (a k : Nat) (d e : Array α) : Prop := (∀ t, a ≤ t → t < k → e[t]! = d[t + 1]!) ∧ e[k]! = d[a]! ∧ ∀ t, t < a ∨ k < t → e[t]! = d[t]!
theorem shr_zero (a : Nat) (d : Array α) : Shr a a d d := ⟨fun t h1 h2 => by omega, rfl, fun _ _ => rfl⟩
theorem shr_step {a k : Nat} {d e : Array α} (h : Shr a k d e) (hk : a ≤ k) (hs : k + 1 < e.size) : Shr a (k + 1) d (Go.Sort.swp e k (k + 1)) := by
  obtain ⟨h1, h2, h3⟩ := h
  refine ⟨fun t ha hb => ?_, ?_, fun t ht => ?_⟩
  · rw [swp_at e (by omega) hs, if_neg (by omega)]
    by_cases c : t = k
    · subst c; rw [if_pos rfl, h3 _ (by omega)]
    · rw [if_neg c]; exact h1 t ha (by omega)
  · rw [swp_at e (by omega) hs, if_pos rfl, h2]
  · rw [swp_at e (by omega) hs, if_neg (by omega), if_neg (by omega)]
    exact h3 t (by omega)
/-- the last element moved to the left, down to the place 'k' -/
def Shl (m k : Nat) (d e : Array α) : Prop := (∀ t, k < t → t ≤ m → e[t]! = d[t - 1]!) ∧ e[k]! = d[m]! ∧ ∀ t, t < k ∨ m < t → e[t]! = d[t]!
theorem shl_zero (m : Nat) (d : Array α) : Shl m m d d := ⟨fun t h1 h2 => by omega, rfl, fun _ _ => rfl⟩
theorem shl_step {m k : Nat} {d e : Array α} (h : Shl m (k + 1) d e) (hk : k + 1 ≤ m) (hs : k + 1 < e.size) : Shl m k d (Go.Sort.swp e (k + 1) k) := by
  obtain ⟨h1, h2, h3⟩ := h
  refine ⟨fun t ha hb => ?_, ?_, fun t ht => ?_⟩
  · rw [swp_at e hs (by omega), if_neg (by omega)]
    by_cases c : t = k + 1
    · subst c; rw [if_pos rfl, h3 _ (by omega), Nat.add_sub_cancel]
    · rw [if_neg c]; exact h1 t (by omega) hb
  · rw [swp_at e hs (by omega), if_pos rfl, h2]
  · rw [swp_at e hs (by omega), if_neg (by omega), if_neg (by omega)]
    exact h3 t (by omega)
end Liv
namespace Go.Proofs.Ytncekpiabklkeaa
open Go.RowKit Liv Flt Go.Sort Stb
set_option maxRecDepth 100000 in
set_option maxHeartbeats 4000000 in
theorem symA_any (cf : Nat × Bool → Nat × Bool → Int) (V : Nat × Bool → Prop) (fc : Nat) (lb : Array Value) (eg : ∀ args w, (callFunc fc args).run Try.prog w = .ok (.enter fc args) w) (hS : SWO (ltL cf)) (hc : CmpL cf V fc lb)
    (cap g a m b sz : Nat) (hm : m = a + 1) (d : Array (Nat × Bool)) (hsz : d.size = sz) (hV : ∀ i, i < d.size → V d[i]!) (w : World) (h : ARow 57 w g d) (hab : m < b) (hb : b ≤ sz) (hs : sz ≤ 1048576) (hr : SortedIn (ltL cf) m b d) :
    Calls Try.prog 146 #[.slice (some ⟨g, 0, none⟩) sz cap, .int .i64 a, .int .i64 m, .int .i64 b, .func (.func fc) #[] lb] w fun e w' => e = .returned (.tuple #[]) ∧ (∃ d', PermIn a b d d' ∧ SortedIn (ltL cf) a b d' ∧ ARow 57 w' g d') ∧ Below g w w' := by
  have mixed : Try.prog.follows .mixedOrders = true := by kernel_rfl
  have H := Lib.hid h
  have HSZ := Lib.hid hsz
  have HV := Lib.hid hV
  have HC := Lib.hid hc
  have HS := Lib.hid hS
  have HR := Lib.hid hr
  have hone : (m : Int) - (a : Int) = 1 := by omega
  have HM := Lib.hid hm
  have ham : a < m := by omega
  clear h hsz hV hc hS hr hm
  go_enter Try.func146, Try.ntmps146
  go_wp2_with fail
  go_loopg [10, 11] (b - a) (fun k vi vj wr => ∃ (i j : Nat), vi = .int .i64 i ∧ vj = .int .i64 j ∧ m ≤ i ∧ i ≤ j ∧ j ≤ b ∧ Hid (j - i ≤ k) ∧ Hid (∀ t, m ≤ t → t < i → ltL cf d[t]! d[a]! = true) ∧ Hid (∀ t, j ≤ t → t < b → ltL cf d[t]! d[a]! = false) ∧ Hid (ARow 57 wr g d) ∧ Hid (Below g w wr))
  case atStart => exact ⟨m, b, by go_num, rfl, by omega, by omega, by omega, by show _ ≤ _; omega, fun t h1 h2 => by omega, fun t h1 h2 => by omega, H.out, Below.refl _ _⟩
  case round =>
    obtain ⟨i, j, rfl, rfl, hai, hij, hjb, hk, hL, hR, hA, hB⟩ := hrel
    by_cases hlt : i < j
    · have hltz : (i : Int) < (j : Int) := by omega
      go_wp2_with fail
      obtain ⟨h, hh, hh1, hh2⟩ : ∃ h : Nat, ((i : Int) + (j : Int)) / 2 = (h : Int) ∧ i ≤ h ∧ h < j := ⟨(i + j) / 2, by omega, by omega, by omega⟩
      rw [hh]
      have HS1 : Hid (h < d.size) := by have := HSZ.out; show _ < _; omega
      have HS2 : Hid (a < d.size) := by have := HSZ.out; show _ < _; omega
      obtain ⟨x, hx⟩ : ∃ x, d[h]! = x := ⟨_, rfl⟩
      obtain ⟨y, hy⟩ : ∃ y, d[a]! = y := ⟨_, rfl⟩
      have HX := Lib.hid hx
      have HY := Lib.hid hy
      have hvx : V x := by rw [← hx]; exact HV.out _ HS1.out
      have hvy : V y := by rw [← hy]; exact HV.out _ HS2.out
      have hAg : ∀ n os, ARow 57 (Go.Sort.grow (wr.drewN n) os) g d := fun n os => hA.out.keep (Grn.below ⟨n, os, rfl⟩)
      have HAg := Lib.hid hAg
      have HBg : Hid (∀ n os, Below g w (Go.Sort.grow (wr.drewN n) os)) := Lib.hid fun n os => hB.out.trans ((Grn.below ⟨n, os, rfl⟩).mono (Nat.le_of_lt hA.out.1.lt))
      have r1 := fun n os => ((hAg n os).2 h HS1.out).1
      have r2 := fun n os => ((hAg n os).2 h HS1.out).2
      have r3 := fun n os => ((hAg n os).2 a HS2.out).1
      have r4 := fun n os => ((hAg n os).2 a HS2.out).2
      rw [hx] at r1 r2
      rw [hy] at r3 r4
      have hcg := fun n os => HC.out (Go.Sort.grow (wr.drewN n) os) x y hvx hvy
      obtain ⟨x0, x1⟩ := x
      obtain ⟨y0, y1⟩ := y
      clear hx hy hvx hvy hAg hA hB
      have jz : (h : Int) < (sz : Int) := by omega
      have jz1 : (a : Int) < (sz : Int) := by omega
      by_cases hlv : cf (x0, x1) (y0, y1) < 0
      · have HLV : Hid (ltL cf (x0, x1) (y0, y1) = true) := decide_eq_true hlv
        have HL2 := Lib.hid (up_left HS.out (x := d[a]!) HR.out (show h < b by omega) (by rw [HX.out, HY.out]; exact HLV.out))
        clear hL
        go_quiet_grown (first | (go_at_fn fc; refine Go.Calls.grown_of (hcg _ _)))
        go_wp2_with fail
        go_roundg (j - (h + 1))
        case measure => have := hk.out; omega
        case rel => exact ⟨h + 1, j, by go_num, rfl, by omega, by omega, by omega, Nat.le_refl _, HL2.out, hR.out, HAg.out _ _, HBg.out _ _⟩
      · have HLV : Hid (ltL cf (x0, x1) (y0, y1) = false) := decide_eq_false hlv
        have HR2 := Lib.hid (down_left HS.out (x := d[a]!) HR.out (show m ≤ h by omega) (by rw [HX.out, HY.out]; exact HLV.out))
        clear hR
        go_quiet_grown (first | (go_at_fn fc; refine Go.Calls.grown_of (hcg _ _)))
        go_wp2_with fail
        go_roundg (h - i)
        case measure => have := hk.out; omega
        case rel => exact ⟨i, h, rfl, by go_num, by omega, by omega, by omega, Nat.le_refl _, hL.out, HR2.out, HAg.out _ _, HBg.out _ _⟩
    · have hltz : ¬ (i : Int) < (j : Int) := by omega
      obtain rfl : i = j := by omega
      clear hlt
      go_wp2_with fail
      go_loopg [13] (i - 1 - a) (fun k vk wr2 => ∃ (q : Nat) (e : Array (Nat × Bool)), vk = .int .i64 q ∧ a ≤ q ∧ q ≤ i - 1 ∧ Hid (i - 1 - q ≤ k) ∧ Hid (PermIn a b d e) ∧ Hid (Shr a q d e) ∧ Hid (ARow 57 wr2 g e) ∧ Hid (Below g w wr2))
      case atStart => exact ⟨a, d, by go_num, Nat.le_refl _, by omega, Nat.le_refl _, permIn_refl d a b, shr_zero a d, hA.out, hB.out⟩
      case round =>
        clear hA hB
        obtain ⟨q, e, rfl, haq, hqi, hk2, hP, hW, hA, hB⟩ := hrel
        have hes : Hid (e.size = sz) := hP.out.1.trans HSZ.out
        by_cases hlt2 : q < i - 1
        · have hltz2 : (q : Int) < (i : Int) - 1 := by omega
          have HG : Hid (i - 1 - (q + 1) ≤ gk - 1 ∧ gk - 1 < gk) := by have := hk2.out; show _ ∧ _; omega
          have HS1 : Hid (q < e.size) := by have := hes.out; show _ < _; omega
          have HS2 : Hid (q + 1 < e.size) := by have := hes.out; show _ < _; omega
          obtain ⟨x, hx⟩ : ∃ x, e[q]! = x := ⟨_, rfl⟩
          obtain ⟨y, hy⟩ : ∃ y, e[q + 1]! = y := ⟨_, rfl⟩
          obtain ⟨⟨r1, r2, r3, r4⟩, f1, f2, f3, f4⟩ := hA.out.way HS1.out HS2.out x y hx hy
          obtain ⟨n1, n2, n3, n4, n5, n6, n7, n8⟩ := ne_way (i := q) (j := q + 1) (by omega)
          have HA2 := Lib.hid ((hA.out.swp HS1.out HS2.out).keep (below_drewN (Below.refl _ _) 1))
          have HB2 : Hid (Below g w (swW wr g (q) (q + 1) x y).drew) := Lib.hid (below_drewN (hB.out.trans (swW_below (Nat.le_refl _))) 1)
          rw [hx, hy] at HA2
          have HP2 := Lib.hid (permIn_trans d e _ a b hP.out (swp_permIn e a b (q) (q + 1) (by omega) (by omega) (by omega) (by omega) (by have := hes.out; omega)))
          obtain ⟨x0, x1⟩ := x
          obtain ⟨y0, y1⟩ := y
          simp only at r1 r2 r3 r4
          clear hx hy hA hB hP
          have HW2 := Lib.hid (shr_step hW.out haq HS2.out)
          have jz : (q : Int) + 1 < (sz : Int) := by have := hes.out; have := HS2.out; omega
          have jz1 : (q : Int) < (sz : Int) := by omega
          have p0 : (0 : Int) ≤ (q : Int) + 1 := by omega
          have e0 : ((q : Int) + 1).toNat = q + 1 := by omega
          clear hW
          go_wp2_with fail
          go_big_region_o
          go_wp2_with fail
          go_roundg (gk - 1)
          case measure => exact HG.out.2
          case rel => exact ⟨q + 1, _, by go_num, by omega, by omega, HG.out.1, HP2.out, HW2.out, HA2.out, HB2.out⟩
        · have hltz2 : ¬ (q : Int) < (i : Int) - 1 := by omega
          have HE : Hid (SortedIn (ltL cf) a b e) := by
            obtain ⟨w1, w2, w3⟩ := hW.out
            obtain rfl : q = i - 1 := by omega
            have hm := HM.out
            subst hm
            exact Lib.hid (ins_left HS.out HR.out (show a + 1 ≤ i by omega) hjb hL.out hR.out w1 w2 (fun t ht => w3 t (by omega)))
          clear hW hL hR
          go_wp2_with fail
          try simp only [Exit.inBlock, Exit.then]
          refine bodyPost_ret (v := .tuple #[]) (results_none rfl _ _ _) rfl ?_
          exact ⟨rfl, ⟨e, hP.out, HE.out, hA.out⟩, hB.out⟩
set_option maxRecDepth 100000 in
set_option maxHeartbeats 4000000 in
theorem symB_any (cf : Nat × Bool → Nat × Bool → Int) (V : Nat × Bool → Prop) (fc : Nat) (lb : Array Value) (eg : ∀ args w, (callFunc fc args).run Try.prog w = .ok (.enter fc args) w) (hS : SWO (ltL cf)) (hc : CmpL cf V fc lb)
    (cap g a m b sz : Nat) (hm : b = m + 1) (d : Array (Nat × Bool)) (hsz : d.size = sz) (hV : ∀ i, i < d.size → V d[i]!) (w : World) (h : ARow 57 w g d) (ham : a < m) (hab : m < b) (hb : b ≤ sz) (hs : sz ≤ 1048576) (hno : m ≠ a + 1) (hr : SortedIn (ltL cf) a m d) :
    Calls Try.prog 146 #[.slice (some ⟨g, 0, none⟩) sz cap, .int .i64 a, .int .i64 m, .int .i64 b, .func (.func fc) #[] lb] w fun e w' => e = .returned (.tuple #[]) ∧ (∃ d', PermIn a b d d' ∧ SortedIn (ltL cf) a b d' ∧ ARow 57 w' g d') ∧ Below g w w' := by
  have mixed : Try.prog.follows .mixedOrders = true := by kernel_rfl
  have H := Lib.hid h
  have HSZ := Lib.hid hsz
  have HV := Lib.hid hV
  have HC := Lib.hid hc
  have HS := Lib.hid hS
  have HR := Lib.hid hr
  have hone : (b : Int) - (m : Int) = 1 := by omega
  have hnone : ((m : Int) - (a : Int) == 1) = false := beq_false_of_ne (by omega)
  have HM := Lib.hid hm
  clear h hsz hV hc hS hr hm hno
  go_enter Try.func146, Try.ntmps146
  go_wp2_with fail
  go_loopg [14, 15] (m - a) (fun k vi vj wr => ∃ (i j : Nat), vi = .int .i64 i ∧ vj = .int .i64 j ∧ a ≤ i ∧ i ≤ j ∧ j ≤ m ∧ Hid (j - i ≤ k) ∧ Hid (∀ t, a ≤ t → t < i → ltL cf d[m]! d[t]! = false) ∧ Hid (∀ t, j ≤ t → t < m → ltL cf d[m]! d[t]! = true) ∧ Hid (ARow 57 wr g d) ∧ Hid (Below g w wr))
  case atStart => exact ⟨a, m, by go_num, rfl, by omega, by omega, by omega, Nat.le_refl _, fun t h1 h2 => by omega, fun t h1 h2 => by omega, H.out, Below.refl _ _⟩
  case round =>
    obtain ⟨i, j, rfl, rfl, hai, hij, hjb, hk, hL, hR, hA, hB⟩ := hrel
    by_cases hlt : i < j
    · have hltz : (i : Int) < (j : Int) := by omega
      go_wp2_with fail
      obtain ⟨h, hh, hh1, hh2⟩ : ∃ h : Nat, ((i : Int) + (j : Int)) / 2 = (h : Int) ∧ i ≤ h ∧ h < j := ⟨(i + j) / 2, by omega, by omega, by omega⟩
      rw [hh]
      have HS1 : Hid (m < d.size) := by have := HSZ.out; show _ < _; omega
      have HS2 : Hid (h < d.size) := by have := HSZ.out; show _ < _; omega
      obtain ⟨x, hx⟩ : ∃ x, d[m]! = x := ⟨_, rfl⟩
      obtain ⟨y, hy⟩ : ∃ y, d[h]! = y := ⟨_, rfl⟩
      have HX := Lib.hid hx
      have HY := Lib.hid hy
      have hvx : V x := by rw [← hx]; exact HV.out _ HS1.out
      have hvy : V y := by rw [← hy]; exact HV.out _ HS2.out
      have hAg : ∀ n os, ARow 57 (Go.Sort.grow (wr.drewN n) os) g d := fun n os => hA.out.keep (Grn.below ⟨n, os, rfl⟩)
      have HAg := Lib.hid hAg
      have HBg : Hid (∀ n os, Below g w (Go.Sort.grow (wr.drewN n) os)) := Lib.hid fun n os => hB.out.trans ((Grn.below ⟨n, os, rfl⟩).mono (Nat.le_of_lt hA.out.1.lt))
      have r1 := fun n os => ((hAg n os).2 m HS1.out).1
      have r2 := fun n os => ((hAg n os).2 m HS1.out).2
      have r3 := fun n os => ((hAg n os).2 h HS2.out).1
      have r4 := fun n os => ((hAg n os).2 h HS2.out).2
      rw [hx] at r1 r2
      rw [hy] at r3 r4
      have hcg := fun n os => HC.out (Go.Sort.grow (wr.drewN n) os) x y hvx hvy
      obtain ⟨x0, x1⟩ := x
      obtain ⟨y0, y1⟩ := y
      clear hx hy hvx hvy hAg hA hB
      have jz : (h : Int) < (sz : Int) := by omega
      have jz1 : (m : Int) < (sz : Int) := by omega
      by_cases hlv : ¬ cf (x0, x1) (y0, y1) < 0
      · have HLV : Hid (ltL cf (x0, x1) (y0, y1) = false) := decide_eq_false hlv
        have HL2 := Lib.hid (up_right HS.out (x := d[m]!) HR.out (show h < m by omega) (by rw [HX.out, HY.out]; exact HLV.out))
        clear hL
        go_quiet_grown (first | (go_at_fn fc; refine Go.Calls.grown_of (hcg _ _)))
        go_wp2_with fail
        go_roundg (j - (h + 1))
        case measure => have := hk.out; omega
        case rel => exact ⟨h + 1, j, by go_num, rfl, by omega, by omega, by omega, Nat.le_refl _, HL2.out, hR.out, HAg.out _ _, HBg.out _ _⟩
      · have hlv : cf (x0, x1) (y0, y1) < 0 := Classical.not_not.1 hlv
        have HLV : Hid (ltL cf (x0, x1) (y0, y1) = true) := decide_eq_true hlv
        have HR2 := Lib.hid (down_right HS.out (x := d[m]!) HR.out (show a ≤ h by omega) (by rw [HX.out, HY.out]; exact HLV.out))
        clear hR
        go_quiet_grown (first | (go_at_fn fc; refine Go.Calls.grown_of (hcg _ _)))
        go_wp2_with fail
        go_roundg (h - i)
        case measure => have := hk.out; omega
        case rel => exact ⟨i, h, rfl, by go_num, by omega, by omega, by omega, Nat.le_refl _, hL.out, HR2.out, HAg.out _ _, HBg.out _ _⟩
    · have hltz : ¬ (i : Int) < (j : Int) := by omega
      obtain rfl : i = j := by omega
      clear hlt
      go_wp2_with fail
      go_loopg [17] (m - i) (fun k vk wr2 => ∃ (q : Nat) (e : Array (Nat × Bool)), vk = .int .i64 q ∧ i ≤ q ∧ q ≤ m ∧ Hid (q - i ≤ k) ∧ Hid (PermIn a b d e) ∧ Hid (Shl m q d e) ∧ Hid (ARow 57 wr2 g e) ∧ Hid (Below g w wr2))
      case atStart => exact ⟨m, d, by go_num, by omega, Nat.le_refl _, Nat.le_refl _, permIn_refl d a b, shl_zero m d, hA.out, hB.out⟩
      case round =>
        clear hA hB
        obtain ⟨q, e, rfl, haq, hqi, hk2, hP, hW, hA, hB⟩ := hrel
        have hes : Hid (e.size = sz) := hP.out.1.trans HSZ.out
        by_cases hlt2 : i < q
        · obtain ⟨p, rfl⟩ : ∃ p, q = p + 1 := ⟨q - 1, by omega⟩
          have hltz2 : (i : Int) < (p : Int) + 1 := by omega
          have HG : Hid (p - i ≤ gk - 1 ∧ gk - 1 < gk) := by have := hk2.out; show _ ∧ _; omega
          have HS1 : Hid (p + 1 < e.size) := by have := hes.out; show _ < _; omega
          have HS2 : Hid (p < e.size) := by have := hes.out; show _ < _; omega
          obtain ⟨x, hx⟩ : ∃ x, e[p + 1]! = x := ⟨_, rfl⟩
          obtain ⟨y, hy⟩ : ∃ y, e[p]! = y := ⟨_, rfl⟩
          obtain ⟨⟨r1, r2, r3, r4⟩, f1, f2, f3, f4⟩ := hA.out.way HS1.out HS2.out x y hx hy
          obtain ⟨n1, n2, n3, n4, n5, n6, n7, n8⟩ := ne_way (i := p + 1) (j := p) (by omega)
          have HA2 := Lib.hid ((hA.out.swp HS1.out HS2.out).keep (below_drewN (Below.refl _ _) 1))
          have HB2 : Hid (Below g w (swW wr g (p + 1) p x y).drew) := Lib.hid (below_drewN (hB.out.trans (swW_below (Nat.le_refl _))) 1)
          rw [hx, hy] at HA2
          have HP2 := Lib.hid (permIn_trans d e _ a b hP.out (swp_permIn e a b (p + 1) p (by omega) (by omega) (by omega) (by omega) (by have := hes.out; omega)))
          obtain ⟨x0, x1⟩ := x
          obtain ⟨y0, y1⟩ := y
          simp only at r1 r2 r3 r4
          clear hx hy hA hB hP
          have HW2 := Lib.hid (shl_step hW.out hqi HS1.out)
          have hwp : IntKind.i64.wrap (p : Int) = (p : Int) := by rw [IntKind.wrap_i64]; have := hes.out; have := HS1.out; omega
          have jz : (p : Int) + 1 < (sz : Int) := by have := hes.out; have := HS1.out; omega
          have jz1 : (p : Int) < (sz : Int) := by omega
          have p0 : (0 : Int) ≤ (p : Int) + 1 := by omega
          have e0 : ((p : Int) + 1).toNat = p + 1 := by omega
          clear hW
          go_wp2_with fail
          go_big_region_o
          go_wp2_with fail
          go_roundg (gk - 1)
          case measure => exact HG.out.2
          case rel => exact ⟨p, _, by first | rfl | go_num, by omega, by omega, HG.out.1, HP2.out, HW2.out, HA2.out, HB2.out⟩
        · have hltz2 : ¬ (i : Int) < (q : Int) := by omega
          have HE : Hid (SortedIn (ltL cf) a b e) := by
            obtain ⟨w1, w2, w3⟩ := hW.out
            obtain rfl : q = i := by omega
            have hm := HM.out
            subst hm
            exact Lib.hid (ins_right HS.out HR.out (by omega) hqi hL.out hR.out (fun t ht => w3 t (by omega)) w2 w1)
          clear hW hL hR
          go_wp2_with fail
          try simp only [Exit.inBlock, Exit.then]
          refine bodyPost_ret (v := .tuple #[]) (results_none rfl _ _ _) rfl ?_
          exact ⟨rfl, ⟨e, hP.out, HE.out, hA.out⟩, hB.out⟩
end Go.Proofs.Ytncekpiabklkeaa
