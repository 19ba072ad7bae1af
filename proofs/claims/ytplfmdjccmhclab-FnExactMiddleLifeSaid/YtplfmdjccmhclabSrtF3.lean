/-
  The library's stable sort of 32-bit numbers: the merge in place, where one side has one element. Conditions: the function that compares tells a strict weak order of the elements.
-/
import Derived.Test.YtplfmdjccmhclabSrtF2
import Derived.Test.YtplfmdjccmhclabSrtL3
namespace Go.Proofs.Ytplfmdjccmhclab
open Go.RowKit Liv Flt Go.Sort Stb
set_option maxRecDepth 100000 in
set_option maxHeartbeats 4000000 in
theorem symAF_any (cf : Nat → Nat → Int) (V : Nat → Prop) (fc : Nat) (lb : Array Value) (eg : ∀ args w, (callFunc fc args).run Try.prog w = .ok (.enter fc args) w) (hS : SWO (ltF cf)) (hc : CmpF cf V fc lb)
    (cap g a m b sz : Nat) (hm : m = a + 1) (d : Array (Nat)) (hsz : d.size = sz) (hV : ∀ i, i < d.size → V d[i]!) (w : World) (h : FArr 23 w g d) (hab : m < b) (hb : b ≤ sz) (hs : sz ≤ 1048576) (hr : SortedIn (ltF cf) m b d) :
    Calls Try.prog 133 #[.slice (some ⟨g, 0, none⟩) sz cap, .int .i64 a, .int .i64 m, .int .i64 b, .func (.func fc) #[] lb] w fun e w' => e = .returned (.tuple #[]) ∧ (∃ d', PermIn a b d d' ∧ SortedIn (ltF cf) a b d' ∧ FArr 23 w' g d') ∧ Below g w w' := by
  have mixed : Try.prog.follows .mixedOrders = true := by kernel_rfl
  have H := Lib.hid h
  have HSZ := Lib.hid hsz
  have HV := Lib.hid hV
  have HC := Lib.hid hc
  have HS := Lib.hid hS
  have HR := Lib.hid hr
  have hone : (m : Int) - (a : Int) = 1 := by omega
  have HM := Lib.hid hm
  have ham : a < m := by omega
  clear h hsz hV hc hS hr hm
  go_enter Try.func133, Try.ntmps133
  go_wp2_with fail
  go_loopg [10, 11] (b - a) (fun k vi vj wr => ∃ (i j : Nat), vi = .int .i64 i ∧ vj = .int .i64 j ∧ m ≤ i ∧ i ≤ j ∧ j ≤ b ∧ Hid (j - i ≤ k) ∧ Hid (∀ t, m ≤ t → t < i → ltF cf d[t]! d[a]! = true) ∧ Hid (∀ t, j ≤ t → t < b → ltF cf d[t]! d[a]! = false) ∧ Hid (FArr 23 wr g d) ∧ Hid (Below g w wr))
  case atStart => exact ⟨m, b, by go_num, rfl, by omega, by omega, by omega, by show _ ≤ _; omega, fun t h1 h2 => by omega, fun t h1 h2 => by omega, H.out, Below.refl _ _⟩
  case round =>
    obtain ⟨i, j, rfl, rfl, hai, hij, hjb, hk, hL, hR, hA, hB⟩ := hrel
    by_cases hlt : i < j
    · have hltz : (i : Int) < (j : Int) := by omega
      go_wp2_with fail
      obtain ⟨h, hh, hh1, hh2⟩ : ∃ h : Nat, ((i : Int) + (j : Int)) / 2 = (h : Int) ∧ i ≤ h ∧ h < j := ⟨(i + j) / 2, by omega, by omega, by omega⟩
      rw [hh]
      have HS1 : Hid (h < d.size) := by have := HSZ.out; show _ < _; omega
      have HS2 : Hid (a < d.size) := by have := HSZ.out; show _ < _; omega
      obtain ⟨x, hx⟩ : ∃ x, d[h]! = x := ⟨_, rfl⟩
      obtain ⟨y, hy⟩ : ∃ y, d[a]! = y := ⟨_, rfl⟩
      have HX := Lib.hid hx
      have HY := Lib.hid hy
      have hvx : V x := by rw [← hx]; exact HV.out _ HS1.out
      have hvy : V y := by rw [← hy]; exact HV.out _ HS2.out
      have hAg : ∀ n os, FArr 23 (Go.Sort.grow (wr.drewN n) os) g d := fun n os => hA.out.keep (Grn.below ⟨n, os, rfl⟩)
      have HAg := Lib.hid hAg
      have HBg : Hid (∀ n os, Below g w (Go.Sort.grow (wr.drewN n) os)) := Lib.hid fun n os => hB.out.trans ((Grn.below ⟨n, os, rfl⟩).mono (Nat.le_of_lt hA.out.1.lt))
      have r1 := fun n os => (hAg n os).2 h HS1.out
      have r3 := fun n os => (hAg n os).2 a HS2.out
      rw [hx] at r1
      rw [hy] at r3
      have hcg := fun n os => HC.out (Go.Sort.grow (wr.drewN n) os) x y hvx hvy
      clear hx hy hvx hvy hAg hA hB
      have jz : (h : Int) < (sz : Int) := by omega
      have jz1 : (a : Int) < (sz : Int) := by omega
      by_cases hlv : cf x y < 0
      · have HLV : Hid (ltF cf x y = true) := decide_eq_true hlv
        have HL2 := Lib.hid (up_left HS.out (x := d[a]!) HR.out (show h < b by omega) (by rw [HX.out, HY.out]; exact HLV.out))
        clear hL
        go_quiet_grown (first | (go_at_fn fc; refine Go.Calls.grown_of (hcg _ _)))
        go_wp2_with fail
        go_roundg (j - (h + 1))
        case measure => have := hk.out; omega
        case rel => exact ⟨h + 1, j, by go_num, rfl, by omega, by omega, by omega, Nat.le_refl _, HL2.out, hR.out, HAg.out _ _, HBg.out _ _⟩
      · have HLV : Hid (ltF cf x y = false) := decide_eq_false hlv
        have HR2 := Lib.hid (down_left HS.out (x := d[a]!) HR.out (show m ≤ h by omega) (by rw [HX.out, HY.out]; exact HLV.out))
        clear hR
        go_quiet_grown (first | (go_at_fn fc; refine Go.Calls.grown_of (hcg _ _)))
        go_wp2_with fail
        go_roundg (h - i)
        case measure => have := hk.out; omega
        case rel => exact ⟨i, h, rfl, by go_num, by omega, by omega, by omega, Nat.le_refl _, hL.out, HR2.out, HAg.out _ _, HBg.out _ _⟩
    · have hltz : ¬ (i : Int) < (j : Int) := by omega
      obtain rfl : i = j := by omega
      clear hlt
      go_wp2_with fail
      go_loopg [13] (i - 1 - a) (fun k vk wr2 => ∃ (q : Nat) (e : Array (Nat)), vk = .int .i64 q ∧ a ≤ q ∧ q ≤ i - 1 ∧ Hid (i - 1 - q ≤ k) ∧ Hid (PermIn a b d e) ∧ Hid (Shr a q d e) ∧ Hid (FArr 23 wr2 g e) ∧ Hid (Below g w wr2))
      case atStart => exact ⟨a, d, by go_num, Nat.le_refl _, by omega, Nat.le_refl _, permIn_refl d a b, shr_zero a d, hA.out, hB.out⟩
      case round =>
        clear hA hB
        obtain ⟨q, e, rfl, haq, hqi, hk2, hP, hW, hA, hB⟩ := hrel
        have hes : Hid (e.size = sz) := hP.out.1.trans HSZ.out
        by_cases hlt2 : q < i - 1
        · have hltz2 : (q : Int) < (i : Int) - 1 := by omega
          have HG : Hid (i - 1 - (q + 1) ≤ gk - 1 ∧ gk - 1 < gk) := by have := hk2.out; show _ ∧ _; omega
          have HS1 : Hid (q < e.size) := by have := hes.out; show _ < _; omega
          have HS2 : Hid (q + 1 < e.size) := by have := hes.out; show _ < _; omega
          obtain ⟨x, hx⟩ : ∃ x, e[q]! = x := ⟨_, rfl⟩
          obtain ⟨y, hy⟩ : ∃ y, e[q + 1]! = y := ⟨_, rfl⟩
          obtain ⟨⟨r1, r3⟩, f1, f3⟩ := hA.out.way HS1.out HS2.out x y hx hy
          obtain ⟨n1, n5⟩ := ne_wayF (i := q) (j := q + 1) (by omega)
          have HA2 := Lib.hid ((hA.out.swp HS1.out HS2.out).keep (below_drewN (Below.refl _ _) 1))
          have HB2 : Hid (Below g w (swF wr g (q) (q + 1) x y).drew) := Lib.hid (below_drewN (hB.out.trans (swF_below (Nat.le_refl _))) 1)
          rw [hx, hy] at HA2
          have HP2 := Lib.hid (permIn_trans d e _ a b hP.out (swp_permIn e a b (q) (q + 1) (by omega) (by omega) (by omega) (by omega) (by have := hes.out; omega)))
          clear hx hy hA hB hP
          have HW2 := Lib.hid (shr_step hW.out haq HS2.out)
          have jz : (q : Int) + 1 < (sz : Int) := by have := hes.out; have := HS2.out; omega
          have jz1 : (q : Int) < (sz : Int) := by omega
          have p0 : (0 : Int) ≤ (q : Int) + 1 := by omega
          have e0 : ((q : Int) + 1).toNat = q + 1 := by omega
          clear hW
          go_wp2_with fail
          go_big_region_o
          go_wp2_with fail
          go_roundg (gk - 1)
          case measure => exact HG.out.2
          case rel => exact ⟨q + 1, _, by go_num, by omega, by omega, HG.out.1, HP2.out, HW2.out, HA2.out, HB2.out⟩
        · have hltz2 : ¬ (q : Int) < (i : Int) - 1 := by omega
          have HE : Hid (SortedIn (ltF cf) a b e) := by
            obtain ⟨w1, w2, w3⟩ := hW.out
            obtain rfl : q = i - 1 := by omega
            have hm := HM.out
            subst hm
            exact Lib.hid (ins_left HS.out HR.out (show a + 1 ≤ i by omega) hjb hL.out hR.out w1 w2 (fun t ht => w3 t (by omega)))
          clear hW hL hR
          go_wp2_with fail
          try simp only [Exit.inBlock, Exit.then]
          refine bodyPost_ret (v := .tuple #[]) (results_none rfl _ _ _) rfl ?_
          exact ⟨rfl, ⟨e, hP.out, HE.out, hA.out⟩, hB.out⟩
set_option maxRecDepth 100000 in
set_option maxHeartbeats 4000000 in
theorem symBF_any (cf : Nat → Nat → Int) (V : Nat → Prop) (fc : Nat) (lb : Array Value) (eg : ∀ args w, (callFunc fc args).run Try.prog w = .ok (.enter fc args) w) (hS : SWO (ltF cf)) (hc : CmpF cf V fc lb)
    (cap g a m b sz : Nat) (hm : b = m + 1) (d : Array (Nat)) (hsz : d.size = sz) (hV : ∀ i, i < d.size → V d[i]!) (w : World) (h : FArr 23 w g d) (ham : a < m) (hab : m < b) (hb : b ≤ sz) (hs : sz ≤ 1048576) (hno : m ≠ a + 1) (hr : SortedIn (ltF cf) a m d) :
    Calls Try.prog 133 #[.slice (some ⟨g, 0, none⟩) sz cap, .int .i64 a, .int .i64 m, .int .i64 b, .func (.func fc) #[] lb] w fun e w' => e = .returned (.tuple #[]) ∧ (∃ d', PermIn a b d d' ∧ SortedIn (ltF cf) a b d' ∧ FArr 23 w' g d') ∧ Below g w w' := by
  have mixed : Try.prog.follows .mixedOrders = true := by kernel_rfl
  have H := Lib.hid h
  have HSZ := Lib.hid hsz
  have HV := Lib.hid hV
  have HC := Lib.hid hc
  have HS := Lib.hid hS
  have HR := Lib.hid hr
  have hone : (b : Int) - (m : Int) = 1 := by omega
  have hnone : ((m : Int) - (a : Int) == 1) = false := beq_false_of_ne (by omega)
  have HM := Lib.hid hm
  clear h hsz hV hc hS hr hm hno
  go_enter Try.func133, Try.ntmps133
  go_wp2_with fail
  go_loopg [14, 15] (m - a) (fun k vi vj wr => ∃ (i j : Nat), vi = .int .i64 i ∧ vj = .int .i64 j ∧ a ≤ i ∧ i ≤ j ∧ j ≤ m ∧ Hid (j - i ≤ k) ∧ Hid (∀ t, a ≤ t → t < i → ltF cf d[m]! d[t]! = false) ∧ Hid (∀ t, j ≤ t → t < m → ltF cf d[m]! d[t]! = true) ∧ Hid (FArr 23 wr g d) ∧ Hid (Below g w wr))
  case atStart => exact ⟨a, m, by go_num, rfl, by omega, by omega, by omega, Nat.le_refl _, fun t h1 h2 => by omega, fun t h1 h2 => by omega, H.out, Below.refl _ _⟩
  case round =>
    obtain ⟨i, j, rfl, rfl, hai, hij, hjb, hk, hL, hR, hA, hB⟩ := hrel
    by_cases hlt : i < j
    · have hltz : (i : Int) < (j : Int) := by omega
      go_wp2_with fail
      obtain ⟨h, hh, hh1, hh2⟩ : ∃ h : Nat, ((i : Int) + (j : Int)) / 2 = (h : Int) ∧ i ≤ h ∧ h < j := ⟨(i + j) / 2, by omega, by omega, by omega⟩
      rw [hh]
      have HS1 : Hid (m < d.size) := by have := HSZ.out; show _ < _; omega
      have HS2 : Hid (h < d.size) := by have := HSZ.out; show _ < _; omega
      obtain ⟨x, hx⟩ : ∃ x, d[m]! = x := ⟨_, rfl⟩
      obtain ⟨y, hy⟩ : ∃ y, d[h]! = y := ⟨_, rfl⟩
      have HX := Lib.hid hx
      have HY := Lib.hid hy
      have hvx : V x := by rw [← hx]; exact HV.out _ HS1.out
      have hvy : V y := by rw [← hy]; exact HV.out _ HS2.out
      have hAg : ∀ n os, FArr 23 (Go.Sort.grow (wr.drewN n) os) g d := fun n os => hA.out.keep (Grn.below ⟨n, os, rfl⟩)
      have HAg := Lib.hid hAg
      have HBg : Hid (∀ n os, Below g w (Go.Sort.grow (wr.drewN n) os)) := Lib.hid fun n os => hB.out.trans ((Grn.below ⟨n, os, rfl⟩).mono (Nat.le_of_lt hA.out.1.lt))
      have r1 := fun n os => (hAg n os).2 m HS1.out
      have r3 := fun n os => (hAg n os).2 h HS2.out
      rw [hx] at r1
      rw [hy] at r3
      have hcg := fun n os => HC.out (Go.Sort.grow (wr.drewN n) os) x y hvx hvy
      clear hx hy hvx hvy hAg hA hB
      have jz : (h : Int) < (sz : Int) := by omega
      have jz1 : (m : Int) < (sz : Int) := by omega
      by_cases hlv : ¬ cf x y < 0
      · have HLV : Hid (ltF cf x y = false) := decide_eq_false hlv
        have HL2 := Lib.hid (up_right HS.out (x := d[m]!) HR.out (show h < m by omega) (by rw [HX.out, HY.out]; exact HLV.out))
        clear hL
        go_quiet_grown (first | (go_at_fn fc; refine Go.Calls.grown_of (hcg _ _)))
        go_wp2_with fail
        go_roundg (j - (h + 1))
        case measure => have := hk.out; omega
        case rel => exact ⟨h + 1, j, by go_num, rfl, by omega, by omega, by omega, Nat.le_refl _, HL2.out, hR.out, HAg.out _ _, HBg.out _ _⟩
      · have hlv : cf x y < 0 := Classical.not_not.1 hlv
        have HLV : Hid (ltF cf x y = true) := decide_eq_true hlv
        have HR2 := Lib.hid (down_right HS.out (x := d[m]!) HR.out (show a ≤ h by omega) (by rw [HX.out, HY.out]; exact HLV.out))
        clear hR
        go_quiet_grown (first | (go_at_fn fc; refine Go.Calls.grown_of (hcg _ _)))
        go_wp2_with fail
        go_roundg (h - i)
        case measure => have := hk.out; omega
        case rel => exact ⟨i, h, rfl, by go_num, by omega, by omega, by omega, Nat.le_refl _, hL.out, HR2.out, HAg.out _ _, HBg.out _ _⟩
    · have hltz : ¬ (i : Int) < (j : Int) := by omega
      obtain rfl : i = j := by omega
      clear hlt
      go_wp2_with fail
      go_loopg [17] (m - i) (fun k vk wr2 => ∃ (q : Nat) (e : Array (Nat)), vk = .int .i64 q ∧ i ≤ q ∧ q ≤ m ∧ Hid (q - i ≤ k) ∧ Hid (PermIn a b d e) ∧ Hid (Shl m q d e) ∧ Hid (FArr 23 wr2 g e) ∧ Hid (Below g w wr2))
      case atStart => exact ⟨m, d, by go_num, by omega, Nat.le_refl _, Nat.le_refl _, permIn_refl d a b, shl_zero m d, hA.out, hB.out⟩
      case round =>
        clear hA hB
        obtain ⟨q, e, rfl, haq, hqi, hk2, hP, hW, hA, hB⟩ := hrel
        have hes : Hid (e.size = sz) := hP.out.1.trans HSZ.out
        by_cases hlt2 : i < q
        · obtain ⟨p, rfl⟩ : ∃ p, q = p + 1 := ⟨q - 1, by omega⟩
          have hltz2 : (i : Int) < (p : Int) + 1 := by omega
          have HG : Hid (p - i ≤ gk - 1 ∧ gk - 1 < gk) := by have := hk2.out; show _ ∧ _; omega
          have HS1 : Hid (p + 1 < e.size) := by have := hes.out; show _ < _; omega
          have HS2 : Hid (p < e.size) := by have := hes.out; show _ < _; omega
          obtain ⟨x, hx⟩ : ∃ x, e[p + 1]! = x := ⟨_, rfl⟩
          obtain ⟨y, hy⟩ : ∃ y, e[p]! = y := ⟨_, rfl⟩
          obtain ⟨⟨r1, r3⟩, f1, f3⟩ := hA.out.way HS1.out HS2.out x y hx hy
          obtain ⟨n1, n5⟩ := ne_wayF (i := p + 1) (j := p) (by omega)
          have HA2 := Lib.hid ((hA.out.swp HS1.out HS2.out).keep (below_drewN (Below.refl _ _) 1))
          have HB2 : Hid (Below g w (swF wr g (p + 1) p x y).drew) := Lib.hid (below_drewN (hB.out.trans (swF_below (Nat.le_refl _))) 1)
          rw [hx, hy] at HA2
          have HP2 := Lib.hid (permIn_trans d e _ a b hP.out (swp_permIn e a b (p + 1) p (by omega) (by omega) (by omega) (by omega) (by have := hes.out; omega)))
          clear hx hy hA hB hP
          have HW2 := Lib.hid (shl_step hW.out hqi HS1.out)
          have hwp : IntKind.i64.wrap (p : Int) = (p : Int) := by rw [IntKind.wrap_i64]; have := hes.out; have := HS1.out; omega
          have jz : (p : Int) + 1 < (sz : Int) := by have := hes.out; have := HS1.out; omega
          have jz1 : (p : Int) < (sz : Int) := by omega
          have p0 : (0 : Int) ≤ (p : Int) + 1 := by omega
          have e0 : ((p : Int) + 1).toNat = p + 1 := by omega
          clear hW
          go_wp2_with fail
          go_big_region_o
          go_wp2_with fail
          go_roundg (gk - 1)
          case measure => exact HG.out.2
          case rel => exact ⟨p, _, by first | rfl | go_num, by omega, by omega, HG.out.1, HP2.out, HW2.out, HA2.out, HB2.out⟩
        · have hltz2 : ¬ (i : Int) < (q : Int) := by omega
          have HE : Hid (SortedIn (ltF cf) a b e) := by
            obtain ⟨w1, w2, w3⟩ := hW.out
            obtain rfl : q = i := by omega
            have hm := HM.out
            subst hm
            exact Lib.hid (ins_right HS.out HR.out (by omega) hqi hL.out hR.out (fun t ht => w3 t (by omega)) w2 w1)
          clear hW hL hR
          go_wp2_with fail
          try simp only [Exit.inBlock, Exit.then]
          refine bodyPost_ret (v := .tuple #[]) (results_none rfl _ _ _) rfl ?_
          exact ⟨rfl, ⟨e, hP.out, HE.out, hA.out⟩, hB.out⟩
end Go.Proofs.Ytplfmdjccmhclab
