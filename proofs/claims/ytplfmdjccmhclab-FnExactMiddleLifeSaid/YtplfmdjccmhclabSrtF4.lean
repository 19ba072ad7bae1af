/-
  The library's stable sort of 32-bit numbers: the merge in place as a whole. Conditions: the function that compares tells a strict weak order of the elements.
-/
import Derived.Test.YtplfmdjccmhclabSrtF3
namespace Go.Proofs.Ytplfmdjccmhclab
open Go.RowKit Liv Flt Go.Sort Stb
/-- what the merge in place of no more than 'N' elements does -/
def SymOkF (cf : Nat → Nat → Int) (V : Nat → Prop) (fc : Nat) (lb : Array Value) (cap g sz N : Nat) : Prop :=
  ∀ (a m b : Nat) (d : Array (Nat)) (w : World), b - a ≤ N → d.size = sz → (∀ i, i < d.size → V d[i]!) → FArr 23 w g d → a < m → m < b → b ≤ sz → SortedIn (ltF cf) a m d → SortedIn (ltF cf) m b d →
    Calls Try.prog 133 #[.slice (some ⟨g, 0, none⟩) sz cap, .int .i64 a, .int .i64 m, .int .i64 b, .func (.func fc) #[] lb] w fun e w' => e = .returned (.tuple #[]) ∧ (∃ d', PermIn a b d d' ∧ SortedIn (ltF cf) a b d' ∧ FArr 23 w' g d') ∧ Below g w w'
set_option maxRecDepth 100000 in
set_option maxHeartbeats 16000000 in
theorem symC1F_any (cf : Nat → Nat → Int) (V : Nat → Prop) (fc : Nat) (lb : Array Value) (eg : ∀ args w, (callFunc fc args).run Try.prog w = .ok (.enter fc args) w) (hS : SWO (ltF cf)) (hc : CmpF cf V fc lb)
    (cap g a m b sz N : Nat) (hN : b - a ≤ N + 1) (ih : SymOkF cf V fc lb cap g sz N) (h1 : m ≠ a + 1) (h2 : b ≠ m + 1) (mid : Nat) (hmd : mid = (a + b) / 2) (hcase : mid < m) (d : Array (Nat)) (hsz : d.size = sz) (hV : ∀ i, i < d.size → V d[i]!) (w : World) (h : FArr 23 w g d) (ham : a < m) (hmb : m < b) (hb : b ≤ sz) (hs : sz ≤ 1048576) (hl : SortedIn (ltF cf) a m d) (hr : SortedIn (ltF cf) m b d) :
    Calls Try.prog 133 #[.slice (some ⟨g, 0, none⟩) sz cap, .int .i64 a, .int .i64 m, .int .i64 b, .func (.func fc) #[] lb] w fun e w' => e = .returned (.tuple #[]) ∧ (∃ d', PermIn a b d d' ∧ SortedIn (ltF cf) a b d' ∧ FArr 23 w' g d') ∧ Below g w w' := by
  have mixed : Try.prog.follows .mixedOrders = true := by kernel_rfl
  have H := Lib.hid h
  have HSZ := Lib.hid hsz
  have HV := Lib.hid hV
  have HC := Lib.hid hc
  have HS := Lib.hid hS
  have HA := Lib.hid hl
  have HBb := Lib.hid hr
  have IH := Lib.hid ih
  have hn1 : ((m : Int) - (a : Int) == 1) = false := beq_false_of_ne (by omega)
  have hn2 : ((b : Int) - (m : Int) == 1) = false := beq_false_of_ne (by omega)
  have hmid : ((a : Int) + (b : Int)) / 2 = (mid : Int) := by omega
  have HMD : Hid (a < mid ∧ mid < b ∧ mid - a < b - a ∧ b - mid < b - a ∧ b - a ≤ N + 1) := by show _ ∧ _; omega
  obtain ⟨lo0, hlo0⟩ : ∃ lo0, mid + m = lo0 + b := ⟨mid + m - b, by omega⟩
  have hloz : (mid : Int) + (m : Int) - (b : Int) = (lo0 : Int) := by omega
  have hgt : (mid : Int) < (m : Int) := by omega
  have HLO := Lib.hid hlo0
  have HF0 : Hid (a ≤ lo0 ∧ lo0 ≤ mid ∧ mid ≤ m ∧ lo0 + b = mid + m ∧ mid < b) := by show _ ∧ _; omega
  clear hlo0
  clear h hsz hV hc hS hl hr ih h1 h2 hmd hcase hN
  go_enter Try.func133, Try.ntmps133
  go_wp2_with fail
  go_loopg [20, 21] (mid - lo0) (fun k vi vj wr => ∃ (i j : Nat), vi = .int .i64 i ∧ vj = .int .i64 j ∧ lo0 ≤ i ∧ i ≤ j ∧ j ≤ mid ∧ Hid (j - i ≤ k) ∧ Hid (i = lo0 ∨ ltF cf d[mid + m - i]! d[i - 1]! = false) ∧ Hid (j = mid ∨ ltF cf d[mid + m - 1 - j]! d[j]! = true) ∧ Hid (FArr 23 wr g d) ∧ Hid (Below g w wr))
  case atStart => exact ⟨lo0, mid, by go_num, by go_num, Nat.le_refl _, by have := HF0.out; omega, Nat.le_refl _, Nat.le_refl _, .inl rfl, .inl rfl, H.out, Below.refl _ _⟩
  case round =>
    obtain ⟨i, j, rfl, rfl, hai, hij, hjb, hk, hL, hR, hA, hB⟩ := hrel
    by_cases hlt : i < j
    · have hltz : (i : Int) < (j : Int) := by omega
      go_wp2_with fail
      obtain ⟨h, hh, hh1, hh2⟩ : ∃ h : Nat, ((i : Int) + (j : Int)) / 2 = (h : Int) ∧ i ≤ h ∧ h < j := ⟨(i + j) / 2, by omega, by omega, by omega⟩
      rw [hh]
      obtain ⟨pc, hpc⟩ : ∃ pc, mid + m = pc + 1 + h := ⟨mid + m - 1 - h, by have := HF0.out; omega⟩
      have hpz : (mid : Int) + (m : Int) - 1 - (h : Int) = (pc : Int) := by omega
      have HPC : Hid (mid + m = pc + 1 + h ∧ pc < sz ∧ h < sz) := by have := HF0.out; show _ ∧ _; omega
      clear hpc
      have HS1 : Hid (pc < d.size) := by have := HSZ.out; have := HPC.out; show _ < _; omega
      have HS2 : Hid (h < d.size) := by have := HSZ.out; have := HPC.out; show _ < _; omega
      obtain ⟨x, hx⟩ : ∃ x, d[pc]! = x := ⟨_, rfl⟩
      obtain ⟨y, hy⟩ : ∃ y, d[h]! = y := ⟨_, rfl⟩
      have HX := Lib.hid hx
      have HY := Lib.hid hy
      have hvx : V x := by rw [← hx]; exact HV.out _ HS1.out
      have hvy : V y := by rw [← hy]; exact HV.out _ HS2.out
      have hAg : ∀ n os, FArr 23 (Go.Sort.grow (wr.drewN n) os) g d := fun n os => hA.out.keep (Grn.below ⟨n, os, rfl⟩)
      have HAg := Lib.hid hAg
      have HBg : Hid (∀ n os, Below g w (Go.Sort.grow (wr.drewN n) os)) := Lib.hid fun n os => hB.out.trans ((Grn.below ⟨n, os, rfl⟩).mono (Nat.le_of_lt hA.out.1.lt))
      have r1 := fun n os => (hAg n os).2 pc HS1.out
      have r3 := fun n os => (hAg n os).2 h HS2.out
      rw [hx] at r1
      rw [hy] at r3
      have hcg := fun n os => HC.out (Go.Sort.grow (wr.drewN n) os) x y hvx hvy
      clear hx hy hvx hvy hAg hA hB
      have jz : (pc : Int) < (sz : Int) := by have := HPC.out; omega
      have jz1 : (h : Int) < (sz : Int) := by have := HPC.out; omega
      have hwp : IntKind.i64.wrap (pc : Int) = (pc : Int) := by rw [IntKind.wrap_i64]; have := HPC.out; omega
      have hwp2 : IntKind.i64.wrap ((mid : Int) + (m : Int) - 1 - (h : Int)) = (pc : Int) := by rw [hpz]; exact hwp
      by_cases hlv : ¬ cf x y < 0
      · have HLV : Hid (ltF cf x y = false) := decide_eq_false hlv
        have HL2 : Hid (h + 1 = lo0 ∨ ltF cf d[mid + m - (h + 1)]! d[h + 1 - 1]! = false) := .inr (by
          rw [show mid + m - (h + 1) = pc by have := HPC.out; omega, Nat.add_sub_cancel, HX.out, HY.out]; exact HLV.out)
        clear hL
        go_quiet_grown (first | (go_at_fn fc; refine Go.Calls.grown_of (hcg _ _)))
        go_wp2_with fail
        go_roundg (j - (h + 1))
        case measure => have := hk.out; omega
        case rel => exact ⟨h + 1, j, by go_num, rfl, by omega, by omega, by omega, Nat.le_refl _, HL2.out, hR.out, HAg.out _ _, HBg.out _ _⟩
      · have hlv : cf x y < 0 := Classical.not_not.1 hlv
        have HLV : Hid (ltF cf x y = true) := decide_eq_true hlv
        have HR2 : Hid (h = mid ∨ ltF cf d[mid + m - 1 - h]! d[h]! = true) := .inr (by
          rw [show mid + m - 1 - h = pc by have := HPC.out; omega, HX.out, HY.out]; exact HLV.out)
        clear hR
        go_quiet_grown (first | (go_at_fn fc; refine Go.Calls.grown_of (hcg _ _)))
        go_wp2_with fail
        go_roundg (h - i)
        case measure => have := hk.out; omega
        case rel => exact ⟨i, h, rfl, by go_num, by omega, by omega, by omega, Nat.le_refl _, hL.out, HR2.out, HAg.out _ _, HBg.out _ _⟩
    · have hltz : ¬ (i : Int) < (j : Int) := by omega
      obtain rfl : i = j := by omega
      obtain ⟨s, rfl⟩ : ∃ s, s = i := ⟨i, rfl⟩
      obtain ⟨en, hen⟩ : ∃ en, mid + m = en + s := ⟨mid + m - s, by have := HF0.out; omega⟩
      have henz : (mid : Int) + (m : Int) - (s : Int) = (en : Int) := by omega
      have HC1 : Hid (s = a ∨ en = b ∨ ltF cf d[en]! d[s - 1]! = false) := by
        rcases hL.out with q | q
        · have := HF0.out
          show _ ∨ _
          omega
        · rw [show mid + m - s = en by omega] at q; exact .inr (.inr q)
      have HC2 : Hid (s = m ∨ en = m ∨ ltF cf d[en - 1]! d[s]! = true) := by
        rcases hR.out with q | q
        · show _ ∨ _
          omega
        · rw [show mid + m - 1 - s = en - 1 by omega] at q; exact .inr (.inr q)
      have HEN : Hid (mid + m = en + s) := hen
      have HLIM : Hid (a ≤ s ∧ s ≤ m ∧ s ≤ mid ∧ m ≤ en ∧ en ≤ b ∧ mid ≤ en) := by have := HF0.out; have := HMD.out; show _ ∧ _; omega
      clear hlt hL hR hen
      by_cases hq1 : s < m ∧ m < en
      · have x1 : (s : Int) < (m : Int) := by have := HLIM.out; have := HEN.out; have := HMD.out; omega
        have x2 : (m : Int) < (en : Int) := by have := HLIM.out; have := HEN.out; have := HMD.out; omega
        go_wp2_with fail
        refine (rotateF_any (.func (.func fc) #[] lb) cap g s m en sz d HSZ.out _ hA.out hq1.1 hq1.2 (by have := HLIM.out; have := HEN.out; have := HMD.out; omega) hs).mono ?_
        rintro x w7 ⟨rfl, ⟨e1, hrot, p1, a1⟩, b1⟩
        have P1 := Lib.hid (permIn_mono d e1 s en a b (by have := HLIM.out; have := HEN.out; have := HMD.out; omega) (by have := HLIM.out; have := HEN.out; have := HMD.out; omega) (by have := HSZ.out; have := HLIM.out; have := HEN.out; have := HMD.out; omega) p1)
        have A1 := Lib.hid a1
        have B1 := Lib.hid (hB.out.trans b1)
        clear p1 a1 b1 hA hB
        have CP : Hid (SortedIn (ltF cf) a s e1 ∧ SortedIn (ltF cf) s mid e1 ∧ SortedIn (ltF cf) mid en e1 ∧ SortedIn (ltF cf) en b e1 ∧ ∀ x y, a ≤ x → x < mid → mid ≤ y → y < b → ltF cf e1[y]! e1[x]! = false) := by
          have q := cut_parts HS.out (show a ≤ s by have := HLIM.out; have := HEN.out; have := HMD.out; omega) (show s ≤ m by have := HLIM.out; have := HEN.out; have := HMD.out; omega) (show m ≤ en by have := HLIM.out; have := HEN.out; have := HMD.out; omega) (show en ≤ b by have := HLIM.out; have := HEN.out; have := HMD.out; omega) HA.out HBb.out HC1.out HC2.out hrot
          have hmid2 : s + (en - m) = mid := by have := HLIM.out; have := HEN.out; have := HMD.out; omega
          rw [hmid2] at q
          exact q
        clear hrot
        by_cases hq2 : a < s ∧ s < mid
        · have y1 : (a : Int) < (s : Int) := by have := HLIM.out; have := HEN.out; have := HMD.out; omega
          have y2 : (s : Int) < (mid : Int) := by have := HLIM.out; have := HEN.out; have := HMD.out; omega
          have HV1 : Hid (∀ i, i < e1.size → V e1[i]!) := Lib.hid (by
            have q1 := perm_all P1.out (by have := HSZ.out; have := HLIM.out; have := HEN.out; have := HMD.out; omega) HV.out
            rw [P1.out.1]; exact q1)
          go_wp2_with fail
          refine (IH.out a s mid e1 _ (by have := HLIM.out; have := HEN.out; have := HMD.out; omega) (by rw [P1.out.1]; exact HSZ.out) HV1.out A1.out hq2.1 hq2.2 (by have := HLIM.out; have := HEN.out; have := HMD.out; omega) CP.out.1 CP.out.2.1).mono ?_
          rintro x w8 ⟨rfl, ⟨e2, p2, s2, a2⟩, b2⟩
          have P2 := Lib.hid p2
          have S2 := Lib.hid s2
          have A2 := Lib.hid a2
          have B2 := Lib.hid (B1.out.trans b2)
          clear p2 s2 a2 b2 HV1
          by_cases hq3 : mid < en ∧ en < b
          · have z1 : (mid : Int) < (en : Int) := by have := HLIM.out; have := HEN.out; have := HMD.out; omega
            have z2 : (en : Int) < (b : Int) := by have := HLIM.out; have := HEN.out; have := HMD.out; omega
            have HE3 : Hid (SortedIn (ltF cf) mid en e2 ∧ SortedIn (ltF cf) en b e2) := ⟨sorted_out CP.out.2.2.1 P2.out (.inr (by have := HLIM.out; have := HEN.out; have := HMD.out; omega)), sorted_out CP.out.2.2.2.1 P2.out (.inr (by have := HLIM.out; have := HEN.out; have := HMD.out; omega))⟩
            have HV2 : Hid (∀ i, i < e2.size → V e2[i]!) := Lib.hid (by
              have q1 := perm_all P1.out (by have := HSZ.out; have := HLIM.out; have := HEN.out; have := HMD.out; omega) HV.out
              have q2 := perm_all P2.out (by have := P1.out.1; have := HSZ.out; have := HLIM.out; have := HEN.out; have := HMD.out; omega) (by rw [P1.out.1]; exact q1)
              rw [P2.out.1]; exact q2)
            go_wp2_with fail
            all_goals
              refine (IH.out mid en b e2 _ (by have := HLIM.out; have := HEN.out; have := HMD.out; omega) (by rw [P2.out.1, P1.out.1]; exact HSZ.out) HV2.out A2.out hq3.1 hq3.2 (by have := HLIM.out; have := HEN.out; have := HMD.out; omega) HE3.out.1 HE3.out.2).mono ?_
              rintro x w9 ⟨rfl, ⟨e3, p3, s3, a3⟩, b3⟩
              have HF : Hid (PermIn a b d e3 ∧ SortedIn (ltF cf) a b e3) := ⟨permIn_trans _ _ _ a b P1.out (permIn_trans _ _ _ a b (permIn_mono e1 e2 a mid a b (by have := HLIM.out; have := HEN.out; have := HMD.out; omega) (by have := HLIM.out; have := HEN.out; have := HMD.out; omega) (by have := P1.out.1; have := HSZ.out; have := HLIM.out; have := HEN.out; have := HMD.out; omega) P2.out) (permIn_mono e2 e3 mid b a b (by have := HLIM.out; have := HEN.out; have := HMD.out; omega) (by have := HLIM.out; have := HEN.out; have := HMD.out; omega) (by have := P1.out.1; have := P2.out.1; have := HSZ.out; have := HLIM.out; have := HEN.out; have := HMD.out; omega) p3)), join_parts (by have := HLIM.out; have := HEN.out; have := HMD.out; omega) (by have := HLIM.out; have := HEN.out; have := HMD.out; omega) (by have := P1.out.1; have := HSZ.out; have := HLIM.out; have := HEN.out; have := HMD.out; omega) P2.out S2.out p3 s3 CP.out.2.2.2.2⟩
              have A3 := Lib.hid a3
              have B3 := Lib.hid (B2.out.trans b3)
              clear p3 s3 a3 b3
              go_wp2_with fail
              go_end0
              exact ⟨rfl, ⟨e3, HF.out.1, HF.out.2, A3.out⟩, B3.out⟩
          · have HF : Hid (PermIn a b d e2 ∧ SortedIn (ltF cf) a b e2) := by
              have s3 : SortedIn (ltF cf) mid b e2 := by
                by_cases hz : mid < en
                · have hz2 : en = b := by have := HLIM.out; have := HEN.out; have := HMD.out; omega
                  rw [← hz2]; exact sorted_out CP.out.2.2.1 P2.out (.inr (by have := HLIM.out; have := HEN.out; have := HMD.out; omega))
                · have hz2 : en = mid := by have := HLIM.out; have := HEN.out; have := HMD.out; omega
                  rw [← hz2]; exact sorted_out CP.out.2.2.2.1 P2.out (.inr (by have := HLIM.out; have := HEN.out; have := HMD.out; omega))
              exact ⟨permIn_trans _ _ _ a b P1.out (permIn_mono e1 e2 a mid a b (by have := HLIM.out; have := HEN.out; have := HMD.out; omega) (by have := HLIM.out; have := HEN.out; have := HMD.out; omega) (by have := P1.out.1; have := HSZ.out; have := HLIM.out; have := HEN.out; have := HMD.out; omega) P2.out), join_parts (by have := HLIM.out; have := HEN.out; have := HMD.out; omega) (by have := HLIM.out; have := HEN.out; have := HMD.out; omega) (by have := P1.out.1; have := HSZ.out; have := HLIM.out; have := HEN.out; have := HMD.out; omega) P2.out S2.out (permIn_refl e2 mid b) s3 CP.out.2.2.2.2⟩
            have z0 : ((mid : Int) < (en : Int) ∧ (en : Int) < (b : Int)) = False := by simp only [eq_iff_iff, iff_false]; have := HLIM.out; have := HEN.out; have := HMD.out; omega
            by_cases z1 : (mid : Int) < (en : Int)
            · have z2 : ¬ (en : Int) < (b : Int) := by have := HLIM.out; have := HEN.out; have := HMD.out; omega
              go_wp2_with fail
              all_goals (go_end0; exact ⟨rfl, ⟨e2, HF.out.1, HF.out.2, A2.out⟩, B2.out⟩)
            · go_wp2_with fail
              all_goals (go_end0; exact ⟨rfl, ⟨e2, HF.out.1, HF.out.2, A2.out⟩, B2.out⟩)
        · obtain ⟨e2, he2⟩ : ∃ e2, e2 = e1 := ⟨_, rfl⟩
          have S2 : Hid (SortedIn (ltF cf) a mid e2) := by
            rw [he2]
            by_cases hz : a < s
            · have hz2 : s = mid := by have := HLIM.out; have := HEN.out; have := HMD.out; omega
              rw [← hz2]; exact CP.out.1
            · have hz2 : s = a := by have := HLIM.out; have := HEN.out; have := HMD.out; omega
              rw [← hz2]; exact CP.out.2.1
          have P2 : Hid (PermIn a mid e1 e2) := by rw [he2]; exact permIn_refl e1 a mid
          have A2 : Hid (FArr 23 w7 g e2) := by rw [he2]; exact A1.out
          have B2 : Hid (Below g w w7) := B1.out
          clear he2
          by_cases y1 : (a : Int) < (s : Int)
          · have y2 : ¬ (s : Int) < (mid : Int) := by have := HLIM.out; have := HEN.out; have := HMD.out; omega
            by_cases hq3 : mid < en ∧ en < b
            · have z1 : (mid : Int) < (en : Int) := by have := HLIM.out; have := HEN.out; have := HMD.out; omega
              have z2 : (en : Int) < (b : Int) := by have := HLIM.out; have := HEN.out; have := HMD.out; omega
              have HE3 : Hid (SortedIn (ltF cf) mid en e2 ∧ SortedIn (ltF cf) en b e2) := ⟨sorted_out CP.out.2.2.1 P2.out (.inr (by have := HLIM.out; have := HEN.out; have := HMD.out; omega)), sorted_out CP.out.2.2.2.1 P2.out (.inr (by have := HLIM.out; have := HEN.out; have := HMD.out; omega))⟩
              have HV2 : Hid (∀ i, i < e2.size → V e2[i]!) := Lib.hid (by
                have q1 := perm_all P1.out (by have := HSZ.out; have := HLIM.out; have := HEN.out; have := HMD.out; omega) HV.out
                have q2 := perm_all P2.out (by have := P1.out.1; have := HSZ.out; have := HLIM.out; have := HEN.out; have := HMD.out; omega) (by rw [P1.out.1]; exact q1)
                rw [P2.out.1]; exact q2)
              go_wp2_with fail
              all_goals
                refine (IH.out mid en b e2 _ (by have := HLIM.out; have := HEN.out; have := HMD.out; omega) (by rw [P2.out.1, P1.out.1]; exact HSZ.out) HV2.out A2.out hq3.1 hq3.2 (by have := HLIM.out; have := HEN.out; have := HMD.out; omega) HE3.out.1 HE3.out.2).mono ?_
                rintro x w9 ⟨rfl, ⟨e3, p3, s3, a3⟩, b3⟩
                have HF : Hid (PermIn a b d e3 ∧ SortedIn (ltF cf) a b e3) := ⟨permIn_trans _ _ _ a b P1.out (permIn_trans _ _ _ a b (permIn_mono e1 e2 a mid a b (by have := HLIM.out; have := HEN.out; have := HMD.out; omega) (by have := HLIM.out; have := HEN.out; have := HMD.out; omega) (by have := P1.out.1; have := HSZ.out; have := HLIM.out; have := HEN.out; have := HMD.out; omega) P2.out) (permIn_mono e2 e3 mid b a b (by have := HLIM.out; have := HEN.out; have := HMD.out; omega) (by have := HLIM.out; have := HEN.out; have := HMD.out; omega) (by have := P1.out.1; have := P2.out.1; have := HSZ.out; have := HLIM.out; have := HEN.out; have := HMD.out; omega) p3)), join_parts (by have := HLIM.out; have := HEN.out; have := HMD.out; omega) (by have := HLIM.out; have := HEN.out; have := HMD.out; omega) (by have := P1.out.1; have := HSZ.out; have := HLIM.out; have := HEN.out; have := HMD.out; omega) P2.out S2.out p3 s3 CP.out.2.2.2.2⟩
                have A3 := Lib.hid a3
                have B3 := Lib.hid (B2.out.trans b3)
                clear p3 s3 a3 b3
                go_wp2_with fail
                go_end0
                exact ⟨rfl, ⟨e3, HF.out.1, HF.out.2, A3.out⟩, B3.out⟩
            · have HF : Hid (PermIn a b d e2 ∧ SortedIn (ltF cf) a b e2) := by
                have s3 : SortedIn (ltF cf) mid b e2 := by
                  by_cases hz : mid < en
                  · have hz2 : en = b := by have := HLIM.out; have := HEN.out; have := HMD.out; omega
                    rw [← hz2]; exact sorted_out CP.out.2.2.1 P2.out (.inr (by have := HLIM.out; have := HEN.out; have := HMD.out; omega))
                  · have hz2 : en = mid := by have := HLIM.out; have := HEN.out; have := HMD.out; omega
                    rw [← hz2]; exact sorted_out CP.out.2.2.2.1 P2.out (.inr (by have := HLIM.out; have := HEN.out; have := HMD.out; omega))
                exact ⟨permIn_trans _ _ _ a b P1.out (permIn_mono e1 e2 a mid a b (by have := HLIM.out; have := HEN.out; have := HMD.out; omega) (by have := HLIM.out; have := HEN.out; have := HMD.out; omega) (by have := P1.out.1; have := HSZ.out; have := HLIM.out; have := HEN.out; have := HMD.out; omega) P2.out), join_parts (by have := HLIM.out; have := HEN.out; have := HMD.out; omega) (by have := HLIM.out; have := HEN.out; have := HMD.out; omega) (by have := P1.out.1; have := HSZ.out; have := HLIM.out; have := HEN.out; have := HMD.out; omega) P2.out S2.out (permIn_refl e2 mid b) s3 CP.out.2.2.2.2⟩
              have z0 : ((mid : Int) < (en : Int) ∧ (en : Int) < (b : Int)) = False := by simp only [eq_iff_iff, iff_false]; have := HLIM.out; have := HEN.out; have := HMD.out; omega
              by_cases z1 : (mid : Int) < (en : Int)
              · have z2 : ¬ (en : Int) < (b : Int) := by have := HLIM.out; have := HEN.out; have := HMD.out; omega
                go_wp2_with fail
                all_goals (go_end0; exact ⟨rfl, ⟨e2, HF.out.1, HF.out.2, A2.out⟩, B2.out⟩)
              · go_wp2_with fail
                all_goals (go_end0; exact ⟨rfl, ⟨e2, HF.out.1, HF.out.2, A2.out⟩, B2.out⟩)
          ·
            by_cases hq3 : mid < en ∧ en < b
            · have z1 : (mid : Int) < (en : Int) := by have := HLIM.out; have := HEN.out; have := HMD.out; omega
              have z2 : (en : Int) < (b : Int) := by have := HLIM.out; have := HEN.out; have := HMD.out; omega
              have HE3 : Hid (SortedIn (ltF cf) mid en e2 ∧ SortedIn (ltF cf) en b e2) := ⟨sorted_out CP.out.2.2.1 P2.out (.inr (by have := HLIM.out; have := HEN.out; have := HMD.out; omega)), sorted_out CP.out.2.2.2.1 P2.out (.inr (by have := HLIM.out; have := HEN.out; have := HMD.out; omega))⟩
              have HV2 : Hid (∀ i, i < e2.size → V e2[i]!) := Lib.hid (by
                have q1 := perm_all P1.out (by have := HSZ.out; have := HLIM.out; have := HEN.out; have := HMD.out; omega) HV.out
                have q2 := perm_all P2.out (by have := P1.out.1; have := HSZ.out; have := HLIM.out; have := HEN.out; have := HMD.out; omega) (by rw [P1.out.1]; exact q1)
                rw [P2.out.1]; exact q2)
              go_wp2_with fail
              all_goals
                refine (IH.out mid en b e2 _ (by have := HLIM.out; have := HEN.out; have := HMD.out; omega) (by rw [P2.out.1, P1.out.1]; exact HSZ.out) HV2.out A2.out hq3.1 hq3.2 (by have := HLIM.out; have := HEN.out; have := HMD.out; omega) HE3.out.1 HE3.out.2).mono ?_
                rintro x w9 ⟨rfl, ⟨e3, p3, s3, a3⟩, b3⟩
                have HF : Hid (PermIn a b d e3 ∧ SortedIn (ltF cf) a b e3) := ⟨permIn_trans _ _ _ a b P1.out (permIn_trans _ _ _ a b (permIn_mono e1 e2 a mid a b (by have := HLIM.out; have := HEN.out; have := HMD.out; omega) (by have := HLIM.out; have := HEN.out; have := HMD.out; omega) (by have := P1.out.1; have := HSZ.out; have := HLIM.out; have := HEN.out; have := HMD.out; omega) P2.out) (permIn_mono e2 e3 mid b a b (by have := HLIM.out; have := HEN.out; have := HMD.out; omega) (by have := HLIM.out; have := HEN.out; have := HMD.out; omega) (by have := P1.out.1; have := P2.out.1; have := HSZ.out; have := HLIM.out; have := HEN.out; have := HMD.out; omega) p3)), join_parts (by have := HLIM.out; have := HEN.out; have := HMD.out; omega) (by have := HLIM.out; have := HEN.out; have := HMD.out; omega) (by have := P1.out.1; have := HSZ.out; have := HLIM.out; have := HEN.out; have := HMD.out; omega) P2.out S2.out p3 s3 CP.out.2.2.2.2⟩
                have A3 := Lib.hid a3
                have B3 := Lib.hid (B2.out.trans b3)
                clear p3 s3 a3 b3
                go_wp2_with fail
                go_end0
                exact ⟨rfl, ⟨e3, HF.out.1, HF.out.2, A3.out⟩, B3.out⟩
            · have HF : Hid (PermIn a b d e2 ∧ SortedIn (ltF cf) a b e2) := by
                have s3 : SortedIn (ltF cf) mid b e2 := by
                  by_cases hz : mid < en
                  · have hz2 : en = b := by have := HLIM.out; have := HEN.out; have := HMD.out; omega
                    rw [← hz2]; exact sorted_out CP.out.2.2.1 P2.out (.inr (by have := HLIM.out; have := HEN.out; have := HMD.out; omega))
                  · have hz2 : en = mid := by have := HLIM.out; have := HEN.out; have := HMD.out; omega
                    rw [← hz2]; exact sorted_out CP.out.2.2.2.1 P2.out (.inr (by have := HLIM.out; have := HEN.out; have := HMD.out; omega))
                exact ⟨permIn_trans _ _ _ a b P1.out (permIn_mono e1 e2 a mid a b (by have := HLIM.out; have := HEN.out; have := HMD.out; omega) (by have := HLIM.out; have := HEN.out; have := HMD.out; omega) (by have := P1.out.1; have := HSZ.out; have := HLIM.out; have := HEN.out; have := HMD.out; omega) P2.out), join_parts (by have := HLIM.out; have := HEN.out; have := HMD.out; omega) (by have := HLIM.out; have := HEN.out; have := HMD.out; omega) (by have := P1.out.1; have := HSZ.out; have := HLIM.out; have := HEN.out; have := HMD.out; omega) P2.out S2.out (permIn_refl e2 mid b) s3 CP.out.2.2.2.2⟩
              have z0 : ((mid : Int) < (en : Int) ∧ (en : Int) < (b : Int)) = False := by simp only [eq_iff_iff, iff_false]; have := HLIM.out; have := HEN.out; have := HMD.out; omega
              by_cases z1 : (mid : Int) < (en : Int)
              · have z2 : ¬ (en : Int) < (b : Int) := by have := HLIM.out; have := HEN.out; have := HMD.out; omega
                go_wp2_with fail
                all_goals (go_end0; exact ⟨rfl, ⟨e2, HF.out.1, HF.out.2, A2.out⟩, B2.out⟩)
              · go_wp2_with fail
                all_goals (go_end0; exact ⟨rfl, ⟨e2, HF.out.1, HF.out.2, A2.out⟩, B2.out⟩)
      · obtain ⟨e1, he1⟩ : ∃ e1, e1 = d := ⟨_, rfl⟩
        have hrot : Rot s m en d e1 := by rw [he1]; exact rot_none d (by have := HLIM.out; have := HEN.out; have := HMD.out; omega) (by have := HLIM.out; have := HEN.out; have := HMD.out; omega) (by have := HLIM.out; have := HEN.out; have := HMD.out; omega)
        have P1 : Hid (PermIn a b d e1) := by rw [he1]; exact permIn_refl d a b
        have A1 : Hid (FArr 23 wr g e1) := by rw [he1]; exact hA.out
        have B1 : Hid (Below g w wr) := hB.out
        clear he1 hA hB
        have CP : Hid (SortedIn (ltF cf) a s e1 ∧ SortedIn (ltF cf) s mid e1 ∧ SortedIn (ltF cf) mid en e1 ∧ SortedIn (ltF cf) en b e1 ∧ ∀ x y, a ≤ x → x < mid → mid ≤ y → y < b → ltF cf e1[y]! e1[x]! = false) := by
          have q := cut_parts HS.out (show a ≤ s by have := HLIM.out; have := HEN.out; have := HMD.out; omega) (show s ≤ m by have := HLIM.out; have := HEN.out; have := HMD.out; omega) (show m ≤ en by have := HLIM.out; have := HEN.out; have := HMD.out; omega) (show en ≤ b by have := HLIM.out; have := HEN.out; have := HMD.out; omega) HA.out HBb.out HC1.out HC2.out hrot
          have hmid2 : s + (en - m) = mid := by have := HLIM.out; have := HEN.out; have := HMD.out; omega
          rw [hmid2] at q
          exact q
        clear hrot
        by_cases x1 : (s : Int) < (m : Int)
        · have x2 : ¬ (m : Int) < (en : Int) := by have := HLIM.out; have := HEN.out; have := HMD.out; omega
          by_cases hq2 : a < s ∧ s < mid
          · have y1 : (a : Int) < (s : Int) := by have := HLIM.out; have := HEN.out; have := HMD.out; omega
            have y2 : (s : Int) < (mid : Int) := by have := HLIM.out; have := HEN.out; have := HMD.out; omega
            have HV1 : Hid (∀ i, i < e1.size → V e1[i]!) := Lib.hid (by
              have q1 := perm_all P1.out (by have := HSZ.out; have := HLIM.out; have := HEN.out; have := HMD.out; omega) HV.out
              rw [P1.out.1]; exact q1)
            go_wp2_with fail
            refine (IH.out a s mid e1 _ (by have := HLIM.out; have := HEN.out; have := HMD.out; omega) (by rw [P1.out.1]; exact HSZ.out) HV1.out A1.out hq2.1 hq2.2 (by have := HLIM.out; have := HEN.out; have := HMD.out; omega) CP.out.1 CP.out.2.1).mono ?_
            rintro x w8 ⟨rfl, ⟨e2, p2, s2, a2⟩, b2⟩
            have P2 := Lib.hid p2
            have S2 := Lib.hid s2
            have A2 := Lib.hid a2
            have B2 := Lib.hid (B1.out.trans b2)
            clear p2 s2 a2 b2 HV1
            by_cases hq3 : mid < en ∧ en < b
            · have z1 : (mid : Int) < (en : Int) := by have := HLIM.out; have := HEN.out; have := HMD.out; omega
              have z2 : (en : Int) < (b : Int) := by have := HLIM.out; have := HEN.out; have := HMD.out; omega
              have HE3 : Hid (SortedIn (ltF cf) mid en e2 ∧ SortedIn (ltF cf) en b e2) := ⟨sorted_out CP.out.2.2.1 P2.out (.inr (by have := HLIM.out; have := HEN.out; have := HMD.out; omega)), sorted_out CP.out.2.2.2.1 P2.out (.inr (by have := HLIM.out; have := HEN.out; have := HMD.out; omega))⟩
              have HV2 : Hid (∀ i, i < e2.size → V e2[i]!) := Lib.hid (by
                have q1 := perm_all P1.out (by have := HSZ.out; have := HLIM.out; have := HEN.out; have := HMD.out; omega) HV.out
                have q2 := perm_all P2.out (by have := P1.out.1; have := HSZ.out; have := HLIM.out; have := HEN.out; have := HMD.out; omega) (by rw [P1.out.1]; exact q1)
                rw [P2.out.1]; exact q2)
              go_wp2_with fail
              all_goals
                refine (IH.out mid en b e2 _ (by have := HLIM.out; have := HEN.out; have := HMD.out; omega) (by rw [P2.out.1, P1.out.1]; exact HSZ.out) HV2.out A2.out hq3.1 hq3.2 (by have := HLIM.out; have := HEN.out; have := HMD.out; omega) HE3.out.1 HE3.out.2).mono ?_
                rintro x w9 ⟨rfl, ⟨e3, p3, s3, a3⟩, b3⟩
                have HF : Hid (PermIn a b d e3 ∧ SortedIn (ltF cf) a b e3) := ⟨permIn_trans _ _ _ a b P1.out (permIn_trans _ _ _ a b (permIn_mono e1 e2 a mid a b (by have := HLIM.out; have := HEN.out; have := HMD.out; omega) (by have := HLIM.out; have := HEN.out; have := HMD.out; omega) (by have := P1.out.1; have := HSZ.out; have := HLIM.out; have := HEN.out; have := HMD.out; omega) P2.out) (permIn_mono e2 e3 mid b a b (by have := HLIM.out; have := HEN.out; have := HMD.out; omega) (by have := HLIM.out; have := HEN.out; have := HMD.out; omega) (by have := P1.out.1; have := P2.out.1; have := HSZ.out; have := HLIM.out; have := HEN.out; have := HMD.out; omega) p3)), join_parts (by have := HLIM.out; have := HEN.out; have := HMD.out; omega) (by have := HLIM.out; have := HEN.out; have := HMD.out; omega) (by have := P1.out.1; have := HSZ.out; have := HLIM.out; have := HEN.out; have := HMD.out; omega) P2.out S2.out p3 s3 CP.out.2.2.2.2⟩
                have A3 := Lib.hid a3
                have B3 := Lib.hid (B2.out.trans b3)
                clear p3 s3 a3 b3
                go_wp2_with fail
                go_end0
                exact ⟨rfl, ⟨e3, HF.out.1, HF.out.2, A3.out⟩, B3.out⟩
            · have HF : Hid (PermIn a b d e2 ∧ SortedIn (ltF cf) a b e2) := by
                have s3 : SortedIn (ltF cf) mid b e2 := by
                  by_cases hz : mid < en
                  · have hz2 : en = b := by have := HLIM.out; have := HEN.out; have := HMD.out; omega
                    rw [← hz2]; exact sorted_out CP.out.2.2.1 P2.out (.inr (by have := HLIM.out; have := HEN.out; have := HMD.out; omega))
                  · have hz2 : en = mid := by have := HLIM.out; have := HEN.out; have := HMD.out; omega
                    rw [← hz2]; exact sorted_out CP.out.2.2.2.1 P2.out (.inr (by have := HLIM.out; have := HEN.out; have := HMD.out; omega))
                exact ⟨permIn_trans _ _ _ a b P1.out (permIn_mono e1 e2 a mid a b (by have := HLIM.out; have := HEN.out; have := HMD.out; omega) (by have := HLIM.out; have := HEN.out; have := HMD.out; omega) (by have := P1.out.1; have := HSZ.out; have := HLIM.out; have := HEN.out; have := HMD.out; omega) P2.out), join_parts (by have := HLIM.out; have := HEN.out; have := HMD.out; omega) (by have := HLIM.out; have := HEN.out; have := HMD.out; omega) (by have := P1.out.1; have := HSZ.out; have := HLIM.out; have := HEN.out; have := HMD.out; omega) P2.out S2.out (permIn_refl e2 mid b) s3 CP.out.2.2.2.2⟩
              have z0 : ((mid : Int) < (en : Int) ∧ (en : Int) < (b : Int)) = False := by simp only [eq_iff_iff, iff_false]; have := HLIM.out; have := HEN.out; have := HMD.out; omega
              by_cases z1 : (mid : Int) < (en : Int)
              · have z2 : ¬ (en : Int) < (b : Int) := by have := HLIM.out; have := HEN.out; have := HMD.out; omega
                go_wp2_with fail
                all_goals (go_end0; exact ⟨rfl, ⟨e2, HF.out.1, HF.out.2, A2.out⟩, B2.out⟩)
              · go_wp2_with fail
                all_goals (go_end0; exact ⟨rfl, ⟨e2, HF.out.1, HF.out.2, A2.out⟩, B2.out⟩)
          · obtain ⟨e2, he2⟩ : ∃ e2, e2 = e1 := ⟨_, rfl⟩
            have S2 : Hid (SortedIn (ltF cf) a mid e2) := by
              rw [he2]
              by_cases hz : a < s
              · have hz2 : s = mid := by have := HLIM.out; have := HEN.out; have := HMD.out; omega
                rw [← hz2]; exact CP.out.1
              · have hz2 : s = a := by have := HLIM.out; have := HEN.out; have := HMD.out; omega
                rw [← hz2]; exact CP.out.2.1
            have P2 : Hid (PermIn a mid e1 e2) := by rw [he2]; exact permIn_refl e1 a mid
            have A2 : Hid (FArr 23 wr g e2) := by rw [he2]; exact A1.out
            have B2 : Hid (Below g w wr) := B1.out
            clear he2
            by_cases y1 : (a : Int) < (s : Int)
            · have y2 : ¬ (s : Int) < (mid : Int) := by have := HLIM.out; have := HEN.out; have := HMD.out; omega
              by_cases hq3 : mid < en ∧ en < b
              · have z1 : (mid : Int) < (en : Int) := by have := HLIM.out; have := HEN.out; have := HMD.out; omega
                have z2 : (en : Int) < (b : Int) := by have := HLIM.out; have := HEN.out; have := HMD.out; omega
                have HE3 : Hid (SortedIn (ltF cf) mid en e2 ∧ SortedIn (ltF cf) en b e2) := ⟨sorted_out CP.out.2.2.1 P2.out (.inr (by have := HLIM.out; have := HEN.out; have := HMD.out; omega)), sorted_out CP.out.2.2.2.1 P2.out (.inr (by have := HLIM.out; have := HEN.out; have := HMD.out; omega))⟩
                have HV2 : Hid (∀ i, i < e2.size → V e2[i]!) := Lib.hid (by
                  have q1 := perm_all P1.out (by have := HSZ.out; have := HLIM.out; have := HEN.out; have := HMD.out; omega) HV.out
                  have q2 := perm_all P2.out (by have := P1.out.1; have := HSZ.out; have := HLIM.out; have := HEN.out; have := HMD.out; omega) (by rw [P1.out.1]; exact q1)
                  rw [P2.out.1]; exact q2)
                go_wp2_with fail
                all_goals
                  refine (IH.out mid en b e2 _ (by have := HLIM.out; have := HEN.out; have := HMD.out; omega) (by rw [P2.out.1, P1.out.1]; exact HSZ.out) HV2.out A2.out hq3.1 hq3.2 (by have := HLIM.out; have := HEN.out; have := HMD.out; omega) HE3.out.1 HE3.out.2).mono ?_
                  rintro x w9 ⟨rfl, ⟨e3, p3, s3, a3⟩, b3⟩
                  have HF : Hid (PermIn a b d e3 ∧ SortedIn (ltF cf) a b e3) := ⟨permIn_trans _ _ _ a b P1.out (permIn_trans _ _ _ a b (permIn_mono e1 e2 a mid a b (by have := HLIM.out; have := HEN.out; have := HMD.out; omega) (by have := HLIM.out; have := HEN.out; have := HMD.out; omega) (by have := P1.out.1; have := HSZ.out; have := HLIM.out; have := HEN.out; have := HMD.out; omega) P2.out) (permIn_mono e2 e3 mid b a b (by have := HLIM.out; have := HEN.out; have := HMD.out; omega) (by have := HLIM.out; have := HEN.out; have := HMD.out; omega) (by have := P1.out.1; have := P2.out.1; have := HSZ.out; have := HLIM.out; have := HEN.out; have := HMD.out; omega) p3)), join_parts (by have := HLIM.out; have := HEN.out; have := HMD.out; omega) (by have := HLIM.out; have := HEN.out; have := HMD.out; omega) (by have := P1.out.1; have := HSZ.out; have := HLIM.out; have := HEN.out; have := HMD.out; omega) P2.out S2.out p3 s3 CP.out.2.2.2.2⟩
                  have A3 := Lib.hid a3
                  have B3 := Lib.hid (B2.out.trans b3)
                  clear p3 s3 a3 b3
                  go_wp2_with fail
                  go_end0
                  exact ⟨rfl, ⟨e3, HF.out.1, HF.out.2, A3.out⟩, B3.out⟩
              · have HF : Hid (PermIn a b d e2 ∧ SortedIn (ltF cf) a b e2) := by
                  have s3 : SortedIn (ltF cf) mid b e2 := by
                    by_cases hz : mid < en
                    · have hz2 : en = b := by have := HLIM.out; have := HEN.out; have := HMD.out; omega
                      rw [← hz2]; exact sorted_out CP.out.2.2.1 P2.out (.inr (by have := HLIM.out; have := HEN.out; have := HMD.out; omega))
                    · have hz2 : en = mid := by have := HLIM.out; have := HEN.out; have := HMD.out; omega
                      rw [← hz2]; exact sorted_out CP.out.2.2.2.1 P2.out (.inr (by have := HLIM.out; have := HEN.out; have := HMD.out; omega))
                  exact ⟨permIn_trans _ _ _ a b P1.out (permIn_mono e1 e2 a mid a b (by have := HLIM.out; have := HEN.out; have := HMD.out; omega) (by have := HLIM.out; have := HEN.out; have := HMD.out; omega) (by have := P1.out.1; have := HSZ.out; have := HLIM.out; have := HEN.out; have := HMD.out; omega) P2.out), join_parts (by have := HLIM.out; have := HEN.out; have := HMD.out; omega) (by have := HLIM.out; have := HEN.out; have := HMD.out; omega) (by have := P1.out.1; have := HSZ.out; have := HLIM.out; have := HEN.out; have := HMD.out; omega) P2.out S2.out (permIn_refl e2 mid b) s3 CP.out.2.2.2.2⟩
                have z0 : ((mid : Int) < (en : Int) ∧ (en : Int) < (b : Int)) = False := by simp only [eq_iff_iff, iff_false]; have := HLIM.out; have := HEN.out; have := HMD.out; omega
                by_cases z1 : (mid : Int) < (en : Int)
                · have z2 : ¬ (en : Int) < (b : Int) := by have := HLIM.out; have := HEN.out; have := HMD.out; omega
                  go_wp2_with fail
                  all_goals (go_end0; exact ⟨rfl, ⟨e2, HF.out.1, HF.out.2, A2.out⟩, B2.out⟩)
                · go_wp2_with fail
                  all_goals (go_end0; exact ⟨rfl, ⟨e2, HF.out.1, HF.out.2, A2.out⟩, B2.out⟩)
            ·
              by_cases hq3 : mid < en ∧ en < b
              · have z1 : (mid : Int) < (en : Int) := by have := HLIM.out; have := HEN.out; have := HMD.out; omega
                have z2 : (en : Int) < (b : Int) := by have := HLIM.out; have := HEN.out; have := HMD.out; omega
                have HE3 : Hid (SortedIn (ltF cf) mid en e2 ∧ SortedIn (ltF cf) en b e2) := ⟨sorted_out CP.out.2.2.1 P2.out (.inr (by have := HLIM.out; have := HEN.out; have := HMD.out; omega)), sorted_out CP.out.2.2.2.1 P2.out (.inr (by have := HLIM.out; have := HEN.out; have := HMD.out; omega))⟩
                have HV2 : Hid (∀ i, i < e2.size → V e2[i]!) := Lib.hid (by
                  have q1 := perm_all P1.out (by have := HSZ.out; have := HLIM.out; have := HEN.out; have := HMD.out; omega) HV.out
                  have q2 := perm_all P2.out (by have := P1.out.1; have := HSZ.out; have := HLIM.out; have := HEN.out; have := HMD.out; omega) (by rw [P1.out.1]; exact q1)
                  rw [P2.out.1]; exact q2)
                go_wp2_with fail
                all_goals
                  refine (IH.out mid en b e2 _ (by have := HLIM.out; have := HEN.out; have := HMD.out; omega) (by rw [P2.out.1, P1.out.1]; exact HSZ.out) HV2.out A2.out hq3.1 hq3.2 (by have := HLIM.out; have := HEN.out; have := HMD.out; omega) HE3.out.1 HE3.out.2).mono ?_
                  rintro x w9 ⟨rfl, ⟨e3, p3, s3, a3⟩, b3⟩
                  have HF : Hid (PermIn a b d e3 ∧ SortedIn (ltF cf) a b e3) := ⟨permIn_trans _ _ _ a b P1.out (permIn_trans _ _ _ a b (permIn_mono e1 e2 a mid a b (by have := HLIM.out; have := HEN.out; have := HMD.out; omega) (by have := HLIM.out; have := HEN.out; have := HMD.out; omega) (by have := P1.out.1; have := HSZ.out; have := HLIM.out; have := HEN.out; have := HMD.out; omega) P2.out) (permIn_mono e2 e3 mid b a b (by have := HLIM.out; have := HEN.out; have := HMD.out; omega) (by have := HLIM.out; have := HEN.out; have := HMD.out; omega) (by have := P1.out.1; have := P2.out.1; have := HSZ.out; have := HLIM.out; have := HEN.out; have := HMD.out; omega) p3)), join_parts (by have := HLIM.out; have := HEN.out; have := HMD.out; omega) (by have := HLIM.out; have := HEN.out; have := HMD.out; omega) (by have := P1.out.1; have := HSZ.out; have := HLIM.out; have := HEN.out; have := HMD.out; omega) P2.out S2.out p3 s3 CP.out.2.2.2.2⟩
                  have A3 := Lib.hid a3
                  have B3 := Lib.hid (B2.out.trans b3)
                  clear p3 s3 a3 b3
                  go_wp2_with fail
                  go_end0
                  exact ⟨rfl, ⟨e3, HF.out.1, HF.out.2, A3.out⟩, B3.out⟩
              · have HF : Hid (PermIn a b d e2 ∧ SortedIn (ltF cf) a b e2) := by
                  have s3 : SortedIn (ltF cf) mid b e2 := by
                    by_cases hz : mid < en
                    · have hz2 : en = b := by have := HLIM.out; have := HEN.out; have := HMD.out; omega
                      rw [← hz2]; exact sorted_out CP.out.2.2.1 P2.out (.inr (by have := HLIM.out; have := HEN.out; have := HMD.out; omega))
                    · have hz2 : en = mid := by have := HLIM.out; have := HEN.out; have := HMD.out; omega
                      rw [← hz2]; exact sorted_out CP.out.2.2.2.1 P2.out (.inr (by have := HLIM.out; have := HEN.out; have := HMD.out; omega))
                  exact ⟨permIn_trans _ _ _ a b P1.out (permIn_mono e1 e2 a mid a b (by have := HLIM.out; have := HEN.out; have := HMD.out; omega) (by have := HLIM.out; have := HEN.out; have := HMD.out; omega) (by have := P1.out.1; have := HSZ.out; have := HLIM.out; have := HEN.out; have := HMD.out; omega) P2.out), join_parts (by have := HLIM.out; have := HEN.out; have := HMD.out; omega) (by have := HLIM.out; have := HEN.out; have := HMD.out; omega) (by have := P1.out.1; have := HSZ.out; have := HLIM.out; have := HEN.out; have := HMD.out; omega) P2.out S2.out (permIn_refl e2 mid b) s3 CP.out.2.2.2.2⟩
                have z0 : ((mid : Int) < (en : Int) ∧ (en : Int) < (b : Int)) = False := by simp only [eq_iff_iff, iff_false]; have := HLIM.out; have := HEN.out; have := HMD.out; omega
                by_cases z1 : (mid : Int) < (en : Int)
                · have z2 : ¬ (en : Int) < (b : Int) := by have := HLIM.out; have := HEN.out; have := HMD.out; omega
                  go_wp2_with fail
                  all_goals (go_end0; exact ⟨rfl, ⟨e2, HF.out.1, HF.out.2, A2.out⟩, B2.out⟩)
                · go_wp2_with fail
                  all_goals (go_end0; exact ⟨rfl, ⟨e2, HF.out.1, HF.out.2, A2.out⟩, B2.out⟩)
        ·
          by_cases hq2 : a < s ∧ s < mid
          · have y1 : (a : Int) < (s : Int) := by have := HLIM.out; have := HEN.out; have := HMD.out; omega
            have y2 : (s : Int) < (mid : Int) := by have := HLIM.out; have := HEN.out; have := HMD.out; omega
            have HV1 : Hid (∀ i, i < e1.size → V e1[i]!) := Lib.hid (by
              have q1 := perm_all P1.out (by have := HSZ.out; have := HLIM.out; have := HEN.out; have := HMD.out; omega) HV.out
              rw [P1.out.1]; exact q1)
            go_wp2_with fail
            refine (IH.out a s mid e1 _ (by have := HLIM.out; have := HEN.out; have := HMD.out; omega) (by rw [P1.out.1]; exact HSZ.out) HV1.out A1.out hq2.1 hq2.2 (by have := HLIM.out; have := HEN.out; have := HMD.out; omega) CP.out.1 CP.out.2.1).mono ?_
            rintro x w8 ⟨rfl, ⟨e2, p2, s2, a2⟩, b2⟩
            have P2 := Lib.hid p2
            have S2 := Lib.hid s2
            have A2 := Lib.hid a2
            have B2 := Lib.hid (B1.out.trans b2)
            clear p2 s2 a2 b2 HV1
            by_cases hq3 : mid < en ∧ en < b
            · have z1 : (mid : Int) < (en : Int) := by have := HLIM.out; have := HEN.out; have := HMD.out; omega
              have z2 : (en : Int) < (b : Int) := by have := HLIM.out; have := HEN.out; have := HMD.out; omega
              have HE3 : Hid (SortedIn (ltF cf) mid en e2 ∧ SortedIn (ltF cf) en b e2) := ⟨sorted_out CP.out.2.2.1 P2.out (.inr (by have := HLIM.out; have := HEN.out; have := HMD.out; omega)), sorted_out CP.out.2.2.2.1 P2.out (.inr (by have := HLIM.out; have := HEN.out; have := HMD.out; omega))⟩
              have HV2 : Hid (∀ i, i < e2.size → V e2[i]!) := Lib.hid (by
                have q1 := perm_all P1.out (by have := HSZ.out; have := HLIM.out; have := HEN.out; have := HMD.out; omega) HV.out
                have q2 := perm_all P2.out (by have := P1.out.1; have := HSZ.out; have := HLIM.out; have := HEN.out; have := HMD.out; omega) (by rw [P1.out.1]; exact q1)
                rw [P2.out.1]; exact q2)
              go_wp2_with fail
              all_goals
                refine (IH.out mid en b e2 _ (by have := HLIM.out; have := HEN.out; have := HMD.out; omega) (by rw [P2.out.1, P1.out.1]; exact HSZ.out) HV2.out A2.out hq3.1 hq3.2 (by have := HLIM.out; have := HEN.out; have := HMD.out; omega) HE3.out.1 HE3.out.2).mono ?_
                rintro x w9 ⟨rfl, ⟨e3, p3, s3, a3⟩, b3⟩
                have HF : Hid (PermIn a b d e3 ∧ SortedIn (ltF cf) a b e3) := ⟨permIn_trans _ _ _ a b P1.out (permIn_trans _ _ _ a b (permIn_mono e1 e2 a mid a b (by have := HLIM.out; have := HEN.out; have := HMD.out; omega) (by have := HLIM.out; have := HEN.out; have := HMD.out; omega) (by have := P1.out.1; have := HSZ.out; have := HLIM.out; have := HEN.out; have := HMD.out; omega) P2.out) (permIn_mono e2 e3 mid b a b (by have := HLIM.out; have := HEN.out; have := HMD.out; omega) (by have := HLIM.out; have := HEN.out; have := HMD.out; omega) (by have := P1.out.1; have := P2.out.1; have := HSZ.out; have := HLIM.out; have := HEN.out; have := HMD.out; omega) p3)), join_parts (by have := HLIM.out; have := HEN.out; have := HMD.out; omega) (by have := HLIM.out; have := HEN.out; have := HMD.out; omega) (by have := P1.out.1; have := HSZ.out; have := HLIM.out; have := HEN.out; have := HMD.out; omega) P2.out S2.out p3 s3 CP.out.2.2.2.2⟩
                have A3 := Lib.hid a3
                have B3 := Lib.hid (B2.out.trans b3)
                clear p3 s3 a3 b3
                go_wp2_with fail
                go_end0
                exact ⟨rfl, ⟨e3, HF.out.1, HF.out.2, A3.out⟩, B3.out⟩
            · have HF : Hid (PermIn a b d e2 ∧ SortedIn (ltF cf) a b e2) := by
                have s3 : SortedIn (ltF cf) mid b e2 := by
                  by_cases hz : mid < en
                  · have hz2 : en = b := by have := HLIM.out; have := HEN.out; have := HMD.out; omega
                    rw [← hz2]; exact sorted_out CP.out.2.2.1 P2.out (.inr (by have := HLIM.out; have := HEN.out; have := HMD.out; omega))
                  · have hz2 : en = mid := by have := HLIM.out; have := HEN.out; have := HMD.out; omega
                    rw [← hz2]; exact sorted_out CP.out.2.2.2.1 P2.out (.inr (by have := HLIM.out; have := HEN.out; have := HMD.out; omega))
                exact ⟨permIn_trans _ _ _ a b P1.out (permIn_mono e1 e2 a mid a b (by have := HLIM.out; have := HEN.out; have := HMD.out; omega) (by have := HLIM.out; have := HEN.out; have := HMD.out; omega) (by have := P1.out.1; have := HSZ.out; have := HLIM.out; have := HEN.out; have := HMD.out; omega) P2.out), join_parts (by have := HLIM.out; have := HEN.out; have := HMD.out; omega) (by have := HLIM.out; have := HEN.out; have := HMD.out; omega) (by have := P1.out.1; have := HSZ.out; have := HLIM.out; have := HEN.out; have := HMD.out; omega) P2.out S2.out (permIn_refl e2 mid b) s3 CP.out.2.2.2.2⟩
              have z0 : ((mid : Int) < (en : Int) ∧ (en : Int) < (b : Int)) = False := by simp only [eq_iff_iff, iff_false]; have := HLIM.out; have := HEN.out; have := HMD.out; omega
              by_cases z1 : (mid : Int) < (en : Int)
              · have z2 : ¬ (en : Int) < (b : Int) := by have := HLIM.out; have := HEN.out; have := HMD.out; omega
                go_wp2_with fail
                all_goals (go_end0; exact ⟨rfl, ⟨e2, HF.out.1, HF.out.2, A2.out⟩, B2.out⟩)
              · go_wp2_with fail
                all_goals (go_end0; exact ⟨rfl, ⟨e2, HF.out.1, HF.out.2, A2.out⟩, B2.out⟩)
          · obtain ⟨e2, he2⟩ : ∃ e2, e2 = e1 := ⟨_, rfl⟩
            have S2 : Hid (SortedIn (ltF cf) a mid e2) := by
              rw [he2]
              by_cases hz : a < s
              · have hz2 : s = mid := by have := HLIM.out; have := HEN.out; have := HMD.out; omega
                rw [← hz2]; exact CP.out.1
              · have hz2 : s = a := by have := HLIM.out; have := HEN.out; have := HMD.out; omega
                rw [← hz2]; exact CP.out.2.1
            have P2 : Hid (PermIn a mid e1 e2) := by rw [he2]; exact permIn_refl e1 a mid
            have A2 : Hid (FArr 23 wr g e2) := by rw [he2]; exact A1.out
            have B2 : Hid (Below g w wr) := B1.out
            clear he2
            by_cases y1 : (a : Int) < (s : Int)
            · have y2 : ¬ (s : Int) < (mid : Int) := by have := HLIM.out; have := HEN.out; have := HMD.out; omega
              by_cases hq3 : mid < en ∧ en < b
              · have z1 : (mid : Int) < (en : Int) := by have := HLIM.out; have := HEN.out; have := HMD.out; omega
                have z2 : (en : Int) < (b : Int) := by have := HLIM.out; have := HEN.out; have := HMD.out; omega
                have HE3 : Hid (SortedIn (ltF cf) mid en e2 ∧ SortedIn (ltF cf) en b e2) := ⟨sorted_out CP.out.2.2.1 P2.out (.inr (by have := HLIM.out; have := HEN.out; have := HMD.out; omega)), sorted_out CP.out.2.2.2.1 P2.out (.inr (by have := HLIM.out; have := HEN.out; have := HMD.out; omega))⟩
                have HV2 : Hid (∀ i, i < e2.size → V e2[i]!) := Lib.hid (by
                  have q1 := perm_all P1.out (by have := HSZ.out; have := HLIM.out; have := HEN.out; have := HMD.out; omega) HV.out
                  have q2 := perm_all P2.out (by have := P1.out.1; have := HSZ.out; have := HLIM.out; have := HEN.out; have := HMD.out; omega) (by rw [P1.out.1]; exact q1)
                  rw [P2.out.1]; exact q2)
                go_wp2_with fail
                all_goals
                  refine (IH.out mid en b e2 _ (by have := HLIM.out; have := HEN.out; have := HMD.out; omega) (by rw [P2.out.1, P1.out.1]; exact HSZ.out) HV2.out A2.out hq3.1 hq3.2 (by have := HLIM.out; have := HEN.out; have := HMD.out; omega) HE3.out.1 HE3.out.2).mono ?_
                  rintro x w9 ⟨rfl, ⟨e3, p3, s3, a3⟩, b3⟩
                  have HF : Hid (PermIn a b d e3 ∧ SortedIn (ltF cf) a b e3) := ⟨permIn_trans _ _ _ a b P1.out (permIn_trans _ _ _ a b (permIn_mono e1 e2 a mid a b (by have := HLIM.out; have := HEN.out; have := HMD.out; omega) (by have := HLIM.out; have := HEN.out; have := HMD.out; omega) (by have := P1.out.1; have := HSZ.out; have := HLIM.out; have := HEN.out; have := HMD.out; omega) P2.out) (permIn_mono e2 e3 mid b a b (by have := HLIM.out; have := HEN.out; have := HMD.out; omega) (by have := HLIM.out; have := HEN.out; have := HMD.out; omega) (by have := P1.out.1; have := P2.out.1; have := HSZ.out; have := HLIM.out; have := HEN.out; have := HMD.out; omega) p3)), join_parts (by have := HLIM.out; have := HEN.out; have := HMD.out; omega) (by have := HLIM.out; have := HEN.out; have := HMD.out; omega) (by have := P1.out.1; have := HSZ.out; have := HLIM.out; have := HEN.out; have := HMD.out; omega) P2.out S2.out p3 s3 CP.out.2.2.2.2⟩
                  have A3 := Lib.hid a3
                  have B3 := Lib.hid (B2.out.trans b3)
                  clear p3 s3 a3 b3
                  go_wp2_with fail
                  go_end0
                  exact ⟨rfl, ⟨e3, HF.out.1, HF.out.2, A3.out⟩, B3.out⟩
              · have HF : Hid (PermIn a b d e2 ∧ SortedIn (ltF cf) a b e2) := by
                  have s3 : SortedIn (ltF cf) mid b e2 := by
                    by_cases hz : mid < en
                    · have hz2 : en = b := by have := HLIM.out; have := HEN.out; have := HMD.out; omega
                      rw [← hz2]; exact sorted_out CP.out.2.2.1 P2.out (.inr (by have := HLIM.out; have := HEN.out; have := HMD.out; omega))
                    · have hz2 : en = mid := by have := HLIM.out; have := HEN.out; have := HMD.out; omega
                      rw [← hz2]; exact sorted_out CP.out.2.2.2.1 P2.out (.inr (by have := HLIM.out; have := HEN.out; have := HMD.out; omega))
                  exact ⟨permIn_trans _ _ _ a b P1.out (permIn_mono e1 e2 a mid a b (by have := HLIM.out; have := HEN.out; have := HMD.out; omega) (by have := HLIM.out; have := HEN.out; have := HMD.out; omega) (by have := P1.out.1; have := HSZ.out; have := HLIM.out; have := HEN.out; have := HMD.out; omega) P2.out), join_parts (by have := HLIM.out; have := HEN.out; have := HMD.out; omega) (by have := HLIM.out; have := HEN.out; have := HMD.out; omega) (by have := P1.out.1; have := HSZ.out; have := HLIM.out; have := HEN.out; have := HMD.out; omega) P2.out S2.out (permIn_refl e2 mid b) s3 CP.out.2.2.2.2⟩
                have z0 : ((mid : Int) < (en : Int) ∧ (en : Int) < (b : Int)) = False := by simp only [eq_iff_iff, iff_false]; have := HLIM.out; have := HEN.out; have := HMD.out; omega
                by_cases z1 : (mid : Int) < (en : Int)
                · have z2 : ¬ (en : Int) < (b : Int) := by have := HLIM.out; have := HEN.out; have := HMD.out; omega
                  go_wp2_with fail
                  all_goals (go_end0; exact ⟨rfl, ⟨e2, HF.out.1, HF.out.2, A2.out⟩, B2.out⟩)
                · go_wp2_with fail
                  all_goals (go_end0; exact ⟨rfl, ⟨e2, HF.out.1, HF.out.2, A2.out⟩, B2.out⟩)
            ·
              by_cases hq3 : mid < en ∧ en < b
              · have z1 : (mid : Int) < (en : Int) := by have := HLIM.out; have := HEN.out; have := HMD.out; omega
                have z2 : (en : Int) < (b : Int) := by have := HLIM.out; have := HEN.out; have := HMD.out; omega
                have HE3 : Hid (SortedIn (ltF cf) mid en e2 ∧ SortedIn (ltF cf) en b e2) := ⟨sorted_out CP.out.2.2.1 P2.out (.inr (by have := HLIM.out; have := HEN.out; have := HMD.out; omega)), sorted_out CP.out.2.2.2.1 P2.out (.inr (by have := HLIM.out; have := HEN.out; have := HMD.out; omega))⟩
                have HV2 : Hid (∀ i, i < e2.size → V e2[i]!) := Lib.hid (by
                  have q1 := perm_all P1.out (by have := HSZ.out; have := HLIM.out; have := HEN.out; have := HMD.out; omega) HV.out
                  have q2 := perm_all P2.out (by have := P1.out.1; have := HSZ.out; have := HLIM.out; have := HEN.out; have := HMD.out; omega) (by rw [P1.out.1]; exact q1)
                  rw [P2.out.1]; exact q2)
                go_wp2_with fail
                all_goals
                  refine (IH.out mid en b e2 _ (by have := HLIM.out; have := HEN.out; have := HMD.out; omega) (by rw [P2.out.1, P1.out.1]; exact HSZ.out) HV2.out A2.out hq3.1 hq3.2 (by have := HLIM.out; have := HEN.out; have := HMD.out; omega) HE3.out.1 HE3.out.2).mono ?_
                  rintro x w9 ⟨rfl, ⟨e3, p3, s3, a3⟩, b3⟩
                  have HF : Hid (PermIn a b d e3 ∧ SortedIn (ltF cf) a b e3) := ⟨permIn_trans _ _ _ a b P1.out (permIn_trans _ _ _ a b (permIn_mono e1 e2 a mid a b (by have := HLIM.out; have := HEN.out; have := HMD.out; omega) (by have := HLIM.out; have := HEN.out; have := HMD.out; omega) (by have := P1.out.1; have := HSZ.out; have := HLIM.out; have := HEN.out; have := HMD.out; omega) P2.out) (permIn_mono e2 e3 mid b a b (by have := HLIM.out; have := HEN.out; have := HMD.out; omega) (by have := HLIM.out; have := HEN.out; have := HMD.out; omega) (by have := P1.out.1; have := P2.out.1; have := HSZ.out; have := HLIM.out; have := HEN.out; have := HMD.out; omega) p3)), join_parts (by have := HLIM.out; have := HEN.out; have := HMD.out; omega) (by have := HLIM.out; have := HEN.out; have := HMD.out; omega) (by have := P1.out.1; have := HSZ.out; have := HLIM.out; have := HEN.out; have := HMD.out; omega) P2.out S2.out p3 s3 CP.out.2.2.2.2⟩
                  have A3 := Lib.hid a3
                  have B3 := Lib.hid (B2.out.trans b3)
                  clear p3 s3 a3 b3
                  go_wp2_with fail
                  go_end0
                  exact ⟨rfl, ⟨e3, HF.out.1, HF.out.2, A3.out⟩, B3.out⟩
              · have HF : Hid (PermIn a b d e2 ∧ SortedIn (ltF cf) a b e2) := by
                  have s3 : SortedIn (ltF cf) mid b e2 := by
                    by_cases hz : mid < en
                    · have hz2 : en = b := by have := HLIM.out; have := HEN.out; have := HMD.out; omega
                      rw [← hz2]; exact sorted_out CP.out.2.2.1 P2.out (.inr (by have := HLIM.out; have := HEN.out; have := HMD.out; omega))
                    · have hz2 : en = mid := by have := HLIM.out; have := HEN.out; have := HMD.out; omega
                      rw [← hz2]; exact sorted_out CP.out.2.2.2.1 P2.out (.inr (by have := HLIM.out; have := HEN.out; have := HMD.out; omega))
                  exact ⟨permIn_trans _ _ _ a b P1.out (permIn_mono e1 e2 a mid a b (by have := HLIM.out; have := HEN.out; have := HMD.out; omega) (by have := HLIM.out; have := HEN.out; have := HMD.out; omega) (by have := P1.out.1; have := HSZ.out; have := HLIM.out; have := HEN.out; have := HMD.out; omega) P2.out), join_parts (by have := HLIM.out; have := HEN.out; have := HMD.out; omega) (by have := HLIM.out; have := HEN.out; have := HMD.out; omega) (by have := P1.out.1; have := HSZ.out; have := HLIM.out; have := HEN.out; have := HMD.out; omega) P2.out S2.out (permIn_refl e2 mid b) s3 CP.out.2.2.2.2⟩
                have z0 : ((mid : Int) < (en : Int) ∧ (en : Int) < (b : Int)) = False := by simp only [eq_iff_iff, iff_false]; have := HLIM.out; have := HEN.out; have := HMD.out; omega
                by_cases z1 : (mid : Int) < (en : Int)
                · have z2 : ¬ (en : Int) < (b : Int) := by have := HLIM.out; have := HEN.out; have := HMD.out; omega
                  go_wp2_with fail
                  all_goals (go_end0; exact ⟨rfl, ⟨e2, HF.out.1, HF.out.2, A2.out⟩, B2.out⟩)
                · go_wp2_with fail
                  all_goals (go_end0; exact ⟨rfl, ⟨e2, HF.out.1, HF.out.2, A2.out⟩, B2.out⟩)
set_option maxRecDepth 100000 in
set_option maxHeartbeats 16000000 in
theorem symC2F_any (cf : Nat → Nat → Int) (V : Nat → Prop) (fc : Nat) (lb : Array Value) (eg : ∀ args w, (callFunc fc args).run Try.prog w = .ok (.enter fc args) w) (hS : SWO (ltF cf)) (hc : CmpF cf V fc lb)
    (cap g a m b sz N : Nat) (hN : b - a ≤ N + 1) (ih : SymOkF cf V fc lb cap g sz N) (h1 : m ≠ a + 1) (h2 : b ≠ m + 1) (mid : Nat) (hmd : mid = (a + b) / 2) (hcase : m ≤ mid) (d : Array (Nat)) (hsz : d.size = sz) (hV : ∀ i, i < d.size → V d[i]!) (w : World) (h : FArr 23 w g d) (ham : a < m) (hmb : m < b) (hb : b ≤ sz) (hs : sz ≤ 1048576) (hl : SortedIn (ltF cf) a m d) (hr : SortedIn (ltF cf) m b d) :
    Calls Try.prog 133 #[.slice (some ⟨g, 0, none⟩) sz cap, .int .i64 a, .int .i64 m, .int .i64 b, .func (.func fc) #[] lb] w fun e w' => e = .returned (.tuple #[]) ∧ (∃ d', PermIn a b d d' ∧ SortedIn (ltF cf) a b d' ∧ FArr 23 w' g d') ∧ Below g w w' := by
  have mixed : Try.prog.follows .mixedOrders = true := by kernel_rfl
  have H := Lib.hid h
  have HSZ := Lib.hid hsz
  have HV := Lib.hid hV
  have HC := Lib.hid hc
  have HS := Lib.hid hS
  have HA := Lib.hid hl
  have HBb := Lib.hid hr
  have IH := Lib.hid ih
  have hn1 : ((m : Int) - (a : Int) == 1) = false := beq_false_of_ne (by omega)
  have hn2 : ((b : Int) - (m : Int) == 1) = false := beq_false_of_ne (by omega)
  have hmid : ((a : Int) + (b : Int)) / 2 = (mid : Int) := by omega
  have HMD : Hid (a < mid ∧ mid < b ∧ mid - a < b - a ∧ b - mid < b - a ∧ b - a ≤ N + 1) := by show _ ∧ _; omega
  have hgt : ¬ (mid : Int) < (m : Int) := by omega
  have HF0 : Hid (m ≤ mid ∧ mid + m ≤ a + b ∧ mid < b) := by show _ ∧ _; omega
  clear h hsz hV hc hS hl hr ih h1 h2 hmd hcase hN
  go_enter Try.func133, Try.ntmps133
  go_wp2_with fail
  go_loopg [20, 21] (m - a) (fun k vi vj wr => ∃ (i j : Nat), vi = .int .i64 i ∧ vj = .int .i64 j ∧ a ≤ i ∧ i ≤ j ∧ j ≤ m ∧ Hid (j - i ≤ k) ∧ Hid (i = a ∨ ltF cf d[mid + m - i]! d[i - 1]! = false) ∧ Hid (j = m ∨ ltF cf d[mid + m - 1 - j]! d[j]! = true) ∧ Hid (FArr 23 wr g d) ∧ Hid (Below g w wr))
  case atStart => exact ⟨a, m, by go_num, by go_num, Nat.le_refl _, by have := HF0.out; omega, Nat.le_refl _, Nat.le_refl _, .inl rfl, .inl rfl, H.out, Below.refl _ _⟩
  case round =>
    obtain ⟨i, j, rfl, rfl, hai, hij, hjb, hk, hL, hR, hA, hB⟩ := hrel
    by_cases hlt : i < j
    · have hltz : (i : Int) < (j : Int) := by omega
      go_wp2_with fail
      obtain ⟨h, hh, hh1, hh2⟩ : ∃ h : Nat, ((i : Int) + (j : Int)) / 2 = (h : Int) ∧ i ≤ h ∧ h < j := ⟨(i + j) / 2, by omega, by omega, by omega⟩
      rw [hh]
      obtain ⟨pc, hpc⟩ : ∃ pc, mid + m = pc + 1 + h := ⟨mid + m - 1 - h, by have := HF0.out; omega⟩
      have hpz : (mid : Int) + (m : Int) - 1 - (h : Int) = (pc : Int) := by omega
      have HPC : Hid (mid + m = pc + 1 + h ∧ pc < sz ∧ h < sz) := by have := HF0.out; show _ ∧ _; omega
      clear hpc
      have HS1 : Hid (pc < d.size) := by have := HSZ.out; have := HPC.out; show _ < _; omega
      have HS2 : Hid (h < d.size) := by have := HSZ.out; have := HPC.out; show _ < _; omega
      obtain ⟨x, hx⟩ : ∃ x, d[pc]! = x := ⟨_, rfl⟩
      obtain ⟨y, hy⟩ : ∃ y, d[h]! = y := ⟨_, rfl⟩
      have HX := Lib.hid hx
      have HY := Lib.hid hy
      have hvx : V x := by rw [← hx]; exact HV.out _ HS1.out
      have hvy : V y := by rw [← hy]; exact HV.out _ HS2.out
      have hAg : ∀ n os, FArr 23 (Go.Sort.grow (wr.drewN n) os) g d := fun n os => hA.out.keep (Grn.below ⟨n, os, rfl⟩)
      have HAg := Lib.hid hAg
      have HBg : Hid (∀ n os, Below g w (Go.Sort.grow (wr.drewN n) os)) := Lib.hid fun n os => hB.out.trans ((Grn.below ⟨n, os, rfl⟩).mono (Nat.le_of_lt hA.out.1.lt))
      have r1 := fun n os => (hAg n os).2 pc HS1.out
      have r3 := fun n os => (hAg n os).2 h HS2.out
      rw [hx] at r1
      rw [hy] at r3
      have hcg := fun n os => HC.out (Go.Sort.grow (wr.drewN n) os) x y hvx hvy
      clear hx hy hvx hvy hAg hA hB
      have jz : (pc : Int) < (sz : Int) := by have := HPC.out; omega
      have jz1 : (h : Int) < (sz : Int) := by have := HPC.out; omega
      have hwp : IntKind.i64.wrap (pc : Int) = (pc : Int) := by rw [IntKind.wrap_i64]; have := HPC.out; omega
      have hwp2 : IntKind.i64.wrap ((mid : Int) + (m : Int) - 1 - (h : Int)) = (pc : Int) := by rw [hpz]; exact hwp
      by_cases hlv : ¬ cf x y < 0
      · have HLV : Hid (ltF cf x y = false) := decide_eq_false hlv
        have HL2 : Hid (h + 1 = a ∨ ltF cf d[mid + m - (h + 1)]! d[h + 1 - 1]! = false) := .inr (by
          rw [show mid + m - (h + 1) = pc by have := HPC.out; omega, Nat.add_sub_cancel, HX.out, HY.out]; exact HLV.out)
        clear hL
        go_quiet_grown (first | (go_at_fn fc; refine Go.Calls.grown_of (hcg _ _)))
        go_wp2_with fail
        go_roundg (j - (h + 1))
        case measure => have := hk.out; omega
        case rel => exact ⟨h + 1, j, by go_num, rfl, by omega, by omega, by omega, Nat.le_refl _, HL2.out, hR.out, HAg.out _ _, HBg.out _ _⟩
      · have hlv : cf x y < 0 := Classical.not_not.1 hlv
        have HLV : Hid (ltF cf x y = true) := decide_eq_true hlv
        have HR2 : Hid (h = m ∨ ltF cf d[mid + m - 1 - h]! d[h]! = true) := .inr (by
          rw [show mid + m - 1 - h = pc by have := HPC.out; omega, HX.out, HY.out]; exact HLV.out)
        clear hR
        go_quiet_grown (first | (go_at_fn fc; refine Go.Calls.grown_of (hcg _ _)))
        go_wp2_with fail
        go_roundg (h - i)
        case measure => have := hk.out; omega
        case rel => exact ⟨i, h, rfl, by go_num, by omega, by omega, by omega, Nat.le_refl _, hL.out, HR2.out, HAg.out _ _, HBg.out _ _⟩
    · have hltz : ¬ (i : Int) < (j : Int) := by omega
      obtain rfl : i = j := by omega
      obtain ⟨s, rfl⟩ : ∃ s, s = i := ⟨i, rfl⟩
      obtain ⟨en, hen⟩ : ∃ en, mid + m = en + s := ⟨mid + m - s, by have := HF0.out; omega⟩
      have henz : (mid : Int) + (m : Int) - (s : Int) = (en : Int) := by omega
      have HC1 : Hid (s = a ∨ en = b ∨ ltF cf d[en]! d[s - 1]! = false) := by
        rcases hL.out with q | q
        · have := HF0.out
          show _ ∨ _
          omega
        · rw [show mid + m - s = en by omega] at q; exact .inr (.inr q)
      have HC2 : Hid (s = m ∨ en = m ∨ ltF cf d[en - 1]! d[s]! = true) := by
        rcases hR.out with q | q
        · show _ ∨ _
          omega
        · rw [show mid + m - 1 - s = en - 1 by omega] at q; exact .inr (.inr q)
      have HEN : Hid (mid + m = en + s) := hen
      have HLIM : Hid (a ≤ s ∧ s ≤ m ∧ s ≤ mid ∧ m ≤ en ∧ en ≤ b ∧ mid ≤ en) := by have := HF0.out; have := HMD.out; show _ ∧ _; omega
      clear hlt hL hR hen
      by_cases hq1 : s < m ∧ m < en
      · have x1 : (s : Int) < (m : Int) := by have := HLIM.out; have := HEN.out; have := HMD.out; omega
        have x2 : (m : Int) < (en : Int) := by have := HLIM.out; have := HEN.out; have := HMD.out; omega
        go_wp2_with fail
        refine (rotateF_any (.func (.func fc) #[] lb) cap g s m en sz d HSZ.out _ hA.out hq1.1 hq1.2 (by have := HLIM.out; have := HEN.out; have := HMD.out; omega) hs).mono ?_
        rintro x w7 ⟨rfl, ⟨e1, hrot, p1, a1⟩, b1⟩
        have P1 := Lib.hid (permIn_mono d e1 s en a b (by have := HLIM.out; have := HEN.out; have := HMD.out; omega) (by have := HLIM.out; have := HEN.out; have := HMD.out; omega) (by have := HSZ.out; have := HLIM.out; have := HEN.out; have := HMD.out; omega) p1)
        have A1 := Lib.hid a1
        have B1 := Lib.hid (hB.out.trans b1)
        clear p1 a1 b1 hA hB
        have CP : Hid (SortedIn (ltF cf) a s e1 ∧ SortedIn (ltF cf) s mid e1 ∧ SortedIn (ltF cf) mid en e1 ∧ SortedIn (ltF cf) en b e1 ∧ ∀ x y, a ≤ x → x < mid → mid ≤ y → y < b → ltF cf e1[y]! e1[x]! = false) := by
          have q := cut_parts HS.out (show a ≤ s by have := HLIM.out; have := HEN.out; have := HMD.out; omega) (show s ≤ m by have := HLIM.out; have := HEN.out; have := HMD.out; omega) (show m ≤ en by have := HLIM.out; have := HEN.out; have := HMD.out; omega) (show en ≤ b by have := HLIM.out; have := HEN.out; have := HMD.out; omega) HA.out HBb.out HC1.out HC2.out hrot
          have hmid2 : s + (en - m) = mid := by have := HLIM.out; have := HEN.out; have := HMD.out; omega
          rw [hmid2] at q
          exact q
        clear hrot
        by_cases hq2 : a < s ∧ s < mid
        · have y1 : (a : Int) < (s : Int) := by have := HLIM.out; have := HEN.out; have := HMD.out; omega
          have y2 : (s : Int) < (mid : Int) := by have := HLIM.out; have := HEN.out; have := HMD.out; omega
          have HV1 : Hid (∀ i, i < e1.size → V e1[i]!) := Lib.hid (by
            have q1 := perm_all P1.out (by have := HSZ.out; have := HLIM.out; have := HEN.out; have := HMD.out; omega) HV.out
            rw [P1.out.1]; exact q1)
          go_wp2_with fail
          refine (IH.out a s mid e1 _ (by have := HLIM.out; have := HEN.out; have := HMD.out; omega) (by rw [P1.out.1]; exact HSZ.out) HV1.out A1.out hq2.1 hq2.2 (by have := HLIM.out; have := HEN.out; have := HMD.out; omega) CP.out.1 CP.out.2.1).mono ?_
          rintro x w8 ⟨rfl, ⟨e2, p2, s2, a2⟩, b2⟩
          have P2 := Lib.hid p2
          have S2 := Lib.hid s2
          have A2 := Lib.hid a2
          have B2 := Lib.hid (B1.out.trans b2)
          clear p2 s2 a2 b2 HV1
          by_cases hq3 : mid < en ∧ en < b
          · have z1 : (mid : Int) < (en : Int) := by have := HLIM.out; have := HEN.out; have := HMD.out; omega
            have z2 : (en : Int) < (b : Int) := by have := HLIM.out; have := HEN.out; have := HMD.out; omega
            have HE3 : Hid (SortedIn (ltF cf) mid en e2 ∧ SortedIn (ltF cf) en b e2) := ⟨sorted_out CP.out.2.2.1 P2.out (.inr (by have := HLIM.out; have := HEN.out; have := HMD.out; omega)), sorted_out CP.out.2.2.2.1 P2.out (.inr (by have := HLIM.out; have := HEN.out; have := HMD.out; omega))⟩
            have HV2 : Hid (∀ i, i < e2.size → V e2[i]!) := Lib.hid (by
              have q1 := perm_all P1.out (by have := HSZ.out; have := HLIM.out; have := HEN.out; have := HMD.out; omega) HV.out
              have q2 := perm_all P2.out (by have := P1.out.1; have := HSZ.out; have := HLIM.out; have := HEN.out; have := HMD.out; omega) (by rw [P1.out.1]; exact q1)
              rw [P2.out.1]; exact q2)
            go_wp2_with fail
            all_goals
              refine (IH.out mid en b e2 _ (by have := HLIM.out; have := HEN.out; have := HMD.out; omega) (by rw [P2.out.1, P1.out.1]; exact HSZ.out) HV2.out A2.out hq3.1 hq3.2 (by have := HLIM.out; have := HEN.out; have := HMD.out; omega) HE3.out.1 HE3.out.2).mono ?_
              rintro x w9 ⟨rfl, ⟨e3, p3, s3, a3⟩, b3⟩
              have HF : Hid (PermIn a b d e3 ∧ SortedIn (ltF cf) a b e3) := ⟨permIn_trans _ _ _ a b P1.out (permIn_trans _ _ _ a b (permIn_mono e1 e2 a mid a b (by have := HLIM.out; have := HEN.out; have := HMD.out; omega) (by have := HLIM.out; have := HEN.out; have := HMD.out; omega) (by have := P1.out.1; have := HSZ.out; have := HLIM.out; have := HEN.out; have := HMD.out; omega) P2.out) (permIn_mono e2 e3 mid b a b (by have := HLIM.out; have := HEN.out; have := HMD.out; omega) (by have := HLIM.out; have := HEN.out; have := HMD.out; omega) (by have := P1.out.1; have := P2.out.1; have := HSZ.out; have := HLIM.out; have := HEN.out; have := HMD.out; omega) p3)), join_parts (by have := HLIM.out; have := HEN.out; have := HMD.out; omega) (by have := HLIM.out; have := HEN.out; have := HMD.out; omega) (by have := P1.out.1; have := HSZ.out; have := HLIM.out; have := HEN.out; have := HMD.out; omega) P2.out S2.out p3 s3 CP.out.2.2.2.2⟩
              have A3 := Lib.hid a3
              have B3 := Lib.hid (B2.out.trans b3)
              clear p3 s3 a3 b3
              go_wp2_with fail
              go_end0
              exact ⟨rfl, ⟨e3, HF.out.1, HF.out.2, A3.out⟩, B3.out⟩
          · have HF : Hid (PermIn a b d e2 ∧ SortedIn (ltF cf) a b e2) := by
              have s3 : SortedIn (ltF cf) mid b e2 := by
                by_cases hz : mid < en
                · have hz2 : en = b := by have := HLIM.out; have := HEN.out; have := HMD.out; omega
                  rw [← hz2]; exact sorted_out CP.out.2.2.1 P2.out (.inr (by have := HLIM.out; have := HEN.out; have := HMD.out; omega))
                · have hz2 : en = mid := by have := HLIM.out; have := HEN.out; have := HMD.out; omega
                  rw [← hz2]; exact sorted_out CP.out.2.2.2.1 P2.out (.inr (by have := HLIM.out; have := HEN.out; have := HMD.out; omega))
              exact ⟨permIn_trans _ _ _ a b P1.out (permIn_mono e1 e2 a mid a b (by have := HLIM.out; have := HEN.out; have := HMD.out; omega) (by have := HLIM.out; have := HEN.out; have := HMD.out; omega) (by have := P1.out.1; have := HSZ.out; have := HLIM.out; have := HEN.out; have := HMD.out; omega) P2.out), join_parts (by have := HLIM.out; have := HEN.out; have := HMD.out; omega) (by have := HLIM.out; have := HEN.out; have := HMD.out; omega) (by have := P1.out.1; have := HSZ.out; have := HLIM.out; have := HEN.out; have := HMD.out; omega) P2.out S2.out (permIn_refl e2 mid b) s3 CP.out.2.2.2.2⟩
            have z0 : ((mid : Int) < (en : Int) ∧ (en : Int) < (b : Int)) = False := by simp only [eq_iff_iff, iff_false]; have := HLIM.out; have := HEN.out; have := HMD.out; omega
            by_cases z1 : (mid : Int) < (en : Int)
            · have z2 : ¬ (en : Int) < (b : Int) := by have := HLIM.out; have := HEN.out; have := HMD.out; omega
              go_wp2_with fail
              all_goals (go_end0; exact ⟨rfl, ⟨e2, HF.out.1, HF.out.2, A2.out⟩, B2.out⟩)
            · go_wp2_with fail
              all_goals (go_end0; exact ⟨rfl, ⟨e2, HF.out.1, HF.out.2, A2.out⟩, B2.out⟩)
        · obtain ⟨e2, he2⟩ : ∃ e2, e2 = e1 := ⟨_, rfl⟩
          have S2 : Hid (SortedIn (ltF cf) a mid e2) := by
            rw [he2]
            by_cases hz : a < s
            · have hz2 : s = mid := by have := HLIM.out; have := HEN.out; have := HMD.out; omega
              rw [← hz2]; exact CP.out.1
            · have hz2 : s = a := by have := HLIM.out; have := HEN.out; have := HMD.out; omega
              rw [← hz2]; exact CP.out.2.1
          have P2 : Hid (PermIn a mid e1 e2) := by rw [he2]; exact permIn_refl e1 a mid
          have A2 : Hid (FArr 23 w7 g e2) := by rw [he2]; exact A1.out
          have B2 : Hid (Below g w w7) := B1.out
          clear he2
          by_cases y1 : (a : Int) < (s : Int)
          · have y2 : ¬ (s : Int) < (mid : Int) := by have := HLIM.out; have := HEN.out; have := HMD.out; omega
            by_cases hq3 : mid < en ∧ en < b
            · have z1 : (mid : Int) < (en : Int) := by have := HLIM.out; have := HEN.out; have := HMD.out; omega
              have z2 : (en : Int) < (b : Int) := by have := HLIM.out; have := HEN.out; have := HMD.out; omega
              have HE3 : Hid (SortedIn (ltF cf) mid en e2 ∧ SortedIn (ltF cf) en b e2) := ⟨sorted_out CP.out.2.2.1 P2.out (.inr (by have := HLIM.out; have := HEN.out; have := HMD.out; omega)), sorted_out CP.out.2.2.2.1 P2.out (.inr (by have := HLIM.out; have := HEN.out; have := HMD.out; omega))⟩
              have HV2 : Hid (∀ i, i < e2.size → V e2[i]!) := Lib.hid (by
                have q1 := perm_all P1.out (by have := HSZ.out; have := HLIM.out; have := HEN.out; have := HMD.out; omega) HV.out
                have q2 := perm_all P2.out (by have := P1.out.1; have := HSZ.out; have := HLIM.out; have := HEN.out; have := HMD.out; omega) (by rw [P1.out.1]; exact q1)
                rw [P2.out.1]; exact q2)
              go_wp2_with fail
              all_goals
                refine (IH.out mid en b e2 _ (by have := HLIM.out; have := HEN.out; have := HMD.out; omega) (by rw [P2.out.1, P1.out.1]; exact HSZ.out) HV2.out A2.out hq3.1 hq3.2 (by have := HLIM.out; have := HEN.out; have := HMD.out; omega) HE3.out.1 HE3.out.2).mono ?_
                rintro x w9 ⟨rfl, ⟨e3, p3, s3, a3⟩, b3⟩
                have HF : Hid (PermIn a b d e3 ∧ SortedIn (ltF cf) a b e3) := ⟨permIn_trans _ _ _ a b P1.out (permIn_trans _ _ _ a b (permIn_mono e1 e2 a mid a b (by have := HLIM.out; have := HEN.out; have := HMD.out; omega) (by have := HLIM.out; have := HEN.out; have := HMD.out; omega) (by have := P1.out.1; have := HSZ.out; have := HLIM.out; have := HEN.out; have := HMD.out; omega) P2.out) (permIn_mono e2 e3 mid b a b (by have := HLIM.out; have := HEN.out; have := HMD.out; omega) (by have := HLIM.out; have := HEN.out; have := HMD.out; omega) (by have := P1.out.1; have := P2.out.1; have := HSZ.out; have := HLIM.out; have := HEN.out; have := HMD.out; omega) p3)), join_parts (by have := HLIM.out; have := HEN.out; have := HMD.out; omega) (by have := HLIM.out; have := HEN.out; have := HMD.out; omega) (by have := P1.out.1; have := HSZ.out; have := HLIM.out; have := HEN.out; have := HMD.out; omega) P2.out S2.out p3 s3 CP.out.2.2.2.2⟩
                have A3 := Lib.hid a3
                have B3 := Lib.hid (B2.out.trans b3)
                clear p3 s3 a3 b3
                go_wp2_with fail
                go_end0
                exact ⟨rfl, ⟨e3, HF.out.1, HF.out.2, A3.out⟩, B3.out⟩
            · have HF : Hid (PermIn a b d e2 ∧ SortedIn (ltF cf) a b e2) := by
                have s3 : SortedIn (ltF cf) mid b e2 := by
                  by_cases hz : mid < en
                  · have hz2 : en = b := by have := HLIM.out; have := HEN.out; have := HMD.out; omega
                    rw [← hz2]; exact sorted_out CP.out.2.2.1 P2.out (.inr (by have := HLIM.out; have := HEN.out; have := HMD.out; omega))
                  · have hz2 : en = mid := by have := HLIM.out; have := HEN.out; have := HMD.out; omega
                    rw [← hz2]; exact sorted_out CP.out.2.2.2.1 P2.out (.inr (by have := HLIM.out; have := HEN.out; have := HMD.out; omega))
                exact ⟨permIn_trans _ _ _ a b P1.out (permIn_mono e1 e2 a mid a b (by have := HLIM.out; have := HEN.out; have := HMD.out; omega) (by have := HLIM.out; have := HEN.out; have := HMD.out; omega) (by have := P1.out.1; have := HSZ.out; have := HLIM.out; have := HEN.out; have := HMD.out; omega) P2.out), join_parts (by have := HLIM.out; have := HEN.out; have := HMD.out; omega) (by have := HLIM.out; have := HEN.out; have := HMD.out; omega) (by have := P1.out.1; have := HSZ.out; have := HLIM.out; have := HEN.out; have := HMD.out; omega) P2.out S2.out (permIn_refl e2 mid b) s3 CP.out.2.2.2.2⟩
              have z0 : ((mid : Int) < (en : Int) ∧ (en : Int) < (b : Int)) = False := by simp only [eq_iff_iff, iff_false]; have := HLIM.out; have := HEN.out; have := HMD.out; omega
              by_cases z1 : (mid : Int) < (en : Int)
              · have z2 : ¬ (en : Int) < (b : Int) := by have := HLIM.out; have := HEN.out; have := HMD.out; omega
                go_wp2_with fail
                all_goals (go_end0; exact ⟨rfl, ⟨e2, HF.out.1, HF.out.2, A2.out⟩, B2.out⟩)
              · go_wp2_with fail
                all_goals (go_end0; exact ⟨rfl, ⟨e2, HF.out.1, HF.out.2, A2.out⟩, B2.out⟩)
          ·
            by_cases hq3 : mid < en ∧ en < b
            · have z1 : (mid : Int) < (en : Int) := by have := HLIM.out; have := HEN.out; have := HMD.out; omega
              have z2 : (en : Int) < (b : Int) := by have := HLIM.out; have := HEN.out; have := HMD.out; omega
              have HE3 : Hid (SortedIn (ltF cf) mid en e2 ∧ SortedIn (ltF cf) en b e2) := ⟨sorted_out CP.out.2.2.1 P2.out (.inr (by have := HLIM.out; have := HEN.out; have := HMD.out; omega)), sorted_out CP.out.2.2.2.1 P2.out (.inr (by have := HLIM.out; have := HEN.out; have := HMD.out; omega))⟩
              have HV2 : Hid (∀ i, i < e2.size → V e2[i]!) := Lib.hid (by
                have q1 := perm_all P1.out (by have := HSZ.out; have := HLIM.out; have := HEN.out; have := HMD.out; omega) HV.out
                have q2 := perm_all P2.out (by have := P1.out.1; have := HSZ.out; have := HLIM.out; have := HEN.out; have := HMD.out; omega) (by rw [P1.out.1]; exact q1)
                rw [P2.out.1]; exact q2)
              go_wp2_with fail
              all_goals
                refine (IH.out mid en b e2 _ (by have := HLIM.out; have := HEN.out; have := HMD.out; omega) (by rw [P2.out.1, P1.out.1]; exact HSZ.out) HV2.out A2.out hq3.1 hq3.2 (by have := HLIM.out; have := HEN.out; have := HMD.out; omega) HE3.out.1 HE3.out.2).mono ?_
                rintro x w9 ⟨rfl, ⟨e3, p3, s3, a3⟩, b3⟩
                have HF : Hid (PermIn a b d e3 ∧ SortedIn (ltF cf) a b e3) := ⟨permIn_trans _ _ _ a b P1.out (permIn_trans _ _ _ a b (permIn_mono e1 e2 a mid a b (by have := HLIM.out; have := HEN.out; have := HMD.out; omega) (by have := HLIM.out; have := HEN.out; have := HMD.out; omega) (by have := P1.out.1; have := HSZ.out; have := HLIM.out; have := HEN.out; have := HMD.out; omega) P2.out) (permIn_mono e2 e3 mid b a b (by have := HLIM.out; have := HEN.out; have := HMD.out; omega) (by have := HLIM.out; have := HEN.out; have := HMD.out; omega) (by have := P1.out.1; have := P2.out.1; have := HSZ.out; have := HLIM.out; have := HEN.out; have := HMD.out; omega) p3)), join_parts (by have := HLIM.out; have := HEN.out; have := HMD.out; omega) (by have := HLIM.out; have := HEN.out; have := HMD.out; omega) (by have := P1.out.1; have := HSZ.out; have := HLIM.out; have := HEN.out; have := HMD.out; omega) P2.out S2.out p3 s3 CP.out.2.2.2.2⟩
                have A3 := Lib.hid a3
                have B3 := Lib.hid (B2.out.trans b3)
                clear p3 s3 a3 b3
                go_wp2_with fail
                go_end0
                exact ⟨rfl, ⟨e3, HF.out.1, HF.out.2, A3.out⟩, B3.out⟩
            · have HF : Hid (PermIn a b d e2 ∧ SortedIn (ltF cf) a b e2) := by
                have s3 : SortedIn (ltF cf) mid b e2 := by
                  by_cases hz : mid < en
                  · have hz2 : en = b := by have := HLIM.out; have := HEN.out; have := HMD.out; omega
                    rw [← hz2]; exact sorted_out CP.out.2.2.1 P2.out (.inr (by have := HLIM.out; have := HEN.out; have := HMD.out; omega))
                  · have hz2 : en = mid := by have := HLIM.out; have := HEN.out; have := HMD.out; omega
                    rw [← hz2]; exact sorted_out CP.out.2.2.2.1 P2.out (.inr (by have := HLIM.out; have := HEN.out; have := HMD.out; omega))
                exact ⟨permIn_trans _ _ _ a b P1.out (permIn_mono e1 e2 a mid a b (by have := HLIM.out; have := HEN.out; have := HMD.out; omega) (by have := HLIM.out; have := HEN.out; have := HMD.out; omega) (by have := P1.out.1; have := HSZ.out; have := HLIM.out; have := HEN.out; have := HMD.out; omega) P2.out), join_parts (by have := HLIM.out; have := HEN.out; have := HMD.out; omega) (by have := HLIM.out; have := HEN.out; have := HMD.out; omega) (by have := P1.out.1; have := HSZ.out; have := HLIM.out; have := HEN.out; have := HMD.out; omega) P2.out S2.out (permIn_refl e2 mid b) s3 CP.out.2.2.2.2⟩
              have z0 : ((mid : Int) < (en : Int) ∧ (en : Int) < (b : Int)) = False := by simp only [eq_iff_iff, iff_false]; have := HLIM.out; have := HEN.out; have := HMD.out; omega
              by_cases z1 : (mid : Int) < (en : Int)
              · have z2 : ¬ (en : Int) < (b : Int) := by have := HLIM.out; have := HEN.out; have := HMD.out; omega
                go_wp2_with fail
                all_goals (go_end0; exact ⟨rfl, ⟨e2, HF.out.1, HF.out.2, A2.out⟩, B2.out⟩)
              · go_wp2_with fail
                all_goals (go_end0; exact ⟨rfl, ⟨e2, HF.out.1, HF.out.2, A2.out⟩, B2.out⟩)
      · obtain ⟨e1, he1⟩ : ∃ e1, e1 = d := ⟨_, rfl⟩
        have hrot : Rot s m en d e1 := by rw [he1]; exact rot_none d (by have := HLIM.out; have := HEN.out; have := HMD.out; omega) (by have := HLIM.out; have := HEN.out; have := HMD.out; omega) (by have := HLIM.out; have := HEN.out; have := HMD.out; omega)
        have P1 : Hid (PermIn a b d e1) := by rw [he1]; exact permIn_refl d a b
        have A1 : Hid (FArr 23 wr g e1) := by rw [he1]; exact hA.out
        have B1 : Hid (Below g w wr) := hB.out
        clear he1 hA hB
        have CP : Hid (SortedIn (ltF cf) a s e1 ∧ SortedIn (ltF cf) s mid e1 ∧ SortedIn (ltF cf) mid en e1 ∧ SortedIn (ltF cf) en b e1 ∧ ∀ x y, a ≤ x → x < mid → mid ≤ y → y < b → ltF cf e1[y]! e1[x]! = false) := by
          have q := cut_parts HS.out (show a ≤ s by have := HLIM.out; have := HEN.out; have := HMD.out; omega) (show s ≤ m by have := HLIM.out; have := HEN.out; have := HMD.out; omega) (show m ≤ en by have := HLIM.out; have := HEN.out; have := HMD.out; omega) (show en ≤ b by have := HLIM.out; have := HEN.out; have := HMD.out; omega) HA.out HBb.out HC1.out HC2.out hrot
          have hmid2 : s + (en - m) = mid := by have := HLIM.out; have := HEN.out; have := HMD.out; omega
          rw [hmid2] at q
          exact q
        clear hrot
        by_cases x1 : (s : Int) < (m : Int)
        · have x2 : ¬ (m : Int) < (en : Int) := by have := HLIM.out; have := HEN.out; have := HMD.out; omega
          by_cases hq2 : a < s ∧ s < mid
          · have y1 : (a : Int) < (s : Int) := by have := HLIM.out; have := HEN.out; have := HMD.out; omega
            have y2 : (s : Int) < (mid : Int) := by have := HLIM.out; have := HEN.out; have := HMD.out; omega
            have HV1 : Hid (∀ i, i < e1.size → V e1[i]!) := Lib.hid (by
              have q1 := perm_all P1.out (by have := HSZ.out; have := HLIM.out; have := HEN.out; have := HMD.out; omega) HV.out
              rw [P1.out.1]; exact q1)
            go_wp2_with fail
            refine (IH.out a s mid e1 _ (by have := HLIM.out; have := HEN.out; have := HMD.out; omega) (by rw [P1.out.1]; exact HSZ.out) HV1.out A1.out hq2.1 hq2.2 (by have := HLIM.out; have := HEN.out; have := HMD.out; omega) CP.out.1 CP.out.2.1).mono ?_
            rintro x w8 ⟨rfl, ⟨e2, p2, s2, a2⟩, b2⟩
            have P2 := Lib.hid p2
            have S2 := Lib.hid s2
            have A2 := Lib.hid a2
            have B2 := Lib.hid (B1.out.trans b2)
            clear p2 s2 a2 b2 HV1
            by_cases hq3 : mid < en ∧ en < b
            · have z1 : (mid : Int) < (en : Int) := by have := HLIM.out; have := HEN.out; have := HMD.out; omega
              have z2 : (en : Int) < (b : Int) := by have := HLIM.out; have := HEN.out; have := HMD.out; omega
              have HE3 : Hid (SortedIn (ltF cf) mid en e2 ∧ SortedIn (ltF cf) en b e2) := ⟨sorted_out CP.out.2.2.1 P2.out (.inr (by have := HLIM.out; have := HEN.out; have := HMD.out; omega)), sorted_out CP.out.2.2.2.1 P2.out (.inr (by have := HLIM.out; have := HEN.out; have := HMD.out; omega))⟩
              have HV2 : Hid (∀ i, i < e2.size → V e2[i]!) := Lib.hid (by
                have q1 := perm_all P1.out (by have := HSZ.out; have := HLIM.out; have := HEN.out; have := HMD.out; omega) HV.out
                have q2 := perm_all P2.out (by have := P1.out.1; have := HSZ.out; have := HLIM.out; have := HEN.out; have := HMD.out; omega) (by rw [P1.out.1]; exact q1)
                rw [P2.out.1]; exact q2)
              go_wp2_with fail
              all_goals
                refine (IH.out mid en b e2 _ (by have := HLIM.out; have := HEN.out; have := HMD.out; omega) (by rw [P2.out.1, P1.out.1]; exact HSZ.out) HV2.out A2.out hq3.1 hq3.2 (by have := HLIM.out; have := HEN.out; have := HMD.out; omega) HE3.out.1 HE3.out.2).mono ?_
                rintro x w9 ⟨rfl, ⟨e3, p3, s3, a3⟩, b3⟩
                have HF : Hid (PermIn a b d e3 ∧ SortedIn (ltF cf) a b e3) := ⟨permIn_trans _ _ _ a b P1.out (permIn_trans _ _ _ a b (permIn_mono e1 e2 a mid a b (by have := HLIM.out; have := HEN.out; have := HMD.out; omega) (by have := HLIM.out; have := HEN.out; have := HMD.out; omega) (by have := P1.out.1; have := HSZ.out; have := HLIM.out; have := HEN.out; have := HMD.out; omega) P2.out) (permIn_mono e2 e3 mid b a b (by have := HLIM.out; have := HEN.out; have := HMD.out; omega) (by have := HLIM.out; have := HEN.out; have := HMD.out; omega) (by have := P1.out.1; have := P2.out.1; have := HSZ.out; have := HLIM.out; have := HEN.out; have := HMD.out; omega) p3)), join_parts (by have := HLIM.out; have := HEN.out; have := HMD.out; omega) (by have := HLIM.out; have := HEN.out; have := HMD.out; omega) (by have := P1.out.1; have := HSZ.out; have := HLIM.out; have := HEN.out; have := HMD.out; omega) P2.out S2.out p3 s3 CP.out.2.2.2.2⟩
                have A3 := Lib.hid a3
                have B3 := Lib.hid (B2.out.trans b3)
                clear p3 s3 a3 b3
                go_wp2_with fail
                go_end0
                exact ⟨rfl, ⟨e3, HF.out.1, HF.out.2, A3.out⟩, B3.out⟩
            · have HF : Hid (PermIn a b d e2 ∧ SortedIn (ltF cf) a b e2) := by
                have s3 : SortedIn (ltF cf) mid b e2 := by
                  by_cases hz : mid < en
                  · have hz2 : en = b := by have := HLIM.out; have := HEN.out; have := HMD.out; omega
                    rw [← hz2]; exact sorted_out CP.out.2.2.1 P2.out (.inr (by have := HLIM.out; have := HEN.out; have := HMD.out; omega))
                  · have hz2 : en = mid := by have := HLIM.out; have := HEN.out; have := HMD.out; omega
                    rw [← hz2]; exact sorted_out CP.out.2.2.2.1 P2.out (.inr (by have := HLIM.out; have := HEN.out; have := HMD.out; omega))
                exact ⟨permIn_trans _ _ _ a b P1.out (permIn_mono e1 e2 a mid a b (by have := HLIM.out; have := HEN.out; have := HMD.out; omega) (by have := HLIM.out; have := HEN.out; have := HMD.out; omega) (by have := P1.out.1; have := HSZ.out; have := HLIM.out; have := HEN.out; have := HMD.out; omega) P2.out), join_parts (by have := HLIM.out; have := HEN.out; have := HMD.out; omega) (by have := HLIM.out; have := HEN.out; have := HMD.out; omega) (by have := P1.out.1; have := HSZ.out; have := HLIM.out; have := HEN.out; have := HMD.out; omega) P2.out S2.out (permIn_refl e2 mid b) s3 CP.out.2.2.2.2⟩
              have z0 : ((mid : Int) < (en : Int) ∧ (en : Int) < (b : Int)) = False := by simp only [eq_iff_iff, iff_false]; have := HLIM.out; have := HEN.out; have := HMD.out; omega
              by_cases z1 : (mid : Int) < (en : Int)
              · have z2 : ¬ (en : Int) < (b : Int) := by have := HLIM.out; have := HEN.out; have := HMD.out; omega
                go_wp2_with fail
                all_goals (go_end0; exact ⟨rfl, ⟨e2, HF.out.1, HF.out.2, A2.out⟩, B2.out⟩)
              · go_wp2_with fail
                all_goals (go_end0; exact ⟨rfl, ⟨e2, HF.out.1, HF.out.2, A2.out⟩, B2.out⟩)
          · obtain ⟨e2, he2⟩ : ∃ e2, e2 = e1 := ⟨_, rfl⟩
            have S2 : Hid (SortedIn (ltF cf) a mid e2) := by
              rw [he2]
              by_cases hz : a < s
              · have hz2 : s = mid := by have := HLIM.out; have := HEN.out; have := HMD.out; omega
                rw [← hz2]; exact CP.out.1
              · have hz2 : s = a := by have := HLIM.out; have := HEN.out; have := HMD.out; omega
                rw [← hz2]; exact CP.out.2.1
            have P2 : Hid (PermIn a mid e1 e2) := by rw [he2]; exact permIn_refl e1 a mid
            have A2 : Hid (FArr 23 wr g e2) := by rw [he2]; exact A1.out
            have B2 : Hid (Below g w wr) := B1.out
            clear he2
            by_cases y1 : (a : Int) < (s : Int)
            · have y2 : ¬ (s : Int) < (mid : Int) := by have := HLIM.out; have := HEN.out; have := HMD.out; omega
              by_cases hq3 : mid < en ∧ en < b
              · have z1 : (mid : Int) < (en : Int) := by have := HLIM.out; have := HEN.out; have := HMD.out; omega
                have z2 : (en : Int) < (b : Int) := by have := HLIM.out; have := HEN.out; have := HMD.out; omega
                have HE3 : Hid (SortedIn (ltF cf) mid en e2 ∧ SortedIn (ltF cf) en b e2) := ⟨sorted_out CP.out.2.2.1 P2.out (.inr (by have := HLIM.out; have := HEN.out; have := HMD.out; omega)), sorted_out CP.out.2.2.2.1 P2.out (.inr (by have := HLIM.out; have := HEN.out; have := HMD.out; omega))⟩
                have HV2 : Hid (∀ i, i < e2.size → V e2[i]!) := Lib.hid (by
                  have q1 := perm_all P1.out (by have := HSZ.out; have := HLIM.out; have := HEN.out; have := HMD.out; omega) HV.out
                  have q2 := perm_all P2.out (by have := P1.out.1; have := HSZ.out; have := HLIM.out; have := HEN.out; have := HMD.out; omega) (by rw [P1.out.1]; exact q1)
                  rw [P2.out.1]; exact q2)
                go_wp2_with fail
                all_goals
                  refine (IH.out mid en b e2 _ (by have := HLIM.out; have := HEN.out; have := HMD.out; omega) (by rw [P2.out.1, P1.out.1]; exact HSZ.out) HV2.out A2.out hq3.1 hq3.2 (by have := HLIM.out; have := HEN.out; have := HMD.out; omega) HE3.out.1 HE3.out.2).mono ?_
                  rintro x w9 ⟨rfl, ⟨e3, p3, s3, a3⟩, b3⟩
                  have HF : Hid (PermIn a b d e3 ∧ SortedIn (ltF cf) a b e3) := ⟨permIn_trans _ _ _ a b P1.out (permIn_trans _ _ _ a b (permIn_mono e1 e2 a mid a b (by have := HLIM.out; have := HEN.out; have := HMD.out; omega) (by have := HLIM.out; have := HEN.out; have := HMD.out; omega) (by have := P1.out.1; have := HSZ.out; have := HLIM.out; have := HEN.out; have := HMD.out; omega) P2.out) (permIn_mono e2 e3 mid b a b (by have := HLIM.out; have := HEN.out; have := HMD.out; omega) (by have := HLIM.out; have := HEN.out; have := HMD.out; omega) (by have := P1.out.1; have := P2.out.1; have := HSZ.out; have := HLIM.out; have := HEN.out; have := HMD.out; omega) p3)), join_parts (by have := HLIM.out; have := HEN.out; have := HMD.out; omega) (by have := HLIM.out; have := HEN.out; have := HMD.out; omega) (by have := P1.out.1; have := HSZ.out; have := HLIM.out; have := HEN.out; have := HMD.out; omega) P2.out S2.out p3 s3 CP.out.2.2.2.2⟩
                  have A3 := Lib.hid a3
                  have B3 := Lib.hid (B2.out.trans b3)
                  clear p3 s3 a3 b3
                  go_wp2_with fail
                  go_end0
                  exact ⟨rfl, ⟨e3, HF.out.1, HF.out.2, A3.out⟩, B3.out⟩
              · have HF : Hid (PermIn a b d e2 ∧ SortedIn (ltF cf) a b e2) := by
                  have s3 : SortedIn (ltF cf) mid b e2 := by
                    by_cases hz : mid < en
                    · have hz2 : en = b := by have := HLIM.out; have := HEN.out; have := HMD.out; omega
                      rw [← hz2]; exact sorted_out CP.out.2.2.1 P2.out (.inr (by have := HLIM.out; have := HEN.out; have := HMD.out; omega))
                    · have hz2 : en = mid := by have := HLIM.out; have := HEN.out; have := HMD.out; omega
                      rw [← hz2]; exact sorted_out CP.out.2.2.2.1 P2.out (.inr (by have := HLIM.out; have := HEN.out; have := HMD.out; omega))
                  exact ⟨permIn_trans _ _ _ a b P1.out (permIn_mono e1 e2 a mid a b (by have := HLIM.out; have := HEN.out; have := HMD.out; omega) (by have := HLIM.out; have := HEN.out; have := HMD.out; omega) (by have := P1.out.1; have := HSZ.out; have := HLIM.out; have := HEN.out; have := HMD.out; omega) P2.out), join_parts (by have := HLIM.out; have := HEN.out; have := HMD.out; omega) (by have := HLIM.out; have := HEN.out; have := HMD.out; omega) (by have := P1.out.1; have := HSZ.out; have := HLIM.out; have := HEN.out; have := HMD.out; omega) P2.out S2.out (permIn_refl e2 mid b) s3 CP.out.2.2.2.2⟩
                have z0 : ((mid : Int) < (en : Int) ∧ (en : Int) < (b : Int)) = False := by simp only [eq_iff_iff, iff_false]; have := HLIM.out; have := HEN.out; have := HMD.out; omega
                by_cases z1 : (mid : Int) < (en : Int)
                · have z2 : ¬ (en : Int) < (b : Int) := by have := HLIM.out; have := HEN.out; have := HMD.out; omega
                  go_wp2_with fail
                  all_goals (go_end0; exact ⟨rfl, ⟨e2, HF.out.1, HF.out.2, A2.out⟩, B2.out⟩)
                · go_wp2_with fail
                  all_goals (go_end0; exact ⟨rfl, ⟨e2, HF.out.1, HF.out.2, A2.out⟩, B2.out⟩)
            ·
              by_cases hq3 : mid < en ∧ en < b
              · have z1 : (mid : Int) < (en : Int) := by have := HLIM.out; have := HEN.out; have := HMD.out; omega
                have z2 : (en : Int) < (b : Int) := by have := HLIM.out; have := HEN.out; have := HMD.out; omega
                have HE3 : Hid (SortedIn (ltF cf) mid en e2 ∧ SortedIn (ltF cf) en b e2) := ⟨sorted_out CP.out.2.2.1 P2.out (.inr (by have := HLIM.out; have := HEN.out; have := HMD.out; omega)), sorted_out CP.out.2.2.2.1 P2.out (.inr (by have := HLIM.out; have := HEN.out; have := HMD.out; omega))⟩
                have HV2 : Hid (∀ i, i < e2.size → V e2[i]!) := Lib.hid (by
                  have q1 := perm_all P1.out (by have := HSZ.out; have := HLIM.out; have := HEN.out; have := HMD.out; omega) HV.out
                  have q2 := perm_all P2.out (by have := P1.out.1; have := HSZ.out; have := HLIM.out; have := HEN.out; have := HMD.out; omega) (by rw [P1.out.1]; exact q1)
                  rw [P2.out.1]; exact q2)
                go_wp2_with fail
                all_goals
                  refine (IH.out mid en b e2 _ (by have := HLIM.out; have := HEN.out; have := HMD.out; omega) (by rw [P2.out.1, P1.out.1]; exact HSZ.out) HV2.out A2.out hq3.1 hq3.2 (by have := HLIM.out; have := HEN.out; have := HMD.out; omega) HE3.out.1 HE3.out.2).mono ?_
                  rintro x w9 ⟨rfl, ⟨e3, p3, s3, a3⟩, b3⟩
                  have HF : Hid (PermIn a b d e3 ∧ SortedIn (ltF cf) a b e3) := ⟨permIn_trans _ _ _ a b P1.out (permIn_trans _ _ _ a b (permIn_mono e1 e2 a mid a b (by have := HLIM.out; have := HEN.out; have := HMD.out; omega) (by have := HLIM.out; have := HEN.out; have := HMD.out; omega) (by have := P1.out.1; have := HSZ.out; have := HLIM.out; have := HEN.out; have := HMD.out; omega) P2.out) (permIn_mono e2 e3 mid b a b (by have := HLIM.out; have := HEN.out; have := HMD.out; omega) (by have := HLIM.out; have := HEN.out; have := HMD.out; omega) (by have := P1.out.1; have := P2.out.1; have := HSZ.out; have := HLIM.out; have := HEN.out; have := HMD.out; omega) p3)), join_parts (by have := HLIM.out; have := HEN.out; have := HMD.out; omega) (by have := HLIM.out; have := HEN.out; have := HMD.out; omega) (by have := P1.out.1; have := HSZ.out; have := HLIM.out; have := HEN.out; have := HMD.out; omega) P2.out S2.out p3 s3 CP.out.2.2.2.2⟩
                  have A3 := Lib.hid a3
                  have B3 := Lib.hid (B2.out.trans b3)
                  clear p3 s3 a3 b3
                  go_wp2_with fail
                  go_end0
                  exact ⟨rfl, ⟨e3, HF.out.1, HF.out.2, A3.out⟩, B3.out⟩
              · have HF : Hid (PermIn a b d e2 ∧ SortedIn (ltF cf) a b e2) := by
                  have s3 : SortedIn (ltF cf) mid b e2 := by
                    by_cases hz : mid < en
                    · have hz2 : en = b := by have := HLIM.out; have := HEN.out; have := HMD.out; omega
                      rw [← hz2]; exact sorted_out CP.out.2.2.1 P2.out (.inr (by have := HLIM.out; have := HEN.out; have := HMD.out; omega))
                    · have hz2 : en = mid := by have := HLIM.out; have := HEN.out; have := HMD.out; omega
                      rw [← hz2]; exact sorted_out CP.out.2.2.2.1 P2.out (.inr (by have := HLIM.out; have := HEN.out; have := HMD.out; omega))
                  exact ⟨permIn_trans _ _ _ a b P1.out (permIn_mono e1 e2 a mid a b (by have := HLIM.out; have := HEN.out; have := HMD.out; omega) (by have := HLIM.out; have := HEN.out; have := HMD.out; omega) (by have := P1.out.1; have := HSZ.out; have := HLIM.out; have := HEN.out; have := HMD.out; omega) P2.out), join_parts (by have := HLIM.out; have := HEN.out; have := HMD.out; omega) (by have := HLIM.out; have := HEN.out; have := HMD.out; omega) (by have := P1.out.1; have := HSZ.out; have := HLIM.out; have := HEN.out; have := HMD.out; omega) P2.out S2.out (permIn_refl e2 mid b) s3 CP.out.2.2.2.2⟩
                have z0 : ((mid : Int) < (en : Int) ∧ (en : Int) < (b : Int)) = False := by simp only [eq_iff_iff, iff_false]; have := HLIM.out; have := HEN.out; have := HMD.out; omega
                by_cases z1 : (mid : Int) < (en : Int)
                · have z2 : ¬ (en : Int) < (b : Int) := by have := HLIM.out; have := HEN.out; have := HMD.out; omega
                  go_wp2_with fail
                  all_goals (go_end0; exact ⟨rfl, ⟨e2, HF.out.1, HF.out.2, A2.out⟩, B2.out⟩)
                · go_wp2_with fail
                  all_goals (go_end0; exact ⟨rfl, ⟨e2, HF.out.1, HF.out.2, A2.out⟩, B2.out⟩)
        ·
          by_cases hq2 : a < s ∧ s < mid
          · have y1 : (a : Int) < (s : Int) := by have := HLIM.out; have := HEN.out; have := HMD.out; omega
            have y2 : (s : Int) < (mid : Int) := by have := HLIM.out; have := HEN.out; have := HMD.out; omega
            have HV1 : Hid (∀ i, i < e1.size → V e1[i]!) := Lib.hid (by
              have q1 := perm_all P1.out (by have := HSZ.out; have := HLIM.out; have := HEN.out; have := HMD.out; omega) HV.out
              rw [P1.out.1]; exact q1)
            go_wp2_with fail
            refine (IH.out a s mid e1 _ (by have := HLIM.out; have := HEN.out; have := HMD.out; omega) (by rw [P1.out.1]; exact HSZ.out) HV1.out A1.out hq2.1 hq2.2 (by have := HLIM.out; have := HEN.out; have := HMD.out; omega) CP.out.1 CP.out.2.1).mono ?_
            rintro x w8 ⟨rfl, ⟨e2, p2, s2, a2⟩, b2⟩
            have P2 := Lib.hid p2
            have S2 := Lib.hid s2
            have A2 := Lib.hid a2
            have B2 := Lib.hid (B1.out.trans b2)
            clear p2 s2 a2 b2 HV1
            by_cases hq3 : mid < en ∧ en < b
            · have z1 : (mid : Int) < (en : Int) := by have := HLIM.out; have := HEN.out; have := HMD.out; omega
              have z2 : (en : Int) < (b : Int) := by have := HLIM.out; have := HEN.out; have := HMD.out; omega
              have HE3 : Hid (SortedIn (ltF cf) mid en e2 ∧ SortedIn (ltF cf) en b e2) := ⟨sorted_out CP.out.2.2.1 P2.out (.inr (by have := HLIM.out; have := HEN.out; have := HMD.out; omega)), sorted_out CP.out.2.2.2.1 P2.out (.inr (by have := HLIM.out; have := HEN.out; have := HMD.out; omega))⟩
              have HV2 : Hid (∀ i, i < e2.size → V e2[i]!) := Lib.hid (by
                have q1 := perm_all P1.out (by have := HSZ.out; have := HLIM.out; have := HEN.out; have := HMD.out; omega) HV.out
                have q2 := perm_all P2.out (by have := P1.out.1; have := HSZ.out; have := HLIM.out; have := HEN.out; have := HMD.out; omega) (by rw [P1.out.1]; exact q1)
                rw [P2.out.1]; exact q2)
              go_wp2_with fail
              all_goals
                refine (IH.out mid en b e2 _ (by have := HLIM.out; have := HEN.out; have := HMD.out; omega) (by rw [P2.out.1, P1.out.1]; exact HSZ.out) HV2.out A2.out hq3.1 hq3.2 (by have := HLIM.out; have := HEN.out; have := HMD.out; omega) HE3.out.1 HE3.out.2).mono ?_
                rintro x w9 ⟨rfl, ⟨e3, p3, s3, a3⟩, b3⟩
                have HF : Hid (PermIn a b d e3 ∧ SortedIn (ltF cf) a b e3) := ⟨permIn_trans _ _ _ a b P1.out (permIn_trans _ _ _ a b (permIn_mono e1 e2 a mid a b (by have := HLIM.out; have := HEN.out; have := HMD.out; omega) (by have := HLIM.out; have := HEN.out; have := HMD.out; omega) (by have := P1.out.1; have := HSZ.out; have := HLIM.out; have := HEN.out; have := HMD.out; omega) P2.out) (permIn_mono e2 e3 mid b a b (by have := HLIM.out; have := HEN.out; have := HMD.out; omega) (by have := HLIM.out; have := HEN.out; have := HMD.out; omega) (by have := P1.out.1; have := P2.out.1; have := HSZ.out; have := HLIM.out; have := HEN.out; have := HMD.out; omega) p3)), join_parts (by have := HLIM.out; have := HEN.out; have := HMD.out; omega) (by have := HLIM.out; have := HEN.out; have := HMD.out; omega) (by have := P1.out.1; have := HSZ.out; have := HLIM.out; have := HEN.out; have := HMD.out; omega) P2.out S2.out p3 s3 CP.out.2.2.2.2⟩
                have A3 := Lib.hid a3
                have B3 := Lib.hid (B2.out.trans b3)
                clear p3 s3 a3 b3
                go_wp2_with fail
                go_end0
                exact ⟨rfl, ⟨e3, HF.out.1, HF.out.2, A3.out⟩, B3.out⟩
            · have HF : Hid (PermIn a b d e2 ∧ SortedIn (ltF cf) a b e2) := by
                have s3 : SortedIn (ltF cf) mid b e2 := by
                  by_cases hz : mid < en
                  · have hz2 : en = b := by have := HLIM.out; have := HEN.out; have := HMD.out; omega
                    rw [← hz2]; exact sorted_out CP.out.2.2.1 P2.out (.inr (by have := HLIM.out; have := HEN.out; have := HMD.out; omega))
                  · have hz2 : en = mid := by have := HLIM.out; have := HEN.out; have := HMD.out; omega
                    rw [← hz2]; exact sorted_out CP.out.2.2.2.1 P2.out (.inr (by have := HLIM.out; have := HEN.out; have := HMD.out; omega))
                exact ⟨permIn_trans _ _ _ a b P1.out (permIn_mono e1 e2 a mid a b (by have := HLIM.out; have := HEN.out; have := HMD.out; omega) (by have := HLIM.out; have := HEN.out; have := HMD.out; omega) (by have := P1.out.1; have := HSZ.out; have := HLIM.out; have := HEN.out; have := HMD.out; omega) P2.out), join_parts (by have := HLIM.out; have := HEN.out; have := HMD.out; omega) (by have := HLIM.out; have := HEN.out; have := HMD.out; omega) (by have := P1.out.1; have := HSZ.out; have := HLIM.out; have := HEN.out; have := HMD.out; omega) P2.out S2.out (permIn_refl e2 mid b) s3 CP.out.2.2.2.2⟩
              have z0 : ((mid : Int) < (en : Int) ∧ (en : Int) < (b : Int)) = False := by simp only [eq_iff_iff, iff_false]; have := HLIM.out; have := HEN.out; have := HMD.out; omega
              by_cases z1 : (mid : Int) < (en : Int)
              · have z2 : ¬ (en : Int) < (b : Int) := by have := HLIM.out; have := HEN.out; have := HMD.out; omega
                go_wp2_with fail
                all_goals (go_end0; exact ⟨rfl, ⟨e2, HF.out.1, HF.out.2, A2.out⟩, B2.out⟩)
              · go_wp2_with fail
                all_goals (go_end0; exact ⟨rfl, ⟨e2, HF.out.1, HF.out.2, A2.out⟩, B2.out⟩)
          · obtain ⟨e2, he2⟩ : ∃ e2, e2 = e1 := ⟨_, rfl⟩
            have S2 : Hid (SortedIn (ltF cf) a mid e2) := by
              rw [he2]
              by_cases hz : a < s
              · have hz2 : s = mid := by have := HLIM.out; have := HEN.out; have := HMD.out; omega
                rw [← hz2]; exact CP.out.1
              · have hz2 : s = a := by have := HLIM.out; have := HEN.out; have := HMD.out; omega
                rw [← hz2]; exact CP.out.2.1
            have P2 : Hid (PermIn a mid e1 e2) := by rw [he2]; exact permIn_refl e1 a mid
            have A2 : Hid (FArr 23 wr g e2) := by rw [he2]; exact A1.out
            have B2 : Hid (Below g w wr) := B1.out
            clear he2
            by_cases y1 : (a : Int) < (s : Int)
            · have y2 : ¬ (s : Int) < (mid : Int) := by have := HLIM.out; have := HEN.out; have := HMD.out; omega
              by_cases hq3 : mid < en ∧ en < b
              · have z1 : (mid : Int) < (en : Int) := by have := HLIM.out; have := HEN.out; have := HMD.out; omega
                have z2 : (en : Int) < (b : Int) := by have := HLIM.out; have := HEN.out; have := HMD.out; omega
                have HE3 : Hid (SortedIn (ltF cf) mid en e2 ∧ SortedIn (ltF cf) en b e2) := ⟨sorted_out CP.out.2.2.1 P2.out (.inr (by have := HLIM.out; have := HEN.out; have := HMD.out; omega)), sorted_out CP.out.2.2.2.1 P2.out (.inr (by have := HLIM.out; have := HEN.out; have := HMD.out; omega))⟩
                have HV2 : Hid (∀ i, i < e2.size → V e2[i]!) := Lib.hid (by
                  have q1 := perm_all P1.out (by have := HSZ.out; have := HLIM.out; have := HEN.out; have := HMD.out; omega) HV.out
                  have q2 := perm_all P2.out (by have := P1.out.1; have := HSZ.out; have := HLIM.out; have := HEN.out; have := HMD.out; omega) (by rw [P1.out.1]; exact q1)
                  rw [P2.out.1]; exact q2)
                go_wp2_with fail
                all_goals
                  refine (IH.out mid en b e2 _ (by have := HLIM.out; have := HEN.out; have := HMD.out; omega) (by rw [P2.out.1, P1.out.1]; exact HSZ.out) HV2.out A2.out hq3.1 hq3.2 (by have := HLIM.out; have := HEN.out; have := HMD.out; omega) HE3.out.1 HE3.out.2).mono ?_
                  rintro x w9 ⟨rfl, ⟨e3, p3, s3, a3⟩, b3⟩
                  have HF : Hid (PermIn a b d e3 ∧ SortedIn (ltF cf) a b e3) := ⟨permIn_trans _ _ _ a b P1.out (permIn_trans _ _ _ a b (permIn_mono e1 e2 a mid a b (by have := HLIM.out; have := HEN.out; have := HMD.out; omega) (by have := HLIM.out; have := HEN.out; have := HMD.out; omega) (by have := P1.out.1; have := HSZ.out; have := HLIM.out; have := HEN.out; have := HMD.out; omega) P2.out) (permIn_mono e2 e3 mid b a b (by have := HLIM.out; have := HEN.out; have := HMD.out; omega) (by have := HLIM.out; have := HEN.out; have := HMD.out; omega) (by have := P1.out.1; have := P2.out.1; have := HSZ.out; have := HLIM.out; have := HEN.out; have := HMD.out; omega) p3)), join_parts (by have := HLIM.out; have := HEN.out; have := HMD.out; omega) (by have := HLIM.out; have := HEN.out; have := HMD.out; omega) (by have := P1.out.1; have := HSZ.out; have := HLIM.out; have := HEN.out; have := HMD.out; omega) P2.out S2.out p3 s3 CP.out.2.2.2.2⟩
                  have A3 := Lib.hid a3
                  have B3 := Lib.hid (B2.out.trans b3)
                  clear p3 s3 a3 b3
                  go_wp2_with fail
                  go_end0
                  exact ⟨rfl, ⟨e3, HF.out.1, HF.out.2, A3.out⟩, B3.out⟩
              · have HF : Hid (PermIn a b d e2 ∧ SortedIn (ltF cf) a b e2) := by
                  have s3 : SortedIn (ltF cf) mid b e2 := by
                    by_cases hz : mid < en
                    · have hz2 : en = b := by have := HLIM.out; have := HEN.out; have := HMD.out; omega
                      rw [← hz2]; exact sorted_out CP.out.2.2.1 P2.out (.inr (by have := HLIM.out; have := HEN.out; have := HMD.out; omega))
                    · have hz2 : en = mid := by have := HLIM.out; have := HEN.out; have := HMD.out; omega
                      rw [← hz2]; exact sorted_out CP.out.2.2.2.1 P2.out (.inr (by have := HLIM.out; have := HEN.out; have := HMD.out; omega))
                  exact ⟨permIn_trans _ _ _ a b P1.out (permIn_mono e1 e2 a mid a b (by have := HLIM.out; have := HEN.out; have := HMD.out; omega) (by have := HLIM.out; have := HEN.out; have := HMD.out; omega) (by have := P1.out.1; have := HSZ.out; have := HLIM.out; have := HEN.out; have := HMD.out; omega) P2.out), join_parts (by have := HLIM.out; have := HEN.out; have := HMD.out; omega) (by have := HLIM.out; have := HEN.out; have := HMD.out; omega) (by have := P1.out.1; have := HSZ.out; have := HLIM.out; have := HEN.out; have := HMD.out; omega) P2.out S2.out (permIn_refl e2 mid b) s3 CP.out.2.2.2.2⟩
                have z0 : ((mid : Int) < (en : Int) ∧ (en : Int) < (b : Int)) = False := by simp only [eq_iff_iff, iff_false]; have := HLIM.out; have := HEN.out; have := HMD.out; omega
                by_cases z1 : (mid : Int) < (en : Int)
                · have z2 : ¬ (en : Int) < (b : Int) := by have := HLIM.out; have := HEN.out; have := HMD.out; omega
                  go_wp2_with fail
                  all_goals (go_end0; exact ⟨rfl, ⟨e2, HF.out.1, HF.out.2, A2.out⟩, B2.out⟩)
                · go_wp2_with fail
                  all_goals (go_end0; exact ⟨rfl, ⟨e2, HF.out.1, HF.out.2, A2.out⟩, B2.out⟩)
            ·
              by_cases hq3 : mid < en ∧ en < b
              · have z1 : (mid : Int) < (en : Int) := by have := HLIM.out; have := HEN.out; have := HMD.out; omega
                have z2 : (en : Int) < (b : Int) := by have := HLIM.out; have := HEN.out; have := HMD.out; omega
                have HE3 : Hid (SortedIn (ltF cf) mid en e2 ∧ SortedIn (ltF cf) en b e2) := ⟨sorted_out CP.out.2.2.1 P2.out (.inr (by have := HLIM.out; have := HEN.out; have := HMD.out; omega)), sorted_out CP.out.2.2.2.1 P2.out (.inr (by have := HLIM.out; have := HEN.out; have := HMD.out; omega))⟩
                have HV2 : Hid (∀ i, i < e2.size → V e2[i]!) := Lib.hid (by
                  have q1 := perm_all P1.out (by have := HSZ.out; have := HLIM.out; have := HEN.out; have := HMD.out; omega) HV.out
                  have q2 := perm_all P2.out (by have := P1.out.1; have := HSZ.out; have := HLIM.out; have := HEN.out; have := HMD.out; omega) (by rw [P1.out.1]; exact q1)
                  rw [P2.out.1]; exact q2)
                go_wp2_with fail
                all_goals
                  refine (IH.out mid en b e2 _ (by have := HLIM.out; have := HEN.out; have := HMD.out; omega) (by rw [P2.out.1, P1.out.1]; exact HSZ.out) HV2.out A2.out hq3.1 hq3.2 (by have := HLIM.out; have := HEN.out; have := HMD.out; omega) HE3.out.1 HE3.out.2).mono ?_
                  rintro x w9 ⟨rfl, ⟨e3, p3, s3, a3⟩, b3⟩
                  have HF : Hid (PermIn a b d e3 ∧ SortedIn (ltF cf) a b e3) := ⟨permIn_trans _ _ _ a b P1.out (permIn_trans _ _ _ a b (permIn_mono e1 e2 a mid a b (by have := HLIM.out; have := HEN.out; have := HMD.out; omega) (by have := HLIM.out; have := HEN.out; have := HMD.out; omega) (by have := P1.out.1; have := HSZ.out; have := HLIM.out; have := HEN.out; have := HMD.out; omega) P2.out) (permIn_mono e2 e3 mid b a b (by have := HLIM.out; have := HEN.out; have := HMD.out; omega) (by have := HLIM.out; have := HEN.out; have := HMD.out; omega) (by have := P1.out.1; have := P2.out.1; have := HSZ.out; have := HLIM.out; have := HEN.out; have := HMD.out; omega) p3)), join_parts (by have := HLIM.out; have := HEN.out; have := HMD.out; omega) (by have := HLIM.out; have := HEN.out; have := HMD.out; omega) (by have := P1.out.1; have := HSZ.out; have := HLIM.out; have := HEN.out; have := HMD.out; omega) P2.out S2.out p3 s3 CP.out.2.2.2.2⟩
                  have A3 := Lib.hid a3
                  have B3 := Lib.hid (B2.out.trans b3)
                  clear p3 s3 a3 b3
                  go_wp2_with fail
                  go_end0
                  exact ⟨rfl, ⟨e3, HF.out.1, HF.out.2, A3.out⟩, B3.out⟩
              · have HF : Hid (PermIn a b d e2 ∧ SortedIn (ltF cf) a b e2) := by
                  have s3 : SortedIn (ltF cf) mid b e2 := by
                    by_cases hz : mid < en
                    · have hz2 : en = b := by have := HLIM.out; have := HEN.out; have := HMD.out; omega
                      rw [← hz2]; exact sorted_out CP.out.2.2.1 P2.out (.inr (by have := HLIM.out; have := HEN.out; have := HMD.out; omega))
                    · have hz2 : en = mid := by have := HLIM.out; have := HEN.out; have := HMD.out; omega
                      rw [← hz2]; exact sorted_out CP.out.2.2.2.1 P2.out (.inr (by have := HLIM.out; have := HEN.out; have := HMD.out; omega))
                  exact ⟨permIn_trans _ _ _ a b P1.out (permIn_mono e1 e2 a mid a b (by have := HLIM.out; have := HEN.out; have := HMD.out; omega) (by have := HLIM.out; have := HEN.out; have := HMD.out; omega) (by have := P1.out.1; have := HSZ.out; have := HLIM.out; have := HEN.out; have := HMD.out; omega) P2.out), join_parts (by have := HLIM.out; have := HEN.out; have := HMD.out; omega) (by have := HLIM.out; have := HEN.out; have := HMD.out; omega) (by have := P1.out.1; have := HSZ.out; have := HLIM.out; have := HEN.out; have := HMD.out; omega) P2.out S2.out (permIn_refl e2 mid b) s3 CP.out.2.2.2.2⟩
                have z0 : ((mid : Int) < (en : Int) ∧ (en : Int) < (b : Int)) = False := by simp only [eq_iff_iff, iff_false]; have := HLIM.out; have := HEN.out; have := HMD.out; omega
                by_cases z1 : (mid : Int) < (en : Int)
                · have z2 : ¬ (en : Int) < (b : Int) := by have := HLIM.out; have := HEN.out; have := HMD.out; omega
                  go_wp2_with fail
                  all_goals (go_end0; exact ⟨rfl, ⟨e2, HF.out.1, HF.out.2, A2.out⟩, B2.out⟩)
                · go_wp2_with fail
                  all_goals (go_end0; exact ⟨rfl, ⟨e2, HF.out.1, HF.out.2, A2.out⟩, B2.out⟩)
end Go.Proofs.Ytplfmdjccmhclab
