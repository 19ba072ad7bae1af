/-
  Contracts of the model: whether a system is valid, and works with a set. Conditions: the variable holds a system whose paths read as a list of whole numbers.
-/
import Derived.Test.YtaecdeickncpcaaValW
import Derived.Test.YtaecdeickncpcaaFop
namespace Go.Proofs.Ytaecdeickncpcaa
open Go.RowKit Dec Flt Syl Sep
theorem in_any (n lo hi : Int) (w : World) : Calls Try.prog 77 #[.int .i64 n, .int .i64 lo, .int .i64 hi] w fun e w' => e = .returned (.bool (decide (lo ≤ n ∧ n ≤ hi))) ∧ w = w' := by
  by_cases h1 : lo ≤ n
  · have h2 : decide (lo ≤ n ∧ n ≤ hi) = decide (n ≤ hi) := by
      by_cases c : n ≤ hi
      · rw [decide_eq_true c, decide_eq_true ⟨h1, c⟩]
      · rw [decide_eq_false c, decide_eq_false (by omega)]
    rw [h2]
    clear h2
    go_enter Try.func77, Try.ntmps77
    go_wp2_with fail
    all_goals first | (exfalso; omega) | skip
    go_ret
    exact ⟨rfl, rfl⟩
  · rw [decide_eq_false (show ¬ (lo ≤ n ∧ n ≤ hi) by omega)]
    go_enter Try.func77, Try.ntmps77
    go_wp2_with fail
    all_goals first | (exfalso; omega) | skip
    go_ret
    exact ⟨rfl, rfl⟩
theorem specParts_any (p : Int) (w : World) : Calls Try.prog 100 #[.int .i64 p] w fun e w' => e = .returned (.bool (partsB p)) ∧ w = w' := by
  go_enter Try.func100, Try.ntmps100
  go_wp2_with fail
  refine (in_any p 1 10 _).mono ?_
  rintro e w1 ⟨rfl, rfl⟩
  go_wp2_with fail
  go_ret
  exact ⟨by simp [partsB], rfl⟩
set_option maxHeartbeats 1600000 in
theorem specWorks_any (s : Int) (g : Nat) (p : Int) (a : Option Addr) (len cap : Nat) (zs : List Int) (w : World) (hv : SVar 26 w g p a len cap) (h : IRow w a len zs) :
    Calls Try.prog 65 #[.pointer (some ⟨g, 0, none⟩), .int .i64 s] w fun e w' => e = .returned (.bool (worksB zs s)) ∧ Drawn w w' := by
  have H := Lib.hid h
  have HV := Lib.hid hv
  have hm : len ≤ 9223372036854775807 := by have := h.2.1; unfold maxLen at this; exact this
  obtain ⟨⟨v0, v1⟩, _, _⟩ := hv.two
  clear h hv
  go_enter Try.func65, Try.ntmps65
  go_wp2_with fail
  clear v0 v1
  go_loopg [11] len (fun n i wr => ∃ k : Nat, i = .int .i64 k ∧ Hid (k + n = len) ∧ k ≤ len ∧ Hid (Drawn w wr) ∧ Hid (∀ j, j < k → hasB s (zs.getD j 0) = false))
  case atStart => exact ⟨0, rfl, by show _ = _; omega, Nat.zero_le _, Drawn.refl _, fun j hj => absurd hj (Nat.not_lt_zero _)⟩
  case round =>
    obtain ⟨k, rfl, hk, hkl, hB, hN⟩ := hrel
    obtain ⟨nd, rfl⟩ := hB.out
    by_cases hlt : k < len
    · obtain ⟨b, off, rfl, hbl, hc⟩ := H.out.2.2.2 k hlt
      have HJ : Hid (k + 1 + (gk - 1) = len) := by have := hk.out; show _ = _; omega
      have HG : Hid (gk - 1 < gk) := by have := hk.out; show _ < _; omega
      have HZ : Hid (k < zs.length) := by show _ < _; rw [H.out.1]; exact hlt
      obtain ⟨t, ht⟩ : ∃ t, zs.getD k 0 = t := ⟨_, rfl⟩
      rw [ht] at hc
      have HT := Lib.hid ht
      have hc1 : ∀ m, (w.drewN m).cell? ⟨b, off + k, none⟩ = some (.int .i64 t) := fun _ => hc
      have hv0 : ∀ m, (w.drewN m).cell? ⟨g, 1, none⟩ = some (.slice (some ⟨b, off, none⟩) len cap) := fun m => (HV.out.two).1.2
      clear ht
      cases hq : hasB s t with
      | true =>
        have hq' : (bits .and .i64 t s == t) = true := by rw [bits_comm]; exact hq
        have HQ := Lib.hid hq
        clear hq
        go_wp2_with fail
        go_quiet (fail)
        go_wp2_with fail
        go_ret
        refine ⟨congrArg (fun b => Ending.returned (.bool b)) ?_, ?_⟩
        · have := worksB_take_yes (zs := zs) (s := s) (i := zs.length) HZ.out HZ.out (by rw [HT.out]; exact HQ.out)
          rw [List.take_length] at this
          exact this.symm
        · exact Drawn.trans ⟨nd, rfl⟩ ⟨_, rfl⟩
      | false =>
        have hq' : (bits .and .i64 t s == t) = false := by rw [bits_comm]; exact hq
        have HQ := Lib.hid hq
        clear hq
        go_wp2_with fail
        go_quiet (fail)
        go_wp2_with fail
        go_roundg (gk - 1)
        case measure => exact HG.out
        case rel =>
          refine ⟨k + 1, by go_num, HJ, by omega, ⟨_, rfl⟩, (show Hid _ from fun j hj => ?_)⟩
          by_cases e : j = k
          · subst e; rw [HT.out]; exact HQ.out
          · exact hN.out j (by omega)
    · obtain rfl : k = len := by have := hk.out; omega
      have HW : Hid (worksB zs s = false) := by
        have := worksB_take_of (zs := zs) (s := s) (i := zs.length) (Nat.le_refl _) (by rw [H.out.1]; exact hN.out)
        rw [List.take_length] at this
        exact this
      clear hlt
      go_wp2_with fail
      go_ret
      exact ⟨congrArg (fun b => Ending.returned (.bool b)) HW.out.symm, hB.out⟩
theorem both_no {zk zi : Int} (h1 : 1 ≤ zk) (h2 : zk < zi) (h3 : zi ≤ 1024) : (bits .and .i64 zi zk == zi) = false := by
  cases h : bits .and .i64 zi zk == zi with
  | false => rfl
  | true =>
    have : hasB zk zi = true := by unfold hasB; rw [bits_comm]; exact h
    have := hasB_le (by omega) (by omega) (by omega) (by omega) this
    omega
theorem okAt_inc {p : Int} {zs : List Int} {k : Nat} (h : ∀ j, j ≤ k → okAt p zs j = true) : ∀ j, j < k → zs.getD j 0 < zs.getD k 0 := by
  intro j hj
  induction k with
  | zero => omega
  | succ n ih =>
    have h1 := h (n + 1) (Nat.le_refl _)
    unfold okAt at h1
    simp only [Bool.and_eq_true, decide_eq_true_eq, Nat.add_sub_cancel] at h1
    have h2 : zs.getD n 0 < zs.getD (n + 1) 0 := by
      rcases h1.2.1 with h3 | h3
      · omega
      · exact h3
    rcases Nat.lt_or_ge j n with h4 | h4
    · have := ih (fun i hi => h i (by omega)) h4
      omega
    · have : j = n := by omega
      subst this; exact h2
set_option maxRecDepth 20000 in
set_option maxHeartbeats 4000000 in
theorem specIs_any (g : Nat) (p : Int) (a : Option Addr) (len cap : Nat) (zs : List Int) (w : World) (hv : SVar 26 w g p a len cap) (h : IRow w a len zs) :
    Calls Try.prog 64 #[.pointer (some ⟨g, 0, none⟩)] w fun e w' => e = .returned (.bool (sysB p zs)) ∧ Drawn w w' := by
  have H := Lib.hid h
  have HV := Lib.hid hv
  have hm : len ≤ 9223372036854775807 := by have := h.2.1; unfold maxLen at this; exact this
  obtain ⟨⟨v0, v1⟩, _, _⟩ := hv.two
  clear h hv
  cases hp : partsB p with
  | false =>
    have HS := Lib.hid (sysB_no_parts (zs := zs) hp)
    go_enter Try.func64, Try.ntmps64
    go_wp2_with fail
    refine (specParts_any p _).mono ?_
    rintro e w1 ⟨rfl, rfl⟩
    rw [hp]
    go_wp2_with fail
    go_ret
    exact ⟨congrArg (fun b => Ending.returned (.bool b)) HS.out.symm, Drawn.refl _⟩
  | true =>
    have HP := Lib.hid hp
    have hpp : 1 ≤ p ∧ p ≤ 10 := of_decide_eq_true hp
    clear hp
    by_cases hl : 1 ≤ (len : Int) ∧ (len : Int) ≤ 64
    · have hl1 : ¬ ((len : Int) < 1) := by omega
      have hl2 : ¬ ((64 : Int) < len) := by omega
      have ht := two_bd p hpp.1 hpp.2
      have hw : IntKind.i64.wrap (1 * 2 ^ p.toNat) = two p := by rw [Int.one_mul]; exact wrap_i64 _ (by unfold two at ht; omega) (by unfold two at ht; omega)
      have hw2 : IntKind.i64.wrap (2 ^ p.toNat) = two p := by rw [← hw, Int.one_mul]
      have hw3 : IntKind.i64.wrap (two p - 1) = two p - 1 := wrap_i64 _ (by omega) (by omega)
      go_enter Try.func64, Try.ntmps64
      go_wp2_with fail
      refine (specParts_any p _).mono ?_
      rintro e w1 ⟨rfl, rfl⟩
      rw [HP.out]
      go_wp2_with fail
      clear hl1 hl2 v0 v1
      go_loopg [33] len (fun n i wr => ∃ k : Nat, i = .int .i64 k ∧ Hid (k + n = len) ∧ k ≤ len ∧ Hid (Drawn w wr) ∧ Hid (∀ j, j < k → okAt p zs j = true))
      case atStart => exact ⟨0, rfl, by show _ = _; omega, Nat.zero_le _, Drawn.refl _, fun j hj => absurd hj (Nat.not_lt_zero _)⟩
      case round =>
        obtain ⟨k, rfl, hk, hkl, hB, hN⟩ := hrel
        by_cases hlt : k < len
        · obtain ⟨b, off, rfl, hbl, hc⟩ := (H.out.keep (hB.out.below _)).2.2.2 k hlt
          have HJ : Hid (k + 1 + (gk - 1) = len) := by have := hk.out; show _ = _; omega
          have HG : Hid (gk - 1 < gk) := by have := hk.out; show _ < _; omega
          have HZ : Hid (k < zs.length) := by show _ < _; rw [H.out.1]; exact hlt
          obtain ⟨t, ht⟩ : ∃ t, zs.getD k 0 = t := ⟨_, rfl⟩
          rw [ht] at hc
          have HT := Lib.hid ht
          have hc1 : ∀ m, (wr.drewN m).cell? ⟨b, off + k, none⟩ = some (.int .i64 t) := fun _ => hc
          have hv0 : ∀ m, (wr.drewN m).cell? ⟨g, 0, none⟩ = some (.int .i64 p) := fun m => ((HV.out.keep (hB.out.below _)).two).1.1
          have hv1 : ∀ m, (wr.drewN m).cell? ⟨g, 1, none⟩ = some (.slice (some ⟨b, off, none⟩) len cap) := fun m => ((HV.out.keep (hB.out.below _)).two).1.2
          have hbd := H.out.bd hlt
          rw [ht] at hbd
          clear ht
          have hok := okAt_eq (p := p) HT.out
          have HOK := Lib.hid hok
          have HBK : Hid (∀ r : Bool, r = false → okAt p zs k = r → Hid (sysB p zs = false)) := fun r h1 h2 => Lib.hid (sysB_no HZ.out (h2.trans h1))
          clear hok
          cases hs : decide (1 ≤ t ∧ t ≤ two p - 1) with
          | false =>
            have HS := HBK.out _ rfl (by rw [HOK.out, show decide (1 ≤ t ∧ t < two p) = false from decide_eq_false (by have := of_decide_eq_false hs; omega), Bool.false_and])
            have HD := Lib.hid hs
            clear HBK hs
            go_wp2_with fail
            go_quiet ((go_at_call 77; exact Calls.quiet_of_same ((in_any t 1 (two p - 1) _).mono fun e w' ⟨h1, h2⟩ => ⟨h1.trans (by rw [HD.out]), h2.symm⟩)))
            go_wp2_with fail
            go_ret
            exact ⟨congrArg (fun b => Ending.returned (.bool b)) HS.out.symm, hB.out.trans ⟨_, rfl⟩⟩
          | true =>
            have hD2 := of_decide_eq_true hs
            have hD3 : t ≤ 1024 := by omega
            have HD1 := Lib.hid hs
            have HD : Hid (decide (1 ≤ t ∧ t < two p) = true) := Lib.hid (decide_eq_true (by omega))
            obtain ⟨gn, hgn⟩ : ∃ gn, gk - 1 = gn := ⟨_, rfl⟩
            rw [hgn] at HJ HG
            clear hs hgn
            rcases Nat.eq_zero_or_pos k with hk0 | hk0
            · subst hk0
              rw [Nat.add_zero] at hc hc1
              have HPV : Hid (decide (0 = 0 ∨ zs.getD (0 - 1) 0 < t) = true) := Lib.hid (decide_eq_true (.inl rfl))
              have HU : Hid (∀ j, j < 0 → zs.getD j 0 < t) := fun j hj => absurd hj (Nat.not_lt_zero _)
              go_wp2_with fail
              go_quiet ((go_at_call 77; exact Calls.quiet_of_same ((in_any t 1 (two p - 1) _).mono fun e w' ⟨h1, h2⟩ => ⟨h1.trans (by rw [HD1.out]), h2.symm⟩)))
              have HDR0 := Lib.hid (hB.out.trans ⟨nq, rfl⟩)
              obtain ⟨wq, hwq⟩ : ∃ wq, wq = wr.drewN nq := ⟨_, rfl⟩
              rw [← hwq] at HDR0 ⊢
              clear hwq hc hc1 hv0 hv1
              go_wp2_with fail
              go_loopg [4] 0 (fun n i wi => ∃ j : Nat, i = .int .i64 j ∧ Hid (j + n = 0) ∧ j ≤ 0 ∧ Hid (Drawn w wi) ∧ Hid (∀ i, i < j → hasB t (zs.getD i 0) = false))
              case atStart => exact ⟨0, rfl, by show _ = _; omega, Nat.zero_le _, HDR0.out, fun j hj => absurd hj (Nat.not_lt_zero _)⟩
              case round =>
                obtain ⟨j, rfl, hj, hjl, hB2, hN2⟩ := hrel
                by_cases hjk : j < 0
                · exact absurd hjk (Nat.not_lt_zero _)
                · obtain rfl : j = 0 := by have := hj.out; omega
                  have HO : Hid (okAt p zs (0) = true) := by
                    show _ = _
                    rw [HOK.out, HD.out, HPV.out, worksB_take_of (by have := HZ.out; omega) hN2.out]; rfl
                  clear hjk
                  go_wp2_with fail
                  go_roundg gn
                  case measure => exact HG.out
                  case rel =>
                    refine ⟨0 + 1, by go_num, HJ, by omega, hB2.out, (show Hid _ from fun i hi => ?_)⟩
                    by_cases e : i = 0
                    · subst e; exact HO.out
                    · exact hN.out i (by omega)
            · obtain ⟨i, rfl⟩ : ∃ i, k = i + 1 := ⟨k - 1, by omega⟩
              obtain ⟨b', off', e1', _, hc'⟩ := (H.out.keep (hB.out.below _)).2.2.2 i (by omega)
              cases e1'
              obtain ⟨x, hx⟩ : ∃ x, zs.getD i 0 = x := ⟨_, rfl⟩
              rw [hx] at hc'
              have HX := Lib.hid hx
              have ek : (((i + 1 : Nat) : Int) - 1) = (i : Int) := by omega
              have hcx : ∀ m, (wr.drewN m).cell? ⟨b, off + i, none⟩ = some (.int .i64 x) := fun _ => hc'
              clear hx
              by_cases hle : t ≤ x
              · have HS := HBK.out _ rfl (by
                  rw [HOK.out, show decide (i + 1 = 0 ∨ zs.getD (i + 1 - 1) 0 < t) = false from decide_eq_false (by rw [Nat.add_sub_cancel, HX.out]; omega)]
                  simp)
                clear HBK
                go_wp2_with fail
                go_quiet ((go_at_call 77; exact Calls.quiet_of_same ((in_any t 1 (two p - 1) _).mono fun e w' ⟨h1, h2⟩ => ⟨h1.trans (by rw [HD1.out]), h2.symm⟩)))
                go_wp2_with fail
                go_ret
                exact ⟨congrArg (fun b => Ending.returned (.bool b)) HS.out.symm, hB.out.trans ⟨_, rfl⟩⟩
              · have hle' : decide (t ≤ x) = false := decide_eq_false hle
                have HPV : Hid (decide (i + 1 = 0 ∨ zs.getD (i + 1 - 1) 0 < t) = true) := Lib.hid (decide_eq_true (.inr (by rw [Nat.add_sub_cancel, HX.out]; omega)))
                have HU : Hid (∀ j, j < i + 1 → zs.getD j 0 < t) := by
                  intro j hj
                  rcases Nat.lt_or_ge j i with h1 | h1
                  · have := okAt_inc (k := i) (fun j hj => hN.out j (by omega)) j h1
                    rw [HX.out] at this; omega
                  · obtain rfl : j = i := by omega
                    rw [HX.out]; omega
                go_wp2_with fail
                go_quiet ((go_at_call 77; exact Calls.quiet_of_same ((in_any t 1 (two p - 1) _).mono fun e w' ⟨h1, h2⟩ => ⟨h1.trans (by rw [HD1.out]), h2.symm⟩)))
                have HDR0 := Lib.hid (hB.out.trans ⟨nq, rfl⟩)
                obtain ⟨wq, hwq⟩ : ∃ wq, wq = wr.drewN nq := ⟨_, rfl⟩
                rw [← hwq] at HDR0 ⊢
                clear hwq hc hc1 hc' hcx hv0 hv1
                go_wp2_with fail
                go_loopg [4] (i + 1) (fun n i4 wi => ∃ j : Nat, i4 = .int .i64 j ∧ Hid (j + n = (i + 1)) ∧ j ≤ (i + 1) ∧ Hid (Drawn w wi) ∧ Hid (∀ y, y < j → hasB t (zs.getD y 0) = false))
                case atStart => exact ⟨0, rfl, by show _ = _; omega, Nat.zero_le _, HDR0.out, fun j hj => absurd hj (Nat.not_lt_zero _)⟩
                case round =>
                  obtain ⟨j, rfl, hj, hjl, hB2, hN2⟩ := hrel
                  by_cases hjk : j < (i + 1)
                  · obtain ⟨b2, off2, e2, _, hc⟩ := (H.out.keep (hB2.out.below _)).2.2.2 j (by omega)
                    cases e2
                    obtain ⟨_, _, e2, _, hd⟩ := (H.out.keep (hB2.out.below _)).2.2.2 ((i + 1)) hlt
                    cases e2
                    rw [HT.out] at hd
                    have HJ2 : Hid (j + 1 + (gk - 1) = (i + 1)) := by have := hj.out; show _ = _; omega
                    have HG2 : Hid (gk - 1 < gk) := by have := hj.out; show _ < _; omega
                    have hlow : 1 ≤ zs.getD j 0 := (okAt_bd (hN.out j (by omega))).1
                    have hup := HU.out j hjk
                    have hno := both_no hlow hup hD3
                    obtain ⟨q, hq⟩ : ∃ q, zs.getD j 0 = q := ⟨_, rfl⟩
                    rw [hq] at hc hno
                    have HQ := Lib.hid hq
                    clear hq hlow hup
                    have hc1 : ∀ m, (wr.drewN m).cell? ⟨b, off + j, none⟩ = some (.int .i64 q) := fun _ => hc
                    have hd1 : ∀ m, (wr.drewN m).cell? ⟨b, off + (i + 1), none⟩ = some (.int .i64 t) := fun _ => hd
                    have hv1 : ∀ m, (wr.drewN m).cell? ⟨g, 1, none⟩ = some (.slice (some ⟨b, off, none⟩) len cap) := fun m => ((HV.out.keep (hB2.out.below _)).two).1.2
                    have hv1' : wr.cell? ⟨g, 1, none⟩ = some (.slice (some ⟨b, off, none⟩) len cap) := ((HV.out.keep (hB2.out.below _)).two).1.2
                    cases hh : hasB t q with
                    | true =>
                      have hh' : (bits .and .i64 t q == q) = true := hh
                      have HS := HBK.out _ rfl (by rw [HOK.out, worksB_take_yes (zs := zs) (s := t) (i := (i + 1)) hjk (by have := HZ.out; omega) (by rw [HQ.out]; exact hh)]; simp)
                      clear hh HBK
                      go_wp2_with fail
                      go_quiet (fail)
                      go_wp2_with fail
                      go_ret
                      exact ⟨congrArg (fun b => Ending.returned (.bool b)) HS.out.symm, hB2.out.trans ⟨_, rfl⟩⟩
                    | false =>
                      have hh' : (bits .and .i64 t q == q) = false := hh
                      have HH := Lib.hid hh
                      clear hh
                      go_wp2_with fail
                      go_quiet (fail)
                      go_wp2_with fail
                      go_roundg (gk - 1)
                      case measure => exact HG2.out
                      case rel =>
                        refine ⟨j + 1, by go_num, HJ2, by omega, hB2.out.trans ⟨_, rfl⟩, (show Hid _ from fun y hy => ?_)⟩
                        by_cases e : y = j
                        · subst e; rw [HQ.out]; exact HH.out
                        · exact hN2.out y (by omega)
                  · obtain rfl : j = (i + 1) := by have := hj.out; omega
                    have HO : Hid (okAt p zs ((i + 1)) = true) := by
                      show _ = _
                      rw [HOK.out, HD.out, HPV.out, worksB_take_of (by have := HZ.out; omega) hN2.out]; rfl
                    clear hjk
                    go_wp2_with fail
                    go_roundg gn
                    case measure => exact HG.out
                    case rel =>
                      refine ⟨(i + 1) + 1, by go_num, HJ, by omega, hB2.out, (show Hid _ from fun y hy => ?_)⟩
                      by_cases e : y = (i + 1)
                      · subst e; exact HO.out
                      · exact hN.out y (by omega)
        · obtain rfl : k = len := by have := hk.out; omega
          have HS : Hid (sysB p zs = true) := sysB_mk HP.out (by rw [H.out.1]; omega) (by rw [H.out.1]; exact hN.out)
          clear hlt
          go_wp2_with fail
          go_ret
          exact ⟨congrArg (fun b => Ending.returned (.bool b)) HS.out.symm, hB.out⟩
    · have HS := Lib.hid (sysB_no_len (p := p) (zs := zs) (by rw [H.out.1]; omega))
      by_cases h1 : (len : Int) < 1
      · go_enter Try.func64, Try.ntmps64
        go_wp2_with fail
        refine (specParts_any p _).mono ?_
        rintro e w1 ⟨rfl, rfl⟩
        rw [HP.out]
        go_wp2_with fail
        go_ret
        exact ⟨congrArg (fun b => Ending.returned (.bool b)) HS.out.symm, Drawn.refl _⟩
      · have h2 : (64 : Int) < len := by omega
        go_enter Try.func64, Try.ntmps64
        go_wp2_with fail
        refine (specParts_any p _).mono ?_
        rintro e w1 ⟨rfl, rfl⟩
        rw [HP.out]
        go_wp2_with fail
        go_ret
        exact ⟨congrArg (fun b => Ending.returned (.bool b)) HS.out.symm, Drawn.refl _⟩
end Go.Proofs.Ytaecdeickncpcaa
