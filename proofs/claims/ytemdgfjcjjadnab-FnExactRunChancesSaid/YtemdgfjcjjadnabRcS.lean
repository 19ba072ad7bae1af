/-
  How likely a run has been seen: told as numbers that may be none; the model's walk. Conditions: shares are words.
-/
import Derived.Test.YtemdgfjcjjadnabSqA
import Derived.Test.YtemdgfjcjjadnabFinW
import Derived.Test.YtemdgfjcjjadnabCrW
import Derived.Test.YtemdgfjcjjadnabHld
import Derived.Test.YtemdgfjcjjadnabIow
import Derived.Maps.AppendAt
namespace Sq
open Go Flt F32 Cm We Dec
/-- behind t trials: how likely k have come true at last -/
def rcC (sh n : Nat) : Nat → Nat → Option Nat
  | 0, 0 => some 1065353216
  | 0, _ + 1 => some 0
  | t + 1, 0 => F32.opO .mul (We.sm (rcC sh n t) n) (F32.opO .sub (some 1065353216) (some sh))
  | t + 1, k + 1 => F32.opO .mul (rcC sh n t k) (some sh)
def rcD (sh n : Nat) : Nat → Option Nat
  | 0 => some 0
  | t + 1 => F32.opO .add (rcD sh n t) (F32.opO .mul (rcC sh n t (n - 1)) (some sh))
def rc0 (sh : Nat) (n m : Int) : Bool := wf0 sh n && decide (0 ≤ m ∧ m ≤ 256)
def rcB (sh : Nat) (n m : Int) : Bool := okL (rc0 sh n m) (rcD sh n.toNat) (m.toNat + 1)
def rcA (sh : Nat) (n m : Int) : List Nat := okA (rc0 sh n m) (rcD sh n.toNat) (m.toNat + 1)
theorem rcA_len (sh : Nat) (n m : Int) : (rcA sh n m).length ≤ 1023 := by
  unfold rcA
  cases h : rc0 sh n m with
  | false => rw [(okl_no rfl _ _).2]; exact Nat.zero_le _
  | true =>
    have h1 := okA_len true (rcD sh n.toNat) (m.toNat + 1)
    unfold rc0 at h
    rw [Bool.and_eq_true, decide_eq_true_eq] at h
    omega
theorem rc_no {sh : Nat} {n m : Int} (h : rc0 sh n m = false) : rcA sh n m = [] ∧ rcB sh n m = false := by
  unfold rcA rcB; rw [h]; exact ⟨(okl_no rfl _ _).2, (okl_no rfl _ _).1⟩
theorem rc_bad {sh n m : Nat} (h : oks (rcD sh n) (m + 1) = false) : rcA sh n m = [] ∧ rcB sh n m = false := by
  unfold rcA rcB
  rw [Int.toNat_natCast, Int.toNat_natCast]
  exact ⟨(okl_bad h).2, (okl_bad h).1⟩
theorem rc_yes {sh n m : Nat} (h0 : rc0 sh n m = true) (h : oks (rcD sh n) (m + 1) = true) : rcA sh n m = outs (rcD sh n) (m + 1) ∧ rcB sh n m = true := by
  unfold rcA rcB
  rw [Int.toNat_natCast, Int.toNat_natCast]
  exact ⟨(okl_yes h0 h).2, (okl_yes h0 h).1⟩
theorem frow_grown {w w' : World} {row : Option Nat} {a : Option Addr} {n : Nat} {zs : List Nat} (h : FRow w a n zs) (hg : w.grownBy w' row) (hne : ∀ b off, a = some ⟨b, off, none⟩ → row ≠ some b) : FRow w' a n zs := by
  obtain ⟨h1, h2, h3, h4⟩ := h
  refine ⟨h1, h2, h3, fun i hi => ?_⟩
  obtain ⟨b, off, e, hlt, hc⟩ := h4 i hi
  exact ⟨b, off, e, Nat.lt_of_lt_of_le hlt hg.size, by rw [World.cell?_of_block (w := w) (hg.block b hlt (fun e2 => hne b off e e2.symm))]; exact hc⟩
end Sq
namespace Go.Proofs.Ytemdgfjcjjadnab
open Go.RowKit Flt Dec Cm We F32 Sq Hld Cr
set_option maxHeartbeats 1600000 in
theorem c_Total (U : Nat → Option Nat) (a : Option Addr) (len cap : Nat) (cs : List Nat) (w : World) (h : FRow w a len cs) (hn : len ≤ 1048576) (hI : ∀ j, j < len → F32.Is (U j) (cs.getD j 0)) :
    Calls Try.prog 54 #[.slice a len cap] w fun e w' => (∃ v, e = .returned (.float .f32 v) ∧ F32.Is (We.sm U len) v ∧ v < 4294967296) ∧ Drawn w w' := by
  have H := Lib.hid h
  have HI := Lib.hid hI
  clear h hI
  go_enter Try.func54, Try.ntmps54
  go_wp2_with fail
  go_loopg [3, 4] len (fun q y z wr => ∃ k x : Nat, y = .float .f32 x ∧ z = .int .i64 (k : Int) ∧ Hid (k + q = len) ∧ k ≤ len ∧ x < 4294967296 ∧ Hid (F32.Is (We.sm U k) x) ∧ Hid (Drawn w wr))
  case atStart => exact ⟨0, 0, rfl, by go_num, by show _ = _; omega, Nat.zero_le _, by decide, zero_is, Drawn.refl _⟩
  case round =>
    obtain ⟨k, x, rfl, rfl, hk, hkn, hxl, hX, hD⟩ := hrel
    by_cases hlt : k < len
    · have hltI : (k : Int) < (len : Int) := by omega
      have HJ : Hid (k + 1 + (gk - 1) = len ∧ gk - 1 < gk) := by have := hk.out; show _ ∧ _; omega
      obtain ⟨b, off, rfl, _, hc⟩ := (H.out.keep (hD.out.below _)).2.2.2 k hlt
      obtain ⟨x1, v1, r1, j1, l1, e1⟩ := F32.arith_ex (P := Try.prog) (op := .add) (.inl rfl) 24 hX.out (HI.out k hlt) wr
      have J1 : Hid (F32.Is (We.sm U (k + 1)) x1) := j1
      have D1 := Lib.hid (hD.out.trans e1)
      generalize cs.getD k 0 = z at *
      clear j1 e1 hk
      go_wp2_with fail
      go_roundg (gk - 1)
      case measure => exact HJ.out.2
      case rel => exact ⟨k + 1, x1, rfl, by go_num, HJ.out.1, by omega, l1, J1.out, D1.out⟩
    · obtain rfl : k = len := by omega
      have hltI : ¬ ((k : Int) < (k : Int)) := by omega
      clear hlt hk
      go_wp2_with fail
      go_ret
      exact ⟨⟨_, rfl, hX.out, hxl⟩, hD.out⟩
set_option maxRecDepth 40000 in
set_option maxHeartbeats 8000000 in
theorem sRunChances_any (sh : Nat) (n m : Int) (w : World) (hsh : sh < 4294967296) :
    Calls Try.prog 19 #[.float .f32 sh, .int .i64 n, .int .i64 m] w fun e w' => (∃ a' c', e = .returned (.tuple #[.slice a' (rcA sh n m).length c', .bool (rcB sh n m)]) ∧ FRow w' a' (rcA sh n m).length (rcA sh n m)) ∧ Below w.heap.size w w' := by
  cases h1 : shr sh with
  | false =>
    have HR := Lib.hid (rc_no (show rc0 sh n m = false by unfold rc0 wf0; rw [h1]; rfl))
    have H1 := Lib.hid h1
    clear h1
    go_enter Try.func19, Try.ntmps19
    go_wp2_with fail
    refine (c_specShare sh _).mono ?_
    rintro e w1 ⟨rfl, rfl⟩
    rw [H1.out]
    go_wp2_with fail
    go_ret2
    rw [HR.out.1, HR.out.2]
    exact ⟨⟨_, _, rfl, frow_nil _ _⟩, Below.refl _ _⟩
  | true =>
    have H1 := Lib.hid h1
    have he := eq_gt h1
    have HSH : Hid (F32.Is (some sh) sh) := ⟨rfl, shr_num h1, hsh⟩
    cases h2 : gt0 sh with
    | false =>
      have HR := Lib.hid (rc_no (show rc0 sh n m = false by unfold rc0 wf0; rw [h2]; simp))
      rw [h2] at he
      clear h1 h2
      go_enter Try.func19, Try.ntmps19
      go_wp2_with fail
      refine (c_specShare sh _).mono ?_
      rintro e w1 ⟨rfl, rfl⟩
      rw [H1.out]
      go_wp2_with fail
      go_ret2
      rw [HR.out.1, HR.out.2]
      exact ⟨⟨_, _, rfl, frow_nil _ _⟩, Below.refl _ _⟩
    | true =>
      rw [h2] at he
      cases h3 : decide (1 ≤ n ∧ n ≤ 32) with
      | false =>
        have HR := Lib.hid (rc_no (show rc0 sh n m = false by unfold rc0 wf0; rw [h3]; simp))
        have H3 := Lib.hid h3
        clear h1 h2 h3
        go_enter Try.func19, Try.ntmps19
        go_wp2_with fail
        refine (c_specShare sh _).mono ?_
        rintro e w1 ⟨rfl, rfl⟩
        rw [H1.out]
        go_wp2_with fail
        refine (c_In n 1 32 _).mono ?_
        rintro e w1 ⟨rfl, rfl⟩
        rw [H3.out]
        go_wp2_with fail
        go_ret2
        rw [HR.out.1, HR.out.2]
        exact ⟨⟨_, _, rfl, frow_nil _ _⟩, Below.refl _ _⟩
      | true =>
        cases h4 : decide (0 ≤ m ∧ m ≤ 256) with
        | false =>
          have HR := Lib.hid (rc_no (show rc0 sh n m = false by unfold rc0; rw [h4]; simp))
          have H3 := Lib.hid h3
          have H4 := Lib.hid h4
          clear h1 h2 h3 h4
          go_enter Try.func19, Try.ntmps19
          go_wp2_with fail
          refine (c_specShare sh _).mono ?_
          rintro e w1 ⟨rfl, rfl⟩
          rw [H1.out]
          go_wp2_with fail
          refine (c_In n 1 32 _).mono ?_
          rintro e w1 ⟨rfl, rfl⟩
          rw [H3.out]
          go_wp2_with fail
          refine (c_In m 0 256 _).mono ?_
          rintro e w1 ⟨rfl, rfl⟩
          rw [H4.out]
          go_wp2_with fail
          go_ret2
          rw [HR.out.1, HR.out.2]
          exact ⟨⟨_, _, rfl, frow_nil _ _⟩, Below.refl _ _⟩
        | true =>
          have H3 := Lib.hid h3
          have H4 := Lib.hid h4
          have hn := of_decide_eq_true h3
          have hm := of_decide_eq_true h4
          have h0 : rc0 sh n m = true := by unfold rc0 wf0; rw [h1, h2, h3, h4]; rfl
          obtain ⟨n, rfl⟩ : ∃ k : Nat, n = k := ⟨n.toNat, by omega⟩
          obtain ⟨m, rfl⟩ : ∃ k : Nat, m = k := ⟨m.toNat, by omega⟩
          have HY := Lib.hid (fun h => rc_yes (sh := sh) (n := n) (m := m) h0 h)
          have HN := Lib.hid (fun h => rc_bad (sh := sh) (n := n) (m := m) h)
          have hn1 : 1 ≤ n := by omega
          have hn2 : n ≤ 32 := by omega
          have hm2 : m ≤ 256 := by omega
          obtain ⟨i0, hi, hz0, hz1, hz2⟩ := info_parts (show (Try.prog.info? 24).map (fun i => (i.zero, i.size, i.bytes)) = some (some (.float .f32 0), 1, 4) by kernel_rfl)
          have hmk : ∀ w, (Instr.makeSlice 35 (.int .i64 (n : Int)) (.int .i64 (n : Int))).run Try.prog w = .ok (.slice (some ⟨w.heap.size, 0, none⟩) n n) (w.alloc (.cells (madeCells (Value.float .f32 0).cells (n * 1)) 24)) := by
            intro w
            have := run_make (P := Try.prog) w 35 24 i0 (.float .f32 0) Try.underlying35 hi hz0 .i64 .i64 n n (by omega) (Int.le_refl _) (by rw [hz2]; omega) (by omega)
            rw [this, hz1, Int.toNat_natCast]
          have hF0 : ∀ w : World, FHd 24 (w.alloc (.cells (madeCells (Value.float .f32 0).cells (n * 1)) 24)) w.heap.size n (List.replicate n 0) := fun w => FHd.made w 24 n
          obtain ⟨X, hX⟩ : ∃ X, madeCells (Value.float .f32 0).cells (n * 1) = X := ⟨_, rfl⟩
          rw [hX] at hmk hF0
          have HF0 := Lib.hid (hF0 w)
          have BA : Hid (Below w.heap.size w (w.alloc (.cells X 24))) := Lib.hid ((Below.refl _ _).alloc (Nat.le_refl _) _)
          obtain ⟨cur0, hcur0⟩ := HF0.out.1.cell (show 0 < n by omega)
          have hfr0 := HF0.out.1.frozen 0
          have HF1 := Lib.hid (HF0.out.set (show 0 < n by omega) 1065353216)
          have B1 := Lib.hid (BA.out.setCell (p := ⟨w.heap.size, 0, none⟩) (Nat.le_refl _) (.float .f32 1065353216))
          clear hX hF0 HF0 BA
          clear h0 h1 h2 h3 h4 hn hm
          have hz : (0 : Int) < (n : Int) := by omega
          go_enter Try.func19, Try.ntmps19
          go_wp2_with fail
          refine (c_specShare sh _).mono ?_
          rintro e w1 ⟨rfl, rfl⟩
          rw [H1.out]
          go_wp2_with fail
          refine (c_In (n : Int) 1 32 _).mono ?_
          rintro e w1 ⟨rfl, rfl⟩
          rw [H3.out]
          go_wp2_with fail
          refine (c_In (m : Int) 0 256 _).mono ?_
          rintro e w1 ⟨rfl, rfl⟩
          rw [H4.out]
          go_wp2_with fail
          rw [set_made0] at HF1 B1
          obtain ⟨Y, hY⟩ : ∃ Y, X.setIfInBounds 0 (Value.float .f32 1065353216) = Y := ⟨_, rfl⟩
          rw [hY] at HF1 B1 ⊢
          clear hY hcur0 hfr0 hmk he
          have hsz : (w.alloc (.cells Y 24)).heap.size = w.heap.size + 1 := by simp
          have HO0' := Cm.owned_first (w.alloc (.cells Y 24)) 24 (.float .f32 0)
          rw [hsz] at HO0'
          have HO0 : Hid (((w.alloc (.cells Y 24)).alloc (.cells #[.float .f32 0] 24)).ownsRow (w.heap.size + 1) 24 1 (.slice (some ⟨w.heap.size + 1, 0, none⟩) 1 1) 1 (fv [0])) := HO0'
          have HC0 : Hid (∀ z ∈ (List.replicate n 0).set 0 1065353216, z < 4294967296) := Lib.hid fun z hz => by
            rcases List.mem_or_eq_of_mem_set hz with h | h
            · rw [List.eq_of_mem_replicate h]; decide
            · rw [h]; decide
          have HR0 := Lib.hid ((HF1.out.row (by omega) HC0.out).keep ((Below.refl _ _).alloc (Nat.le_refl _) (.cells #[.float .f32 0] 24)))
          have HGL : Hid (w.heap.size < w.heap.size + 1) := Nat.lt_succ_self _
          have HI0 : Hid (∀ j, j < n → F32.Is (rcC sh n 0 j) (((List.replicate n 0).set 0 1065353216).getD j 0) ∧ ((List.replicate n 0).set 0 1065353216).getD j 0 < 4294967296) := Lib.hid fun j hj => by
            cases j with
            | zero =>
              have e : ((List.replicate n 0).set 0 1065353216).getD 0 0 = 1065353216 := by simp [List.getD, hj]
              rw [e]; exact ⟨one_is, by decide⟩
            | succ j =>
              have e : ((List.replicate n 0).set 0 1065353216).getD (j + 1) 0 = 0 := by simp [List.getD, hj]
              rw [e]; exact ⟨zero_is, by decide⟩
          have BA1 := Lib.hid (B1.out.alloc B1.out.size (.cells #[.float .f32 0] 24))
          have HSZ : Hid (w.heap.size + 1 ≤ ((w.alloc (.cells Y 24)).alloc (.cells #[.float .f32 0] 24)).heap.size) := by show _ ≤ _; simp
          clear HF1 B1 HO0' hsz
          go_loopg [8, 9, 10, 11, 12, 13] m (fun q v8 v9 v10 v11 v12 v13 wr => ∃ (t d c1 c2 : Nat) (a1 a2 : Option Addr) (cs os : List Nat), v8 = .slice a1 n c1 ∧ v9 = .float .f32 d ∧ v10 = .slice a2 (t + 1) c2 ∧ v11 = .int .i64 (t : Int) ∧ Hid (t + q = m) ∧ t ≤ m ∧ Hid (FRow wr a1 n cs) ∧ Hid (∀ j, j < n → F32.Is (rcC sh n t j) (cs.getD j 0) ∧ cs.getD j 0 < 4294967296) ∧ Hid (os.length = t + 1) ∧ Hid (∀ j, j < t + 1 → F32.Is (rcD sh n j) (os.getD j 0) ∧ os.getD j 0 < 4294967296) ∧ Hid (F32.Is (rcD sh n t) d) ∧ Hid (wr.ownsRow (w.heap.size + 1) 24 1 (.slice a2 (t + 1) c2) (t + 1) (fv os)) ∧ Hid (∀ b off, a1 = some ⟨b, off, none⟩ → (Value.slice a2 (t + 1) c2).ownBlock ≠ some b) ∧ Hid (Below w.heap.size w wr) ∧ Hid ((w.heap.size + 1) ≤ wr.heap.size))
          case atStart => exact ⟨0, 0, _, _, _, _, _, [0], rfl, rfl, rfl, by go_num, by show _ = _; omega, Nat.zero_le _, HR0.out, HI0.out, rfl, (show Hid _ from fun j hj => by obtain rfl : j = 0 := (by omega); exact ⟨zero_is, by decide⟩), zero_is, HO0.out, (show Hid _ from fun b off e h => by have e1 : w.heap.size = b := congrArg Addr.block (Option.some.inj e); have h1 : w.heap.size + 1 = b := Option.some.inj (show some (w.heap.size + 1) = some b from h); omega), BA1.out, HSZ.out⟩
          case round =>
            clear HI0 HR0 HO0 BA1 HSZ
            obtain ⟨t, d, c1, c2, a1, a2, cs, os, rfl, rfl, rfl, rfl, ht, htm, hC, hCI, hol, hOI, hD, hO, hDJ, hB, hS⟩ := hrel
            by_cases hlt : t < m
            · have hltI : (t : Int) < (m : Int) := by omega
              have HJ : Hid (t + 1 + (gk - 1) = m ∧ gk - 1 < gk) := by have := ht.out; show _ ∧ _; omega
              clear ht
              go_wp2_with fail
              refine (c_Total (rcC sh n t) a1 n c1 cs _ hC.out (by omega) (fun j hj => (hCI.out j hj).1)).mono ?_
              rintro e w2 ⟨⟨s1, rfl, hs1, _⟩, d2⟩
              obtain ⟨x1, v1, r1, j1, l1, e1⟩ := F32.arith_ex (P := Try.prog) (op := .sub) (.inr (.inl rfl)) 24 one_is HSH.out w2
              obtain ⟨x2, v2, r2, j2, l2, e2⟩ := F32.arith_ex (P := Try.prog) (op := .mul) (.inr (.inr (.inl rfl))) 24 hs1 j1 v1
              have D2 := Lib.hid ((d2.trans e1).trans e2)
              have J2 : Hid (F32.Is (rcC sh n (t + 1) 0) x2) := j2
              have L2 := Lib.hid l2
              have hB2 := Lib.hid (hB.out.trans ((D2.out.below _).mono hB.out.size))
              have hC2 := Lib.hid (hC.out.keep (D2.out.below _))
              have hO2 := Lib.hid (owned_drawn hO.out D2.out)
              have hS2 : Hid ((w.heap.size + 1) ≤ v2.heap.size) := Nat.le_trans hS.out (D2.out.below (w.heap.size + 1)).size
              have HN0 : Hid ((v2.alloc (.cells #[.float .f32 x2] 24)).ownsRow v2.heap.size 24 1 (.slice (some ⟨v2.heap.size, 0, none⟩) 1 1) 1 (fv [x2])) := Cm.owned_first v2 _ _
              clear d2 e1 e2 j1 l1 j2 l2 hs1 hB hC hO hS
              go_wp2_with fail
              generalize go1 : gk = go0 at *
              clear go1 r1 r2
              have HNB : Hid (Below v2.heap.size v2 (v2.alloc (.cells #[.float .f32 x2] 24))) := (Below.refl _ _).alloc (Nat.le_refl _) _
              have HNS : Hid (v2.heap.size ≤ (v2.alloc (.cells #[.float .f32 x2] 24)).heap.size) := by show _ ≤ _; simp
              obtain ⟨N, hN⟩ : ∃ N, n = N + 1 := ⟨n - 1, by omega⟩
              have hnI : (n : Int) - 1 = (N : Int) := by omega
              have HRD : Hid (rcD sh n (t + 1) = F32.opO .add (rcD sh n t) (F32.opO .mul (rcC sh n t N) (some sh))) := by show _ = _; rw [show N = n - 1 from by omega]; rfl
              have hN2 : N + 1 ≤ n := by omega
              have hN3 : n ≤ N + 1 := by omega
              clear hN
              go_loopg [12, 13] N (fun q v12 v13 wr => ∃ (k c3 : Nat) (a3 : Option Addr) (ns : List Nat), v12 = .slice a3 (k + 1) c3 ∧ v13 = .int .i64 ((k : Int) + 1) ∧ Hid (k + q = N) ∧ k ≤ N ∧ Hid (ns.length = k + 1) ∧ Hid (∀ j, j < k + 1 → F32.Is (rcC sh n (t + 1) j) (ns.getD j 0) ∧ ns.getD j 0 < 4294967296) ∧ Hid (wr.ownsRow v2.heap.size 24 1 (.slice a3 (k + 1) c3) (k + 1) (fv ns)) ∧ Hid (Below v2.heap.size v2 wr) ∧ Hid (v2.heap.size ≤ wr.heap.size))
              case atStart => exact ⟨0, _, _, [x2], rfl, by go_num, by show _ = _; omega, Nat.zero_le _, rfl, (show Hid _ from fun j hj => by obtain rfl : j = 0 := (by omega); exact ⟨J2.out, L2.out⟩), HN0.out, HNB.out, HNS.out⟩
              case round =>
                clear HN0 HNB HNS
                obtain ⟨k, c3, a3, ns, rfl, rfl, hk, hkn, hnl, hNI, hNO, hNB, hNS⟩ := hrel
                have hCr := hC2.out.keep hNB.out
                by_cases hlk : k < N
                · have hlkI : (k : Int) + 1 < (n : Int) := by omega
                  have HM : Hid (k + 1 + (gk - 1) = N ∧ gk - 1 < gk) := by have := hk.out; show _ ∧ _; omega
                  obtain ⟨b, off, ea, hbl, hc⟩ := hCr.2.2.2 k (by omega)
                  subst ea
                  have hu := (hCI.out k (by omega)).1
                  obtain ⟨x3, v3, r3, j3, l3, e3⟩ := F32.arith_ex (P := Try.prog) (op := .mul) (.inr (.inr (.inl rfl))) 24 hu HSH.out wr
                  have J3 : Hid (F32.Is (rcC sh n (t + 1) (k + 1)) x3) := j3
                  have L3 := Lib.hid l3
                  have D3 := Lib.hid e3
                  have HN4 := Lib.hid (owned_drawn hNO.out D3.out)
                  have HB4 := Lib.hid (hNB.out.trans (D3.out.below v2.heap.size))
                  have HCELL : Hid (∀ (j : Nat) (u : Value), [Value.float .f32 x3][j]? = some u → (v3.alloc (.cells #[.float .f32 x3] 24)).cell? ((⟨v3.heap.size, 0, none⟩ : Addr).add j) = some u) := Lib.hid (Cm.cell_new1 v3 24 (.float .f32 x3))
                  have HO1 := Lib.hid (HN4.out.alloc (.cells #[.float .f32 x3] 24))
                  have HB1 := Lib.hid (HB4.out.alloc HB4.out.size (.cells #[.float .f32 x3] 24))
                  have HLE : Hid (k + 1 + 1 ≤ maxLen ∧ (k + 1 + 1) * 4 ≤ 140737488355328) := by show _ ∧ _; unfold maxLen; omega
                  generalize cs.getD k 0 = u at *
                  clear hNO hNB hNS hCr hu j3 l3 e3 HN4 HB4 hk D3 hbl
                  go_wp2_with (at_builtin; refine wpList_append_own _ rfl _ _ 35 rfl v2.heap.size 24 i0 (.float .f32 0) 1 4 Try.underlying35 hi hz0 hz1 hz2 rfl (by decide) (.slice a3 (k + 1) c3) (k + 1) (fv ns) rfl HO1.out ⟨v3.heap.size, 0, none⟩ 1 1 [.float .f32 x3] rfl rfl HCELL.out (by intro u hu; simp at hu; subst hu; rfl) HLE.out.1 HLE.out.2 HB1.out.size ?_)
                  intro v' w6 hown' hgrow _
                  have HO3 : Hid (w6.ownsRow v2.heap.size 24 1 v' (k + 1 + 1) (fv (ns ++ [x3]))) := by
                    show World.ownsRow _ _ _ _ _ _ _
                    rw [Cm.fv_snoc]; exact hown'
                  have HB3 : Hid (Below v2.heap.size v2 w6) := Lib.hid (HB1.out.grown hgrow HB1.out.size (fun q hq => (HO1.out.lt q hq).1))
                  clear hown' hgrow HO1 HB1 HCELL
                  obtain ⟨a5, c5, rfl⟩ := Cm.owns_shape HO3.out
                  have HZ2 : Hid ((ns ++ [x3]).length = k + 1 + 1) := by show _ = _; rw [List.length_append, hnl.out]; rfl
                  have HI2 : Hid (∀ j, j < k + 1 + 1 → F32.Is (rcC sh n (t + 1) j) ((ns ++ [x3]).getD j 0) ∧ (ns ++ [x3]).getD j 0 < 4294967296) := by
                    show ∀ j, _
                    intro j hj
                    by_cases ej : j = k + 1
                    · subst ej; rw [snoc_last ns x3 hnl.out]; exact ⟨J3.out, L3.out⟩
                    · rw [snoc_old ns x3 (by rw [hnl.out]; omega)]; exact hNI.out j (by omega)
                  have HB3S : Hid (v2.heap.size ≤ w6.heap.size) := HB3.out.size
                  go_wp2_with fail
                  go_roundg (gk - 1)
                  case measure => exact HM.out.2
                  case rel => exact ⟨k + 1, c5, a5, ns ++ [x3], rfl, by go_num, HM.out.1, by omega, HZ2.out, HI2.out, HO3.out, HB3.out, HB3S.out⟩
                · have hkN : N = k := by omega
                  subst hkN
                  have hlkI : ¬ ((N : Int) + 1 < (n : Int)) := by omega
                  obtain ⟨b, off, ea, hbl, hc⟩ := hCr.2.2.2 N (by omega)
                  subst ea
                  have hu := (hCI.out N (by omega)).1
                  obtain ⟨x3, v3, r3, j3, l3, e3⟩ := F32.arith_ex (P := Try.prog) (op := .mul) (.inr (.inr (.inl rfl))) 24 hu HSH.out wr
                  obtain ⟨x4, v4, r4, j4, l4, e4⟩ := F32.arith_ex (P := Try.prog) (op := .add) (.inl rfl) 24 hD.out j3 v3
                  have J4 : Hid (F32.Is (rcD sh n (t + 1)) x4) := by show F32.Is _ _; rw [HRD.out]; exact j4
                  have L4 := Lib.hid l4
                  have D4 := Lib.hid (e3.trans e4)
                  have HNR := Lib.hid (Cm.row_owned hNO.out hnl.out (by omega) (lt_mem hnl.out fun j hj => (hNI.out j hj).2))
                  have hBr := Lib.hid (hB2.out.trans (hNB.out.mono hB2.out.size))
                  have hOr := Lib.hid (Iow.ownsRow_keep hO2.out hNB.out)
                  -- behind the arithmetic
                  have hB4 := Lib.hid (hBr.out.trans ((D4.out.below _).mono hBr.out.size))
                  have hO4 := Lib.hid (owned_drawn hOr.out D4.out)
                  have hN4 := Lib.hid (owned_drawn hNO.out D4.out)
                  have hR4 := Lib.hid (HNR.out.keep (D4.out.below _))
                  have hS4 : Hid ((w.heap.size + 1) ≤ v4.heap.size) := Nat.le_trans (Nat.le_trans hS2.out hNS.out) (D4.out.below (w.heap.size + 1)).size
                  have hOL : Hid (∀ q, (Value.slice a2 (t + 1) c2).ownBlock = some q → q < v2.heap.size) := Lib.hid fun q hq => (hO2.out.lt q hq).2
                  have hNL : Hid (∀ q, (Value.slice a3 (N + 1) c3).ownBlock = some q → v2.heap.size ≤ q) := Lib.hid fun q hq => (hNO.out.lt q hq).1
                  -- one cell more, and the append
                  have HCELL : Hid (∀ (j : Nat) (u : Value), [Value.float .f32 x4][j]? = some u → (v4.alloc (.cells #[.float .f32 x4] 24)).cell? ((⟨v4.heap.size, 0, none⟩ : Addr).add j) = some u) := Lib.hid (Cm.cell_new1 v4 24 (.float .f32 x4))
                  have HO1 := Lib.hid (hO4.out.alloc (.cells #[.float .f32 x4] 24))
                  have HB1 := Lib.hid (hB4.out.alloc hB4.out.size (.cells #[.float .f32 x4] 24))
                  have HR1 := Lib.hid (hR4.out.keep ((Below.refl v4.heap.size v4).alloc (Nat.le_refl _) (.cells #[.float .f32 x4] 24)))
                  have HS1 : Hid ((w.heap.size + 1) ≤ (v4.alloc (.cells #[.float .f32 x4] 24)).heap.size) := Nat.le_trans hS4.out (by simp)
                  have HV4 : Hid (v2.heap.size ≤ v4.heap.size) := Nat.le_trans hNS.out (D4.out.below v2.heap.size).size
                  have HLE : Hid (t + 1 + 1 ≤ maxLen ∧ (t + 1 + 1) * 4 ≤ 140737488355328) := by show _ ∧ _; unfold maxLen; omega
                  generalize cs.getD N 0 = u at *
                  clear hNO hNB hCr hu j3 l3 e3 j4 l4 e4 hk D4 hbl hBr hOr hB4 hO4 hR4 hlk HNR
                  go_wp2_with (at_builtin; refine wpList_append_own_at _ rfl _ _ 35 rfl (w.heap.size + 1) 24 i0 (.float .f32 0) 1 4 Try.underlying35 hi hz0 hz1 hz2 rfl (by decide) (.slice a2 (t + 1) c2) (t + 1) (fv os) rfl HO1.out ⟨v4.heap.size, 0, none⟩ 1 1 [.float .f32 x4] rfl rfl HCELL.out (by intro u hu; simp at hu; subst hu; rfl) HLE.out.1 HLE.out.2 HS1.out ?_)
                  intro v' w6 hown' hgrow _ hat
                  have HNN : Hid (N + 1 = n) := Lib.hid (by omega)
                  have HO3 : Hid (w6.ownsRow (w.heap.size + 1) 24 1 v' (t + 1 + 1) (fv (os ++ [x4]))) := by
                    show World.ownsRow _ _ _ _ _ _ _
                    rw [Cm.fv_snoc]; exact hown'
                  have hnb : ∀ b' off', a3 = some ⟨b', off', none⟩ → v2.heap.size ≤ b' := fun b' off' e => hNL.out b' (by rw [e]; rfl)
                  have HR6 : Hid (FRow w6 a3 n ns) := Lib.hid (by
                    rw [← HNN.out]
                    exact frow_grown HR1.out hgrow (fun b' off' e h => by have h1 := hnb b' off' e; have h2 := hOL.out b' h; omega))
                  have HD6 : Hid (∀ b' off', a3 = some ⟨b', off', none⟩ → v'.ownBlock ≠ some b') := Lib.hid fun b' off' e h => by
                    have h1 := hnb b' off' e
                    rcases hat with h3 | h3
                    · have h2 := hOL.out b' (h3 ▸ h); omega
                    · have h4 := h3.symm.trans h
                      obtain ⟨b3, o3, e3, hl3, _⟩ := HR1.out.2.2.2 0 (by omega)
                      have h5 : b3 = b' := congrArg Addr.block (Option.some.inj (e3.symm.trans e))
                      have h6 := Option.some.inj h4
                      rw [h5, ← h6, World.size_alloc] at hl3
                      exact Nat.lt_irrefl _ hl3
                  have HB6 : Hid (Below w.heap.size w w6) := Lib.hid (HB1.out.grown hgrow HB1.out.size (fun q hq => Nat.le_trans (Nat.le_succ _) (HO1.out.lt q hq).1))
                  have HS6 : Hid (w.heap.size + 1 ≤ w6.heap.size) := Nat.le_trans HS1.out hgrow.size
                  have HNI : Hid (∀ j, j < n → F32.Is (rcC sh n (t + 1) j) (ns.getD j 0) ∧ ns.getD j 0 < 4294967296) := Lib.hid fun j hj => hNI.out j (by omega)
                  have HZ2 : Hid ((os ++ [x4]).length = t + 1 + 1) := by show _ = _; rw [List.length_append, hol.out]; rfl
                  have HI2 : Hid (∀ j, j < t + 1 + 1 → F32.Is (rcD sh n j) ((os ++ [x4]).getD j 0) ∧ (os ++ [x4]).getD j 0 < 4294967296) := by
                    show ∀ j, _
                    intro j hj
                    by_cases ej : j = t + 1
                    · subst ej; rw [snoc_last os x4 hol.out]; exact ⟨J4.out, L4.out⟩
                    · rw [snoc_old os x4 (by rw [hol.out]; omega)]; exact hOI.out j (by omega)
                  clear hown' hgrow hat hnb HO1 HB1 HR1 HCELL r3 r4 HS1 hC2 hO2
                  obtain ⟨a5, c5, rfl⟩ := Cm.owns_shape HO3.out
                  go_wp2_with fail
                  go_roundg (go0 - 1)
                  case measure => exact HJ.out.2
                  case rel => exact ⟨t + 1, x4, c3, c5, a3, a5, ns, os ++ [x4], by rw [HNN.out], rfl, rfl, by go_num, HJ.out.1, by omega, HR6.out, HNI.out, HZ2.out, HI2.out, J4.out, HO3.out, HD6.out, HB6.out, HS6.out⟩
            · have hltI : ¬ ((t : Int) < (m : Int)) := by omega
              have htm' : t = m := by omega
              subst htm'
              have hrow2 := Cm.row_owned hO.out hol.out (by omega) (lt_mem hol.out fun j hj => (hOI.out j hj).2)
              have HR2 := Lib.hid hrow2
              obtain ⟨g1, g2⟩ := F32.all_is hol.out (fun j hj => (hOI.out j hj).1)
              have G1 := Lib.hid g1
              have G2 := Lib.hid g2
              clear hlt ht hrow2 g1 g2 hO hC
              go_wp2_with fail
              refine (specList_any a2 (t + 1) c2 os _ HR2.out (by omega)).mono ?_
              rintro e w7 ⟨rfl, b7⟩
              rw [G1.out]
              have R7 := Lib.hid (HR2.out.keep b7)
              have B7 := Lib.hid (hB.out.trans (b7.mono hB.out.size))
              clear b7
              cases hq : F32.oks (rcD sh n) (t + 1) with
              | true =>
                have HA := Lib.hid (HY.out hq)
                have HL : Hid (outs (rcD sh n) (t + 1) = os) := (G2.out hq).symm
                rw [if_pos rfl]
                go_wp2_with fail
                go_ret2
                rw [HA.out.1, HA.out.2, HL.out, hol.out]
                first | exact ⟨⟨_, _, rfl, R7.out⟩, B7.out⟩ | exact ⟨⟨_, ⟨_, rfl⟩, R7.out⟩, B7.out⟩
              | false =>
                have HA := Lib.hid (HN.out hq)
                rw [if_neg (by decide)]
                go_wp2_with fail
                go_ret2
                rw [HA.out.1, HA.out.2]
                first | exact ⟨⟨_, _, rfl, frow_nil _ _⟩, B7.out⟩ | exact ⟨⟨_, ⟨_, rfl⟩, frow_nil _ _⟩, B7.out⟩
end Go.Proofs.Ytemdgfjcjjadnab
