/-
  How likely so many machines are down, in the program, and how many in the mean. Conditions: numbers are words of 32 bits.
-/
import Derived.Test.YtiebbmgehhcdmaaCrW
namespace Go.Proofs.Ytiebbmgehhcdmaa
open Go.RowKit Flt Dec Cm Liv Cr Hld
set_option maxHeartbeats 1600000 in
theorem sCrewBalance_any (m c : Int) (f p : Nat) (w : World) (hf : f < 4294967296) (hp : p < 4294967296) :
    Calls Try.prog 20 #[.int .i64 m, .int .i64 c, .float .f32 f, .float .f32 p] w fun e w' => (∃ a' c', e = .returned (.tuple #[.slice a' (crA m c f p).length c', .bool (crB m c f p)]) ∧ FRow w' a' (crA m c f p).length (crA m c f p)) ∧ Below w.heap.size w w' := by
  by_cases h1 : 1 ≤ m ∧ m ≤ 16
  · have HD1 : Hid (decide ((1 : Int) ≤ m ∧ m ≤ 16) = true) := decide_eq_true h1
    by_cases h2 : 1 ≤ c ∧ c ≤ m
    · have HD2 : Hid (decide ((1 : Int) ≤ c ∧ c ≤ m) = true) := decide_eq_true h2
      cases h3 : nng f with
      | true =>
        cases h4 : pos p with
        | true =>
          obtain ⟨n, rfl⟩ : ∃ n : Nat, m = n := ⟨m.toNat, by omega⟩
          obtain ⟨k, rfl⟩ : ∃ k : Nat, c = k := ⟨c.toNat, by omega⟩
          exact sCrewYes_any n k f p w hf hp (cr0_yes h1 h2 h3 h4)
        | false =>
          obtain ⟨hb, ha⟩ := crB_no0 (cr0_p (m := m) (c := c) (f := f) h4)
          have HA : Hid (crA m c f p = [] ∧ crB m c f p = false) := ⟨ha, hb⟩
          have H3 := Lib.hid h3
          have H4 := Lib.hid h4
          clear hb ha h1 h2 h3 h4
          go_enter Try.func20, Try.ntmps20
          go_wp2_with fail
          refine (c_In _ _ _ _).mono ?_
          rintro e w1 ⟨rfl, rfl⟩
          rw [HD1.out]
          go_wp2_with fail
          refine (c_In _ _ _ _).mono ?_
          rintro e w1 ⟨rfl, rfl⟩
          rw [HD2.out]
          go_wp2_with fail
          refine (c_specLeast f _).mono ?_
          rintro e w1 ⟨rfl, d1⟩
          have D1 := Lib.hid d1
          rw [H3.out]
          clear d1
          go_wp2_with fail
          refine (c_specAbove p _).mono ?_
          rintro e w2 ⟨rfl, d2⟩
          rw [H4.out]
          go_wp2_with fail
          go_ret2
          rw [HA.out.1, HA.out.2]
          first | exact ⟨⟨_, _, rfl, frow_nil _ _⟩, (D1.out.trans d2).below _⟩ | exact ⟨⟨_, ⟨_, rfl⟩, frow_nil _ _⟩, (D1.out.trans d2).below _⟩
      | false =>
        obtain ⟨hb, ha⟩ := crB_no0 (cr0_f (m := m) (c := c) (p := p) h3)
        have HA : Hid (crA m c f p = [] ∧ crB m c f p = false) := ⟨ha, hb⟩
        have H3 := Lib.hid h3
        clear hb ha h1 h2 h3
        go_enter Try.func20, Try.ntmps20
        go_wp2_with fail
        refine (c_In _ _ _ _).mono ?_
        rintro e w1 ⟨rfl, rfl⟩
        rw [HD1.out]
        go_wp2_with fail
        refine (c_In _ _ _ _).mono ?_
        rintro e w1 ⟨rfl, rfl⟩
        rw [HD2.out]
        go_wp2_with fail
        refine (c_specLeast f _).mono ?_
        rintro e w1 ⟨rfl, d1⟩
        rw [H3.out]
        go_wp2_with fail
        go_ret2
        rw [HA.out.1, HA.out.2]
        first | exact ⟨⟨_, _, rfl, frow_nil _ _⟩, d1.below _⟩ | exact ⟨⟨_, ⟨_, rfl⟩, frow_nil _ _⟩, d1.below _⟩
    · obtain ⟨hb, ha⟩ := crB_no0 (cr0_c (f := f) (p := p) h2)
      have HA : Hid (crA m c f p = [] ∧ crB m c f p = false) := ⟨ha, hb⟩
      have HD2 : Hid (decide ((1 : Int) ≤ c ∧ c ≤ m) = false) := decide_eq_false h2
      clear hb ha h1 h2
      go_enter Try.func20, Try.ntmps20
      go_wp2_with fail
      refine (c_In _ _ _ _).mono ?_
      rintro e w1 ⟨rfl, rfl⟩
      rw [HD1.out]
      go_wp2_with fail
      refine (c_In _ _ _ _).mono ?_
      rintro e w1 ⟨rfl, rfl⟩
      rw [HD2.out]
      go_wp2_with fail
      go_ret2
      rw [HA.out.1, HA.out.2]
      first | exact ⟨⟨_, _, rfl, frow_nil _ _⟩, Below.refl _ _⟩ | exact ⟨⟨_, ⟨_, rfl⟩, frow_nil _ _⟩, Below.refl _ _⟩
  · obtain ⟨hb, ha⟩ := crB_no0 (cr0_m (c := c) (f := f) (p := p) h1)
    have HA : Hid (crA m c f p = [] ∧ crB m c f p = false) := ⟨ha, hb⟩
    have HD1 : Hid (decide ((1 : Int) ≤ m ∧ m ≤ 16) = false) := decide_eq_false h1
    clear hb ha h1
    go_enter Try.func20, Try.ntmps20
    go_wp2_with fail
    refine (c_In _ _ _ _).mono ?_
    rintro e w1 ⟨rfl, rfl⟩
    rw [HD1.out]
    go_wp2_with fail
    go_ret2
    rw [HA.out.1, HA.out.2]
    first | exact ⟨⟨_, _, rfl, frow_nil _ _⟩, Below.refl _ _⟩ | exact ⟨⟨_, ⟨_, rfl⟩, frow_nil _ _⟩, Below.refl _ _⟩
theorem sumOf_is (a : Option Addr) (len cap : Nat) (zs : List Nat) (o : Option Nat) (w : World) (h : FRow w a len zs) (hn : len ≤ 256) (hs : Flt.sumO zs = o) :
    Calls Try.prog 52 #[.slice a len cap] w fun e w' => (∃ v, e = .returned (.float .f32 v) ∧ F32.Is o v) ∧ Drawn w w' := by
  have H := Lib.hid h
  have HS := Lib.hid hs
  clear h hs
  go_enter Try.func52, Try.ntmps52
  go_wp2_with fail
  refine (implSum_yes a len cap zs _ H.out hn).mono ?_
  rintro e w1 ⟨v, rfl, hi, d1⟩
  have HI : Hid (F32.Is o v) := by rw [HS.out] at hi; exact hi
  have D1 := Lib.hid d1
  clear hi d1
  go_wp2_with fail
  go_ret
  exact ⟨⟨v, rfl, HI.out⟩, D1.out⟩
set_option maxRecDepth 100000 in
set_option maxHeartbeats 8000000 in
theorem iCrewYes_any (n c f p : Nat) (w : World) (hf : f < 4294967296) (hp : p < 4294967296) (h0 : cr0 n c f p = true) :
    Calls Try.prog 21 #[.int .i64 (n : Int), .int .i64 (c : Int), .float .f32 f, .float .f32 p] w fun e w' => (∃ a' c', e = .returned (.tuple #[.slice a' (crA n c f p).length c', .bool (crB n c f p)]) ∧ FRow w' a' (crA n c f p).length (crA n c f p) ∧ Dec.Own w' w.heap.size a' (crA n c f p).length 22) ∧ Below w.heap.size w w' := by
  obtain ⟨h1, h2, h3, h4⟩ := cr0_parts h0
  have HF3 := Lib.hid h3
  have HP4 := Lib.hid h4
  have HFI := Lib.hid (nng_is h3 hf)
  have HPI := Lib.hid (pos_is h4 hp)
  have HCB := Lib.hid (crB_at h0)
  have hn16 : n ≤ 16 := by omega
  have hcn : c ≤ n := by omega
  have q1 : ¬ ((n : Int) < 1) := by omega
  have q2 : ¬ ((16 : Int) < n) := by omega
  have q3 : ¬ ((c : Int) < 1) := by omega
  have q4 : ¬ ((n : Int) < c) := by omega
  have HU0 : Hid (F32.Is (crU n c f p 0) 1065353216) := ⟨rfl, by decide, by decide⟩
  have HUS : Hid (∀ k, crU n c f p (k + 1) = F32.opO .quo (F32.opO .mul (F32.opO .mul (crU n c f p k) (some (Go.floatOfInt .f32 ((n - k : Nat) : Int)))) (some f)) (F32.opO .mul (some (Go.floatOfInt .f32 ((min (k + 1) c : Nat) : Int))) (some p))) := Lib.hid fun _ => rfl
  have hmk : ∀ w, (Instr.makeSlice 23 (.int .i64 ((n : Int) + 1)) (.int .i64 ((n : Int) + 1))).run Try.prog w = .ok (.slice (some ⟨w.heap.size, 0, none⟩) (n + 1) (n + 1)) (w.alloc (.cells (madeCells (Value.float .f32 0).cells ((n + 1) * 1)) 22)) := by
    intro w
    obtain ⟨i, hi, hz0, hz1, hz2⟩ := info_parts (show (Try.prog.info? 22).map (fun i => (i.zero, i.size, i.bytes)) = some (some (.float .f32 0), 1, 4) by kernel_rfl)
    have := run_make (P := Try.prog) w 23 22 i (.float .f32 0) Try.underlying23 hi hz0 .i64 .i64 ((n + 1 : Nat) : Int) ((n + 1 : Nat) : Int) (by omega) (Int.le_refl _) (by rw [hz2]; omega) (by omega)
    rw [hz1, Int.toNat_natCast] at this
    exact this
  have HMD : Hid (∀ w : World, FHd 22 (w.alloc (.cells (madeCells (Value.float .f32 0).cells ((n + 1) * 1)) 22)) w.heap.size (n + 1) (List.replicate (n + 1) 0)) := Lib.hid fun w => FHd.made w 22 (n + 1)
  generalize madeCells (Value.float .f32 0).cells ((n + 1) * 1) = C0 at *
  clear h0 h1 h2 h3 h4
  go_enter Try.func21, Try.ntmps21
  go_wp2_with fail
  refine (c_implFrom f _).mono ?_
  rintro e w1 ⟨rfl, d1⟩
  rw [HF3.out]
  have D1 := Lib.hid d1
  clear d1
  go_wp2_with fail
  refine (c_implAbove p _).mono ?_
  rintro e w2 ⟨rfl, d2⟩
  rw [HP4.out]
  have B2 := Lib.hid ((D1.out.trans d2).below w.heap.size)
  have hm2 := HMD.out w2
  obtain ⟨u0, hu0⟩ := hm2.1.cell (Nat.succ_pos n)
  have hfr0 := hm2.1.frozen 0
  have HM3 := Lib.hid (hm2.set (Nat.succ_pos n) 1065353216)
  have HB3 : Hid (Below w2.heap.size w2 ((w2.alloc (.cells C0 22)).setCell ⟨w2.heap.size, 0, none⟩ (.float .f32 1065353216))) := ((Below.refl _ _).alloc (Nat.le_refl _) _).setCell (p := ⟨w2.heap.size, 0, none⟩) (Nat.le_refl _) _
  rw [set_made0] at HM3 HB3
  have HL0 : Hid (((List.replicate (n + 1) 0).set 0 1065353216).getD 0 0 = 1065353216) := by show _ = _; simp [List.getD]
  clear d2 hm2 q1 q2 q3 q4
  generalize (List.replicate (n + 1) 0).set 0 1065353216 = L0 at *
  go_wp2_with fail
  clear hu0 hfr0
  go_loopg [11] n (fun q i wr => ∃ (k : Nat) (L : List Nat), i = .int .i64 ((k : Int) + 1) ∧ Hid (k + q = n) ∧ k ≤ n ∧ Hid (FHd 22 wr w2.heap.size (n + 1) L) ∧ Hid (∀ j, j < k + 1 → F32.Is (crU n c f p j) (L.getD j 0) ∧ L.getD j 0 < 4294967296) ∧ Hid (Below w2.heap.size w2 wr))
  case atStart => exact ⟨0, L0, rfl, by show _ = _; omega, Nat.zero_le _, HM3.out, (show Hid _ from fun j hj => by obtain rfl : j = 0 := (by omega); rw [HL0.out]; exact ⟨HU0.out, by decide⟩), HB3.out⟩
  case round =>
    obtain ⟨k, L, rfl, hk, hkl, hS, hI, hB⟩ := hrel
    by_cases hlt : k < n
    · have hlz : (k : Int) + 1 ≤ (n : Int) := by omega
      have HJ : Hid (k + 1 + (gk - 1) = n) := by have := hk.out; show _ = _; omega
      have HG : Hid (gk - 1 < gk) := by have := hk.out; show _ < _; omega
      have hc := hS.out.2.2 k (by omega)
      have hnk : ((n : Int) - ((k : Int) + 1) + 1) = ((n - k : Nat) : Int) := by omega
      obtain ⟨mk, hmk2⟩ : ∃ mk, min (k + 1) c = mk := ⟨_, rfl⟩
      have hmk16 : mk ≤ 64 := by omega
      have hu := (hI.out k (by omega)).1
      obtain ⟨nk, hnk2⟩ : ∃ nk, n - k = nk := ⟨_, rfl⟩
      rw [hnk2] at hnk
      obtain ⟨x1, v1, r1, j1, l1, d1⟩ := F32.arith_ex (P := Try.prog) (op := .mul) (.inr (.inr (.inl rfl))) 22 hu (whole_is nk (by omega)) wr
      obtain ⟨x2, v2, r2, j2, l2, d2⟩ := F32.arith_ex (P := Try.prog) (op := .mul) (.inr (.inr (.inl rfl))) 22 j1 HFI.out v1
      obtain ⟨x3, v3, r3, j3, l3, d3⟩ := F32.arith_ex (P := Try.prog) (op := .mul) (.inr (.inr (.inl rfl))) 22 (whole_is mk hmk16) HPI.out v2
      obtain ⟨x4, v4, r4, j4, l4, d4⟩ := F32.arith_ex (P := Try.prog) (op := .quo) (.inr (.inr (.inr rfl))) 22 j2 j3 v3
      rw [← hnk2, ← hmk2, ← HUS.out] at j4
      have J4 := Lib.hid j4
      have L4 := Lib.hid l4
      have D4 := Lib.hid (((d1.trans d2).trans d3).trans d4)
      have hs4 := fhd_drawn hS.out D4.out
      have HB4 := Lib.hid (hB.out.trans (D4.out.below w2.heap.size))
      obtain ⟨u4, hu4⟩ := hs4.1.cell (show k + 1 < n + 1 by omega)
      have hfr4 := hs4.1.frozen (k + 1)
      have HS5 := Lib.hid (hs4.set (show k + 1 < n + 1 by omega) x4)
      have HB5 := Lib.hid (HB4.out.setCell (p := ⟨w2.heap.size, k + 1, none⟩) (Nat.le_refl _) (.float .f32 x4))
      have HLL := Lib.hid hs4.2.1
      have HI5 : Hid (∀ j, j < k + 1 + 1 → F32.Is (crU n c f p j) ((L.set (k + 1) x4).getD j 0) ∧ (L.set (k + 1) x4).getD j 0 < 4294967296) := by
        show ∀ j, _
        intro j hj
        by_cases ej : j = k + 1
        · subst ej
          have : (L.set (k + 1) x4).getD (k + 1) 0 = x4 := by simp [List.getD, show k + 1 < L.length by rw [HLL.out]; omega]
          rw [this]; exact ⟨J4.out, L4.out⟩
        · have : (L.set (k + 1) x4).getD j 0 = L.getD j 0 := by simp [List.getD, show ¬ k + 1 = j by omega]
          rw [this]; exact hI.out j (by omega)
      by_cases hcm : (c : Int) < (k : Int) + 1
      all_goals
        have hmv : mk = if c < k + 1 then c else k + 1 := by rw [← hmk2]; split <;> omega
        first | rw [if_pos (by omega)] at hmv | rw [if_neg (by omega)] at hmv
        subst hmv
        try rw [show ((k + 1 : Nat) : Int) = (k : Int) + 1 from rfl] at r3
        generalize L.getD k 0 = u at *
        clear hS hB hu j1 j2 j3 j4 l1 l2 l3 l4 d1 d2 d3 d4 hmk2 hnk2 HB4 hs4
        go_wp2_with fail
        go_roundg (gk - 1)
        case measure => exact HG.out
        case rel => exact ⟨k + 1, L.set (k + 1) x4, by go_num, HJ, by omega, HS5.out, HI5.out, HB5.out⟩
    · obtain rfl : k = n := by have := hk.out; omega
      have hrow := hS.out.row (by omega) (lt_mem hS.out.2.1 fun j hj => (hI.out j hj).2)
      have HR := Lib.hid hrow
      have HSM : Hid (Flt.sumO L = crS k c f p (k + 1)) := by
        show _ = _
        have := F32.sum_is (U := crU k c f p) (S := crS k c f p) rfl (fun _ => rfl) L (fun j hj => (hI.out j (by rw [hS.out.2.1] at hj; exact hj)).1)
        rw [this, hS.out.2.1]
      clear hlt hrow hk
      generalize wr = w3 at *
      go_wp2_with fail
      refine (sumOf_is _ (k + 1) (k + 1) L _ _ HR.out (by omega) HSM.out).mono ?_
      rintro e w4 ⟨⟨x, rfl, hx⟩, d4⟩
      have HX := Lib.hid hx
      have HS4 := Lib.hid (fhd_drawn hS.out d4)
      have B4 := Lib.hid (hB.out.trans (d4.below w2.heap.size))
      clear hx d4 hS hB HR HSM
      go_wp2_with fail
      go_loopg [74] (k + 1) (fun q i wr => ∃ (t : Nat) (M : List Nat), i = .int .i64 (t : Int) ∧ Hid (t + q = k + 1) ∧ t ≤ k + 1 ∧ Hid (FHd 22 wr w2.heap.size (k + 1) M) ∧ Hid (∀ j, j < k + 1 → (j < t → F32.Is (crO k c f p j) (M.getD j 0)) ∧ (t ≤ j → F32.Is (crU k c f p j) (M.getD j 0)) ∧ M.getD j 0 < 4294967296) ∧ Hid (Below w2.heap.size w2 wr))
      case atStart => exact ⟨0, L, rfl, by show _ = _; omega, Nat.zero_le _, HS4.out, (show Hid _ from fun j hj => ⟨fun h => absurd h (Nat.not_lt_zero _), fun _ => (hI.out j hj).1, (hI.out j hj).2⟩), B4.out⟩
      case round =>
        obtain ⟨t, M, rfl, ht, htl, hS, hJ, hB⟩ := hrel
        by_cases hlt : t < k + 1
        · have hlz : (t : Int) < (k : Int) + 1 := by omega
          have HJ : Hid (t + 1 + (gk - 1) = k + 1) := by have := ht.out; show _ = _; omega
          have HG : Hid (gk - 1 < gk) := by have := ht.out; show _ < _; omega
          have hc := hS.out.2.2 t hlt
          have hu := (hJ.out t hlt).2.1 (Nat.le_refl _)
          obtain ⟨x1, v1, r1, j1, l1, d1⟩ := F32.arith_ex (P := Try.prog) (op := .quo) (.inr (.inr (.inr rfl))) 22 hu HX.out wr
          have J1 : Hid (F32.Is (crO k c f p t) x1) := j1
          have L1 := Lib.hid l1
          have hs4 := fhd_drawn hS.out d1
          have HB4 := Lib.hid (hB.out.trans (d1.below w2.heap.size))
          obtain ⟨u4, hu4⟩ := hs4.1.cell hlt
          have hfr4 := hs4.1.frozen t
          have HS5 := Lib.hid (hs4.set hlt x1)
          have HB5 := Lib.hid (HB4.out.setCell (p := ⟨w2.heap.size, t, none⟩) (Nat.le_refl _) (.float .f32 x1))
          have HLL := Lib.hid hs4.2.1
          have HI5 : Hid (∀ j, j < k + 1 → (j < t + 1 → F32.Is (crO k c f p j) ((M.set t x1).getD j 0)) ∧ (t + 1 ≤ j → F32.Is (crU k c f p j) ((M.set t x1).getD j 0)) ∧ (M.set t x1).getD j 0 < 4294967296) := by
            show ∀ j, _
            intro j hj
            by_cases ej : j = t
            · subst ej
              have : (M.set j x1).getD j 0 = x1 := by simp [List.getD, show j < M.length by rw [HLL.out]; exact hlt]
              rw [this]; exact ⟨fun _ => J1.out, fun h => absurd h (by omega), L1.out⟩
            · have : (M.set t x1).getD j 0 = M.getD j 0 := by simp [List.getD, show ¬ t = j by omega]
              rw [this]
              exact ⟨fun h => (hJ.out j hj).1 (by omega), fun h => (hJ.out j hj).2.1 (by omega), (hJ.out j hj).2.2⟩
          generalize M.getD t 0 = u at *
          clear hS hB hu j1 l1 d1 HB4 hs4
          go_wp2_with fail
          go_roundg (gk - 1)
          case measure => exact HG.out
          case rel => exact ⟨t + 1, M.set t x1, by go_num, HJ, by omega, HS5.out, HI5.out, HB5.out⟩
        · obtain rfl : t = k + 1 := by omega
          have hrow2 := hS.out.row (by omega) (lt_mem hS.out.2.1 fun j hj => (hJ.out j hj).2.2)
          have HR2 := Lib.hid hrow2
          have HSL := Lib.hid hS.out.1
          have HYL := Lib.hid hS.out.2.1
          have B5 := Lib.hid (B2.out.trans (hB.out.mono B2.out.size))
          have HGE : Hid (w.heap.size ≤ w2.heap.size) := B2.out.size
          obtain ⟨g1, g2⟩ := F32.all_is hS.out.2.1 (fun j hj => (hJ.out j hj).1 hj)
          have G1 := Lib.hid g1
          have G2 := Lib.hid g2
          clear hlt hS hB hrow2 g1 g2
          go_wp2_with fail
          refine (onlyFin_any _ (k + 1) (k + 1) M _ HR2.out).mono ?_
          rintro e w7 ⟨rfl, b7⟩
          rw [G1.out]
          have R7 := Lib.hid (HR2.out.keep b7)
          have S7 := Lib.hid (HSL.out.keep b7)
          have B7 := Lib.hid (B5.out.trans (b7.mono B5.out.size))
          clear b7
          cases hq : F32.oks (crO k c f p) (k + 1) with
          | true =>
            have HY : Hid (crA k c f p = M ∧ crB k c f p = true) := by
              have hb : crB k c f p = true := by rw [HCB.out, hq]
              exact ⟨by rw [crA_at hb, G2.out hq], hb⟩
            rw [if_pos rfl]
            go_wp2_with fail
            go_ret2
            rw [HY.out.1, HY.out.2, HYL.out]
            first | exact ⟨⟨_, _, rfl, R7.out, .inr ⟨_, rfl, HGE.out, S7.out⟩⟩, B7.out⟩ | exact ⟨⟨_, ⟨_, rfl⟩, R7.out, .inr ⟨_, rfl, HGE.out, S7.out⟩⟩, B7.out⟩
          | false =>
            have HY : Hid (crA k c f p = [] ∧ crB k c f p = false) := by
              have hb : crB k c f p = false := by rw [HCB.out, hq]
              refine ⟨?_, hb⟩
              unfold crA; rw [hb]; rfl
            rw [if_neg (by decide)]
            go_wp2_with fail
            go_ret2
            rw [HY.out.1, HY.out.2]
            first | exact ⟨⟨_, _, rfl, frow_nil _ _, .inl rfl⟩, B7.out⟩ | exact ⟨⟨_, ⟨_, rfl⟩, frow_nil _ _, .inl rfl⟩, B7.out⟩
set_option maxHeartbeats 1600000 in
theorem iCrewBalance_any (m c : Int) (f p : Nat) (w : World) (hf : f < 4294967296) (hp : p < 4294967296) :
    Calls Try.prog 21 #[.int .i64 m, .int .i64 c, .float .f32 f, .float .f32 p] w fun e w' => (∃ a' c', e = .returned (.tuple #[.slice a' (crA m c f p).length c', .bool (crB m c f p)]) ∧ FRow w' a' (crA m c f p).length (crA m c f p) ∧ Dec.Own w' w.heap.size a' (crA m c f p).length 22) ∧ Below w.heap.size w w' := by
  by_cases h0 : (1 ≤ m ∧ m ≤ 16) ∧ (1 ≤ c ∧ c ≤ m)
  · obtain ⟨h1, h2⟩ := h0
    have q1 : ¬ (m < 1) := by omega
    have q2 : ¬ (16 < m) := by omega
    have q3 : ¬ (c < 1) := by omega
    have q4 : ¬ (m < c) := by omega
    cases h3 : nng f with
    | true =>
      cases h4 : pos p with
      | true =>
        obtain ⟨n, rfl⟩ : ∃ n : Nat, m = n := ⟨m.toNat, by omega⟩
        obtain ⟨k, rfl⟩ : ∃ k : Nat, c = k := ⟨c.toNat, by omega⟩
        exact iCrewYes_any n k f p w hf hp (cr0_yes h1 h2 h3 h4)
      | false =>
        obtain ⟨hb, ha⟩ := crB_no0 (cr0_p (m := m) (c := c) (f := f) h4)
        have HA : Hid (crA m c f p = [] ∧ crB m c f p = false) := ⟨ha, hb⟩
        have H3 := Lib.hid h3
        have H4 := Lib.hid h4
        clear hb ha h1 h2 h3 h4
        go_enter Try.func21, Try.ntmps21
        go_wp2_with fail
        refine (c_implFrom f _).mono ?_
        rintro e w1 ⟨rfl, d1⟩
        have D1 := Lib.hid d1
        rw [H3.out]
        clear d1
        go_wp2_with fail
        refine (c_implAbove p _).mono ?_
        rintro e w2 ⟨rfl, d2⟩
        rw [H4.out]
        go_wp2_with fail
        go_ret2
        rw [HA.out.1, HA.out.2]
        first | exact ⟨⟨_, _, rfl, frow_nil _ _, .inl rfl⟩, (D1.out.trans d2).below _⟩ | exact ⟨⟨_, ⟨_, rfl⟩, frow_nil _ _, .inl rfl⟩, (D1.out.trans d2).below _⟩
    | false =>
      obtain ⟨hb, ha⟩ := crB_no0 (cr0_f (m := m) (c := c) (p := p) h3)
      have HA : Hid (crA m c f p = [] ∧ crB m c f p = false) := ⟨ha, hb⟩
      have H3 := Lib.hid h3
      clear hb ha h1 h2 h3
      go_enter Try.func21, Try.ntmps21
      go_wp2_with fail
      refine (c_implFrom f _).mono ?_
      rintro e w1 ⟨rfl, d1⟩
      rw [H3.out]
      go_wp2_with fail
      go_ret2
      rw [HA.out.1, HA.out.2]
      first | exact ⟨⟨_, _, rfl, frow_nil _ _, .inl rfl⟩, d1.below _⟩ | exact ⟨⟨_, ⟨_, rfl⟩, frow_nil _ _, .inl rfl⟩, d1.below _⟩
  · have hc0 : cr0 m c f p = false := by
      by_cases h1 : 1 ≤ m ∧ m ≤ 16
      · exact cr0_c (fun h2 => h0 ⟨h1, h2⟩)
      · exact cr0_m h1
    obtain ⟨hb, ha⟩ := crB_no0 hc0
    have HA : Hid (crA m c f p = [] ∧ crB m c f p = false) := ⟨ha, hb⟩
    clear hb ha hc0
    by_cases q1 : m < 1
    · clear h0
      go_enter Try.func21, Try.ntmps21
      go_wp2_with fail
      go_ret2
      rw [HA.out.1, HA.out.2]
      first | exact ⟨⟨_, _, rfl, frow_nil _ _, .inl rfl⟩, Below.refl _ _⟩ | exact ⟨⟨_, ⟨_, rfl⟩, frow_nil _ _, .inl rfl⟩, Below.refl _ _⟩
    · by_cases q2 : 16 < m
      · clear h0
        go_enter Try.func21, Try.ntmps21
        go_wp2_with fail
        go_ret2
        rw [HA.out.1, HA.out.2]
        first | exact ⟨⟨_, _, rfl, frow_nil _ _, .inl rfl⟩, Below.refl _ _⟩ | exact ⟨⟨_, ⟨_, rfl⟩, frow_nil _ _, .inl rfl⟩, Below.refl _ _⟩
      · by_cases q3 : c < 1
        · clear h0
          go_enter Try.func21, Try.ntmps21
          go_wp2_with fail
          go_ret2
          rw [HA.out.1, HA.out.2]
          first | exact ⟨⟨_, _, rfl, frow_nil _ _, .inl rfl⟩, Below.refl _ _⟩ | exact ⟨⟨_, ⟨_, rfl⟩, frow_nil _ _, .inl rfl⟩, Below.refl _ _⟩
        · have q4 : m < c := by omega
          clear h0
          go_enter Try.func21, Try.ntmps21
          go_wp2_with fail
          go_ret2
          rw [HA.out.1, HA.out.2]
          first | exact ⟨⟨_, _, rfl, frow_nil _ _, .inl rfl⟩, Below.refl _ _⟩ | exact ⟨⟨_, ⟨_, rfl⟩, frow_nil _ _, .inl rfl⟩, Below.refl _ _⟩
end Go.Proofs.Ytiebbmgehhcdmaa
