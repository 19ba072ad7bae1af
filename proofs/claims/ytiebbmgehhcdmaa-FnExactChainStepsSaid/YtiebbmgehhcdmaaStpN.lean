/-
  What becomes of shares by steps: both functions, whatever they are given. Conditions: the lists read as lists of 32-bit numbers.
-/
import Derived.Test.YtiebbmgehhcdmaaStpM
namespace Go.Proofs.Ytiebbmgehhcdmaa
open Go.RowKit Dec Flt Syl Sep Cha Cm Liv Stp Cr Hld
set_option maxHeartbeats 1600000 in
theorem sChainSteps_any (p : Int) (a : Option Addr) (len cap : Nat) (zs : List Nat) (a1 : Option Addr) (len1 cap1 : Nat) (ys : List Nat) (h : Nat) (n : Int) (w : World) (hz : FRow w a len zs) (hy : FRow w a1 len1 ys) (hh : h < 4294967296) :
    Calls Try.prog 25 #[.agg #[.int .i64 p, .slice a len cap], .slice a1 len1 cap1, .float .f32 h, .int .i64 n] w fun e w' => (∃ a' c', e = .returned (.tuple #[.slice a' (stpA p zs ys h n).length c', .bool (stpB p zs ys h n)]) ∧ FRow w' a' (stpA p zs ys h n).length (stpA p zs ys h n)) ∧ Below w.heap.size w w' := by
  have fin0 : st0 p zs ys h n = false → Hid (stpA p zs ys h n = [] ∧ stpB p zs ys h n = false) := fun g => ⟨(stpB_no g).2, (stpB_no g).1⟩
  have HZ := Lib.hid hz
  have HY := Lib.hid hy
  cases h1 : chB p zs with
  | false =>
    have HE := fin0 (st0_no (.inl h1))
    have H1 := Lib.hid h1
    clear fin0 h1 hz hy
    go_enter Try.func25, Try.ntmps25
    go_wp2_with fail
    obtain ⟨W0, hW0⟩ : ∃ W0, W0 = w.alloc (.cells #[.int .i64 p, .slice a len cap] 44) := ⟨_, rfl⟩
    have K0 : Hid (CVar 44 W0 w.heap.size p a len cap) := by rw [hW0]; exact Blk.Blk.new _ _ _
    have B0 : Hid (Below w.heap.size w W0) := by rw [hW0]; exact (Below.refl _ _).alloc (Nat.le_refl _) _
    rw [← hW0]
    clear hW0
    refine (l04Is_any w.heap.size p a len cap zs _ K0.out (HZ.out.keep B0.out)).mono ?_
    rintro e w1 ⟨rfl, d1⟩
    rw [H1.out]
    have D1 := Lib.hid d1
    clear d1
    go_wp2_with fail
    go_ret2
    rw [HE.out.1, HE.out.2]
    first | exact ⟨⟨_, _, rfl, frow_nil _ _⟩, B0.out.trans ((D1.out.below _).mono B0.out.size)⟩ | exact ⟨⟨_, ⟨_, rfl⟩, frow_nil _ _⟩, B0.out.trans ((D1.out.below _).mono B0.out.size)⟩
  | true =>
    have H1 := Lib.hid h1
    cases h2 : shsB p ys with
    | false =>
      have HE := fin0 (st0_no (.inr (.inl h2)))
      have H2 := Lib.hid h2
      clear fin0 h1 h2 hz hy
      go_enter Try.func25, Try.ntmps25
      go_wp2_with fail
      obtain ⟨W0, hW0⟩ : ∃ W0, W0 = w.alloc (.cells #[.int .i64 p, .slice a len cap] 44) := ⟨_, rfl⟩
      have K0 : Hid (CVar 44 W0 w.heap.size p a len cap) := by rw [hW0]; exact Blk.Blk.new _ _ _
      have B0 : Hid (Below w.heap.size w W0) := by rw [hW0]; exact (Below.refl _ _).alloc (Nat.le_refl _) _
      rw [← hW0]
      clear hW0
      refine (l04Is_any w.heap.size p a len cap zs _ K0.out (HZ.out.keep B0.out)).mono ?_
      rintro e w1 ⟨rfl, d1⟩
      rw [H1.out]
      have D1 := Lib.hid d1
      clear d1
      go_wp2_with fail
      refine (l04Shares_any w.heap.size p a len cap a1 len1 cap1 ys _ (K0.out.keep (D1.out.below _)) ((HY.out.keep B0.out).keep (D1.out.below _))).mono ?_
      rintro e w2 ⟨rfl, d2⟩
      rw [H2.out]
      have D2 := Lib.hid (D1.out.trans d2)
      clear d2
      go_wp2_with fail
      go_ret2
      rw [HE.out.1, HE.out.2]
      first | exact ⟨⟨_, _, rfl, frow_nil _ _⟩, B0.out.trans ((D2.out.below _).mono B0.out.size)⟩ | exact ⟨⟨_, ⟨_, rfl⟩, frow_nil _ _⟩, B0.out.trans ((D2.out.below _).mono B0.out.size)⟩
    | true =>
      have H2 := Lib.hid h2
      cases h3 : pos h with
      | false =>
        have HE := fin0 (st0_no (.inr (.inr (.inl h3))))
        have H3 := Lib.hid h3
        have HG : Hid (gridB h n = false) := by show _ = _; unfold gridB; rw [h3]; rfl
        clear fin0 h1 h2 h3 hz hy
        go_enter Try.func25, Try.ntmps25
        go_wp2_with fail
        obtain ⟨W0, hW0⟩ : ∃ W0, W0 = w.alloc (.cells #[.int .i64 p, .slice a len cap] 44) := ⟨_, rfl⟩
        have K0 : Hid (CVar 44 W0 w.heap.size p a len cap) := by rw [hW0]; exact Blk.Blk.new _ _ _
        have B0 : Hid (Below w.heap.size w W0) := by rw [hW0]; exact (Below.refl _ _).alloc (Nat.le_refl _) _
        rw [← hW0]
        clear hW0
        refine (l04Is_any w.heap.size p a len cap zs _ K0.out (HZ.out.keep B0.out)).mono ?_
        rintro e w1 ⟨rfl, d1⟩
        rw [H1.out]
        have D1 := Lib.hid d1
        clear d1
        go_wp2_with fail
        refine (l04Shares_any w.heap.size p a len cap a1 len1 cap1 ys _ (K0.out.keep (D1.out.below _)) ((HY.out.keep B0.out).keep (D1.out.below _))).mono ?_
        rintro e w2 ⟨rfl, d2⟩
        rw [H2.out]
        have D2 := Lib.hid (D1.out.trans d2)
        clear d2
        go_wp2_with fail
        refine (c_specAbove h _).mono ?_
        rintro e w3 ⟨rfl, d3⟩
        rw [H3.out]
        have D3 := Lib.hid (D2.out.trans d3)
        clear d3
        go_wp2_with fail
        go_ret2
        rw [HE.out.1, HE.out.2]
        first | exact ⟨⟨_, _, rfl, frow_nil _ _⟩, B0.out.trans ((D3.out.below _).mono B0.out.size)⟩ | exact ⟨⟨_, ⟨_, rfl⟩, frow_nil _ _⟩, B0.out.trans ((D3.out.below _).mono B0.out.size)⟩
      | true =>
        have H3 := Lib.hid h3
        by_cases h4 : 1 ≤ n ∧ n ≤ 256
        · obtain ⟨q, rfl⟩ : ∃ q : Nat, p = q := ⟨p.toNat, by have := (chB_parts h1).1; omega⟩
          obtain ⟨m, rfl⟩ : ∃ m : Nat, n = m := ⟨n.toNat, by omega⟩
          exact sStepsYes_any q a len cap zs a1 len1 cap1 ys h m w HZ.out HY.out hh (st0_yes h1 h2 h3 h4)
        · have HE := fin0 (st0_no (.inr (.inr (.inr h4))))
          have HD : Hid (decide (1 ≤ n ∧ n ≤ 256) = false) := decide_eq_false h4
          have HG : Hid (gridB h n = false) := by show _ = _; unfold gridB; rw [decide_eq_false h4]; simp
          clear fin0 h1 h2 h3 h4 hz hy
          go_enter Try.func25, Try.ntmps25
          go_wp2_with fail
          obtain ⟨W0, hW0⟩ : ∃ W0, W0 = w.alloc (.cells #[.int .i64 p, .slice a len cap] 44) := ⟨_, rfl⟩
          have K0 : Hid (CVar 44 W0 w.heap.size p a len cap) := by rw [hW0]; exact Blk.Blk.new _ _ _
          have B0 : Hid (Below w.heap.size w W0) := by rw [hW0]; exact (Below.refl _ _).alloc (Nat.le_refl _) _
          rw [← hW0]
          clear hW0
          refine (l04Is_any w.heap.size p a len cap zs _ K0.out (HZ.out.keep B0.out)).mono ?_
          rintro e w1 ⟨rfl, d1⟩
          rw [H1.out]
          have D1 := Lib.hid d1
          clear d1
          go_wp2_with fail
          refine (l04Shares_any w.heap.size p a len cap a1 len1 cap1 ys _ (K0.out.keep (D1.out.below _)) ((HY.out.keep B0.out).keep (D1.out.below _))).mono ?_
          rintro e w2 ⟨rfl, d2⟩
          rw [H2.out]
          have D2 := Lib.hid (D1.out.trans d2)
          clear d2
          go_wp2_with fail
          refine (c_specAbove h _).mono ?_
          rintro e w3 ⟨rfl, d3⟩
          rw [H3.out]
          have D3 := Lib.hid (D2.out.trans d3)
          clear d3
          go_wp2_with fail
          refine (c_In _ _ _ _).mono ?_
          rintro e w4 ⟨rfl, rfl⟩
          rw [HD.out]
          go_wp2_with fail
          go_ret2
          rw [HE.out.1, HE.out.2]
          first | exact ⟨⟨_, _, rfl, frow_nil _ _⟩, B0.out.trans ((D3.out.below _).mono B0.out.size)⟩ | exact ⟨⟨_, ⟨_, rfl⟩, frow_nil _ _⟩, B0.out.trans ((D3.out.below _).mono B0.out.size)⟩
set_option maxHeartbeats 1600000 in
theorem iChainSteps_any (p : Int) (a : Option Addr) (len cap : Nat) (zs : List Nat) (a1 : Option Addr) (len1 cap1 : Nat) (ys : List Nat) (h : Nat) (n : Int) (w : World) (hz : FRow w a len zs) (hy : FRow w a1 len1 ys) (hcap : len ≤ cap) (_ : len1 ≤ cap1) (hh : h < 4294967296) (hcb : cap ≤ maxLen) :
    Calls Try.prog 28 #[.agg #[.int .i64 p, .slice a len cap], .slice a1 len1 cap1, .float .f32 h, .int .i64 n] w fun e w' => (∃ a' c', e = .returned (.tuple #[.slice a' (stpA p zs ys h n).length c', .bool (stpB p zs ys h n)]) ∧ FRow w' a' (stpA p zs ys h n).length (stpA p zs ys h n) ∧ Dec.Own w' w.heap.size a' (stpA p zs ys h n).length 22) ∧ Below w.heap.size w w' := by
  have fin0 : st0 p zs ys h n = false → Hid (stpA p zs ys h n = [] ∧ stpB p zs ys h n = false) := fun g => ⟨(stpB_no g).2, (stpB_no g).1⟩
  have HZ := Lib.hid hz
  have HY := Lib.hid hy
  cases h1 : chB p zs with
  | false =>
    have HE := fin0 (st0_no (.inl h1))
    have H1 := Lib.hid h1
    clear fin0 h1 hz hy
    go_enter Try.func28, Try.ntmps28
    go_wp2_with fail
    obtain ⟨W0, hW0⟩ : ∃ W0, W0 = w.alloc (.cells #[.int .i64 p, .slice a len cap] 44) := ⟨_, rfl⟩
    have K0 : Hid (CVar 44 W0 w.heap.size p a len cap) := by rw [hW0]; exact Blk.Blk.new _ _ _
    have B0 : Hid (Below w.heap.size w W0) := by rw [hW0]; exact (Below.refl _ _).alloc (Nat.le_refl _) _
    rw [← hW0]
    clear hW0
    refine (iValidChain_any p a len cap zs _ (HZ.out.keep B0.out) hcap).mono ?_
    rintro e w1 ⟨rfl, b1⟩
    rw [H1.out]
    have B1 := Lib.hid b1
    clear b1
    have hv := K0.out.keep B1.out
    obtain ⟨⟨c0, c1⟩, _, _⟩ := hv.two
    clear hv
    go_wp2_with fail
    go_ret2
    rw [HE.out.1, HE.out.2]
    first | exact ⟨⟨_, _, rfl, frow_nil _ _, .inl rfl⟩, B0.out.trans (B1.out.mono B0.out.size)⟩ | exact ⟨⟨_, ⟨_, rfl⟩, frow_nil _ _, .inl rfl⟩, B0.out.trans (B1.out.mono B0.out.size)⟩
  | true =>
    have H1 := Lib.hid h1
    cases h2 : shsB p ys with
    | false =>
      have HE := fin0 (st0_no (.inr (.inl h2)))
      have H2 := Lib.hid h2
      clear fin0 h1 h2 hz hy
      go_enter Try.func28, Try.ntmps28
      go_wp2_with fail
      obtain ⟨W0, hW0⟩ : ∃ W0, W0 = w.alloc (.cells #[.int .i64 p, .slice a len cap] 44) := ⟨_, rfl⟩
      have K0 : Hid (CVar 44 W0 w.heap.size p a len cap) := by rw [hW0]; exact Blk.Blk.new _ _ _
      have B0 : Hid (Below w.heap.size w W0) := by rw [hW0]; exact (Below.refl _ _).alloc (Nat.le_refl _) _
      rw [← hW0]
      clear hW0
      refine (iValidChain_any p a len cap zs _ (HZ.out.keep B0.out) hcap).mono ?_
      rintro e w1 ⟨rfl, b1⟩
      rw [H1.out]
      have B1 := Lib.hid b1
      clear b1
      have hv := K0.out.keep B1.out
      obtain ⟨⟨c0, c1⟩, _, _⟩ := hv.two
      clear hv
      go_wp2_with fail
      refine (areShares_any p a len cap a1 len1 cap1 ys _ ((HY.out.keep B0.out).keep B1.out)).mono ?_
      rintro e w2 ⟨rfl, b2⟩
      rw [H2.out]
      have B2 := Lib.hid (B1.out.trans (b2.mono B1.out.size))
      clear b2 c0 c1
      go_wp2_with fail
      go_ret2
      rw [HE.out.1, HE.out.2]
      first | exact ⟨⟨_, _, rfl, frow_nil _ _, .inl rfl⟩, B0.out.trans (B2.out.mono B0.out.size)⟩ | exact ⟨⟨_, ⟨_, rfl⟩, frow_nil _ _, .inl rfl⟩, B0.out.trans (B2.out.mono B0.out.size)⟩
    | true =>
      have H2 := Lib.hid h2
      cases h3 : pos h with
      | false =>
        have HE := fin0 (st0_no (.inr (.inr (.inl h3))))
        have H3 := Lib.hid h3
        have HG : Hid (gridB h n = false) := by show _ = _; unfold gridB; rw [h3]; rfl
        clear fin0 h1 h2 h3 hz hy
        go_enter Try.func28, Try.ntmps28
        go_wp2_with fail
        obtain ⟨W0, hW0⟩ : ∃ W0, W0 = w.alloc (.cells #[.int .i64 p, .slice a len cap] 44) := ⟨_, rfl⟩
        have K0 : Hid (CVar 44 W0 w.heap.size p a len cap) := by rw [hW0]; exact Blk.Blk.new _ _ _
        have B0 : Hid (Below w.heap.size w W0) := by rw [hW0]; exact (Below.refl _ _).alloc (Nat.le_refl _) _
        rw [← hW0]
        clear hW0
        refine (iValidChain_any p a len cap zs _ (HZ.out.keep B0.out) hcap).mono ?_
        rintro e w1 ⟨rfl, b1⟩
        rw [H1.out]
        have B1 := Lib.hid b1
        clear b1
        have hv := K0.out.keep B1.out
        obtain ⟨⟨c0, c1⟩, _, _⟩ := hv.two
        clear hv
        go_wp2_with fail
        refine (areShares_any p a len cap a1 len1 cap1 ys _ ((HY.out.keep B0.out).keep B1.out)).mono ?_
        rintro e w2 ⟨rfl, b2⟩
        rw [H2.out]
        have B2 := Lib.hid (B1.out.trans (b2.mono B1.out.size))
        clear b2 c0 c1
        go_wp2_with fail
        refine (isGrid_any h n _).mono ?_
        rintro e w3 ⟨rfl, d3⟩
        rw [HG.out]
        have B3 := Lib.hid (B2.out.trans (d3.below _))
        clear d3
        go_wp2_with fail
        go_ret2
        rw [HE.out.1, HE.out.2]
        first | exact ⟨⟨_, _, rfl, frow_nil _ _, .inl rfl⟩, B0.out.trans (B3.out.mono B0.out.size)⟩ | exact ⟨⟨_, ⟨_, rfl⟩, frow_nil _ _, .inl rfl⟩, B0.out.trans (B3.out.mono B0.out.size)⟩
      | true =>
        have H3 := Lib.hid h3
        by_cases h4 : 1 ≤ n ∧ n ≤ 256
        · obtain ⟨q, rfl⟩ : ∃ q : Nat, p = q := ⟨p.toNat, by have := (chB_parts h1).1; omega⟩
          obtain ⟨m, rfl⟩ : ∃ m : Nat, n = m := ⟨n.toNat, by omega⟩
          exact iStepsYes_any q a len cap zs a1 len1 cap1 ys h m w HZ.out HY.out hcap hcb hh (st0_yes h1 h2 h3 h4)
        · have HE := fin0 (st0_no (.inr (.inr (.inr h4))))
          have HD : Hid (decide (1 ≤ n ∧ n ≤ 256) = false) := decide_eq_false h4
          have HG : Hid (gridB h n = false) := by show _ = _; unfold gridB; rw [decide_eq_false h4]; simp
          clear fin0 h1 h2 h3 h4 hz hy
          go_enter Try.func28, Try.ntmps28
          go_wp2_with fail
          obtain ⟨W0, hW0⟩ : ∃ W0, W0 = w.alloc (.cells #[.int .i64 p, .slice a len cap] 44) := ⟨_, rfl⟩
          have K0 : Hid (CVar 44 W0 w.heap.size p a len cap) := by rw [hW0]; exact Blk.Blk.new _ _ _
          have B0 : Hid (Below w.heap.size w W0) := by rw [hW0]; exact (Below.refl _ _).alloc (Nat.le_refl _) _
          rw [← hW0]
          clear hW0
          refine (iValidChain_any p a len cap zs _ (HZ.out.keep B0.out) hcap).mono ?_
          rintro e w1 ⟨rfl, b1⟩
          rw [H1.out]
          have B1 := Lib.hid b1
          clear b1
          have hv := K0.out.keep B1.out
          obtain ⟨⟨c0, c1⟩, _, _⟩ := hv.two
          clear hv
          go_wp2_with fail
          refine (areShares_any p a len cap a1 len1 cap1 ys _ ((HY.out.keep B0.out).keep B1.out)).mono ?_
          rintro e w2 ⟨rfl, b2⟩
          rw [H2.out]
          have B2 := Lib.hid (B1.out.trans (b2.mono B1.out.size))
          clear b2 c0 c1
          go_wp2_with fail
          refine (isGrid_any h n _).mono ?_
          rintro e w3 ⟨rfl, d3⟩
          rw [HG.out]
          have B3 := Lib.hid (B2.out.trans (d3.below _))
          clear d3
          go_wp2_with fail
          go_ret2
          rw [HE.out.1, HE.out.2]
          first | exact ⟨⟨_, _, rfl, frow_nil _ _, .inl rfl⟩, B0.out.trans (B3.out.mono B0.out.size)⟩ | exact ⟨⟨_, ⟨_, rfl⟩, frow_nil _ _, .inl rfl⟩, B0.out.trans (B3.out.mono B0.out.size)⟩
end Go.Proofs.Ytiebbmgehhcdmaa
