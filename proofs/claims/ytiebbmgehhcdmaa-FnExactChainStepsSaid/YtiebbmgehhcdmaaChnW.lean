/-
  Contracts of the laws' copy, comparison and marks of chains, and how a chain that came in lies. Conditions: at most 1048576 rates.
-/
import Derived.Test.YtiebbmgehhcdmaaMkF
namespace Cha
open Go Go.ChangeShapes Go.WideShapes Go.Deep Flt
/-- a variable that holds a chain -/
abbrev CVar (T : TypeId) (w : World) (g : Nat) (p : Int) (a : Option Addr) (len cap : Nat) : Prop := Blk.Blk w g [.int .i64 p, .slice a len cap] T
variable {H : Type} {enc : TypeId × Value → H} {P : Program} {w : World} {base : Nat} {spare : Nat → Bool} {held : Bool}
theorem open_floats1 {t e : TypeId} {n : Nat} {v : Value} {y : DataW H × List MemPlace} (ht : P.underlying t = some (.slice e)) (he : P.underlying e = some (.float .f32)) (hc : P.cellsOf e = 1)
    (h : DataW.trod enc P w base spare held n t [v] = some y) : ∃ a len cap zs, v = .slice a len cap ∧ FRow w a len zs := by
  rcases Go.Deep.open_slice1 ht hc h with ⟨hcs, _⟩ | ⟨a', len', cap', m, n', V, D, Pl, hcs, hb, hl, hm, hmm, hx, hel⟩
  · simp at hcs
    subst hcs
    exact ⟨none, 0, 0, [], rfl, rfl, Nat.zero_le _, by simp, fun i hi => absurd hi (Nat.not_lt_zero _)⟩
  · simp at hcs
    subst hcs
    obtain ⟨d, ps⟩ := y
    have hT : DataW.Trod enc P w base spare held t (.slice (some a') len' cap') d ps := ⟨n, by simpa [Value.cells] using h⟩
    obtain ⟨zs, hz⟩ := opened_floats ht he hc hT (by
      intro x hx
      exact DataW.trod_lt n _ _ _ h x hx)
    exact ⟨some a', len', cap', zs, rfl, hz⟩
theorem open_chain {r : Reach} {b0 : Nat} {t s e : TypeId} {f0 f1 : Field} {v : Value} {d : DataW H} {p : List MemPlace} (hs : P.underlying t = some (.struct #[f0, f1])) (hone : oneCellFields P #[f0, f1] = true) (hC : P.cellsOf t = 2)
    (u0 : P.underlying f0.type = some (.int .i64)) (h1 : f1.type = s) (us : P.underlying s = some (.slice e)) (ue : P.underlying e = some (.float .f32)) (hc : P.cellsOf e = 1) (hv : Value.okWide P w r b0 t v) (h : DataW.Trod enc P w base spare held t v d p) :
    ∃ (x : Int) (_ : (Lit.int .i64 x).wf = true) (a : Option Addr) (len cap : Nat) (zs : List Nat), v = .agg #[.int .i64 x, .slice a len cap] ∧ FRow w a len zs := by
  obtain ⟨v0, v1, y0, y1, n, rfl, rfl, rfl, h0, h1'⟩ := Go.Joins.open_agg2 hs hone hC hv h
  obtain ⟨x, hx, rfl, wx⟩ := DataW.trod_int u0 h0
  rw [h1] at h1'
  obtain ⟨a, len, cap, zs, rfl, hr⟩ := open_floats1 us ue hc h1'
  obtain rfl : v0 = .int .i64 x := by simpa using hx
  exact ⟨x, wx, a, len, cap, zs, rfl, hr⟩
end Cha
namespace Go.Proofs.Ytiebbmgehhcdmaa
open Go.RowKit Dec Flt Syl Sep Cha
theorem made_other {w : World} {g n : Nat} {zs : List Nat} (h : Made w g n zs) {b : Nat} (j : Nat) (v : Value) (hk : g ≠ b) : Made (w.setCell ⟨b, j, none⟩ v) g n zs := by
  obtain ⟨h1, h2⟩ := h
  exact ⟨by rw [heap_setCell_other w ⟨b, j, none⟩ g v hk]; exact h1, h2⟩
theorem szF32_any (a : Option Addr) (len cap : Nat) (n : Int) (w : World) (hn : 0 ≤ n ∧ n ≤ 1048576) (hl : len ≤ maxLen) :
    Calls Try.prog 54 #[.slice a len cap, .int .i64 n] w fun e w' => e = .returned (.int .i64 (if n < (len : Int) then -1 else n - len)) ∧ w = w' := by
  have hm : len ≤ 9223372036854775807 := by unfold maxLen at hl; exact hl
  clear hl
  by_cases h : n < (len : Int)
  · rw [if_pos h]
    go_enter Try.func54, Try.ntmps54
    go_wp2
    go_ret
    exact ⟨rfl, rfl⟩
  · rw [if_neg h]
    go_enter Try.func54, Try.ntmps54
    go_wp2
    go_ret
    exact ⟨by go_num, rfl⟩
theorem szCha_any (p : Int) (a : Option Addr) (len cap : Nat) (n : Int) (w : World) (hn : 0 ≤ n ∧ n ≤ 1048576) (hl : len ≤ maxLen) :
    Calls Try.prog 24 #[.agg #[.int .i64 p, .slice a len cap], .int .i64 n] w fun e w' => e = .returned (.int .i64 (if n < (len : Int) then -1 else n - len)) ∧ Below w.heap.size w w' := by
  have hm : len ≤ 9223372036854775807 := by unfold maxLen at hl; exact hl
  by_cases h : n < (len : Int)
  · rw [if_pos h]
    go_enter Try.func24, Try.ntmps24
    go_wp2_with fail
    refine (szF32_any a len cap n _ hn hl).mono ?_
    rintro e w1 ⟨rfl, rfl⟩
    rw [if_pos h]
    go_wp2_with fail
    go_ret
    exact ⟨rfl, (Below.refl _ _).alloc (Nat.le_refl _) _⟩
  · rw [if_neg h]
    have hx : ¬ (n - (len : Int) < 0) := by omega
    have HN := Lib.hid h
    clear h
    go_enter Try.func24, Try.ntmps24
    go_wp2_with fail
    refine (szF32_any a len cap n _ hn hl).mono ?_
    rintro e w1 ⟨rfl, rfl⟩
    rw [if_neg (Int.not_lt.2 HN.out)]
    go_wp2_with fail
    go_ret
    exact ⟨rfl, (Below.refl _ _).alloc (Nat.le_refl _) _⟩
set_option maxHeartbeats 1600000 in
theorem toCha_made (p : Int) (a : Option Addr) (len cap : Nat) (zs : List Nat) (w : World) (h : FRow w a len zs) (hn : len ≤ 1048576) :
    Calls Try.prog 26 #[.agg #[.int .i64 p, .slice a len cap]] w fun e w' => (∃ g, e = .returned (.agg #[.int .i64 p, .slice (some ⟨g, 0, none⟩) len len]) ∧ w.heap.size ≤ g ∧ Made w' g len zs) ∧ Below w.heap.size w w' := by
  have H := Lib.hid h
  clear h
  go_enter Try.func26, Try.ntmps26
  go_wp2_with fail
  obtain ⟨W0, hW0⟩ : ∃ W0, W0 = ((w.alloc (.cells #[.int .i64 p, .slice a len cap] 41)).alloc (.cells #[.int .i64 0, .slice none 0 0] 44)).alloc (.cells #[.int .i64 p, .slice none 0 0] 44) := ⟨_, rfl⟩
  have b0 : Below w.heap.size w W0 := by rw [hW0]; exact (((Below.refl _ _).alloc (Nat.le_refl _) _).alloc (by simp) _).alloc (by simp; omega) _
  have k1 : Blk.Blk W0 (w.heap.size + 1) [.int .i64 0, .slice none 0 0] 44 := by
    rw [hW0]
    have := Blk.Blk.new (w.alloc (.cells #[.int .i64 p, .slice a len cap] 41)) #[.int .i64 0, .slice none 0 0] 44
    rw [World.size_alloc] at this
    exact this.alloc _
  have k2 : Blk.Blk W0 (w.heap.size + 1 + 1) [.int .i64 p, .slice none 0 0] 44 := by
    rw [hW0]
    have := Blk.Blk.new ((w.alloc (.cells #[.int .i64 p, .slice a len cap] 41)).alloc (.cells #[.int .i64 0, .slice none 0 0] 44)) #[.int .i64 p, .slice none 0 0] 44
    rw [World.size_alloc, World.size_alloc] at this
    exact this
  have hs : W0.heap.size = w.heap.size + 3 := by rw [hW0]; simp
  rw [← hW0]
  clear hW0
  have HS := Lib.hid hs
  clear hs
  refine (toF32_made a len cap zs _ (H.out.keep b0) hn).mono ?_
  rintro e w1 ⟨rfl, m1, b1, l1⟩
  have c1 := k1.keep b1
  have c2 := k2.keep b1
  have M1 := Lib.hid m1
  have B1 := Lib.hid (b0.trans (b1.mono b0.size))
  clear k1 k2 b0 b1 m1
  obtain ⟨⟨x0, x1⟩, ⟨f0, f1⟩, _⟩ := c2.two
  obtain ⟨⟨y0, y1⟩, ⟨g0, g1⟩, _⟩ := c1.two
  have hne : w.heap.size + 1 ≠ w.heap.size + 1 + 1 := by omega
  have c3 := c2.set 1 (.slice (some ⟨W0.heap.size, 0, none⟩) len len)
  have d3 := c1.other 1 (.slice (some ⟨W0.heap.size, 0, none⟩) len len) hne
  obtain ⟨⟨x2, x3⟩, _, _⟩ := c3.two
  obtain ⟨⟨y2, y3⟩, ⟨g2, g3⟩, _⟩ := d3.two
  have d4 := d3.set 0 (.int .i64 p)
  have d5 := d4.set 1 (.slice (some ⟨W0.heap.size, 0, none⟩) len len)
  have HX := Lib.hid d5
  obtain ⟨⟨y6, y7⟩, _, _⟩ := d5.two
  have h4 := d4.frozen 1
  have h5 := d4.cell 1
  clear c1 c2 c3 d3 d4 d5 hne
  have HB := Lib.hid (((B1.out.setCell (p := ⟨w.heap.size + 1 + 1, 1, none⟩) (by simp; omega) (.slice (some ⟨W0.heap.size, 0, none⟩) len len)).setCell (p := ⟨w.heap.size + 1, 0, none⟩) (by simp) (.int .i64 p)).setCell (p := ⟨w.heap.size + 1, 1, none⟩) (by simp) (.slice (some ⟨W0.heap.size, 0, none⟩) len len))
  have HM : Hid (Made (((w1.setCell ⟨w.heap.size + 1 + 1, 1, none⟩ (.slice (some ⟨W0.heap.size, 0, none⟩) len len)).setCell ⟨w.heap.size + 1, 0, none⟩ (.int .i64 p)).setCell ⟨w.heap.size + 1, 1, none⟩ (.slice (some ⟨W0.heap.size, 0, none⟩) len len)) W0.heap.size len zs) := by
    have hs := HS.out
    exact made_other (made_other (made_other M1.out 1 _ (by omega)) 0 _ (by omega)) 1 _ (by omega)
  go_wp2_with fail
  refine bodyPost_ret (v := .agg #[.int .i64 p, .slice (some ⟨W0.heap.size, 0, none⟩) len len]) (by simp [results, Try.results26, go_sem, y6, y7]) rfl ⟨⟨_, rfl, ?_, HM.out⟩, HB.out⟩
  have hs := HS.out
  omega
set_option maxHeartbeats 1600000 in
theorem eqCha_any (p : Int) (a b : Option Addr) (len c1 c2 : Nat) (zs : List Nat) (w : World) (h1 : FRow w a len zs) (h2 : FRow w b len zs) (hn : len ≤ 1048576) :
    Calls Try.prog 29 #[.agg #[.int .i64 p, .slice a len c1], .agg #[.int .i64 p, .slice b len c2]] w fun e w' => e = .returned (.bool true) ∧ Below w.heap.size w w' := by
  have H1 := Lib.hid h1
  have H2 := Lib.hid h2
  have hx : (p != p) = false := by simp
  clear h1 h2
  go_enter Try.func29, Try.ntmps29
  go_wp2_with fail
  have b0 : Below w.heap.size w ((w.alloc (.cells #[.int .i64 p, .slice a len c1] 44)).alloc (.cells #[.int .i64 p, .slice b len c2] 44)) := ((Below.refl _ _).alloc (Nat.le_refl _) _).alloc (by simp) _
  refine (eqFl_any a b len c1 c2 zs _ (H1.out.keep b0) (H2.out.keep b0) hn).mono ?_
  rintro e w1 ⟨rfl, b1⟩
  have B1 := Lib.hid (b0.trans (b1.mono b0.size))
  clear b0 b1
  go_wp2_with fail
  go_ret
  exact ⟨rfl, B1.out⟩
set_option maxHeartbeats 1600000 in
theorem mkCha_any (lo hi : Nat) (m : Int) (p : Int) (a : Option Addr) (len cap : Nat) (w : World) (h : Mid w lo hi a len 22) (hn : len ≤ 1048576) (hm : 1 ≤ m ∧ m ≤ 1099511627776) :
    Calls Try.prog 30 #[.agg #[.int .i64 p, .slice a len cap], .int .i64 m] w fun e w' => e = .returned (.int .i64 (m + len)) ∧ Marked (fM m) w' a len ∧ Sep lo hi w w' := by
  have H := Lib.hid h
  clear h
  go_enter Try.func30, Try.ntmps30
  go_wp2_with fail
  have b0 : Below w.heap.size w (w.alloc (.cells #[.int .i64 p, .slice a len cap] 44)) := (Below.refl _ _).alloc (Nat.le_refl _) _
  refine (mkFl_any lo hi m a len cap _ (H.out.keep b0) hn hm).mono ?_
  rintro e w1 ⟨rfl, m1, s1⟩
  have M1 := Lib.hid m1
  have S1 := Lib.hid ((Sep.of_below b0).trans s1)
  clear b0 m1 s1
  go_wp2_with fail
  go_ret
  exact ⟨rfl, M1.out, S1.out⟩
end Go.Proofs.Ytiebbmgehhcdmaa
