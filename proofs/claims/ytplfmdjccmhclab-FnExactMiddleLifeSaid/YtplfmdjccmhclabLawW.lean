/-
  Contracts: laws of life, whether they are valid, in the program and in its model; the laws' copy and comparison of them. Conditions: words fit their kind.
-/
import Derived.Test.YtplfmdjccmhclabLivW
import Derived.Test.YtplfmdjccmhclabGrn
import Derived.Lib.SmallJoins
namespace Liv
open Go Flt Go.ChangeShapes Go.WideShapes Go.Deep
theorem grn_cell {w w' : World} (h : Grn w w') {g j : Nat} {v : Value} (hg : g < w.heap.size) (hc : w.cell? ⟨g, j, none⟩ = some v) : w'.cell? ⟨g, j, none⟩ = some v := by
  rw [World.cell?_of_block (w := w) (h.below.block g hg)]; exact hc
def geB (a b : Nat) : Bool := (FloatKind.f32.format.order a b == some .gt) || (FloatKind.f32.format.order a b == some .eq)
def leB (a b : Nat) : Bool := (FloatKind.f32.format.order a b == some .lt) || (FloatKind.f32.format.order a b == some .eq)
def lnB (x : Nat) : Bool := geB x 981668463 && leB x 1148846080
def lawB (k : Int) (s c : Nat) : Bool := decide (0 ≤ k ∧ k ≤ 3) && (lnB s && lnB c)
theorem ln_num {x : Nat} (h : lnB x = true) : nan .f32 x = false := by
  cases hn : nan .f32 x
  · rfl
  · unfold lnB geB at h
    rw [order_nan .f32 x 981668463 (.inl hn)] at h
    simp at h
variable {H : Type} {enc : TypeId × Value → H} {P : Program} {w : World} {base : Nat} {spare : Nat → Bool} {held : Bool}
theorem open_law {r : Reach} {b0 : Nat} {t : TypeId} {f0 f1 f2 : Field} {v : Value} {d : DataW H} {p : List MemPlace} (hs : P.underlying t = some (.struct #[f0, f1, f2])) (hone : oneCellFields P #[f0, f1, f2] = true) (hC : P.cellsOf t = 3)
    (u0 : P.underlying f0.type = some (.int .i64)) (u1 : P.underlying f1.type = some (.float .f32)) (u2 : P.underlying f2.type = some (.float .f32)) (hv : Value.okWide P w r b0 t v) (h : DataW.Trod enc P w base spare held t v d p) :
    ∃ (x : Int) (_ : (Lit.int .i64 x).wf = true) (y : Nat) (_ : (Lit.float .f32 y).wf = true) (z : Nat) (_ : (Lit.float .f32 z).wf = true), v = .agg #[.int .i64 x, .float .f32 y, .float .f32 z] ∧ d = .agg [.lit (.int .i64 x), .lit (.float .f32 y), .lit (.float .f32 z)] ∧ p = [] := by
  obtain ⟨v0, v1, v2, y0, y1, y2, n, rfl, rfl, rfl, h0, h1, h2⟩ := Go.Joins.open_agg3 hs hone hC hv h
  obtain ⟨x, hx, rfl, wx⟩ := DataW.trod_int u0 h0
  obtain ⟨y, rfl, wy, rfl⟩ := trod_f32 u1 h1
  obtain ⟨z, rfl, wz, rfl⟩ := trod_f32 u2 h2
  obtain rfl : v0 = .int .i64 x := by simpa using hx
  exact ⟨x, wx, y, by simpa [Lit.wf] using wy, z, by simpa [Lit.wf] using wz, rfl, rfl, rfl⟩
theorem shut_law {t : TypeId} {f0 f1 f2 : Field} (hs : P.underlying t = some (.struct #[f0, f1, f2])) (hone : oneCellFields P #[f0, f1, f2] = true) (hC : P.cellsOf t = 3)
    (u0 : P.underlying f0.type = some (.int .i64)) (u1 : P.underlying f1.type = some (.float .f32)) (u2 : P.underlying f2.type = some (.float .f32)) {x : Int} {y z : Nat} (wx : (Lit.int .i64 x).wf = true) (wy : (Lit.float .f32 y).wf = true) (wz : (Lit.float .f32 z).wf = true) :
    DataW.Trod enc P w base spare held t (.agg #[.int .i64 x, .float .f32 y, .float .f32 z]) (.agg [.lit (.int .i64 x), .lit (.float .f32 y), .lit (.float .f32 z)]) [] :=
  Go.Joins.shut_agg3 (y0 := (.lit (.int .i64 x), [])) (y1 := (.lit (.float .f32 y), [])) (y2 := (.lit (.float .f32 z), [])) hs hone hC
    ⟨1, by simp [DataW.trod, u0, wx]⟩ ⟨1, by simp [DataW.trod, u1, wy]⟩ ⟨1, by simp [DataW.trod, u2, wz]⟩
end Liv
namespace Go.Proofs.Ytplfmdjccmhclab
open Go.RowKit Liv Flt
theorem isLawNumber_any (x : Nat) (w : World) : Calls Try.prog 76 #[.float .f32 x] w fun e w' => e = .returned (.bool (lnB x)) ∧ w = w' := by
  unfold lnB
  cases h1 : geB x 981668463
  · unfold geB at h1
    go_enter Try.func76, Try.ntmps76
    go_wp2
    go_ret
    exact ⟨rfl, rfl⟩
  · unfold geB at h1
    unfold leB
    go_enter Try.func76, Try.ntmps76
    go_wp2
    go_ret
    exact ⟨rfl, rfl⟩
theorem implValid_any (k : Int) (s c : Nat) (w : World) : Calls Try.prog 38 #[.agg #[.int .i64 k, .float .f32 s, .float .f32 c]] w fun e w' => e = .returned (.bool (lawB k s c)) ∧ Grn w w' := by
  have hb : lawB k s c = (decide (0 ≤ k ∧ k ≤ 3) && (lnB s && lnB c)) := rfl
  rw [hb]
  by_cases h1 : 0 ≤ k
  · by_cases h2 : k < 4
    · rw [decide_eq_true (show 0 ≤ k ∧ k ≤ 3 from ⟨h1, by omega⟩), Bool.true_and]
      cases h3 : lnB s
      · have H3 := Lib.hid h3
        go_enter Try.func38, Try.ntmps38
        go_wp2_with fail
        all_goals first | (exfalso; omega) | skip
        refine (isLawNumber_any s _).mono ?_
        rintro e w1 ⟨rfl, rfl⟩
        rw [H3.out]
        go_wp2_with fail
        go_ret
        exact ⟨rfl, (Grn.refl _).alloc _⟩
      · have H3 := Lib.hid h3
        rw [Bool.true_and]
        go_enter Try.func38, Try.ntmps38
        go_wp2_with fail
        all_goals first | (exfalso; omega) | skip
        refine (isLawNumber_any s _).mono ?_
        rintro e w1 ⟨rfl, rfl⟩
        rw [H3.out]
        go_wp2_with fail
        refine (isLawNumber_any c _).mono ?_
        rintro e w1 ⟨rfl, rfl⟩
        go_wp2_with fail
        go_ret
        exact ⟨rfl, (Grn.refl _).alloc _⟩
    · rw [decide_eq_false (show ¬ (0 ≤ k ∧ k ≤ 3) by omega), Bool.false_and]
      have h4 : decide (k < 4) = false := decide_eq_false h2
      go_enter Try.func38, Try.ntmps38
      go_wp2_with fail
      all_goals first | (exfalso; omega) | skip
      go_ret
      exact ⟨by first | rfl | simp [h4], (Grn.refl _).alloc _⟩
  · rw [decide_eq_false (show ¬ (0 ≤ k ∧ k ≤ 3) by omega), Bool.false_and]
    go_enter Try.func38, Try.ntmps38
    go_wp2_with fail
    all_goals first | (exfalso; omega) | skip
    go_ret
    exact ⟨rfl, (Grn.refl _).alloc _⟩
theorem l00In_any (n lo hi : Int) (w : World) : Calls Try.prog 68 #[.int .i64 n, .int .i64 lo, .int .i64 hi] w fun e w' => e = .returned (.bool (decide (lo ≤ n ∧ n ≤ hi))) ∧ w = w' := by
  by_cases h1 : lo ≤ n
  · have h2 : decide (lo ≤ n ∧ n ≤ hi) = decide (n ≤ hi) := by
      by_cases c : n ≤ hi
      · rw [decide_eq_true c, decide_eq_true ⟨h1, c⟩]
      · rw [decide_eq_false c, decide_eq_false (by omega)]
    rw [h2]
    clear h2
    go_enter Try.func68, Try.ntmps68
    go_wp2_with fail
    all_goals first | (exfalso; omega) | skip
    go_ret
    exact ⟨rfl, rfl⟩
  · rw [decide_eq_false (show ¬ (lo ≤ n ∧ n ≤ hi) by omega)]
    go_enter Try.func68, Try.ntmps68
    go_wp2_with fail
    all_goals first | (exfalso; omega) | skip
    go_ret
    exact ⟨rfl, rfl⟩
theorem l02Law_any (g o : Nat) (k : Int) (s c : Nat) (w : World) (c0 : w.cell? ⟨g, o, none⟩ = some (.int .i64 k)) (c1 : w.cell? ⟨g, o + 1, none⟩ = some (.float .f32 s)) (c2 : w.cell? ⟨g, o + 2, none⟩ = some (.float .f32 c)) :
    Calls Try.prog 75 #[.pointer (some ⟨g, o, none⟩)] w fun e w' => e = .returned (.bool (lawB k s c)) ∧ w = w' := by
  have hb : lawB k s c = (decide (0 ≤ k ∧ k ≤ 3) && (lnB s && lnB c)) := rfl
  rw [hb]
  cases h1 : decide (0 ≤ k ∧ k ≤ 3)
  · have H1 := Lib.hid h1
    clear h1
    go_enter Try.func75, Try.ntmps75
    go_wp2_with fail
    refine (l00In_any k 0 3 _).mono ?_
    rintro e w1 ⟨rfl, rfl⟩
    rw [H1.out]
    go_wp2_with fail
    go_ret
    exact ⟨rfl, rfl⟩
  · have H1 := Lib.hid h1
    clear h1
    rw [Bool.true_and]
    unfold lnB
    cases h2 : geB s 981668463
    · unfold geB at h2
      go_enter Try.func75, Try.ntmps75
      go_wp2_with fail
      refine (l00In_any k 0 3 _).mono ?_
      rintro e w1 ⟨rfl, rfl⟩
      rw [H1.out]
      go_wp2_with fail
      go_ret
      exact ⟨rfl, rfl⟩
    · unfold geB at h2
      cases h3 : leB s 1148846080
      · unfold leB at h3
        go_enter Try.func75, Try.ntmps75
        go_wp2_with fail
        refine (l00In_any k 0 3 _).mono ?_
        rintro e w1 ⟨rfl, rfl⟩
        rw [H1.out]
        go_wp2_with fail
        go_ret
        exact ⟨rfl, rfl⟩
      · unfold leB at h3
        cases h4 : geB c 981668463
        · unfold geB at h4
          go_enter Try.func75, Try.ntmps75
          go_wp2_with fail
          refine (l00In_any k 0 3 _).mono ?_
          rintro e w1 ⟨rfl, rfl⟩
          rw [H1.out]
          go_wp2_with fail
          go_ret
          exact ⟨rfl, rfl⟩
        · unfold geB at h4
          unfold leB
          go_enter Try.func75, Try.ntmps75
          go_wp2_with fail
          refine (l00In_any k 0 3 _).mono ?_
          rintro e w1 ⟨rfl, rfl⟩
          rw [H1.out]
          go_wp2_with fail
          go_ret
          exact ⟨rfl, rfl⟩
theorem toLaw_any (k : Int) (s c : Nat) (w : World) : Calls Try.prog 37 #[.agg #[.int .i64 k, .float .f32 s, .float .f32 c]] w fun e w' => e = .returned (.agg #[.int .i64 k, .float .f32 s, .float .f32 c]) ∧ Grn w w' := by
  go_enter Try.func37, Try.ntmps37
  go_wp2
  refine bodyPost_ret (v := .agg #[.int .i64 k, .float .f32 s, .float .f32 c]) (by simp [results, Try.results37, go_sem]) rfl ⟨rfl, ?_⟩
  exact (((Grn.refl _).alloc _).alloc _).alloc _
theorem specValid_any (k : Int) (s c : Nat) (w : World) : Calls Try.prog 36 #[.agg #[.int .i64 k, .float .f32 s, .float .f32 c]] w fun e w' => e = .returned (.bool (lawB k s c)) ∧ Grn w w' := by
  go_enter Try.func36, Try.ntmps36
  go_wp2_with fail
  refine (l02Law_any _ 0 k s c _ (by rw [World.cell?_alloc_mark]; rfl) (by rw [World.cell?_alloc_mark]; rfl) (by rw [World.cell?_alloc_mark]; rfl)).mono ?_
  rintro e w1 ⟨rfl, rfl⟩
  go_wp2_with fail
  go_ret
  exact ⟨rfl, (Grn.refl _).alloc _⟩
theorem fnExactValidLaw_walk (k : Int) (_wk : (Lit.int .i64 k).wf = true) (s : Nat) (_ws : (Lit.float .f32 s).wf = true) (c : Nat) (_wc : (Lit.float .f32 c).wf = true) (w : World) :
    Calls Try.prog 8 #[.agg #[.int .i64 k, .float .f32 s, .float .f32 c]] w fun e w' => e = .returned (.bool true) ∧ Below w.heap.size w w' := by
  have hx : ∀ x : Bool, (x != x) = false := by simp
  have q0 : (w.alloc (.cells #[.int .i64 k, .float .f32 s, .float .f32 c] 48)).cell? ⟨w.heap.size, 0, none⟩ = some (.int .i64 k) := by rw [World.cell?_alloc_mark]; rfl
  have q1 : (w.alloc (.cells #[.int .i64 k, .float .f32 s, .float .f32 c] 48)).cell? ⟨w.heap.size, 1, none⟩ = some (.float .f32 s) := by rw [World.cell?_alloc_mark]; rfl
  have q2 : (w.alloc (.cells #[.int .i64 k, .float .f32 s, .float .f32 c] 48)).cell? ⟨w.heap.size, 2, none⟩ = some (.float .f32 c) := by rw [World.cell?_alloc_mark]; rfl
  have HQ := Lib.hid (show _ ∧ _ ∧ _ from ⟨q0, q1, q2⟩)
  clear _wk _ws _wc q0 q1 q2
  go_enter Try.func8, Try.ntmps8
  go_wp2_with fail
  refine (toLaw_any k s c _).mono ?_
  rintro e w1 ⟨rfl, g1⟩
  have G1 := Lib.hid g1
  clear g1
  go_wp2_with fail
  refine (specValid_any k s c _).mono ?_
  rintro e w2 ⟨rfl, g2⟩
  have G2 := Lib.hid (G1.out.trans g2)
  have t0 := grn_cell G2.out (by simp) HQ.out.1
  have t1 := grn_cell G2.out (by simp) HQ.out.2.1
  have t2 := grn_cell G2.out (by simp) HQ.out.2.2
  clear g2
  go_wp2_with fail
  refine (toLaw_any k s c _).mono ?_
  rintro e w3 ⟨rfl, g3⟩
  have G3 := Lib.hid (G2.out.trans g3)
  clear g3 t0 t1 t2
  go_wp2_with fail
  refine (implValid_any k s c _).mono ?_
  rintro e w4 ⟨rfl, g4⟩
  have G4 := Lib.hid (G3.out.trans g4)
  clear g4
  go_wp2_with fail
  go_ret
  exact ⟨rfl, (((Grn.refl _).alloc _).trans G4.out).below⟩
end Go.Proofs.Ytplfmdjccmhclab
