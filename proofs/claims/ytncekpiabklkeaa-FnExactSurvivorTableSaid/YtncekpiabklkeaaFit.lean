/-
  The law with one rate that lives fit: contracts, and its exact law. No conditions beyond the statement's own.
-/
import Derived.Test.YtncekpiabklkeaaLawW
import Derived.Test.YtncekpiabklkeaaTot
namespace Liv
open Go Flt F32 Ieee
def okN (k : Nat) : Bool := match FloatKind.f32.format.read (Go.floatOfInt .f32 (k : Int)) with | .number _ m _ => m != 0 | _ => false
theorem count_read {k : Nat} (h1 : 1 ≤ k) (h2 : k ≤ 48) : ∃ s m e, FloatKind.f32.format.read (Go.floatOfInt .f32 (k : Int)) = .number s m e ∧ m ≠ 0 := by
  have h := List.all_eq_true.1 (show ((List.range 48).all fun k => okN (k + 1)) = true by kernel_rfl) (k - 1) (List.mem_range.2 (by omega))
  rw [Nat.sub_add_cancel h1] at h
  unfold okN at h
  split at h
  · rename_i s m e he
    exact ⟨s, m, e, he, by simpa using h⟩
  · cases h
theorem quo_count {t k : Nat} (ht : nan .f32 t = false) (h1 : 1 ≤ k) (h2 : k ≤ 48) : ∃ q, Go.floatBits .quo .f32 t (Go.floatOfInt .f32 (k : Int)) = some q ∧ nan .f32 q = false ∧ q < 4294967296 ∧ (fin .f32 t = false → lnB q = false) := by
  obtain ⟨s, m, e, hr, hm⟩ := count_read h1 h2
  have hb : ∃ q, Go.floatBits .quo .f32 t (Go.floatOfInt .f32 (k : Int)) = some q ∧ (fin .f32 t = false → lnB q = false) := by
    show ∃ q, FloatKind.f32.format.div t (Go.floatOfInt .f32 (k : Int)) = some q ∧ _
    unfold Format.div
    rw [hr]
    rcases read_case .f32 t ht with ⟨m', e', h, _, hf, _⟩ | ⟨h, _⟩
    · rw [h]
      simp only [Datum.quotient, if_neg hm, Option.map_some]
      exact ⟨_, rfl, fun hn => by
        have : fin .f32 t = true := decide_eq_true hf
        rw [this] at hn; cases hn⟩
    · rw [h]
      simp only [Datum.quotient, Option.map_some]
      refine ⟨_, rfl, fun _ => ?_⟩
      cases (t / FloatKind.f32.format.signWeight % 2 == 1) <;> cases s <;> decide
  obtain ⟨q, h, hq⟩ := hb
  exact ⟨q, h, op_num (.inr (.inr (.inr rfl))) h, op_lt (.inr (.inr (.inr rfl))) h, hq⟩
/-- what the law with one rate is told to be: whether it is one, its Shape and its Scale -/
def fitB (zs : List (Nat × Bool)) : Bool := livB zs && (decide (zs.countP (·.2) ≠ 0) && lnB (op32 .quo (tot zs) (Go.floatOfInt .f32 (zs.countP (·.2) : Int))))
def fitS (zs : List (Nat × Bool)) : Nat := if fitB zs then 1065353216 else 0
def fitC (zs : List (Nat × Bool)) : Nat := if fitB zs then op32 .quo (tot zs) (Go.floatOfInt .f32 (zs.countP (·.2) : Int)) else 0
theorem fitS_num (zs : List (Nat × Bool)) : nan .f32 (fitS zs) = false := by unfold fitS; split <;> decide
theorem fitC_num (zs : List (Nat × Bool)) : nan .f32 (fitC zs) = false := by
  unfold fitC
  split
  · rename_i h
    unfold fitB at h
    rw [Bool.and_eq_true, Bool.and_eq_true] at h
    exact ln_num h.2.2
  · decide
/-- a block with three cells, behind calls that leave it as it was -/
theorem three {w w' : World} {r : Nat} {a b c : Value} {t : TypeId} (h : w.heap[r]? = some (.cells #[a, b, c] t (0, 0))) (g : Go.RowKit.Below w.heap.size w w') :
    (w'.cell? ⟨r, 0, none⟩ = some a ∧ w'.cell? ⟨r, 1, none⟩ = some b ∧ w'.cell? ⟨r, 2, none⟩ = some c) ∧ (w'.frozen? ⟨r, 0, none⟩ = false ∧ w'.frozen? ⟨r, 1, none⟩ = false ∧ w'.frozen? ⟨r, 2, none⟩ = false) ∧ r < w'.heap.size := by
  have hlt : r < w.heap.size := by
    refine Nat.lt_of_not_le fun hle => ?_
    rw [Array.getElem?_eq_none hle] at h; cases h
  have h' : w'.heap[r]? = some (.cells #[a, b, c] t (0, 0)) := by rw [g.block r hlt]; exact h
  refine ⟨⟨?_, ?_, ?_⟩, ⟨?_, ?_, ?_⟩, Nat.lt_of_lt_of_le hlt g.size⟩ <;> simp [World.cell?, World.frozen?, h']
theorem three_set {w : World} {r : Nat} {a b c x y z : Value} (h : w.cell? ⟨r, 0, none⟩ = some a ∧ w.cell? ⟨r, 1, none⟩ = some b ∧ w.cell? ⟨r, 2, none⟩ = some c) :
    (((w.setCell ⟨r, 0, none⟩ x).setCell ⟨r, 1, none⟩ y).setCell ⟨r, 2, none⟩ z).cell? ⟨r, 0, none⟩ = some x ∧ (((w.setCell ⟨r, 0, none⟩ x).setCell ⟨r, 1, none⟩ y).setCell ⟨r, 2, none⟩ z).cell? ⟨r, 1, none⟩ = some y ∧
    (((w.setCell ⟨r, 0, none⟩ x).setCell ⟨r, 1, none⟩ y).setCell ⟨r, 2, none⟩ z).cell? ⟨r, 2, none⟩ = some z := by
  obtain ⟨h0, h1, h2⟩ := h
  have n1 : (⟨r, 0, none⟩ : Addr) ≠ ⟨r, 1, none⟩ := by simp
  have n2 : (⟨r, 0, none⟩ : Addr) ≠ ⟨r, 2, none⟩ := by simp
  have n3 : (⟨r, 1, none⟩ : Addr) ≠ ⟨r, 2, none⟩ := by simp
  refine ⟨?_, ?_, ?_⟩
  · rw [World.cell?_setCell_other _ _ _ _ n2.symm, World.cell?_setCell_other _ _ _ _ n1.symm]; exact World.cell?_setCell_same _ _ _ h0
  · rw [World.cell?_setCell_other _ _ _ _ n3.symm]; exact World.cell?_setCell_same _ _ _ (by rw [World.cell?_setCell_other _ _ _ _ n1]; exact h1)
  · exact World.cell?_setCell_same _ _ _ (by rw [World.cell?_setCell_other _ _ _ _ n3, World.cell?_setCell_other _ _ _ _ n2]; exact h2)
theorem law_fit (c : Nat) : lawB 0 1065353216 c = lnB c := by
  unfold lawB
  rw [show lnB 1065353216 = true by decide]
  simp
end Liv
namespace Go.Proofs.Ytncekpiabklkeaa
open Go.RowKit Liv Flt F32
set_option maxHeartbeats 1600000 in
theorem onlyValid_any (k : Int) (s c : Nat) (w : World) : Calls Try.prog 81 #[.agg #[.int .i64 k, .float .f32 s, .float .f32 c]] w fun e w' => e = .returned (.tuple #[.agg #[.int .i64 (if lawB k s c then k else 0), .float .f32 (if lawB k s c then s else 0), .float .f32 (if lawB k s c then c else 0)], .bool (lawB k s c)]) ∧ Below w.heap.size w w' := by
  cases hL : lawB k s c
  · have HL := Lib.hid hL
    simp only [Bool.false_eq_true, if_false]
    go_enter Try.func81, Try.ntmps81
    go_wp2_with fail
    refine (implValid_any k s c _).mono ?_
    rintro e w1 ⟨rfl, g1⟩
    rw [HL.out]
    have hr : (((w.alloc (.cells #[.int .i64 k, .float .f32 s, .float .f32 c] 46)).alloc (.cells #[.int .i64 0, .float .f32 0, .float .f32 0] 46)).heap)[w.heap.size + 1]? = some (.cells #[.int .i64 0, .float .f32 0, .float .f32 0] 46 (0, 0)) := by
      rw [show w.heap.size + 1 = (w.alloc (.cells #[.int .i64 k, .float .f32 s, .float .f32 c] 46)).heap.size by simp]; exact heap_alloc_new _ _
    have g1' : Grn ((w.alloc (.cells #[.int .i64 k, .float .f32 s, .float .f32 c] 46)).alloc (.cells #[.int .i64 0, .float .f32 0, .float .f32 0] 46)) w1 := g1
    obtain ⟨⟨r0, r1, r2⟩, ⟨f0, f1, f2⟩, hlt⟩ := three hr g1'.below
    have p0 := grn_cell g1' (g := w.heap.size) (j := 0) (v := .int .i64 k) (by simp; omega) (Lib.cell?_alloc_some _ (by rw [World.cell?_alloc_mark]; rfl))
    have p1 := grn_cell g1' (g := w.heap.size) (j := 1) (v := .float .f32 s) (by simp; omega) (Lib.cell?_alloc_some _ (by rw [World.cell?_alloc_mark]; rfl))
    have p2 := grn_cell g1' (g := w.heap.size) (j := 2) (v := .float .f32 c) (by simp; omega) (Lib.cell?_alloc_some _ (by rw [World.cell?_alloc_mark]; rfl))
    have G1 := Lib.hid (((Grn.refl _).alloc _ |>.alloc _).trans g1').below
    have HT := Lib.hid (three_set (x := .int .i64 0) (y := .float .f32 0) (z := .float .f32 0) ⟨r0, r1, r2⟩)
    clear hr g1 g1'
    go_wp2_with fail
    obtain ⟨t0, t1, t2⟩ := HT.out
    refine bodyPost_ret (v := .tuple #[.agg #[.int .i64 0, .float .f32 0, .float .f32 0], .bool false]) (by simp [results, Try.results81, go_sem, t0, t1, t2]) rfl ?_
    exact ⟨by simp, ((G1.out.setCell (by simp) _).setCell (by simp) _).setCell (by simp) _⟩
  · have HL := Lib.hid hL
    simp only [if_true]
    go_enter Try.func81, Try.ntmps81
    go_wp2_with fail
    refine (implValid_any k s c _).mono ?_
    rintro e w1 ⟨rfl, g1⟩
    rw [HL.out]
    have hr : (((w.alloc (.cells #[.int .i64 k, .float .f32 s, .float .f32 c] 46)).alloc (.cells #[.int .i64 0, .float .f32 0, .float .f32 0] 46)).heap)[w.heap.size + 1]? = some (.cells #[.int .i64 0, .float .f32 0, .float .f32 0] 46 (0, 0)) := by
      rw [show w.heap.size + 1 = (w.alloc (.cells #[.int .i64 k, .float .f32 s, .float .f32 c] 46)).heap.size by simp]; exact heap_alloc_new _ _
    have g1' : Grn ((w.alloc (.cells #[.int .i64 k, .float .f32 s, .float .f32 c] 46)).alloc (.cells #[.int .i64 0, .float .f32 0, .float .f32 0] 46)) w1 := g1
    obtain ⟨⟨r0, r1, r2⟩, ⟨f0, f1, f2⟩, hlt⟩ := three hr g1'.below
    have p0 := grn_cell g1' (g := w.heap.size) (j := 0) (v := .int .i64 k) (by simp; omega) (Lib.cell?_alloc_some _ (by rw [World.cell?_alloc_mark]; rfl))
    have p1 := grn_cell g1' (g := w.heap.size) (j := 1) (v := .float .f32 s) (by simp; omega) (Lib.cell?_alloc_some _ (by rw [World.cell?_alloc_mark]; rfl))
    have p2 := grn_cell g1' (g := w.heap.size) (j := 2) (v := .float .f32 c) (by simp; omega) (Lib.cell?_alloc_some _ (by rw [World.cell?_alloc_mark]; rfl))
    have G1 := Lib.hid (((Grn.refl _).alloc _ |>.alloc _).trans g1').below
    have HT := Lib.hid (three_set (x := .int .i64 k) (y := .float .f32 s) (z := .float .f32 c) ⟨r0, r1, r2⟩)
    clear hr g1 g1'
    go_wp2_with fail
    obtain ⟨t0, t1, t2⟩ := HT.out
    refine bodyPost_ret (v := .tuple #[.agg #[.int .i64 k, .float .f32 s, .float .f32 c], .bool true]) (by simp [results, Try.results81, go_sem, t0, t1, t2]) rfl ?_
    exact ⟨by simp, ((G1.out.setCell (by simp) _).setCell (by simp) _).setCell (by simp) _⟩
set_option maxHeartbeats 1600000 in
theorem giveLaw_any (k : Int) (s c : Nat) (w : World) : Calls Try.prog 80 #[.agg #[.int .i64 k, .float .f32 s, .float .f32 c]] w fun e w' => e = .returned (.tuple #[.agg #[.int .i64 (if lawB k s c then k else 0), .float .f32 (if lawB k s c then s else 0), .float .f32 (if lawB k s c then c else 0)], .bool (lawB k s c)]) ∧ Below w.heap.size w w' := by
  cases hL : lawB k s c
  · have HL := Lib.hid hL
    simp only [Bool.false_eq_true, if_false]
    go_enter Try.func80, Try.ntmps80
    go_wp2_with fail
    refine (l02Law_any _ 0 k s c _ (Lib.cell?_alloc_some _ (by rw [World.cell?_alloc_mark]; rfl)) (Lib.cell?_alloc_some _ (by rw [World.cell?_alloc_mark]; rfl)) (Lib.cell?_alloc_some _ (by rw [World.cell?_alloc_mark]; rfl))).mono ?_
    rintro e w1 ⟨rfl, g1⟩
    rw [HL.out]
    have hr : (((w.alloc (.cells #[.int .i64 k, .float .f32 s, .float .f32 c] 46)).alloc (.cells #[.int .i64 0, .float .f32 0, .float .f32 0] 46)).heap)[w.heap.size + 1]? = some (.cells #[.int .i64 0, .float .f32 0, .float .f32 0] 46 (0, 0)) := by
      rw [show w.heap.size + 1 = (w.alloc (.cells #[.int .i64 k, .float .f32 s, .float .f32 c] 46)).heap.size by simp]; exact heap_alloc_new _ _
    have g1' : Grn ((w.alloc (.cells #[.int .i64 k, .float .f32 s, .float .f32 c] 46)).alloc (.cells #[.int .i64 0, .float .f32 0, .float .f32 0] 46)) w1 := by rw [← g1]; exact Grn.refl _
    obtain ⟨⟨r0, r1, r2⟩, ⟨f0, f1, f2⟩, hlt⟩ := three hr g1'.below
    have p0 := grn_cell g1' (g := w.heap.size) (j := 0) (v := .int .i64 k) (by simp; omega) (Lib.cell?_alloc_some _ (by rw [World.cell?_alloc_mark]; rfl))
    have p1 := grn_cell g1' (g := w.heap.size) (j := 1) (v := .float .f32 s) (by simp; omega) (Lib.cell?_alloc_some _ (by rw [World.cell?_alloc_mark]; rfl))
    have p2 := grn_cell g1' (g := w.heap.size) (j := 2) (v := .float .f32 c) (by simp; omega) (Lib.cell?_alloc_some _ (by rw [World.cell?_alloc_mark]; rfl))
    have G1 := Lib.hid (((Grn.refl _).alloc _ |>.alloc _).trans g1').below
    have HT := Lib.hid (three_set (x := .int .i64 0) (y := .float .f32 0) (z := .float .f32 0) ⟨r0, r1, r2⟩)
    clear hr g1 g1'
    go_wp2_with fail
    obtain ⟨t0, t1, t2⟩ := HT.out
    refine bodyPost_ret (v := .tuple #[.agg #[.int .i64 0, .float .f32 0, .float .f32 0], .bool false]) (by simp [results, Try.results80, go_sem, t0, t1, t2]) rfl ?_
    exact ⟨by simp, ((G1.out.setCell (by simp) _).setCell (by simp) _).setCell (by simp) _⟩
  · have HL := Lib.hid hL
    simp only [if_true]
    go_enter Try.func80, Try.ntmps80
    go_wp2_with fail
    refine (l02Law_any _ 0 k s c _ (Lib.cell?_alloc_some _ (by rw [World.cell?_alloc_mark]; rfl)) (Lib.cell?_alloc_some _ (by rw [World.cell?_alloc_mark]; rfl)) (Lib.cell?_alloc_some _ (by rw [World.cell?_alloc_mark]; rfl))).mono ?_
    rintro e w1 ⟨rfl, g1⟩
    rw [HL.out]
    have hr : (((w.alloc (.cells #[.int .i64 k, .float .f32 s, .float .f32 c] 46)).alloc (.cells #[.int .i64 0, .float .f32 0, .float .f32 0] 46)).heap)[w.heap.size + 1]? = some (.cells #[.int .i64 0, .float .f32 0, .float .f32 0] 46 (0, 0)) := by
      rw [show w.heap.size + 1 = (w.alloc (.cells #[.int .i64 k, .float .f32 s, .float .f32 c] 46)).heap.size by simp]; exact heap_alloc_new _ _
    have g1' : Grn ((w.alloc (.cells #[.int .i64 k, .float .f32 s, .float .f32 c] 46)).alloc (.cells #[.int .i64 0, .float .f32 0, .float .f32 0] 46)) w1 := by rw [← g1]; exact Grn.refl _
    obtain ⟨⟨r0, r1, r2⟩, ⟨f0, f1, f2⟩, hlt⟩ := three hr g1'.below
    have p0 := grn_cell g1' (g := w.heap.size) (j := 0) (v := .int .i64 k) (by simp; omega) (Lib.cell?_alloc_some _ (by rw [World.cell?_alloc_mark]; rfl))
    have p1 := grn_cell g1' (g := w.heap.size) (j := 1) (v := .float .f32 s) (by simp; omega) (Lib.cell?_alloc_some _ (by rw [World.cell?_alloc_mark]; rfl))
    have p2 := grn_cell g1' (g := w.heap.size) (j := 2) (v := .float .f32 c) (by simp; omega) (Lib.cell?_alloc_some _ (by rw [World.cell?_alloc_mark]; rfl))
    have G1 := Lib.hid (((Grn.refl _).alloc _ |>.alloc _).trans g1').below
    have HT := Lib.hid (three_set (x := .int .i64 k) (y := .float .f32 s) (z := .float .f32 c) ⟨r0, r1, r2⟩)
    clear hr g1 g1'
    go_wp2_with fail
    obtain ⟨t0, t1, t2⟩ := HT.out
    refine bodyPost_ret (v := .tuple #[.agg #[.int .i64 k, .float .f32 s, .float .f32 c], .bool true]) (by simp [results, Try.results80, go_sem, t0, t1, t2]) rfl ?_
    exact ⟨by simp, ((G1.out.setCell (by simp) _).setCell (by simp) _).setCell (by simp) _⟩
theorem eqLaw_any (k : Int) (s c : Nat) (hs : nan .f32 s = false) (hc : nan .f32 c = false) (w : World) : Calls Try.prog 40 #[.agg #[.int .i64 k, .float .f32 s, .float .f32 c], .agg #[.int .i64 k, .float .f32 s, .float .f32 c]] w fun e w' => e = .returned (.bool true) ∧ Below w.heap.size w w' := by
  have hx : (k != k) = false := by simp
  have W1 := widen s hs
  have q1 := (W_spec s hs).2.1
  have l1 := W_lt s
  have W2 := widen c hc
  have q2 := (W_spec c hc).2.1
  have l2 := W_lt c
  generalize W s = o1 at *
  generalize W c = o2 at *
  clear hs hc
  go_enter Try.func40, Try.ntmps40
  go_wp2_with fail
  refine (sameFloat_eq o1 l1 q1 _).mono ?_
  rintro e w1 ⟨rfl, rfl⟩
  go_wp2_with fail
  refine (sameFloat_eq o2 l2 q2 _).mono ?_
  rintro e w1 ⟨rfl, rfl⟩
  go_wp2_with fail
  go_ret
  exact ⟨rfl, Go.Joins.below_alloc2 _ _ _⟩
theorem cnt_le (zs : List (Nat × Bool)) : zs.countP (·.2) ≤ zs.length := List.countP_le_length
set_option maxHeartbeats 1600000 in
theorem specFit_any (a : Option Addr) (len cap : Nat) (zs : List (Nat × Bool)) (w : World) (h : LRow w a len zs) (hn : len ≤ 1048576) :
    Calls Try.prog 38 #[.slice a len cap] w fun e w' => e = .returned (.tuple #[.agg #[.int .i64 0, .float .f32 (fitS zs), .float .f32 (fitC zs)], .bool (fitB zs)]) ∧ Below w.heap.size w w' := by
  have H := Lib.hid (h.keep (Go.Joins.below_alloc1 w (.cells #[.int .i64 0, .float .f32 0, .float .f32 0] 46)))
  have hr : (w.alloc (.cells #[.int .i64 0, .float .f32 0, .float .f32 0] 46)).heap[w.heap.size]? = some (.cells #[.int .i64 0, .float .f32 0, .float .f32 0] 46 (0, 0)) := heap_alloc_new _ _
  have HR := Lib.hid hr
  clear hr
  clear h
  cases hL : livB zs
  · have HL := Lib.hid hL
    have hf : fitB zs = false := by unfold fitB; rw [hL]; rfl
    have hS : fitS zs = 0 := by unfold fitS; rw [hf]; rfl
    have hC : fitC zs = 0 := by unfold fitC; rw [hf]; rfl
    rw [hf, hS, hC]
    clear hf hS hC
    go_enter Try.func38, Try.ntmps38
    go_wp2_with fail
    refine (specLives_any a len cap zs _ H.out).mono ?_
    rintro e w1 ⟨rfl, g1⟩
    rw [HL.out]
    have B1 := Lib.hid g1.below
    clear g1
    obtain ⟨⟨r0, r1, r2⟩, ⟨f0, f1, f2⟩, hlt⟩ := three HR.out B1.out
    have HB := Lib.hid (((Below.refl _ w).alloc (Nat.le_refl _) (.cells #[.int .i64 0, .float .f32 0, .float .f32 0] 46)).trans (B1.out.mono (by simp)))
    have HT := Lib.hid (three_set (x := .int .i64 0) (y := .float .f32 0) (z := .float .f32 0) ⟨r0, r1, r2⟩)
    go_wp2_with fail
    obtain ⟨t0, t1, t2⟩ := HT.out
    refine bodyPost_ret (v := .tuple #[.agg #[.int .i64 0, .float .f32 0, .float .f32 0], .bool false]) (by simp [results, Try.results38, go_sem, t0, t1, t2]) rfl ?_
    exact ⟨by first | rfl | simp, ((HB.out.setCell (Nat.le_refl _) _).setCell (Nat.le_refl _) _).setCell (Nat.le_refl _) _⟩
  · have HL := Lib.hid hL
    by_cases hc : zs.countP (·.2) = 0
    · have hf : fitB zs = false := by unfold fitB; rw [hL, decide_eq_false (by omega)]; rfl
      have hS : fitS zs = 0 := by unfold fitS; rw [hf]; rfl
      have hC : fitC zs = 0 := by unfold fitC; rw [hf]; rfl
      rw [hf, hS, hC]
      have HC := Lib.hid hc
      clear hf hS hC hc
      go_enter Try.func38, Try.ntmps38
      go_wp2_with fail
      refine (specLives_any a len cap zs _ H.out).mono ?_
      rintro e w1 ⟨rfl, g1⟩
      rw [HL.out]
      have B1 := Lib.hid g1.below
      clear g1
      go_wp2_with fail
      refine (specFailed_any a len cap zs _ (H.out.keep B1.out) hn).mono ?_
      rintro e w2 ⟨rfl, rfl⟩
      rw [HC.out]
      obtain ⟨⟨r0, r1, r2⟩, ⟨f0, f1, f2⟩, hlt⟩ := three HR.out B1.out
      have HB := Lib.hid (((Below.refl _ w).alloc (Nat.le_refl _) (.cells #[.int .i64 0, .float .f32 0, .float .f32 0] 46)).trans (B1.out.mono (by simp)))
      have HT := Lib.hid (three_set (x := .int .i64 0) (y := .float .f32 0) (z := .float .f32 0) ⟨r0, r1, r2⟩)
      go_wp2_with fail
      obtain ⟨t0, t1, t2⟩ := HT.out
      refine bodyPost_ret (v := .tuple #[.agg #[.int .i64 0, .float .f32 0, .float .f32 0], .bool false]) (by simp [results, Try.results38, go_sem, t0, t1, t2]) rfl ?_
      exact ⟨by first | rfl | simp, ((HB.out.setCell (Nat.le_refl _) _).setCell (Nat.le_refl _) _).setCell (Nat.le_refl _) _⟩
    · obtain ⟨q, hq, hqn, hql, _⟩ := quo_count (t := tot zs) (k := zs.countP (·.2)) (by have := (tot_num (fun j hj => liv_fin hL hj) zs.length (Nat.le_refl _)).1; rwa [List.take_length] at this) (by omega) (Nat.le_trans (cnt_le zs) (liv_len hL).2)
      have hf : fitB zs = lawB 0 1065353216 q := by unfold fitB; rw [hL, decide_eq_true hc, op32_of hq, law_fit]; rfl
      have hS : fitS zs = if lawB 0 1065353216 q then 1065353216 else 0 := by unfold fitS; rw [hf]
      have hC : fitC zs = if lawB 0 1065353216 q then q else 0 := by unfold fitC; rw [hf, op32_of hq]
      rw [hf, hS, hC]
      have hcn : ((zs.countP (·.2) : Nat) : Int) ≠ 0 := by omega
      have hrun : ∀ w, (binOp .quo 35 (.float .f32 (tot zs)) (.float .f32 (Go.floatOfInt .f32 ((zs.countP (·.2) : Nat) : Int)))).run Try.prog w = .ok (.float .f32 q) w := fun w => run_float_arith w .quo 35 .f32 _ _ q hq
      have hbe : (((zs.countP (·.2) : Nat) : Int) == 0) = false := beq_false_of_ne hcn
      have hz : (if lawB 0 1065353216 q then (0 : Int) else 0) = 0 := by split <;> rfl
      have HGL := fun w => Lib.hid (giveLaw_any 0 1065353216 q w)
      rw [hz] at HGL
      clear hf hS hC hc hq hqn hql hz
      generalize (if lawB 0 1065353216 q then 1065353216 else 0) = fs at *
      generalize (if lawB 0 1065353216 q then q else 0) = fc at *
      generalize lawB 0 1065353216 q = fb at *
      generalize hcount : ((zs.countP (·.2) : Nat) : Int) = n at *
      have HN := Lib.hid hcount
      generalize htot : tot zs = t at *
      have HTT := Lib.hid htot
      clear hcount htot
      go_enter Try.func38, Try.ntmps38
      go_wp2_with fail
      refine (specLives_any a len cap zs _ H.out).mono ?_
      rintro e w1 ⟨rfl, g1⟩
      rw [HL.out]
      have B1 := Lib.hid g1.below
      clear g1
      go_wp2_with fail
      refine (specFailed_any a len cap zs _ (H.out.keep B1.out) hn).mono ?_
      rintro e w2 ⟨rfl, rfl⟩
      rw [HN.out]
      go_wp2_with fail
      refine (specTotal_any a len cap zs _ (H.out.keep B1.out) (fun j hj => liv_fin HL.out hj)).mono ?_
      rintro e w2 ⟨rfl, rfl⟩
      rw [HTT.out]
      go_wp2_with fail
      refine (specFailed_any a len cap zs _ (H.out.keep B1.out) hn).mono ?_
      rintro e w2 ⟨rfl, rfl⟩
      rw [HN.out]
      go_wp2_with fail
      refine (HGL _).out.mono ?_
      rintro e w2 ⟨rfl, b2⟩
      have B2 := Lib.hid (B1.out.trans (b2.mono B1.out.size))
      clear b2
      obtain ⟨⟨r0, r1, r2⟩, ⟨f0, f1, f2⟩, hlt⟩ := three HR.out B2.out
      have HB := Lib.hid (((Below.refl _ w).alloc (Nat.le_refl _) (.cells #[.int .i64 0, .float .f32 0, .float .f32 0] 46)).trans (B2.out.mono (by simp)))
      have HT := Lib.hid (three_set (x := .int .i64 0) (y := .float .f32 fs) (z := .float .f32 fc) ⟨r0, r1, r2⟩)
      go_wp2_with fail
      obtain ⟨t0, t1, t2⟩ := HT.out
      refine bodyPost_ret (v := .tuple #[.agg #[.int .i64 0, .float .f32 fs, .float .f32 fc], .bool fb]) (by simp [results, Try.results38, go_sem, t0, t1, t2]) rfl ?_
      exact ⟨by first | rfl | simp, ((HB.out.setCell (Nat.le_refl _) _).setCell (Nat.le_refl _) _).setCell (Nat.le_refl _) _⟩
set_option maxHeartbeats 1600000 in
theorem implFit_any (a : Option Addr) (len cap : Nat) (zs : List (Nat × Bool)) (w : World) (h : LRow w a len zs) (hn : len ≤ 1048576) :
    Calls Try.prog 39 #[.slice a len cap] w fun e w' => e = .returned (.tuple #[.agg #[.int .i64 0, .float .f32 (fitS zs), .float .f32 (fitC zs)], .bool (fitB zs)]) ∧ Below w.heap.size w w' := by
  have H := Lib.hid (h.keep (Go.Joins.below_alloc1 w (.cells #[.int .i64 0, .float .f32 0, .float .f32 0] 46)))
  have hr : (w.alloc (.cells #[.int .i64 0, .float .f32 0, .float .f32 0] 46)).heap[w.heap.size]? = some (.cells #[.int .i64 0, .float .f32 0, .float .f32 0] 46 (0, 0)) := heap_alloc_new _ _
  have HR := Lib.hid hr
  clear hr
  clear h
  cases hok : livB zs && fin .f32 (tot zs)
  · have HOK := Lib.hid hok
    have hf : fitB zs = false := by
      unfold fitB
      cases hL : livB zs
      · rfl
      · rw [hL, Bool.true_and] at hok
        by_cases hc : zs.countP (·.2) = 0
        · rw [decide_eq_false (by omega)]; rfl
        · obtain ⟨q, hq, _, _, hln⟩ := quo_count (t := tot zs) (k := zs.countP (·.2)) (by have := (tot_num (fun j hj => liv_fin hL hj) zs.length (Nat.le_refl _)).1; rwa [List.take_length] at this) (by omega) (Nat.le_trans (cnt_le zs) (liv_len hL).2)
          rw [op32_of hq, hln hok]; simp
    have hS : fitS zs = 0 := by unfold fitS; rw [hf]; rfl
    have hC : fitC zs = 0 := by unfold fitC; rw [hf]; rfl
    rw [hf, hS, hC]
    clear hf hS hC hok
    go_enter Try.func39, Try.ntmps39
    go_wp2_with fail
    refine (implTime_any a len cap zs _ H.out).mono ?_
    rintro e w1 ⟨rfl, b1⟩
    rw [HOK.out]
    have B1 := Lib.hid b1
    clear b1
    go_wp2_with fail
    refine (countLives_any (·.2) 71 #[] (by intro args w; kernel_rfl) a len cap zs _ (H.out.keep B1.out) (fun W t f _ _ => hasFailed_any t f W) hn).mono ?_
    rintro e w2 ⟨rfl, g2⟩
    have B2 := Lib.hid (B1.out.trans (g2.below.mono B1.out.size))
    clear g2
    obtain ⟨⟨r0, r1, r2⟩, ⟨f0, f1, f2⟩, hlt⟩ := three HR.out B2.out
    have HB := Lib.hid (((Below.refl _ w).alloc (Nat.le_refl _) (.cells #[.int .i64 0, .float .f32 0, .float .f32 0] 46)).trans (B2.out.mono (by simp)))
    have HT := Lib.hid (three_set (x := .int .i64 0) (y := .float .f32 0) (z := .float .f32 0) ⟨r0, r1, r2⟩)
    go_wp2_with fail
    obtain ⟨t0, t1, t2⟩ := HT.out
    refine bodyPost_ret (v := .tuple #[.agg #[.int .i64 0, .float .f32 0, .float .f32 0], .bool false]) (by simp [results, Try.results39, go_sem, t0, t1, t2]) rfl ?_
    exact ⟨by first | rfl | simp, ((HB.out.setCell (Nat.le_refl _) _).setCell (Nat.le_refl _) _).setCell (Nat.le_refl _) _⟩
  · have hL : livB zs = true := by rw [Bool.and_eq_true] at hok; exact hok.1
    have HOK := Lib.hid hok
    by_cases hc : zs.countP (·.2) = 0
    · have hf : fitB zs = false := by unfold fitB; rw [hL, decide_eq_false (by omega)]; rfl
      have hS : fitS zs = 0 := by unfold fitS; rw [hf]; rfl
      have hC : fitC zs = 0 := by unfold fitC; rw [hf]; rfl
      rw [hf, hS, hC]
      have HC := Lib.hid hc
      clear hf hS hC hc hok hL
      go_enter Try.func39, Try.ntmps39
      go_wp2_with fail
      refine (implTime_any a len cap zs _ H.out).mono ?_
      rintro e w1 ⟨rfl, b1⟩
      rw [HOK.out]
      have B1 := Lib.hid b1
      clear b1
      go_wp2_with fail
      refine (countLives_any (·.2) 71 #[] (by intro args w; kernel_rfl) a len cap zs _ (H.out.keep B1.out) (fun W t f _ _ => hasFailed_any t f W) hn).mono ?_
      rintro e w2 ⟨rfl, g2⟩
      have B2 := Lib.hid (B1.out.trans (g2.below.mono B1.out.size))
      clear g2
      rw [HC.out]
      obtain ⟨⟨r0, r1, r2⟩, ⟨f0, f1, f2⟩, hlt⟩ := three HR.out B2.out
      have HB := Lib.hid (((Below.refl _ w).alloc (Nat.le_refl _) (.cells #[.int .i64 0, .float .f32 0, .float .f32 0] 46)).trans (B2.out.mono (by simp)))
      have HT := Lib.hid (three_set (x := .int .i64 0) (y := .float .f32 0) (z := .float .f32 0) ⟨r0, r1, r2⟩)
      go_wp2_with fail
      obtain ⟨t0, t1, t2⟩ := HT.out
      refine bodyPost_ret (v := .tuple #[.agg #[.int .i64 0, .float .f32 0, .float .f32 0], .bool false]) (by simp [results, Try.results39, go_sem, t0, t1, t2]) rfl ?_
      exact ⟨by first | rfl | simp, ((HB.out.setCell (Nat.le_refl _) _).setCell (Nat.le_refl _) _).setCell (Nat.le_refl _) _⟩
    · obtain ⟨q, hq, hqn, hql, _⟩ := quo_count (t := tot zs) (k := zs.countP (·.2)) (by have := (tot_num (fun j hj => liv_fin hL hj) zs.length (Nat.le_refl _)).1; rwa [List.take_length] at this) (by omega) (Nat.le_trans (cnt_le zs) (liv_len hL).2)
      have hf : fitB zs = lawB 0 1065353216 q := by unfold fitB; rw [hL, decide_eq_true hc, op32_of hq, law_fit]; rfl
      have hS : fitS zs = if lawB 0 1065353216 q then 1065353216 else 0 := by unfold fitS; rw [hf]
      have hC : fitC zs = if lawB 0 1065353216 q then q else 0 := by unfold fitC; rw [hf, op32_of hq]
      rw [hf, hS, hC]
      have hcn : ((zs.countP (·.2) : Nat) : Int) ≠ 0 := by omega
      have hrun : ∀ w, (binOp .quo 35 (.float .f32 (tot zs)) (.float .f32 (Go.floatOfInt .f32 ((zs.countP (·.2) : Nat) : Int)))).run Try.prog w = .ok (.float .f32 q) w := fun w => run_float_arith w .quo 35 .f32 _ _ q hq
      have hbe : (((zs.countP (·.2) : Nat) : Int) == 0) = false := beq_false_of_ne hcn
      have hz : (if lawB 0 1065353216 q then (0 : Int) else 0) = 0 := by split <;> rfl
      have HGL := fun w => Lib.hid (onlyValid_any 0 1065353216 q w)
      rw [hz] at HGL
      clear hf hS hC hc hq hqn hql hz hok hL
      generalize (if lawB 0 1065353216 q then 1065353216 else 0) = fs at *
      generalize (if lawB 0 1065353216 q then q else 0) = fc at *
      generalize lawB 0 1065353216 q = fb at *
      generalize hcount : ((zs.countP (·.2) : Nat) : Int) = n at *
      have HN := Lib.hid hcount
      clear hcount
      go_enter Try.func39, Try.ntmps39
      go_wp2_with fail
      refine (implTime_any a len cap zs _ H.out).mono ?_
      rintro e w1 ⟨rfl, b1⟩
      rw [HOK.out]
      have B1 := Lib.hid b1
      clear b1
      go_wp2_with fail
      refine (countLives_any (·.2) 71 #[] (by intro args w; kernel_rfl) a len cap zs _ (H.out.keep B1.out) (fun W t f _ _ => hasFailed_any t f W) hn).mono ?_
      rintro e w2 ⟨rfl, g2⟩
      have B2 := Lib.hid (B1.out.trans (g2.below.mono B1.out.size))
      clear g2
      rw [HN.out]
      go_wp2_with fail
      refine (HGL _).out.mono ?_
      rintro e w3 ⟨rfl, b3⟩
      have B3 := Lib.hid (B2.out.trans (b3.mono B2.out.size))
      clear b3
      obtain ⟨⟨r0, r1, r2⟩, ⟨f0, f1, f2⟩, hlt⟩ := three HR.out B3.out
      have HB := Lib.hid (((Below.refl _ w).alloc (Nat.le_refl _) (.cells #[.int .i64 0, .float .f32 0, .float .f32 0] 46)).trans (B3.out.mono (by simp)))
      have HT := Lib.hid (three_set (x := .int .i64 0) (y := .float .f32 fs) (z := .float .f32 fc) ⟨r0, r1, r2⟩)
      go_wp2_with fail
      obtain ⟨t0, t1, t2⟩ := HT.out
      refine bodyPost_ret (v := .tuple #[.agg #[.int .i64 0, .float .f32 fs, .float .f32 fc], .bool fb]) (by simp [results, Try.results39, go_sem, t0, t1, t2]) rfl ?_
      exact ⟨by first | rfl | simp, ((HB.out.setCell (Nat.le_refl _) _).setCell (Nat.le_refl _) _).setCell (Nat.le_refl _) _⟩
end Go.Proofs.Ytncekpiabklkeaa
