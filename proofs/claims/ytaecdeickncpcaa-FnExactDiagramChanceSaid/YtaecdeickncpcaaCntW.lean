/-
  Counts of sets by their sizes: the program's, by its contract. Conditions: from 1 to 10 parts; the test answers for each set.
-/
import Derived.Test.YtaecdeickncpcaaSetI
import Derived.Test.YtaecdeickncpcaaPopW
namespace Syl
open Go Dec
theorem size_all : ((List.range 11).all fun p => (List.range (2 ^ p)).all fun x => decide (sizeB x ≤ p)) = true := by kernel_rfl
theorem size_le {p x : Nat} (hp : p ≤ 10) (hx : x < 2 ^ p) : sizeB x ≤ p := of_decide_eq_true (List.all_eq_true.1 (List.all_eq_true.1 size_all p (List.mem_range.2 (by omega))) x (List.mem_range.2 hx))
/-- how many of these sets have so many parts, for 0 up to 'p' -/
def cntL (p : Nat) {T : Nat} (pre : List (Fin T)) : List Int := (List.range (p + 1)).map fun i => ((pre.countP fun x => sizeB x.val == i : Nat) : Int)
theorem cntL_len (p : Nat) {T : Nat} (pre : List (Fin T)) : (cntL p pre).length = p + 1 := by simp [cntL]
theorem cntL_get (p : Nat) {T : Nat} (pre : List (Fin T)) (i : Nat) (h : i < p + 1) : (cntL p pre).getD i 0 = ((pre.countP fun x => sizeB x.val == i : Nat) : Int) := by
  have : i < (cntL p pre).length := by rw [cntL_len]; exact h
  simp [List.getD, cntL, h]
theorem cntL_snoc (p : Nat) {T : Nat} (pre : List (Fin T)) (x : Fin T) (h : sizeB x.val < p + 1) : cntL p (pre ++ [x]) = (cntL p pre).set (sizeB x.val) ((cntL p pre).getD (sizeB x.val) 0 + 1) := by
  refine List.ext_getElem (by simp [cntL]) fun i h1 h2 => ?_
  have hi : i < p + 1 := by simpa [cntL] using h1
  rw [List.getElem_set]
  simp only [cntL_get p pre _ h]
  simp only [cntL, List.getElem_map, List.getElem_range, List.countP_append]
  by_cases e : sizeB x.val = i
  · subst e; rw [if_pos rfl]; simp
  · rw [if_neg e]; simp [e]
theorem cntL_zero (p T : Nat) : cntL p ([] : List (Fin T)) = List.replicate (p + 1) 0 := by
  refine List.ext_getElem (by simp [cntL]) fun i h1 h2 => ?_
  simp [cntL]
theorem cntL_bd (p : Nat) {T : Nat} (pre : List (Fin T)) (z : Int) (h : z ∈ cntL p pre) : 0 ≤ z ∧ z ≤ pre.length := by
  unfold cntL at h
  obtain ⟨i, _, rfl⟩ := List.mem_map.1 h
  have := List.countP_le_length (p := fun x : Fin T => sizeB x.val == i) (l := pre)
  omega
/-- a block of whole numbers, known whole -/
def IBlk (e : TypeId) (w : World) (g : Nat) (zs : List Int) : Prop := Blk.Blk w g (iv zs) e
theorem IBlk.set {e : TypeId} {w : World} {g : Nat} {zs : List Int} (h : IBlk e w g zs) (j : Nat) (v : Int) : IBlk e (w.setCell ⟨g, j, none⟩ (.int .i64 v)) g (zs.set j v) := by
  have := Blk.Blk.set h j (.int .i64 v)
  unfold IBlk
  rw [show iv (zs.set j v) = (iv zs).set j (.int .i64 v) from by simp [iv, List.map_set]]
  exact this
theorem IBlk.cell {e : TypeId} {w : World} {g : Nat} {zs : List Int} (h : IBlk e w g zs) {j : Nat} (hj : j < zs.length) : w.cell? ⟨g, j, none⟩ = some (.int .i64 (zs.getD j 0)) := by
  have := Blk.Blk.cell h j
  rw [this]; simp [iv, List.getD, hj]
theorem IBlk.row {e : TypeId} {w : World} {g : Nat} {zs : List Int} (h : IBlk e w g zs) (hl : zs.length ≤ 1048576) (hz : ∀ z ∈ zs, -9223372036854775808 ≤ z ∧ z ≤ 9223372036854775807) : IRow w (some ⟨g, 0, none⟩) zs.length zs :=
  ⟨rfl, by unfold maxLen; omega, hz, fun i hi => ⟨g, 0, rfl, Blk.Blk.lt h, by rw [Nat.zero_add]; exact h.cell hi⟩⟩
theorem IBlk.own {e : TypeId} {w : World} {g B : Nat} {zs : List Int} (h : IBlk e w g zs) (hB : B ≤ g) : Own w B (some ⟨g, 0, none⟩) zs.length e :=
  .inr ⟨g, rfl, hB, _, h, by simp [iv]⟩
end Syl
namespace Go.Proofs.Ytaecdeickncpcaa
open Go.RowKit Go.Shelf Dec Flt Syl Sep
attribute [local go_sem] Oper.semAt_some
set_option maxRecDepth 100000 in
set_option maxHeartbeats 4000000 in
theorem countsBy_any (p T : Nat) (hT : 2 ^ p = T) (is : Int → Bool) (g : Nat) (lb : Array Value) (eg : ∀ args w, (callFunc g args).run Try.prog w = .ok (.enter g args) w) (w : World) (hp1 : 1 ≤ p) (hp2 : p ≤ 10) (hi : TestsS (two p) is g lb w) :
    Calls Try.prog 97 #[.int .i64 (p : Int), .func (.func g) #[] lb] w fun e w' => e = .returned (.slice (some ⟨w.heap.size, 0, none⟩) (p + 1) (p + 1)) ∧ IBlk 2 w' w.heap.size (cntL p (setsF T is T)) ∧ Below w.heap.size w w' := by
  have HI := Lib.hid hi
  clear hi
  have hmk : ∀ w, (Instr.makeSlice 22 (.int .i64 ((p : Int) + 1)) (.int .i64 ((p : Int) + 1))).run Try.prog w = .ok (.slice (some ⟨w.heap.size, 0, none⟩) (p + 1) (p + 1)) (w.alloc (.cells (iv (cntL p ([] : List (Fin T)))).toArray 2)) := by
    intro w
    obtain ⟨i, hi, hz0, hz1, hz2⟩ := info_parts (show (Try.prog.info? 2).map (fun i => (i.zero, i.size, i.bytes)) = some (some (.int .i64 0), 1, 8) by kernel_rfl)
    have := run_make (P := Try.prog) w 22 2 i (.int .i64 0) Try.underlying22 hi hz0 .i64 .i64 ((p + 1 : Nat) : Int) ((p + 1 : Nat) : Int) (by omega) (Int.le_refl _) (by rw [hz2]; omega) (by omega)
    rw [show ((p : Int) + 1) = ((p + 1 : Nat) : Int) by omega, this, hz1, Int.toNat_natCast]
    congr 3
    rw [cntL_zero]
    unfold madeCells iv
    refine Array.ext_getElem? fun j => ?_
    by_cases hj : j < p + 1
    · simp [Value.cells, hj, Nat.mod_one]
    · simp [hj]
  refine (callsIn_wide (n := 5)).1 ?_
  refine callsIn_of_wp_marks Try.func97 rfl trivial ?_ rfl
  simp only [Try.ntmps97, List.size_toArray, List.length_cons, List.length_nil, Nat.reduceAdd, Nat.reduceSub, Array.replicate_succ, Array.replicate_zero, List.push_toArray, List.append_toArray, List.nil_append, List.cons_append]
  gi_wp2
  refine ⟨trivial, (callsIn_wide.2 (setsWhere_any (p : Int) g lb _)).mono ?_⟩
  rintro e w1 ⟨rfl, rfl⟩
  gi_wp2
  obtain ⟨W0, hW0⟩ : ∃ W0, W0 = (((w.alloc (.cells (iv (cntL p ([] : List (Fin T)))).toArray 2)).alloc (.cells #[.slice (some ⟨w.heap.size, 0, none⟩) (p + 1) (p + 1)] 22)).alloc (.cells #[.int .i64 (p : Int)] 2)).alloc (.cells #[.func (.func g) #[] lb] 80) := ⟨_, rfl⟩
  have B0 : Below w.heap.size w W0 := by rw [hW0]; exact ((((Below.refl _ _).alloc (Nat.le_refl _) _).alloc (by simp) _).alloc (by simp; omega) _).alloc (by simp; omega) _
  have HZ : W0.heap.size = w.heap.size + 4 := by rw [hW0]; simp
  have KC : IBlk 2 W0 w.heap.size (cntL p ([] : List (Fin T))) := by rw [hW0]; exact (((Blk.Blk.new' _ _ _).alloc _).alloc _).alloc _
  have KB : Blk.Blk W0 (w.heap.size + 1) [.slice (some ⟨w.heap.size, 0, none⟩) (p + 1) (p + 1)] 22 := by
    rw [hW0]
    have hh := Blk.Blk.new (w.alloc (.cells (iv (cntL p ([] : List (Fin T)))).toArray 2)) #[.slice (some ⟨w.heap.size, 0, none⟩) (p + 1) (p + 1)] 22
    rw [World.size_alloc] at hh
    exact (hh.alloc _).alloc _
  have K1 : Blk.Blk W0 (w.heap.size + 1 + 1) [.int .i64 (p : Int)] 2 := by
    rw [hW0]
    have hh := Blk.Blk.new ((w.alloc (.cells (iv (cntL p ([] : List (Fin T)))).toArray 2)).alloc (.cells #[.slice (some ⟨w.heap.size, 0, none⟩) (p + 1) (p + 1)] 22)) #[.int .i64 (p : Int)] 2
    simp only [World.size_alloc] at hh
    exact hh.alloc _
  have K2 : W0.heap[w.heap.size + 1 + 1 + 1]? = some (.cells #[.func (.func g) #[] lb] 80 (0, 0)) := by
    rw [hW0]
    have hh := heap_alloc_new (((w.alloc (.cells (iv (cntL p ([] : List (Fin T)))).toArray 2)).alloc (.cells #[.slice (some ⟨w.heap.size, 0, none⟩) (p + 1) (p + 1)] 22)).alloc (.cells #[.int .i64 (p : Int)] 2)) (.cells #[.func (.func g) #[] lb] 80)
    simp only [World.size_alloc] at hh
    exact hh
  rw [← hW0]
  clear hW0
  refine wpIn_rangeFunc_ownF rfl (by omega) (gf := 108) (lb := #[.pointer (some ⟨w.heap.size + 1 + 1, 0, none⟩), .pointer (some ⟨w.heap.size + 1 + 1 + 1, 0, none⟩)]) rfl trivial (enters_of Try.func108 (by kernel_rfl) rfl)
    (sets_stops 4 (by omega) p T hT is g lb eg (Below w.heap.size w) (belowC _ w (Nat.le_refl _)) hp1 hp2 HI.out (w.heap.size + 1 + 1) (w.heap.size + 1 + 1 + 1) W0 B0 K1 K2) kpZ_t (kpZ_b (belowP w.heap.size w W0 B0.size) (by omega) (by omega)) (Below.refl _ _) (fun _ => rfl)
    (fun pre W => (IBlk 2 W w.heap.size (cntL p pre) ∧ Blk.Blk W (w.heap.size + 1) [.slice (some ⟨w.heap.size, 0, none⟩) (p + 1) (p + 1)] 22 ∧ w.heap.size + 4 ≤ W.heap.size) ∧ Below w.heap.size w W)
    (fun _ _ _ => False)
    (OwnFrom.and (Own.from (fun s A B row hs hg hr => ⟨Blk.Blk.grown hs.1 hg hr, Blk.Blk.grown hs.2.1 hg hr, Nat.le_trans hs.2.2 hg.size⟩) _) (ownFrom_below (Nat.le_refl _) (by omega)))
    (fun _ _ _ _ _ hs _ _ => hs)
    ⟨⟨KC, KB, by omega⟩, B0⟩
    (fun x => { tmps := #[.int .i64 (p : Int), .func (.func g) #[] lb, undef, undef, .slice none 0 0, .pointer (some ⟨w.heap.size + 1, 0, none⟩), .int .i64 (x.val : Int), .int .i64 (p : Int), .int .i64 ((p : Int) + 1), .slice (some ⟨w.heap.size, 0, none⟩) (p + 1) (p + 1), .int .i64 (p : Int), .func (.func g) #[] lb, .func (.func 108) #[] #[.pointer (some ⟨w.heap.size + 1 + 1, 0, none⟩), .pointer (some ⟨w.heap.size + 1 + 1 + 1, 0, none⟩)], .int .i64 (x.val : Int), undef, undef, undef, undef, undef, undef, undef, undef], defers := [] }) ?assign ?body ?done ?stop
  case assign =>
    intro l x W K hK
    gi_wp2
    exact hK
  case body =>
    rintro l pre x W ⟨⟨hc, hb, hz⟩, hB⟩ hlen
    have hT10 : T ≤ 1024 := by rw [← hT]; exact Nat.pow_le_pow_right (n := 2) (by decide) hp2
    have hx := x.2
    have hs := size_le hp2 (by rw [hT]; exact hx)
    have hsn := cntL_snoc p pre x (by omega)
    have hcell := hc.cell (j := sizeB x.val) (by rw [cntL_len]; omega)
    have hfr := Blk.Blk.frozen hc (sizeB x.val)
    have hmem : (cntL p pre).getD (sizeB x.val) 0 ∈ cntL p pre := by
      rw [show (cntL p pre).getD (sizeB x.val) 0 = (cntL p pre)[sizeB x.val]'(by rw [cntL_len]; omega) from by simp [List.getD, cntL_len, show sizeB x.val < p + 1 by omega]]
      exact List.getElem_mem _
    have hbd := cntL_bd p pre _ hmem
    have hset := hc.set (sizeB x.val) ((cntL p pre).getD (sizeB x.val) 0 + 1)
    rw [← hsn] at hset
    have HSIZE := fun w => sizeOf_any x.val w (by omega)
    obtain ⟨hb0, _, _⟩ : W.cell? ⟨w.heap.size + 1, 0, none⟩ = some (.slice (some ⟨w.heap.size, 0, none⟩) (p + 1) (p + 1)) ∧ True ∧ True := ⟨hb.cell 0, trivial, trivial⟩
    have HB := Lib.hid (hB.setCell (p := ⟨w.heap.size, sizeB x.val, none⟩) (Nat.le_refl _) (.int .i64 ((cntL p pre).getD (sizeB x.val) 0 + 1)))
    have HX := Lib.hid hset
    have HBX := Lib.hid (hb.other (k := w.heap.size) (sizeB x.val) (.int .i64 ((cntL p pre).getD (sizeB x.val) 0 + 1)) (by omega))
    have HK := Lib.hid (hB.size)
    generalize (cntL p pre).getD (sizeB x.val) 0 = c at *
    generalize sizeB x.val = s at *
    clear hmem hset hsn hc hb hB
    have hmx : Try.prog.follows .mixedOrders = true := by kernel_rfl
    have hs0 : (0 : Int) ≤ (s : Int) := by omega
    have hs1 : (s : Int) < ((p + 1 : Nat) : Int) := by omega
    gi_wp2
    gi_region_with_o (refine ⟨trivial, ?_⟩; gi_at_call 121; refine (CallsIn.inRound l (callsIn_wide.2 (HSIZE _))).mono ?_; rintro e w' ⟨rfl, rfl⟩)
    all_goals gi_wp2
    all_goals rw [show IntKind.i64.wrap (c + 1) = c + 1 from wrap_i64 _ (by omega) (by omega)]
    all_goals exact ⟨(KeepsOthers.setCell _ _ _).trans (KeepsOthers.drew _), ⟨kpS_drew (fun _ h => h.drew) (kpS_set W s _ (fun h => h.setCell (p := ⟨w.heap.size, s, none⟩) (Nat.le_refl _) _) (by omega) (by omega)), by show _ ≤ (W.setCell _ _).heap.size; rw [World.size_setCell]; exact Nat.le_refl _⟩, ⟨HX.out, HBX.out, by show _ ≤ (W.setCell _ _).heap.size; rw [World.size_setCell]; exact hz⟩, HB.out.drew⟩
  case done =>
    rintro D ys W hD rfl ⟨⟨hc, hb, hz⟩, hB⟩ hK
    have hb0 := hb.cell 0
    gi_wp2
    refine ⟨by simp, .inl ⟨_, _, rfl, run_takeDeferred hK, ?_⟩⟩
    exact ⟨_, results_tmp rfl _ _ _, rfl, Blk.Blk.grown hc (grownBy_putObj' W D _) (fun r e => by cases e; exact ⟨_, hK, rfl⟩), hB.trans (belowK_b (w := w) (Nat.le_refl _) W D _ _ (by omega) hK rfl rfl)⟩
  case stop =>
    rintro D c pre W _ _ h _
    exact h.elim
end Go.Proofs.Ytaecdeickncpcaa
