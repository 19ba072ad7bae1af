/-
  Draws of 32-bit numbers from a source of choices: some numbers. Conditions: the source lies in a block of its own, its bytes below it.
-/
import Derived.Test.YtfmicahibmpjmaaDoorSrcW
import Derived.Test.YtfmicahibmpjmaaDoorFOwnW
import Derived.Laws.Cover2
import Derived.Maps.AppendAt
namespace Flt
open Go
theorem quo_all : ((List.range 129).all fun v => (Go.floatBits .quo .f32 (Go.floatOfInt .f32 ((v : Int) - 64)) 1088421888).any (fun r => decide (r < 4294967296)) && (Go.floatBits .quo .f32 (Go.floatOfInt .f32 ((v : Int) - 64)) 1098907648).any fun r => decide (r < 4294967296)) = true := by kernel_rfl
theorem quo_at (v : Nat) (h : v < 129) : (∃ r, Go.floatBits .quo .f32 (Go.floatOfInt .f32 ((v : Int) - 64)) 1088421888 = some r ∧ r < 4294967296) ∧ ∃ r, Go.floatBits .quo .f32 (Go.floatOfInt .f32 ((v : Int) - 64)) 1098907648 = some r ∧ r < 4294967296 := by
  have := List.all_eq_true.1 quo_all v (List.mem_range.2 h)
  rw [Bool.and_eq_true, Option.any_eq_true_iff_get, Option.any_eq_true_iff_get] at this
  obtain ⟨⟨h1, g1⟩, ⟨h2, g2⟩⟩ := this
  exact ⟨⟨_, (Option.some_get h1).symm, of_decide_eq_true g1⟩, ⟨_, (Option.some_get h2).symm, of_decide_eq_true g2⟩⟩
theorem cell_lits (w : World) (L : List Nat) (T : TypeId) : ∀ j, j < L.length → (w.alloc (.cells (L.map fun z : Nat => Value.int .i64 (z : Int)).toArray T)).cell? ⟨w.heap.size, j, none⟩ = some (.int .i64 ((L.getD j 0 : Nat) : Int)) := by
  intro j hj
  unfold World.cell?
  simp only [heap_alloc_new]
  simp [hj, List.getD]
theorem lits_lt (L : List Nat) (hL : (L.all fun z => decide (z < 4294967296)) = true) (j : Nat) (hj : j < L.length) : L.getD j 0 < 4294967296 := by
  have := List.all_eq_true.1 hL (L[j]) (List.getElem_mem hj)
  have e : L.getD j 0 = L[j] := by simp [List.getD, hj]
  rw [e]
  exact of_decide_eq_true this
theorem grown_far {a b c : World} {g o : Nat} (h : a.grownBy b (some g)) (k : b.grownBy c (some o)) (ho : a.heap.size ≤ o) : a.grownBy c (some g) :=
  ⟨k.os.trans h.os, k.tape.trans h.tape, k.output.trans h.output, Nat.le_trans h.size k.size, fun i hi hne => (k.block i (Nat.lt_of_lt_of_le hi h.size) (fun e => by have := Option.some.inj e; omega)).trans (h.block i hi hne)⟩
theorem grown_alloc {a b : World} {g : Nat} (h : a.grownBy b (some g)) (o : Obj) : a.grownBy (b.alloc o) (some g) := h.trans (World.grownBy_alloc b o (some g))
end Flt
namespace Go.Proofs.YtfmicahibmpjmaaDoor
open Go.RowKit Flt Dec
set_option maxRecDepth 20000 in
theorem plain_any (g : Nat) (a : Option Addr) (len cap K : Nat) (zs : List Nat) (w : World) (hK : K ≤ 1047000) (hS : Src w g a len cap K) (hR : BRow w a len zs) (hg : 0 < len → ∀ b off, a = some ⟨b, off, none⟩ → b ≠ g) :
    Calls Tryd.prog 73 #[.pointer (some ⟨g, 0, none⟩)] w fun e w' => ∃ r : Nat, r < 4294967296 ∧ e = .returned (.float .f32 r) ∧ Src w' g a len cap (K + 4) ∧ w.grownBy w' (some g) := by
  have H1 := Lib.hid (pick_any 129 (by decide) (by decide) g a len cap K zs w (by omega) hS hR hg)
  have H2 : Hid (∀ w', Src w' g a len cap (K + 2) → w.grownBy w' (some g) → Calls Tryd.prog 39 #[.pointer (some ⟨g, 0, none⟩), .int .i64 (4 : Nat)] w' fun e w'' => ∃ q : Bool, e = .returned (.bool q) ∧ Src w'' g a len cap (K + 4) ∧ w'.grownBy w'' (some g)) :=
    fun w' h1 h2 => one_any 4 (by decide) (by decide) g a len cap (K + 2) zs w' (by omega) h1 (hR.grown h2 hg) hg
  clear hS hR hg
  go_enter Tryd.func73, Tryd.ntmps73
  go_wp2_with fail
  refine H1.out.mono ?_
  rintro e w1 ⟨v, hv, rfl, hS1, hg1⟩
  have HS1 := Lib.hid hS1
  have HG1 := Lib.hid hg1
  clear hS1 hg1
  obtain ⟨⟨r1, hr1, hl1⟩, ⟨r2, hr2, hl2⟩⟩ := quo_at v hv
  have hq1 : ∀ w, (binOp .quo 24 (.float .f32 (floatOfInt .f32 ((v : Int) - 64))) (.float .f32 1088421888)).run Tryd.prog w = .ok (.float .f32 r1) w := fun w => run_float_arith w .quo 24 .f32 _ _ _ hr1
  have hq2 : ∀ w, (binOp .quo 24 (.float .f32 (floatOfInt .f32 ((v : Int) - 64))) (.float .f32 1098907648)).run Tryd.prog w = .ok (.float .f32 r2) w := fun w => run_float_arith w .quo 24 .f32 _ _ _ hr2
  clear hr1 hr2
  go_wp2_with fail
  refine (H2.out w1 HS1.out HG1.out).mono ?_
  rintro e w2 ⟨q, rfl, hS2, hg2⟩
  have HS2 := Lib.hid hS2
  have HG2 := Lib.hid (HG1.out.trans hg2)
  clear hS2 hg2
  cases q
  · go_wp2_with fail
    go_ret
    exact ⟨r2, hl2, rfl, HS2.out, HG2.out⟩
  · go_wp2_with fail
    go_ret
    exact ⟨r1, hl1, rfl, HS2.out, HG2.out⟩
set_option maxRecDepth 20000 in
set_option maxHeartbeats 1600000 in
theorem float_any (g : Nat) (a : Option Addr) (len cap K : Nat) (zs : List Nat) (w : World) (hK : K ≤ 1046000) (hS : Src w g a len cap K) (hR : BRow w a len zs) (hg : 0 < len → ∀ b off, a = some ⟨b, off, none⟩ → b ≠ g) :
    Calls Tryd.prog 42 #[.pointer (some ⟨g, 0, none⟩)] w fun e w' => ∃ r : Nat, r < 4294967296 ∧ e = .returned (.float .f32 r) ∧ Src w' g a len cap (K + 10) ∧ w.grownBy w' (some g) := by
  have H1 := Lib.hid (one_any 12 (by decide) (by decide) g a len cap K zs w (by omega) hS hR hg)
  have HPK : Hid (∀ n J w', 2 ≤ n → n ≤ 1048576 → J ≤ K + 10 → Src w' g a len cap J → w.grownBy w' (some g) → Calls Tryd.prog 40 #[.pointer (some ⟨g, 0, none⟩), .int .i64 (n : Nat)] w' fun e w'' => ∃ v : Nat, v < n ∧ e = .returned (.int .i64 v) ∧ Src w'' g a len cap (J + 2) ∧ w'.grownBy w'' (some g)) :=
    fun n J w' hn hn2 hJ h1 h2 => pick_any n hn hn2 g a len cap J zs w' (by omega) h1 (hR.grown h2 hg) hg
  have HPL : Hid (∀ J w', J ≤ K + 10 → Src w' g a len cap J → w.grownBy w' (some g) → Calls Tryd.prog 73 #[.pointer (some ⟨g, 0, none⟩)] w' fun e w'' => ∃ r : Nat, r < 4294967296 ∧ e = .returned (.float .f32 r) ∧ Src w'' g a len cap (J + 4) ∧ w'.grownBy w'' (some g)) :=
    fun J w' hJ h1 h2 => plain_any g a len cap J zs w' (by omega) h1 (hR.grown h2 hg) hg
  have HAM : Hid (∀ (L : List Nat) (T : TypeId) c2 J w', 2 ≤ L.length → L.length ≤ 1000 → J ≤ K + 10 → Src w' g a len cap J → w.grownBy w' (some g) → Calls Tryd.prog 74 #[.pointer (some ⟨g, 0, none⟩), .slice (some ⟨w'.heap.size, 0, none⟩) L.length c2] (w'.alloc (.cells (L.map fun z : Nat => Value.int .i64 (z : Int)).toArray T)) fun e w'' => ∃ j : Nat, j < L.length ∧ e = .returned (.int .i64 ((L.getD j 0 : Nat) : Int)) ∧ Src w'' g a len cap (J + 2) ∧ w.grownBy w'' (some g)) := by
    intro L T c2 J w' h2 h3 hJ hS' hG'
    have hlt := hS'.lt
    have hG2 := grown_alloc hG' (.cells (L.map fun z : Nat => Value.int .i64 (z : Int)).toArray T)
    refine (among_any (fun j => ((L.getD j 0 : Nat) : Int)) w'.heap.size L.length c2 h2 h3 g a len cap J zs _ (by omega) (hS'.grown (World.grownBy_alloc w' _ none) (by simp)) (hR.grown hG2 hg) hg (by omega) (cell_lits w' L T)).mono ?_
    rintro e w'' ⟨j, hj, rfl, hS2, hg2⟩
    exact ⟨j, hj, rfl, hS2, hG2.trans hg2⟩
  clear hS hR hg
  go_enter Tryd.func42, Tryd.ntmps42
  go_wp2_with fail
  refine H1.out.mono ?_
  rintro e w1 ⟨q, rfl, hS1, hg1⟩
  have HS1 := Lib.hid hS1
  have HG1 := Lib.hid hg1
  clear hS1 hg1
  cases q
  · go_wp2_with fail
    refine (HPL.out _ w1 (by omega) HS1.out HG1.out).mono ?_
    rintro e w2 ⟨r, hr, rfl, hS2, hg2⟩
    have HS2 := Lib.hid (hS2.more (show K + 2 + 4 ≤ K + 10 by omega))
    have HG2 := Lib.hid (HG1.out.trans hg2)
    clear hS2 hg2
    go_wp2_with fail
    go_ret
    exact ⟨r, hr, rfl, HS2.out, HG2.out⟩
  · go_wp2_with fail
    refine (HPK.out 4 _ w1 (by decide) (by decide) (by omega) HS1.out HG1.out).mono ?_
    rintro e w2 ⟨v, hv, rfl, hS2, hg2⟩
    have HS2 := Lib.hid hS2
    have HG2 := Lib.hid (HG1.out.trans hg2)
    clear hS2 hg2
    have hv4 : v = 0 ∨ v = 1 ∨ v = 2 ∨ v = 3 := by omega
    clear hv
    rcases hv4 with rfl | rfl | rfl | rfl
    · go_wp2_with fail
      refine (HAM.out [0, 2147483648, 2139095040, 4286578688, 2143289344, 1, 2139095039, 8388608, 8388607, 2147483649] _ _ _ w2 (by decide) (by decide) (by omega) HS2.out HG2.out).mono ?_
      rintro e w3 ⟨j, hj, rfl, hS3, hg3⟩
      have hn := lits_lt [0, 2147483648, 2139095040, 4286578688, 2143289344, 1, 2139095039, 8388608, 8388607, 2147483649] (by decide) j hj
      generalize ([0, 2147483648, 2139095040, 4286578688, 2143289344, 1, 2139095039, 8388608, 8388607, 2147483649] : List Nat).getD j 0 = n at *
      have HS3 := Lib.hid (hS3.more (show K + 2 + 2 + 2 ≤ K + 10 by omega))
      have HG3 := Lib.hid hg3
      clear hS3 hg3 hj
      go_wp2_with fail
      refine (l01From_any n hn _).mono ?_
      rintro e w4 ⟨rfl, rfl⟩
      go_wp2_with fail
      go_ret
      exact ⟨n, hn, rfl, HS3.out, HG3.out⟩
    · go_wp2_with fail
      refine (HPK.out 65536 _ w2 (by decide) (by decide) (by omega) HS2.out HG2.out).mono ?_
      rintro e w3 ⟨x, hx, rfl, hS3, hg3⟩
      have HS3 := Lib.hid hS3
      have HG3 := Lib.hid (HG2.out.trans hg3)
      clear hS3 hg3
      go_wp2_with fail
      refine (HPK.out 65536 _ w3 (by decide) (by decide) (by omega) HS3.out HG3.out).mono ?_
      rintro e w4 ⟨y, hy, rfl, hS4, hg4⟩
      have HS4 := Lib.hid (hS4.more (show K + 2 + 2 + 2 + 2 ≤ K + 10 by omega))
      have HG4 := Lib.hid (HG3.out.trans hg4)
      clear hS4 hg4
      have hn : x * 65536 + y < 4294967296 := by omega
      have HF := Lib.hid (l01From_any (x * 65536 + y) hn)
      have he : (((x * 65536 + y : Nat)) : Int) = (x : Int) * 65536 + y := by simp
      rw [he] at HF
      clear he
      go_wp2_with fail
      refine (HF.out _).mono ?_
      rintro e w5 ⟨rfl, rfl⟩
      go_wp2_with fail
      go_ret
      exact ⟨_, hn, rfl, HS4.out, HG4.out⟩
    · go_wp2_with fail
      refine (HPK.out 65536 _ w2 (by decide) (by decide) (by omega) HS2.out HG2.out).mono ?_
      rintro e w3 ⟨x, hx, rfl, hS3, hg3⟩
      have HS3 := Lib.hid (hS3.more (show K + 2 + 2 + 2 ≤ K + 10 by omega))
      have HG3 := Lib.hid (HG2.out.trans hg3)
      clear hS3 hg3
      have hn : x * 65536 < 4294967296 := by omega
      have HF := Lib.hid (l01From_any (x * 65536) hn)
      have he : (((x * 65536 : Nat)) : Int) = (x : Int) * 65536 := by simp
      rw [he] at HF
      clear he
      go_wp2_with fail
      refine (HF.out _).mono ?_
      rintro e w5 ⟨rfl, rfl⟩
      go_wp2_with fail
      go_ret
      exact ⟨_, hn, rfl, HS3.out, HG3.out⟩
    · go_wp2_with fail
      refine (HPL.out _ w2 (by omega) HS2.out HG2.out).mono ?_
      rintro e w3 ⟨r, hr, rfl, hS3, hg3⟩
      have HS3 := Lib.hid hS3
      have HG3 := Lib.hid (HG2.out.trans hg3)
      clear hS3 hg3
      go_wp2_with fail
      refine (HAM.out [8388608, 2130706432, 1610612736, 536870912] _ _ _ w3 (by decide) (by decide) (by omega) HS3.out HG3.out).mono ?_
      rintro e w4 ⟨j, hj, rfl, hS4, hg4⟩
      have hn := lits_lt [8388608, 2130706432, 1610612736, 536870912] (by decide) j hj
      generalize ([8388608, 2130706432, 1610612736, 536870912] : List Nat).getD j 0 = n at *
      have HS4 := Lib.hid hS4
      have HG4 := Lib.hid hg4
      clear hS4 hg4 hj
      go_wp2_with fail
      refine (l01From_any n hn _).mono ?_
      rintro e w5 ⟨rfl, rfl⟩
      cases hm : floatBits .mul .f32 r n with
      | some p =>
        have hq : ∀ w, (binOp .mul 24 (.float .f32 r) (.float .f32 n)).run Tryd.prog w = .ok (.float .f32 p) w := fun w => run_float_arith w .mul 24 .f32 _ _ _ hm
        have hp : p < 4294967296 := by simpa [Lit.wf] using floatBits_wf hm
        clear hm
        go_wp2_with fail
        go_ret
        exact ⟨p, hp, rfl, HS4.out, HG4.out⟩
      | none =>
        have hq : ∀ w, (binOp .mul 24 (.float .f32 r) (.float .f32 n)).run Tryd.prog w = .ok (.float .f32 (drawNan .f32 r n w)) w.drew := fun w => run_arith_nan w .mul rfl 24 .f32 _ _ hm
        have hp := fun w => drawNan_lt .f32 r n w
        clear hm
        go_wp2_with fail
        go_ret
        exact ⟨_, hp _, rfl, HS4.out.grown (row := none) ⟨rfl, rfl, rfl, Nat.le_refl _, fun _ _ _ => rfl⟩ (by simp), HG4.out.trans ⟨rfl, rfl, rfl, Nat.le_refl _, fun _ _ _ => rfl⟩⟩
set_option maxRecDepth 20000 in
set_option maxHeartbeats 1600000 in
theorem floats_any (n : Nat) (hn : n ≤ 300) (g : Nat) (a : Option Addr) (len cap K : Nat) (zs : List Nat) (w : World) (hK : K ≤ 1000) (hS : Src w g a len cap K) (hR : BRow w a len zs) (hg : 0 < len → ∀ b off, a = some ⟨b, off, none⟩ → b ≠ g) :
    Calls Tryd.prog 46 #[.pointer (some ⟨g, 0, none⟩), .int .i64 n] w fun e w' => ∃ a' c' Z, e = .returned (.slice a' n c') ∧ FRow w' a' n Z ∧ Src w' g a len cap (K + 2 + 10 * n) ∧ w.grownBy w' (some g) := by
  obtain ⟨i0, hi, hz0, hz1, hz2⟩ := info_parts (show (Tryd.prog.info? 24).map (fun i => (i.zero, i.size, i.bytes)) = some (some (.float .f32 0), 1, 4) by kernel_rfl)
  have hlt0 := hS.lt
  have H1 : Hid (∀ w', Src w' g a len cap K → w.grownBy w' (some g) → Calls Tryd.prog 39 #[.pointer (some ⟨g, 0, none⟩), .int .i64 (4 : Nat)] w' fun e w'' => ∃ q : Bool, e = .returned (.bool q) ∧ Src w'' g a len cap (K + 2) ∧ w'.grownBy w'' (some g)) :=
    fun w' h1 h2 => one_any 4 (by decide) (by decide) g a len cap K zs w' (by omega) h1 (hR.grown h2 hg) hg
  have HPL : Hid (∀ J w', J ≤ 1000000 → Src w' g a len cap J → w.grownBy w' (some g) → Calls Tryd.prog 73 #[.pointer (some ⟨g, 0, none⟩)] w' fun e w'' => ∃ r : Nat, r < 4294967296 ∧ e = .returned (.float .f32 r) ∧ Src w'' g a len cap (J + 4) ∧ w'.grownBy w'' (some g)) :=
    fun J w' hJ h1 h2 => plain_any g a len cap J zs w' (by omega) h1 (hR.grown h2 hg) hg
  have HFL : Hid (∀ J w', J ≤ 1000000 → Src w' g a len cap J → w.grownBy w' (some g) → Calls Tryd.prog 42 #[.pointer (some ⟨g, 0, none⟩)] w' fun e w'' => ∃ r : Nat, r < 4294967296 ∧ e = .returned (.float .f32 r) ∧ Src w'' g a len cap (J + 10) ∧ w'.grownBy w'' (some g)) :=
    fun J w' hJ h1 h2 => float_any g a len cap J zs w' (by omega) h1 (hR.grown h2 hg) hg
  have HS0 := Lib.hid (fun o => hS.grown (World.grownBy_alloc w o none) (by simp))
  clear hS hR hg
  go_enter Tryd.func46, Tryd.ntmps46
  go_wp2_with fail
  refine (H1.out _ (HS0.out _) (World.grownBy_alloc w _ _)).mono ?_
  rintro e w1 ⟨q, rfl, hS1, hg1⟩
  have HS1 := Lib.hid hS1
  have HG1 := Lib.hid ((World.grownBy_alloc w _ (some g)).trans hg1)
  have hO0 : (w.alloc (.cells #[] 24)).ownsRow w.heap.size 24 1 (.slice (some ⟨w.heap.size, 0, none⟩) 0 0) 0 [] := World.ownsRow_made w #[] 0 (Nat.le_refl _) (Nat.zero_le _) rfl
  have HO1 := Lib.hid (hO0.kept hg1 (.inr (by intro e2; have : w.heap.size = g := Option.some.inj e2; omega)))
  clear hO0
  clear hS1 hg1
  go_wp2_with fail
  go_loopg [1, 5] n (fun m nv v wr => ∃ (k : Nat) (Z : List Nat), nv = .int .i64 ((n : Int) - k) ∧ k ≤ n ∧ Hid (k + m = n) ∧ Hid (wr.ownsRow w.heap.size 24 1 v k (fv Z)) ∧ Hid (v.ownBlock = none ∨ v.ownBlock ≠ some g) ∧ Hid (∃ o, v.ownBlock = some o ∧ w.heap.size ≤ o) ∧ Hid (Src wr g a len cap (K + 2 + 10 * k)) ∧ Hid (w.grownBy wr (some g)) ∧ Hid (Z.length = k ∧ ∀ z ∈ Z, z < 4294967296))
  case atStart => exact ⟨0, [], by go_num, Nat.zero_le _, by show _ = _; omega, HO1.out, .inr (by intro e2; have : w.heap.size = g := Option.some.inj e2; omega), ⟨_, rfl, Nat.le_refl _⟩, HS1.out, HG1.out, rfl, by simp⟩
  case round =>
    obtain ⟨k, Z, rfl, hkl, hk, HO, HOW, HOB, HS, HG, HZ⟩ := hrel
    by_cases hlt : k < n
    · have hpos : (0 : Int) < (n : Int) - k := by omega
      have HJ : Hid (k + 1 + (gk - 1) = n) := by have := hk.out; show _ = _; omega
      have HGk : Hid (gk - 1 < gk) := by have := hk.out; show _ < _; omega
      clear HO1 HS1 HG1 HS0 H1
      cases q
      ·
        go_wp2_with fail
        refine (HPL.out (K + 2 + 10 * k) wr (by omega) HS.out HG.out).mono ?_
        rintro e w2 ⟨r, hr, rfl, hS2, hg2⟩
        have HS2 := Lib.hid hS2
        have HG2 := Lib.hid (HG.out.trans hg2)
        have HO2 := Lib.hid (HO.out.kept hg2 (HOW.out))
        clear hS2 hg2
        go_wp2_with (at_builtin; go_must (refine wpList_append_own_at _ rfl _ _ 30 rfl w.heap.size 24 i0 (.float .f32 0) 1 4 Tryd.underlying30 hi hz0 hz1 hz2 rfl (by decide) _ _ _ rfl (HO2.out.alloc _) ⟨w2.heap.size, 0, none⟩ 1 1 [.float .f32 r] rfl (by simp) (cell_one_new _ _ _) (by intro u hu; simp at hu; subst hu; rfl) (by unfold maxLen; omega) (by omega) (by have := HG2.out.size; simp; omega) ?_))
        intro v' w3 hown' hgrow _ hat
        have HO3 : Hid (w3.ownsRow w.heap.size 24 1 v' (k + 1) (fv (Z ++ [r]))) := by
          have : fv (Z ++ [r]) = fv Z ++ [.float .f32 r] := by simp [fv]
          show World.ownsRow _ _ _ _ _ _ _
          rw [this]; exact hown'
        have HOW3 : Hid (v'.ownBlock = none ∨ v'.ownBlock ≠ some g) := by
          cases hv' : v'.ownBlock with
          | none => exact .inl rfl
          | some o =>
            have := (HO3.out.lt o hv').1
            exact .inr (by intro e2; have := Option.some.inj e2; omega)
        obtain ⟨o, ho1, ho2⟩ := HOB.out
        have HOB3 : Hid (∃ o, v'.ownBlock = some o ∧ w.heap.size ≤ o) := by
          rcases hat with h | h
          · exact ⟨o, by rw [h]; exact ho1, ho2⟩
          · exact ⟨_, h, by have := HG2.out.size; simp; omega⟩
        rw [ho1] at hgrow
        have HS3 := Lib.hid ((HS2.out.grown (World.grownBy_alloc w2 _ none) (by simp)).grown hgrow (by intro e2; have := Option.some.inj e2; omega))
        have HG3 := Lib.hid (grown_far (grown_alloc HG2.out _) hgrow ho2)
        have HZ2 : Hid ((Z ++ [r]).length = k + 1 ∧ ∀ z ∈ Z ++ [r], z < 4294967296) := by
          obtain ⟨z1, z2⟩ := HZ.out
          refine ⟨by simp [z1], fun z hz => ?_⟩
          rcases List.mem_append.1 hz with h | h
          · exact z2 z h
          · simp at h; subst h; exact hr
        clear hown' hgrow hat HO HO2 HS HS2 HG HG2 ho1 ho2 HOW HOB HZ
        go_wp2_with fail
        go_roundg (gk - 1)
        case measure => exact HGk.out
        case rel => exact ⟨k + 1, Z ++ [r], by go_num, by omega, HJ, HO3.out, HOW3.out, HOB3.out, HS3.out.more (by omega), HG3.out, HZ2.out⟩
      ·
        go_wp2_with fail
        refine (HFL.out (K + 2 + 10 * k) wr (by omega) HS.out HG.out).mono ?_
        rintro e w2 ⟨r, hr, rfl, hS2, hg2⟩
        have HS2 := Lib.hid hS2
        have HG2 := Lib.hid (HG.out.trans hg2)
        have HO2 := Lib.hid (HO.out.kept hg2 (HOW.out))
        clear hS2 hg2
        go_wp2_with (at_builtin; go_must (refine wpList_append_own_at _ rfl _ _ 30 rfl w.heap.size 24 i0 (.float .f32 0) 1 4 Tryd.underlying30 hi hz0 hz1 hz2 rfl (by decide) _ _ _ rfl (HO2.out.alloc _) ⟨w2.heap.size, 0, none⟩ 1 1 [.float .f32 r] rfl (by simp) (cell_one_new _ _ _) (by intro u hu; simp at hu; subst hu; rfl) (by unfold maxLen; omega) (by omega) (by have := HG2.out.size; simp; omega) ?_))
        intro v' w3 hown' hgrow _ hat
        have HO3 : Hid (w3.ownsRow w.heap.size 24 1 v' (k + 1) (fv (Z ++ [r]))) := by
          have : fv (Z ++ [r]) = fv Z ++ [.float .f32 r] := by simp [fv]
          show World.ownsRow _ _ _ _ _ _ _
          rw [this]; exact hown'
        have HOW3 : Hid (v'.ownBlock = none ∨ v'.ownBlock ≠ some g) := by
          cases hv' : v'.ownBlock with
          | none => exact .inl rfl
          | some o =>
            have := (HO3.out.lt o hv').1
            exact .inr (by intro e2; have := Option.some.inj e2; omega)
        obtain ⟨o, ho1, ho2⟩ := HOB.out
        have HOB3 : Hid (∃ o, v'.ownBlock = some o ∧ w.heap.size ≤ o) := by
          rcases hat with h | h
          · exact ⟨o, by rw [h]; exact ho1, ho2⟩
          · exact ⟨_, h, by have := HG2.out.size; simp; omega⟩
        rw [ho1] at hgrow
        have HS3 := Lib.hid ((HS2.out.grown (World.grownBy_alloc w2 _ none) (by simp)).grown hgrow (by intro e2; have := Option.some.inj e2; omega))
        have HG3 := Lib.hid (grown_far (grown_alloc HG2.out _) hgrow ho2)
        have HZ2 : Hid ((Z ++ [r]).length = k + 1 ∧ ∀ z ∈ Z ++ [r], z < 4294967296) := by
          obtain ⟨z1, z2⟩ := HZ.out
          refine ⟨by simp [z1], fun z hz => ?_⟩
          rcases List.mem_append.1 hz with h | h
          · exact z2 z h
          · simp at h; subst h; exact hr
        clear hown' hgrow hat HO HO2 HS HS2 HG HG2 ho1 ho2 HOW HOB HZ
        go_wp2_with fail
        go_roundg (gk - 1)
        case measure => exact HGk.out
        case rel => exact ⟨k + 1, Z ++ [r], by go_num, by omega, HJ, HO3.out, HOW3.out, HOB3.out, HS3.out.more (by omega), HG3.out, HZ2.out⟩
    · obtain rfl : k = n := by omega
      have hneg : ¬ (0 : Int) < (k : Int) - k := by omega
      obtain ⟨z1, z2⟩ := HZ.out
      have hO2 := HO.out
      rw [← z1] at hO2
      obtain ⟨a', c', rfl, hF⟩ := frow_of_owned hO2 (by omega) z2
      rw [z1] at hF
      have HF := Lib.hid hF
      have HZ1 := Lib.hid z1
      clear hO2 hF z1 z2 hlt
      go_wp2_with fail
      go_ret
      first
        | exact ⟨a', c', Z, by rw [← HZ1.out], HF.out, HS.out, HG.out⟩
        | exact ⟨a', ⟨c', by rw [← HZ1.out] <;> rfl⟩, ⟨Z, HF.out⟩, HS.out, HG.out⟩
        | exact ⟨a', ⟨c', rfl⟩, ⟨Z, HF.out⟩, HS.out, HG.out⟩
theorem far_src {w : World} {a : Option Addr} {len : Nat} {zs : List Nat} (hR : BRow w a len zs) : 0 < len → ∀ b off, a = some ⟨b, off, none⟩ → b ≠ w.heap.size := by
  intro hl b off e
  obtain ⟨b', off', e', h, _⟩ := hR.2.2.2 0 hl
  rw [e] at e'; cases e'; omega
theorem below_src {w w1 w' : World} (b1 : Below w.heap.size w w1) (h : w1.grownBy w' (some w.heap.size)) : Below w.heap.size w w' :=
  b1.grown h b1.size (fun j hj => by cases hj; exact Nat.le_refl _)
theorem below_src2 {g : Nat} {w w1 w' : World} (b1 : Below g w w1) (h : w1.grownBy w' (some g)) (hs : g ≤ w1.heap.size) : Below g w w' :=
  b1.grown h hs (fun j hj => by cases hj; exact Nat.le_refl _)
set_option maxRecDepth 20000 in
set_option maxHeartbeats 800000 in
theorem b10Number_any (a : Option Addr) (len cap : Nat) (zs : List Nat) (w : World) (hR : BRow w a len zs) :
    Calls Tryd.prog 6 #[.slice a len cap] w fun e w' => ∃ r : Nat, r < 4294967296 ∧ e = .returned (.float .f32 r) ∧ Below w.heap.size w w' := by
  have HR := Lib.hid hR
  have HF := Lib.hid (far_src hR)
  clear hR
  go_enter Tryd.func6, Tryd.ntmps6
  go_wp2_with fail
  refine (from_any a len cap w).mono ?_
  rintro e w1 ⟨rfl, hS, b1, _⟩
  have HR1 := Lib.hid (HR.out.keep b1)
  have HS := Lib.hid hS
  have HB := Lib.hid b1
  obtain ⟨g, hgE⟩ : ∃ g, w.heap.size = g := ⟨_, rfl⟩
  rw [hgE] at HS HB HF
  have HE := Lib.hid hgE
  clear hS b1
  rw [hgE]
  clear hgE
  have HPK : Hid (∀ n J w', 2 ≤ n → n ≤ 1048576 → J ≤ 10 → Src w' g a len cap J → w1.grownBy w' (some g) → Calls Tryd.prog 40 #[.pointer (some ⟨g, 0, none⟩), .int .i64 (n : Nat)] w' fun e w'' => ∃ v : Nat, v < n ∧ e = .returned (.int .i64 v) ∧ Src w'' g a len cap (J + 2) ∧ w'.grownBy w'' (some g)) :=
    fun n J w' hn hn2 hJ h1 h2 => pick_any n hn hn2 g a len cap J zs w' (by omega) h1 (HR1.out.grown h2 HF.out) HF.out
  have HFL : Hid (∀ J w', J ≤ 10 → Src w' g a len cap J → w1.grownBy w' (some g) → Calls Tryd.prog 42 #[.pointer (some ⟨g, 0, none⟩)] w' fun e w'' => ∃ r : Nat, r < 4294967296 ∧ e = .returned (.float .f32 r) ∧ Src w'' g a len cap (J + 10) ∧ w'.grownBy w'' (some g)) :=
    fun J w' hJ h1 h2 => float_any g a len cap J zs w' (by omega) h1 (HR1.out.grown h2 HF.out) HF.out
  have H1 := Lib.hid (one_any 2 (by decide) (by decide) g a len cap 0 zs w1 (by decide) HS.out HR1.out HF.out)
  go_wp2_with fail
  refine H1.out.mono ?_
  rintro e w2 ⟨q, rfl, hS2, hg2⟩
  have HS2 := Lib.hid hS2
  have HG2 := Lib.hid hg2
  clear hS2 hg2
  cases q
  · go_wp2_with fail
    refine (HFL.out _ w2 (by decide) HS2.out HG2.out).mono ?_
    rintro e w3 ⟨r, hr, rfl, hS3, hg3⟩
    have HG3 := Lib.hid (HG2.out.trans hg3)
    clear hS3 hg3
    go_wp2_with fail
    go_ret
    exact ⟨r, hr, rfl, by rw [HE.out]; exact below_src2 HB.out HG3.out (Nat.le_of_lt HS.out.lt)⟩
  · go_wp2_with fail
    refine (HPK.out 65536 _ w2 (by decide) (by decide) (by decide) HS2.out HG2.out).mono ?_
    rintro e w3 ⟨x, hx, rfl, hS3, hg3⟩
    have HS3 := Lib.hid hS3
    have HG3 := Lib.hid (HG2.out.trans hg3)
    clear hS3 hg3
    go_wp2_with fail
    refine (HPK.out 65536 _ w3 (by decide) (by decide) (by decide) HS3.out HG3.out).mono ?_
    rintro e w4 ⟨y, hy, rfl, hS4, hg4⟩
    have HG4 := Lib.hid (HG3.out.trans hg4)
    clear hS4 hg4
    have hn : x * 65536 + y < 4294967296 := by omega
    have HFM := Lib.hid (l01From_any (x * 65536 + y) hn)
    have he : (((x * 65536 + y : Nat)) : Int) = (x : Int) * 65536 + y := by simp
    rw [he] at HFM
    clear he
    go_wp2_with fail
    refine (HFM.out _).mono ?_
    rintro e w5 ⟨rfl, rfl⟩
    go_wp2_with fail
    go_ret
    exact ⟨_, hn, rfl, by rw [HE.out]; exact below_src2 HB.out HG4.out (Nat.le_of_lt HS.out.lt)⟩
theorem b10Numbers_any (n : Nat) (hn : n ≤ 300) (a : Option Addr) (len cap : Nat) (zs : List Nat) (w : World) (hR : BRow w a len zs) :
    Calls Tryd.prog 10 #[.slice a len cap, .int .i64 n] w fun e w' => ∃ a' c' Z, e = .returned (.slice a' n c') ∧ FRow w' a' n Z ∧ Below w.heap.size w w' := by
  have HR := Lib.hid hR
  have HF := Lib.hid (far_src hR)
  clear hR
  go_enter Tryd.func10, Tryd.ntmps10
  go_wp2_with fail
  refine (from_any a len cap w).mono ?_
  rintro e w1 ⟨rfl, hS, b1, _⟩
  have H1 := Lib.hid (floats_any n hn w.heap.size a len cap 0 zs w1 (by decide) hS (HR.out.keep b1) HF.out)
  have HB := Lib.hid b1
  clear hS b1
  go_wp2_with fail
  refine H1.out.mono ?_
  rintro e w2 ⟨a', c', Z, rfl, hF, hS2, hg2⟩
  have HF2 := Lib.hid hF
  have HB2 := Lib.hid (below_src HB.out hg2)
  clear hF hS2 hg2
  go_wp2_with fail
  go_ret
  exact ⟨a', c', Z, rfl, HF2.out, HB2.out⟩
end Go.Proofs.YtfmicahibmpjmaaDoor
