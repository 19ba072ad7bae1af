/-
  Times of failures: what they are; contracts of the parts of the program that tell them. Conditions: all of them are lives.
-/
import Derived.Test.YtplfmdjccmhclabSrtF5
import Derived.Test.YtplfmdjccmhclabCpF
import Derived.Test.YtplfmdjccmhclabOrdW
namespace Liv
open Go Go.Sort Dec Flt Go.Lib
/-- the times of those that failed, as they come -/
def fT (zs : List (Nat × Bool)) : List Nat := (zs.filter (·.2)).map (·.1)
theorem fT_next (zs : List (Nat × Bool)) (k : Nat) (h : k < zs.length) : fT (zs.take (k + 1)) = fT (zs.take k) ++ if fl zs k then [tm zs k] else [] := by
  rw [take_next' (0, false) zs k h]
  unfold fT fl tm
  rw [List.filter_append, List.map_append]
  congr 1
  cases hz : zs.getD k (0, false) with
  | mk a b => cases b <;> simp
theorem fT_len (zs : List (Nat × Bool)) : (fT zs).length ≤ zs.length := by unfold fT; rw [List.length_map]; exact List.length_filter_le _ _
theorem fT_mem {zs : List (Nat × Bool)} {t : Nat} (h : t ∈ fT zs) : ∃ z ∈ zs, z.1 = t := by
  unfold fT at h
  obtain ⟨z, hz, rfl⟩ := List.mem_map.1 h
  exact ⟨z, (List.mem_filter.1 hz).1, rfl⟩
/-- how two numbers are compared -/
def cfF (x y : Nat) : Int := if x < y then -1 else if y < x then 1 else 0
theorem cfF_lt (x y : Nat) : decide (cfF x y < 0) = decide (x < y) := by
  unfold cfF
  by_cases c : x < y
  · rw [if_pos c, decide_eq_true c]; decide
  · rw [if_neg c, decide_eq_false c]
    split <;> decide
theorem swoF : SWO (fun x y : Nat => decide (cfF x y < 0)) := by
  constructor
  · intro x; rw [cfF_lt]; simp
  · intro x y z h1 h2; rw [cfF_lt] at *; have := of_decide_eq_true h1; have := of_decide_eq_true h2; exact decide_eq_true (by omega)
  · intro x y z h1 h2; rw [cfF_lt] at *; have := of_decide_eq_false h1; have := of_decide_eq_false h2; exact decide_eq_false (by omega)
theorem antiF (x y : Nat) (h1 : decide (cfF x y < 0) = false) (h2 : decide (cfF y x < 0) = false) : x = y := by
  rw [cfF_lt] at h1 h2
  have := of_decide_eq_false h1
  have := of_decide_eq_false h2
  omega
/-- numbers in order -/
def ordF (l : List Nat) : List Nat := l.mergeSort (fun x y => !decide (cfF y x < 0))
theorem ordF_unique {d d' : Array Nat} (h : PermIn 0 d.size d d') (hs : SortedIn (fun x y => decide (cfF x y < 0)) 0 d.size d') : d'.toList = ordF d.toList := sorted_unique_holds swoF antiF d d' h hs
theorem ordF_perm (l : List Nat) : (ordF l).Perm l := List.mergeSort_perm l _
/-- the different times of failures -/
def tS (zs : List (Nat × Bool)) : List Nat := Go.Lib.compact (ordF (fT zs))
theorem compact_mem {α : Type} [Inhabited α] [DecidableEq α] {l : List α} {x : α} (h : x ∈ Go.Lib.compact l) : x ∈ l := by
  unfold Go.Lib.compact Go.Lib.compactUpTo at h
  obtain ⟨j, hj, rfl⟩ := List.mem_map.1 h
  have hj2 : j < l.length := List.mem_range.1 (List.mem_filter.1 hj).1
  rw [getElem!_pos l.toArray j (by simpa using hj2)]
  simp
theorem tS_mem {zs : List (Nat × Bool)} {t : Nat} (h : t ∈ tS zs) : ∃ z ∈ zs, z.1 = t := fT_mem ((ordF_perm _).mem_iff.1 (compact_mem h))
theorem tS_len (zs : List (Nat × Bool)) : (tS zs).length ≤ zs.length := by
  refine Nat.le_trans (compact_len_le _) ?_
  rw [(ordF_perm _).length_eq]
  exact fT_len zs
theorem farr_of_owned {w : World} {B : Nat} {e : TypeId} {v : Value} {n : Nat} {l : List Nat} (h : w.ownsRow B e 1 v n (fv l)) (hn : l.length = n) (h0 : 0 < n) : ∃ g cap, v = .slice (some ⟨g, 0, none⟩) n cap ∧ B ≤ g ∧ n ≤ cap ∧ FArr e w g l.toArray := by
  obtain ⟨h1, ⟨rfl, h2⟩ | ⟨g, cap, cur, rfl, hg, hc, hcap, _, hcs, hcur⟩⟩ := h
  · omega
  · refine ⟨g, cap, rfl, hg, hcap, ⟨cur, hc, by simp; omega⟩, fun i hi => ?_⟩
    have hi' : i < l.length := by simpa using hi
    have hu : (cur.toList.take (n * 1))[i]? = some (.float .f32 (l.toArray[i]!)) := by
      rw [hcur, getElem!_pos l.toArray i (by simpa using hi')]
      simp [fv, List.getElem?_eq_getElem hi']
    rw [List.getElem?_take_of_lt (by omega)] at hu
    unfold World.cell?
    simp only [hc]
    simpa using hu
end Liv
namespace Go.Proofs.Ytplfmdjccmhclab
open Go.RowKit Liv Flt Go.Sort Stb Dec
set_option maxHeartbeats 2000000 in
set_option maxRecDepth 100000 in
theorem cloneF_any (a : Option Addr) (len cap : Nat) (l : List Nat) (w : World) (h : FRow w a len l) (h0 : 0 < len) (hn : len ≤ 1048576) :
    Calls Try.prog 127 #[.slice a len cap] w fun e w' => (∃ g c, e = .returned (.slice (some ⟨g, 0, none⟩) len c) ∧ w.heap.size ≤ g ∧ len ≤ c ∧ FArr 23 w' g l.toArray) ∧ Below w.heap.size w w' := by
  obtain ⟨b, off, rfl, hbl, _⟩ := h.2.2.2 0 h0
  have H := Lib.hid h
  clear h
  obtain ⟨i0, hi, hz0, hz1, hz2⟩ := info_parts (show (Try.prog.info? 23).map (fun i => (i.zero, i.size, i.bytes)) = some (some (.float .f32 0), 1, 4) by kernel_rfl)
  have q22 : ∀ (w : World) (a : Option Addr) (n c n' c' : Nat), (binOp .eql 33 (.slice a n c) (.slice none n' c')).run Try.prog w = .ok (.bool a.isNone) w := fun w a n c n' c' => Lib.run_eql_slice_nil w _ _ a n c n' c' Try.underlying33
  go_enter Try.func127, Try.ntmps127
  go_wp2_with (at_builtin; refine wpList_append_own _ rfl _ _ 33 rfl w.heap.size 23 i0 (.float .f32 0) 1 4 Try.underlying33 hi hz0 hz1 hz2 rfl (by decide) _ _ _ rfl (World.ownsRow_made w #[] 0 (Nat.le_refl _) (Nat.zero_le _) rfl) ⟨b, off, none⟩ len cap (fv l) rfl ?qc1 ?qc2 ?qc3 ?qc4 ?qc5 ?qc6 ?_)
  case qc1 => simp [fv, H.out.1]
  case qc2 =>
    intro j u hj
    have hjn : j < (fv l).length := (List.getElem?_eq_some_iff.1 hj).1
    have hjl : j < l.length := by simpa [fv] using hjn
    rw [Addr.add_lit]
    refine Lib.cell?_alloc_some _ ?_
    obtain ⟨b', off', e1, _, q1⟩ := H.out.2.2.2 j (by rw [← H.out.1]; exact hjl)
    cases e1
    have : (fv l)[j]? = some (.float .f32 (l.getD j 0)) := by simp [fv, List.getD, hjl]
    rw [this] at hj; cases hj; exact q1
  case qc3 => intro u hu; unfold fv at hu; obtain ⟨x, _, rfl⟩ := List.mem_map.1 hu; rfl
  case qc4 => unfold maxLen; omega
  case qc5 => omega
  case qc6 => simp
  intro v' w1 hown hgrow hnil
  obtain ⟨g, c, rfl, hg, hgc, hA⟩ := farr_of_owned (l := l) (n := len) (by simpa using hown) H.out.1 h0
  have HF : Hid (w.heap.size ≤ g ∧ len ≤ c ∧ FArr 23 w1 g l.toArray) := ⟨hg, hgc, hA⟩
  have HB : Hid (Below w.heap.size w w1) := Lib.hid (((Below.refl _ w).alloc (Nat.le_refl _) _).grown hgrow (by simp) (by intro k hk; simp [Value.ownBlock] at hk; omega))
  clear hown hgrow hnil hg hgc hA
  go_wp2
  go_ret
  exact ⟨⟨g, c, by simp, HF.out⟩, HB.out⟩
theorem cmpVF (W : World) (x y : Nat) (hx : VF x) (hy : VF y) : Calls Try.prog 124 #[.float .f32 x, .float .f32 y] W fun e w' => e = .returned (.int .i64 (cfF x y)) ∧ Grn W w' := by
  obtain ⟨_, _, nx, sx⟩ := pos_bits hx.1 hx.2
  obtain ⟨_, _, ny, sy⟩ := pos_bits hy.1 hy.2
  refine (cmpF_any x y nx ny sx sy W).mono ?_
  rintro e w' ⟨rfl, rfl⟩
  exact ⟨rfl, Grn.refl _⟩
theorem inOrderF_any (a : Option Addr) (len cap : Nat) (l : List Nat) (w : World) (h : FRow w a len l) (h0 : 0 < len) (hn : len ≤ 1048576) (hv : ∀ z ∈ l, VF z) :
    Calls Try.prog 123 #[.slice a len cap, .func (.func 124) #[] #[]] w fun e w' => (∃ g c d, e = .returned (.slice (some ⟨g, 0, none⟩) len c) ∧ w.heap.size ≤ g ∧ len ≤ c ∧ FArr 23 w' g d ∧ d.size = len ∧ d.toList = ordF l) ∧ Below w.heap.size w w' := by
  have H := Lib.hid h
  have HV := Lib.hid hv
  clear h hv
  go_enter Try.func123, Try.ntmps123
  go_wp2_with fail
  refine (cloneF_any a len cap l _ H.out h0 hn).mono ?_
  rintro e w1 ⟨⟨g, c, rfl, hg, hgc, hA⟩, b1⟩
  have A1 := Lib.hid hA
  have B1 := Lib.hid b1
  have HG : Hid (w.heap.size ≤ g ∧ len ≤ c) := ⟨hg, hgc⟩
  have hds : l.toArray.size = len := by simpa using H.out.1
  have HD := Lib.hid hds
  have HVd : Hid (∀ i, i < l.toArray.size → VF l.toArray[i]!) := Lib.hid (by
    intro i hi
    rw [getElem!_pos l.toArray i hi]
    exact HV.out _ (by simp))
  clear hA b1 hg hgc hds
  go_wp2_with fail
  refine (sortStableF_any cfF VF 124 #[] (by intro args w; kernel_rfl) swoF (fun W x y hx hy => cmpVF W x y hx hy) c g len l.toArray HD.out HVd.out w1 A1.out hn).mono ?_
  rintro e w2 ⟨rfl, ⟨d, p2, s2, a2⟩, b2⟩
  have HO : Hid (d.toList = ordF l) := by
    have hd := HD.out
    have := ordF_unique (d := l.toArray) (d' := d) (by rw [hd]; exact p2) (by rw [hd]; exact s2)
    show _ = _
    simpa using this
  have HS2 : Hid (d.size = len) := p2.1.trans HD.out
  have A2 := Lib.hid a2
  have B2 : Hid (Below w.heap.size w w2) := Lib.hid (B1.out.trans (b2.mono HG.out.1))
  clear p2 s2 a2 b2
  go_wp2_with fail
  go_ret
  exact ⟨⟨g, c, d, rfl, HG.out.1, HG.out.2, A2.out, HS2.out, HO.out⟩, B2.out⟩
theorem differentF_any (a : Option Addr) (len cap : Nat) (l : List Nat) (w : World) (h : FRow w a len l) (h0 : 0 < len) (hn : len ≤ 1048576) (hv : ∀ z ∈ l, VF z) :
    Calls Try.prog 111 #[.slice a len cap] w fun e w' => (∃ g c, e = .returned (.slice (some ⟨g, 0, none⟩) (Go.Lib.compact (ordF l)).length c) ∧ w.heap.size ≤ g ∧ FHead w' g (Go.Lib.compact (ordF l)) ∧ Slots w' g (Go.Lib.compact (ordF l)).length 23) ∧ Below w.heap.size w w' := by
  have H := Lib.hid h
  have HV := Lib.hid hv
  clear h hv
  go_enter Try.func111, Try.ntmps111
  go_wp2_with fail
  refine (inOrderF_any a len cap l _ H.out h0 hn HV.out).mono ?_
  rintro e w1 ⟨⟨g, c, d, rfl, hg, hgc, hA, hds, hdl⟩, b1⟩
  have A1 := Lib.hid hA
  have B1 := Lib.hid b1
  have HG : Hid (w.heap.size ≤ g ∧ len ≤ c) := ⟨hg, hgc⟩
  have HD : Hid (d.size = len ∧ d.toList = ordF l) := ⟨hds, hdl⟩
  have HS1 : Hid (Slots w1 g len 23) := by have := hA.1; rw [hds] at this; exact this
  have HVd : Hid (∀ i, i < d.size → VF d[i]!) := Lib.hid (by
    intro i hi
    rw [getElem!_pos d i hi]
    refine HV.out _ ((ordF_perm l).mem_iff.1 ?_)
    rw [← hdl]
    simp)
  clear hA b1 hg hgc hds hdl
  go_wp2_with fail
  refine (compactF_any g c len d HD.out.1 w1 A1.out HS1.out HVd.out hn HG.out.2).mono ?_
  rintro e w2 ⟨rfl, h2, s2, b2⟩
  rw [HD.out.2] at h2 ⊢
  have H2 := Lib.hid h2
  have hle : (Go.Lib.compact (ordF l)).length ≤ len := by
    refine Nat.le_trans (compact_len_le _) ?_
    rw [(ordF_perm l).length_eq, H.out.1]; exact Nat.le_refl _
  have S2 : Hid (Slots w2 g (Go.Lib.compact (ordF l)).length 23) := by
    obtain ⟨cur, q1, q2⟩ := s2
    exact ⟨cur, q1, by omega⟩
  have B2 : Hid (Below w.heap.size w w2) := Lib.hid (B1.out.trans (b2.mono HG.out.1))
  clear h2 s2 b2 hle
  go_wp2_with fail
  go_ret
  exact ⟨⟨g, c, rfl, HG.out.1, H2.out, S2.out⟩, B2.out⟩
end Go.Proofs.Ytplfmdjccmhclab
