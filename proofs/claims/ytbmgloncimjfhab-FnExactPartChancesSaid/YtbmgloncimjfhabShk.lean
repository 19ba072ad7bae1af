/-
  Contracts: copies of chances in which some are others; SharedShock, in the program and in its model. Conditions: the lists read as lists of numbers.
-/
import Derived.Test.YtbmgloncimjfhabChO
import Derived.Test.YtbmgloncimjfhabSuB
import Derived.Test.YtbmgloncimjfhabFOwnW
import Derived.Laws.AppendOwn
namespace Chn
open Go Flt Ieee F32 Liv Syl Dec
/-- the first 'k' parts of a set have another chance -/
def wiC (cs : List Nat) (x : Int) (v k : Nat) : List Nat := (List.range cs.length).map fun j => if j < k ∧ partB x (j : Int) = true then v else cs.getD j 0
theorem wiC_len (cs : List Nat) (x : Int) (v k : Nat) : (wiC cs x v k).length = cs.length := by simp [wiC]
theorem wiC_zero (cs : List Nat) (x : Int) (v : Nat) : wiC cs x v 0 = cs := by
  refine List.ext_getElem (wiC_len _ _ _ _) fun i h1 h2 => ?_
  simp [wiC, List.getD, h2]
theorem wiC_yes {cs : List Nat} {x : Int} {v k : Nat} (_hk : k < cs.length) (hp : partB x (k : Int) = true) : wiC cs x v (k + 1) = (wiC cs x v k).set k v := by
  refine List.ext_getElem (by simp [wiC]) fun i h1 h2 => ?_
  have hi : i < cs.length := by simpa [wiC] using h1
  rw [List.getElem_set]
  by_cases e : k = i
  · subst e; rw [if_pos rfl]; simp [wiC, hp]
  · rw [if_neg e]
    simp only [wiC, List.getElem_map, List.getElem_range]
    by_cases h3 : i < k
    · exact ite_congr (propext ⟨fun h => ⟨h3, h.2⟩, fun h => ⟨by omega, h.2⟩⟩) (fun _ => rfl) (fun _ => rfl)
    · rw [if_neg (by omega), if_neg (by omega)]
theorem wiC_no {cs : List Nat} {x : Int} {v k : Nat} (hp : partB x (k : Int) = false) : wiC cs x v (k + 1) = wiC cs x v k := by
  refine List.ext_getElem (by simp [wiC]) fun i h1 h2 => ?_
  simp only [wiC, List.getElem_map, List.getElem_range]
  by_cases e : k = i
  · subst e; simp [hp]
  · exact ite_congr (propext ⟨fun h => ⟨by omega, h.2⟩, fun h => ⟨by omega, h.2⟩⟩) (fun _ => rfl) (fun _ => rfl)
theorem wiC_unis {cs : List Nat} (h : unis cs) (x : Int) {v : Nat} (hv : uni v) (k : Nat) : unis (wiC cs x v k) := fun z hz => by
  obtain ⟨j, hj, rfl⟩ := List.mem_map.1 hz
  split
  · exact hv
  · exact unis_at h (List.mem_range.1 hj)
/-- numbers that a block of the call's own holds -/
def FHeld (e : TypeId) (w : World) (g n : Nat) (zs : List Nat) : Prop := Slots w g n e ∧ zs.length = n ∧ ∀ j, j < n → w.cell? ⟨g, j, none⟩ = some (.float .f32 (zs.getD j 0))
theorem FHeld.keep {e : TypeId} {w w' : World} {g n : Nat} {zs : List Nat} (h : FHeld e w g n zs) (hb : Go.RowKit.Below w.heap.size w w') : FHeld e w' g n zs :=
  ⟨h.1.keep hb, h.2.1, fun j hj => by rw [World.cell?_of_block (w := w) (hb.block g h.1.lt)]; exact h.2.2 j hj⟩
theorem FHeld.set {e : TypeId} {w : World} {g n : Nat} {zs : List Nat} (h : FHeld e w g n zs) {k : Nat} (hk : k < n) (v : Nat) : FHeld e (w.setCell ⟨g, k, none⟩ (.float .f32 v)) g n (zs.set k v) := by
  refine ⟨h.1.set k _, by rw [List.length_set]; exact h.2.1, fun j hj => ?_⟩
  have hl : j < zs.length := by rw [h.2.1]; exact hj
  by_cases e : j = k
  · subst e
    obtain ⟨u, hu⟩ := h.1.cell hk
    rw [World.cell?_setCell_same _ _ _ hu]
    simp [List.getD, hl]
  · rw [World.cell?_setCell_other _ _ _ _ (by intro e; injection e with _ e2 _; omega), h.2.2 j hj]
    simp [List.getD, show ¬ k = j by omega]
theorem FHeld.row {e : TypeId} {w : World} {g n : Nat} {zs : List Nat} (h : FHeld e w g n zs) (hm : n ≤ 1048576) (hz : ∀ z ∈ zs, z < 4294967296) : FRow w (some ⟨g, 0, none⟩) n zs :=
  ⟨h.2.1, by unfold maxLen; omega, hz, fun i hi => ⟨g, 0, rfl, h.1.lt, by rw [Nat.zero_add]; exact h.2.2 i hi⟩⟩
theorem fheld_of_owned {w : World} {B : Nat} {e : TypeId} {v : Value} {n : Nat} {l : List Nat} (h : w.ownsRow B e 1 v n (fv l)) (hn : l.length = n) (h0 : 0 < n) : ∃ g cap, v = .slice (some ⟨g, 0, none⟩) n cap ∧ B ≤ g ∧ n ≤ cap ∧ FHeld e w g n l := by
  obtain ⟨h1, ⟨rfl, h2⟩ | ⟨g, cap, cur, rfl, hg, hc, hcap, _, hcs, hcur⟩⟩ := h
  · omega
  · refine ⟨g, cap, rfl, hg, hcap, ⟨cur, hc, by omega⟩, hn, fun i hi => ?_⟩
    have hi' : i < l.length := by omega
    have hu : (cur.toList.take (n * 1))[i]? = some (.float .f32 (l.getD i 0)) := by
      rw [hcur]
      simp [fv, List.getElem?_eq_getElem hi', List.getD]
    rw [List.getElem?_take_of_lt (by omega)] at hu
    unfold World.cell?
    simp only [hc]
    simpa using hu
set_option exponentiation.threshold 400 in
/-- a chance times a bounded number is finite -/
theorem mul_fin1 {a b : Nat} (ha : uni a) (hb : bd 8192 b) : ∃ r, Go.floatBits .mul .f32 a b = some r ∧ fin .f32 r = true := by
  have e : Ieee.single.signWeight = 2147483648 := by decide
  have ei : Ieee.single.infRung = 2139095040 := by decide
  have lp : Ieee.single.leastPlace = -149 := by decide
  have fb : Ieee.single.fractionBits = 23 := rfl
  have eb : (2 : Nat) ^ Ieee.single.exponentBits = 256 := by decide
  have ebn : Ieee.single.binade = 8388608 := by decide
  obtain ⟨m, x, a1, a2, _⟩ := read_num Ieee.single a (by rw [e, ei]; unfold uni at ha; omega)
  obtain ⟨n, y, b1, b2, _⟩ := read_num Ieee.single b (by rw [e, ei]; have := hb.1; omega)
  have ua : m * 2 ^ x ≤ 2 ^ 149 := by
    rcases ha with ha | rfl
    · have := units1_le ha
      rw [← a2] at this; exact this
    · rw [e, Nat.mod_self, ebn, units_zero _ (by decide)] at a2
      rw [a2]; exact Nat.zero_le _
  have ub : n * 2 ^ y ≤ 2 ^ 13 * 2 ^ 149 := by
    rw [b2, e, Nat.mod_eq_of_lt (by have := hb.1; omega), ebn]; exact hb.2
  rw [lp] at a1 b1
  have hbound : m * n * 2 ^ ((-149 + (x : Int) + (-149 + y)) - -298).toNat ≤ 2 ^ ((13 : Int) - -298).toNat := by
    rw [show ((-149 + (x : Int) + (-149 + y)) - -298).toNat = x + y from by omega, Nat.pow_add, show m * n * (2 ^ x * 2 ^ y) = (m * 2 ^ x) * (n * 2 ^ y) from by rw [Nat.mul_mul_mul_comm]]
    refine Nat.le_trans (Nat.mul_le_mul ua ub) ?_
    rw [← Nat.pow_add, ← Nat.pow_add]
    exact Nat.pow_le_pow_right (by omega) (by omega)
  obtain ⟨r, h1, _, h3⟩ := nearest_le Ieee.single ((a / Ieee.single.signWeight % 2 == 1) ^^ (b / Ieee.single.signWeight % 2 == 1)) (m * n) (-149 + (x : Int) + (-149 + y)) 13 (-298) (by omega) (by omega) hbound (by rw [lp, fb]; omega) (by rw [lp, fb, eb]; omega)
  refine ⟨_, by show Ieee.single.mul a b = _; unfold Format.mul; rw [a1, b1]; rfl, ?_⟩
  show fin .f32 (Ieee.single.nearest _ (m * n) _) = true
  rw [h1]
  exact decide_eq_true (by
    show Ieee.single.word _ r % Ieee.single.signWeight < Ieee.single.infRung
    rw [(word_mod Ieee.single _ r (by rw [e]; rw [ei] at h3; omega)).1]; exact h3)
theorem sub_fin {s t : Nat} (hs : fin .f32 s = true) (ht : fin .f32 t = true) : ∃ r, Go.floatBits .sub .f32 s t = some r ∧ nan .f32 r = false ∧ r < 4294967296 := by
  have hb : ∃ r, Go.floatBits .sub .f32 s t = some r := by
    obtain ⟨m, e, h2, _⟩ := read_num Go.FloatKind.f32.format t (of_decide_eq_true ht)
    obtain ⟨m', e', h1, _⟩ := read_num Go.FloatKind.f32.format s (of_decide_eq_true hs)
    show ∃ r, Go.FloatKind.f32.format.sub s t = some r
    unfold Format.sub
    rw [h1, h2]
    exact ⟨_, rfl⟩
  obtain ⟨r, h⟩ := hb
  exact ⟨r, h, op_num (.inr (.inl rfl)) h, op_lt (.inr (.inl rfl)) h⟩
theorem suS_bd {cs : List Nat} (h : unis cs) {T : Nat} (hT : T ≤ 8192) (is : Int → Bool) : bd 8192 (suS cs T is T) := by
  have hl := setsF_len T is T
  have := suC_bd h ((setsF T is T).map fun x => (x.val : Int)) 0 0 (bd_zero 0) (by rw [List.length_map]; omega)
  refine ⟨this.1, Nat.le_trans this.2 (Nat.mul_le_mul_right _ ?_)⟩
  rw [List.length_map]; omega
/-- with a shock, and without -/
def shV (s x y : Nat) : Nat := addC (mulC s x) (mulC (subC 1065353216 s) y)
theorem shV_ok {s x y : Nat} (hs : uni s) (hx : bd 8192 x) (hy : bd 8192 y) :
    Go.floatBits .mul .f32 s x = some (mulC s x) ∧ Go.floatBits .sub .f32 1065353216 s = some (subC 1065353216 s) ∧ Go.floatBits .mul .f32 (subC 1065353216 s) y = some (mulC (subC 1065353216 s) y) ∧ Go.floatBits .add .f32 (mulC s x) (mulC (subC 1065353216 s) y) = some (shV s x y) ∧ nan .f32 (shV s x y) = false := by
  obtain ⟨r1, h1, f1⟩ := mul_fin1 hs hx
  have hb := subC_ok hs
  obtain ⟨r2, h2, f2⟩ := mul_fin1 hb.2 hy
  have e1 : mulC s x = r1 := by unfold mulC; rw [h1]; rfl
  have e2 : mulC (subC 1065353216 s) y = r2 := by unfold mulC; rw [h2]; rfl
  obtain ⟨r3, h3, n3, _⟩ := add_fin (fin_num f1) f2
  have e3 : shV s x y = r3 := by unfold shV addC; rw [e1, e2, h3]; rfl
  rw [e1, e2, e3]
  exact ⟨h1, hb.1, h2, h3, n3⟩
def shkB (p : Int) (zs : List Int) (cs : List Nat) (x : Int) (s : Nat) : Bool := hvB p zs cs && (setB p x && shB s)
def shkV (p : Int) (zs : List Int) (cs : List Nat) (x : Int) (s : Nat) : Nat := shV s (chV p zs (wiC cs x 0 cs.length)) (chV p zs cs)
def shkA (p : Int) (zs : List Int) (cs : List Nat) (x : Int) (s : Nat) : Nat := if shkB p zs cs x s then shkV p zs cs x s else 0
theorem chV_bd {cs : List Nat} (h : unis cs) {p : Int} (hp : p ≤ 10) (zs : List Int) : bd 8192 (chV p zs cs) := suS_bd h (Nat.le_trans (Nat.pow_le_pow_right (n := 2) (by decide) (show p.toNat ≤ 10 by omega)) (by decide)) _
theorem shkA_num {cs : List Nat} (hz : ∀ z ∈ cs, z < 4294967296) (p : Int) (zs : List Int) (x : Int) {s : Nat} (hs : s < 4294967296) : nan .f32 (shkA p zs cs x s) = false := by
  unfold shkA
  cases h : shkB p zs cs x s with
  | false => exact (show nan .f32 0 = false by decide)
  | true =>
    unfold shkB at h
    simp only [Bool.and_eq_true] at h
    have hh := hvB_parts h.1
    have hu := chs_unis hz hh.2.2
    have hp := sysB_parts hh.1
    exact (shV_ok (uni_of hs h.2.2) (chV_bd (wiC_unis hu x (.inl (Nat.zero_le _)) _) hp.2 zs) (chV_bd hu hp.2 zs)).2.2.2.2
end Chn
namespace Go.Proofs.Ytbmgloncimjfhab
open Go.RowKit Go.Shelf Dec Flt Syl Sep Chn
set_option maxHeartbeats 2000000 in
set_option maxRecDepth 100000 in
theorem cloneH_any (a : Option Addr) (len cap : Nat) (l : List Nat) (w : World) (h : FRow w a len l) (h0 : 0 < len) (hn : len ≤ 1048576) :
    Calls Try.prog 126 #[.slice a len cap] w fun e w' => (∃ g c, e = .returned (.slice (some ⟨g, 0, none⟩) len c) ∧ w.heap.size ≤ g ∧ len ≤ c ∧ FHeld 27 w' g len l) ∧ Below w.heap.size w w' := by
  obtain ⟨b, off, rfl, hbl, _⟩ := h.2.2.2 0 h0
  have H := Lib.hid h
  clear h
  obtain ⟨i0, hi, hz0, hz1, hz2⟩ := info_parts (show (Try.prog.info? 27).map (fun i => (i.zero, i.size, i.bytes)) = some (some (.float .f32 0), 1, 4) by kernel_rfl)
  have q22 : ∀ (w : World) (a : Option Addr) (n c n' c' : Nat), (binOp .eql 25 (.slice a n c) (.slice none n' c')).run Try.prog w = .ok (.bool a.isNone) w := fun w a n c n' c' => Lib.run_eql_slice_nil w _ _ a n c n' c' Try.underlying25
  go_enter Try.func126, Try.ntmps126
  go_wp2_with (at_builtin; refine wpList_append_own _ rfl _ _ 25 rfl w.heap.size 27 i0 (.float .f32 0) 1 4 Try.underlying25 hi hz0 hz1 hz2 rfl (by decide) _ _ _ rfl (World.ownsRow_made w #[] 0 (Nat.le_refl _) (Nat.zero_le _) rfl) ⟨b, off, none⟩ len cap (fv l) rfl ?qc1 ?qc2 ?qc3 ?qc4 ?qc5 ?qc6 ?_)
  case qc1 => simp [fv, H.out.1]
  case qc2 =>
    intro j u hj
    have hjn : j < (fv l).length := (List.getElem?_eq_some_iff.1 hj).1
    have hjl : j < l.length := by simpa [fv] using hjn
    rw [Addr.add_lit]
    refine Lib.cell?_alloc_some _ ?_
    obtain ⟨b', off', e1, _, q1⟩ := H.out.2.2.2 j (by rw [← H.out.1]; exact hjl)
    cases e1
    have : (fv l)[j]? = some (.float .f32 (l.getD j 0)) := by simp [fv, List.getD, hjl]
    rw [this] at hj; cases hj; exact q1
  case qc3 => intro u hu; unfold fv at hu; obtain ⟨x, _, rfl⟩ := List.mem_map.1 hu; rfl
  case qc4 => unfold maxLen; omega
  case qc5 => omega
  case qc6 => simp
  intro v' w1 hown hgrow hnil
  obtain ⟨g, c, rfl, hg, hgc, hA⟩ := fheld_of_owned (l := l) (n := len) (by simpa using hown) H.out.1 h0
  have HF : Hid (w.heap.size ≤ g ∧ len ≤ c ∧ FHeld 27 w1 g len l) := ⟨hg, hgc, hA⟩
  have HB : Hid (Below w.heap.size w w1) := Lib.hid (((Below.refl _ w).alloc (Nat.le_refl _) _).grown hgrow (by simp) (by intro k hk; simp [Value.ownBlock] at hk; omega))
  clear hown hgrow hnil hg hgc hA
  go_wp2
  go_ret
  exact ⟨⟨g, c, by simp, HF.out⟩, HB.out⟩
set_option maxRecDepth 20000 in
set_option maxHeartbeats 2000000 in
theorem withChance_any (x : Int) (v : Nat) (b : Option Addr) (lb cb : Nat) (cs : List Nat) (w : World) (hc : FRow w b lb cs) (h0 : 0 < lb) (hl : lb ≤ 10) :
    Calls Try.prog 77 #[.slice b lb cb, .int .i64 x, .float .f32 v] w fun e w' => (∃ g c, e = .returned (.slice (some ⟨g, 0, none⟩) lb c) ∧ w.heap.size ≤ g ∧ FHeld 27 w' g lb (wiC cs x v lb)) ∧ Below w.heap.size w w' := by
  have HC := Lib.hid hc
  have HLN := Lib.hid hc.1
  clear hc
  go_enter Try.func77, Try.ntmps77
  go_wp2_with fail
  refine (cloneH_any b lb cb cs _ HC.out h0 (by omega)).mono ?_
  rintro e w1 ⟨⟨g, c, rfl, hg, hgc, hA⟩, b1⟩
  have A1 : Hid (FHeld 27 w1 g lb (wiC cs x v 0)) := by show FHeld _ _ _ _ _; rw [wiC_zero]; exact hA
  have B1 := Lib.hid b1
  have HG := Lib.hid hg
  clear hA b1 hg
  go_wp2_with fail
  go_loopg [8, 13] lb (fun q i8 i13 wr => ∃ k : Nat, i13 = .int .i64 k ∧ Hid (k + q = lb) ∧ k ≤ lb ∧ Hid (FHeld 27 wr g lb (wiC cs x v k)) ∧ Hid (Below w.heap.size w wr))
  case atStart => exact ⟨0, rfl, by show _ = _; omega, Nat.zero_le _, A1.out, B1.out⟩
  case round =>
    clear A1 B1
    obtain ⟨k, rfl, hk, hkl, hA, hB⟩ := hrel
    by_cases hlt : k < lb
    · have HJ : Hid (k + 1 + (gk - 1) = lb) := by have := hk.out; show _ = _; omega
      have HG2 : Hid (gk - 1 < gk) := by have := hk.out; show _ < _; omega
      obtain ⟨u, hu⟩ := hA.out.1.cell hlt
      have hfr := hA.out.1.frozen k
      cases hp : partB x (k : Int) with
      | true =>
        have HN := Lib.hid (wiC_yes (v := v) (show k < cs.length by rw [HLN.out]; exact hlt) hp)
        have HA2 : Hid (FHeld 27 (wr.setCell ⟨g, k, none⟩ (.float .f32 v)) g lb (wiC cs x v (k + 1))) := by show FHeld _ _ _ _ _; rw [HN.out]; exact hA.out.set hlt v
        have HB2 := Lib.hid (hB.out.setCell (p := ⟨g, k, none⟩) HG.out (.float .f32 v))
        go_wp2_with fail
        refine (hasPart_any x k _ (by omega) (by omega)).mono ?_
        rintro e w2 ⟨rfl, rfl⟩
        rw [hp]
        go_wp2_with fail
        go_roundg (gk - 1)
        case measure => exact HG2.out
        case rel => exact ⟨k + 1, by go_num, HJ, by omega, HA2.out, HB2.out⟩
      | false =>
        have HN := Lib.hid (wiC_no (cs := cs) (v := v) hp)
        have HA2 : Hid (FHeld 27 wr g lb (wiC cs x v (k + 1))) := by show FHeld _ _ _ _ _; rw [HN.out]; exact hA.out
        go_wp2_with fail
        refine (hasPart_any x k _ (by omega) (by omega)).mono ?_
        rintro e w2 ⟨rfl, rfl⟩
        rw [hp]
        go_wp2_with fail
        go_roundg (gk - 1)
        case measure => exact HG2.out
        case rel => exact ⟨k + 1, by go_num, HJ, by omega, HA2.out, hB.out⟩
    · obtain rfl : k = lb := by have := hk.out; omega
      clear hlt
      go_wp2_with fail
      go_ret
      first
        | exact ⟨⟨_, _, rfl, HG.out, hA.out⟩, hB.out⟩
        | exact ⟨⟨_, _, ⟨_, rfl⟩, HG.out, hA.out⟩, hB.out⟩
end Go.Proofs.Ytbmgloncimjfhab
