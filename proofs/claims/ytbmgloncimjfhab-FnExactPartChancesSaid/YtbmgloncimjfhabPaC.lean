/-
  Contracts: PartChances, in the program and in its model. Conditions: the lists read as lists of numbers.
-/
import Derived.Test.YtbmgloncimjfhabShkW
namespace Chn
open Go Flt Ieee F32 Liv Syl Dec
theorem part_two {k j : Nat} (hk : k ≤ 62) : partB ((2 ^ k : Nat) : Int) (j : Int) = decide (k = j) := by
  have h2 : 2 ^ k < 9223372036854775808 := Nat.lt_of_le_of_lt (Nat.pow_le_pow_right (by decide) hk) (by decide)
  rw [partB_nat _ _ h2, ← Nat.testBit_eq_decide_div_mod_eq, Nat.testBit_two_pow]
theorem wiC_two {cs : List Nat} {k : Nat} (hk : k ≤ 62) (v : Nat) : wiC cs ((2 ^ k : Nat) : Int) v cs.length = cs.set k v := by
  refine List.ext_getElem (by simp [wiC]) fun i h1 h2 => ?_
  have hi : i < cs.length := by simpa [wiC] using h1
  rw [List.getElem_set]
  simp only [wiC, List.getElem_map, List.getElem_range, part_two hk]
  by_cases e : k = i
  · subst e; simp [hi]
  · simp [e, hi]
theorem set_unis {cs : List Nat} (h : unis cs) (k : Nat) {v : Nat} (hv : uni v) : unis (cs.set k v) := fun z hz => by
  rcases List.mem_or_eq_of_mem_set hz with h1 | h1
  · exact h z h1
  · rw [h1]; exact hv
/-- how much a part changes a chance -/
def paV (p : Int) (zs : List Int) (cs : List Nat) (k : Nat) : Nat := subC (chV p zs (cs.set k 1065353216)) (chV p zs (cs.set k 0))
def paL (p : Int) (zs : List Int) (cs : List Nat) (n : Nat) : List Nat := (List.range n).map (paV p zs cs)
theorem paL_len (p : Int) (zs : List Int) (cs : List Nat) (n : Nat) : (paL p zs cs n).length = n := by simp [paL]
theorem paL_snoc (p : Int) (zs : List Int) (cs : List Nat) (n : Nat) : paL p zs cs (n + 1) = paL p zs cs n ++ [paV p zs cs n] := by simp [paL, List.range_succ]
theorem paL_get (p : Int) (zs : List Int) (cs : List Nat) {n k : Nat} (h : k < n) : (paL p zs cs n).getD k 0 = paV p zs cs k := by simp [paL, List.getD, h]
def paA (p : Int) (zs : List Int) (cs : List Nat) : List Nat := if hvB p zs cs then paL p zs cs cs.length else []
theorem paV_ok {cs : List Nat} (h : unis cs) {p : Int} (hp : p ≤ 10) (zs : List Int) (k : Nat) : Go.floatBits .sub .f32 (chV p zs (cs.set k 1065353216)) (chV p zs (cs.set k 0)) = some (paV p zs cs k) ∧ paV p zs cs k < 4294967296 := by
  obtain ⟨r, h1, _, h3⟩ := sub_fin (bd_fin (chV_bd (set_unis h k (v := 1065353216) (.inl (Nat.le_refl _))) hp zs)) (bd_fin (chV_bd (set_unis h k (v := 0) (.inl (Nat.zero_le _))) hp zs))
  unfold paV subC; rw [h1]; exact ⟨rfl, h3⟩
theorem paL_lt {cs : List Nat} (h : unis cs) {p : Int} (hp : p ≤ 10) (zs : List Int) (n : Nat) : ∀ z ∈ paL p zs cs n, z < 4294967296 := fun z hz => by
  obtain ⟨k, _, rfl⟩ := List.mem_map.1 hz
  exact (paV_ok h hp zs k).2
theorem paA_len (p : Int) (zs : List Int) (cs : List Nat) : (paA p zs cs).length ≤ 1023 := by
  unfold paA
  cases h : hvB p zs cs with
  | false => simp
  | true =>
    have hh := hvB_parts h
    have := sysB_parts hh.1
    simp only [↓reduceIte]; rw [paL_len]; omega
/-- numbers that are laid so far, in a block of zeros -/
def Cp (e : TypeId) (w : World) (g : Nat) (L : List Nat) (k n : Nat) : Prop := w.heap[g]? = some (.cells (Go.Proofs.Ytbmgloncimjfhab.cpy L k n) e (0, 0))
theorem Cp.lt {e : TypeId} {w : World} {g : Nat} {L : List Nat} {k n : Nat} (h : Cp e w g L k n) : g < w.heap.size := by
  refine Nat.lt_of_not_le fun hle => ?_
  unfold Cp at h
  rw [Array.getElem?_eq_none hle] at h; cases h
theorem Cp.keep {e : TypeId} {w w' : World} {g : Nat} {L : List Nat} {k n : Nat} (h : Cp e w g L k n) (hb : Go.RowKit.Below w.heap.size w w') : Cp e w' g L k n := by
  unfold Cp; rw [hb.block g h.lt]; exact h
theorem Cp.frozen {e : TypeId} {w : World} {g : Nat} {L : List Nat} {k n : Nat} (h : Cp e w g L k n) (j : Nat) : w.frozen? ⟨g, j, none⟩ = false := by
  unfold Cp at h
  simp [World.frozen?, h]
theorem Cp.cell {e : TypeId} {w : World} {g : Nat} {L : List Nat} {k n j : Nat} (h : Cp e w g L k n) (hl : L.length = n) (hk : k ≤ n) (hj : j < n) : ∃ u, w.cell? ⟨g, j, none⟩ = some u := by
  unfold Cp at h
  simp only [World.cell?, h]
  exact ⟨_, Go.Proofs.Ytbmgloncimjfhab.cpy_get hl hk hj⟩
theorem Cp.set {e : TypeId} {w : World} {g : Nat} {L : List Nat} {k n : Nat} (h : Cp e w g L k n) (hl : L.length = n) (hk : k < n) : Cp e (w.setCell ⟨g, k, none⟩ (.float .f32 (L.getD k 0))) g L (k + 1) n := by
  have := heap_setCell_same w g k _ e (.float .f32 (L.getD k 0)) h
  rw [Go.Proofs.Ytbmgloncimjfhab.cpy_set hl hk] at this
  exact this
end Chn
namespace Go.Proofs.Ytbmgloncimjfhab
open Go.RowKit Go.Shelf Dec Flt Syl Sep Chn
set_option maxRecDepth 40000 in
set_option maxHeartbeats 4000000 in
theorem iPartChances_any (p : Int) (a : Option Addr) (len cap : Nat) (zs : List Int) (b : Option Addr) (lb cb : Nat) (cs : List Nat) (w : World) (h : IRow w a len zs) (hcf : FRow w b lb cs) (hcap : len ≤ cap) (_ : lb ≤ cb) :
    Calls Try.prog 26 #[.agg #[.int .i64 p, .slice a len cap], .slice b lb cb] w fun e w' => (∃ a' c', e = .returned (.tuple #[.slice a' (paA p zs cs).length c', .bool (hvB p zs cs)]) ∧ FRow w' a' (paA p zs cs).length (paA p zs cs) ∧ Dec.Own w' w.heap.size a' (paA p zs cs).length 27) ∧ Below w.heap.size w w' := by
  have H := Lib.hid h
  have HC := Lib.hid hcf
  have HLN := Lib.hid hcf.1
  clear h hcf
  go_enter Try.func26, Try.ntmps26
  go_wp2_with fail
  have b0 : Below w.heap.size w (w.alloc (.cells #[.int .i64 p, .slice a len cap] 30)) := (Below.refl _ _).alloc (Nat.le_refl _) _
  have k0 : SVar 30 (w.alloc (.cells #[.int .i64 p, .slice a len cap] 30)) w.heap.size p a len cap := Blk.Blk.new _ _ _
  refine (haveChances_any p a len cap zs b lb cb cs _ (H.out.keep b0) hcap (frow_keep HC.out b0)).mono ?_
  rintro e w1 ⟨rfl, b1⟩
  have B1 := Lib.hid (b0.trans (b1.mono b0.size))
  have K1 := Lib.hid (k0.keep b1)
  clear b0 b1 k0
  cases hs : hvB p zs cs with
  | false =>
    have HP : Hid (paA p zs cs = [] ∧ hvB p zs cs = false) := by show _ ∧ _; unfold paA; rw [hs]; exact ⟨rfl, rfl⟩
    clear hs
    go_wp2_with fail
    go_ret2
    rw [HP.out.1, HP.out.2]
    exact ⟨⟨_, _, rfl, frow_nil _ _, .inl rfl⟩, B1.out⟩
  | true =>
    have HP : Hid (paA p zs cs = paL p zs cs lb ∧ hvB p zs cs = true) := by show _ ∧ _; unfold paA; rw [hs, HLN.out]; exact ⟨rfl, rfl⟩
    have hh := hvB_parts hs
    have hp := sysB_parts hh.1
    have HU := Lib.hid (chs_unis HC.out.2.2.1 hh.2.2)
    have hlen : lb ≤ 10 := by have := HC.out.1; omega
    have h0 : 0 < lb := by have := HC.out.1; omega
    obtain ⟨pn, rfl⟩ : ∃ pn : Nat, p = pn := ⟨p.toNat, by omega⟩
    have hmk : ∀ w, (Instr.makeSlice 25 (.int .i64 (lb : Int)) (.int .i64 (lb : Int))).run Try.prog w = .ok (.slice (some ⟨w.heap.size, 0, none⟩) lb lb) (w.alloc (.cells (cpy (paL (pn : Int) zs cs lb) 0 lb) 27)) := by
      intro w
      obtain ⟨i, hi, hz0, hz1, hz2⟩ := info_parts (show (Try.prog.info? 27).map (fun i => (i.zero, i.size, i.bytes)) = some (some (.float .f32 0), 1, 4) by kernel_rfl)
      have := run_make (P := Try.prog) w 25 27 i (.float .f32 0) Try.underlying25 hi hz0 .i64 .i64 lb lb (by omega) (Int.le_refl _) (by rw [hz2]; omega) (by omega)
      rw [this, hz1, Int.toNat_natCast, cpy_made (paL (pn : Int) zs cs lb) lb]
    have HLL : Hid ((paL (pn : Int) zs cs lb).length = lb) := paL_len _ _ _ _
    have HLT := Lib.hid (paL_lt HU.out hp.2 zs lb)
    clear hs hh
    go_wp2_with fail
    obtain ⟨w2, hw2⟩ : ∃ w2, w2 = w1.alloc (.cells (cpy (paL (pn : Int) zs cs lb) 0 lb) 27) := ⟨_, rfl⟩
    have b2 : Below w1.heap.size w1 w2 := by rw [hw2]; exact (Below.refl _ _).alloc (Nat.le_refl _) _
    have P2 : Hid (Cp 27 w2 w1.heap.size (paL (pn : Int) zs cs lb) 0 lb) := by rw [hw2]; exact Lib.hid (heap_alloc_new _ _)
    have K2 := Lib.hid (K1.out.keep b2)
    have B2 := Lib.hid (B1.out.trans (b2.mono B1.out.size))
    have HGE : Hid (w.heap.size ≤ w1.heap.size) := B1.out.size
    have HNE : Hid (w.heap.size ≠ w1.heap.size) := by have := K1.out.lt; show _ ≠ _; omega
    rw [← hw2]
    clear hw2 b2 K1 B1
    go_loopg [7, 8, 9, 19] lb (fun q i7 i8 i9 i wr => ∃ k : Nat, i = .int .i64 k ∧ Hid (k + q = lb) ∧ k ≤ lb ∧ Hid (Cp 27 wr w1.heap.size (paL (pn : Int) zs cs lb) k lb) ∧ Hid (SVar 30 wr w.heap.size (pn : Int) a len cap) ∧ Hid (Below w.heap.size w wr))
    case atStart => exact ⟨0, rfl, by show _ = _; omega, Nat.zero_le _, P2.out, K2.out, B2.out⟩
    case round =>
      clear P2 K2 B2
      obtain ⟨k, rfl, hk, hkl, hP, hK, hB⟩ := hrel
      by_cases hlt : k < lb
      · have HJ : Hid (k + 1 + (gk - 1) = lb) := by have := hk.out; show _ = _; omega
        have HG : Hid (gk - 1 < gk) := by have := hk.out; show _ < _; omega
        have hok := paV_ok HU.out hp.2 zs k
        have hgt := paL_get (pn : Int) zs cs hlt
        obtain ⟨q, hq⟩ : ∃ q : Nat, 2 ^ k = q := ⟨_, rfl⟩
        have hq10 : q ≤ 1024 := by rw [← hq]; exact Nat.pow_le_pow_right (n := 2) (by decide) (show k ≤ 10 by omega)
        have hqi : (2 : Int) ^ k = (q : Int) := by rw [← hq]; simp
        have hw1 : IntKind.i64.wrap (1 * 2 ^ k) = (q : Int) := by rw [Int.one_mul, hqi]; exact wrap_i64 _ (by omega) (by omega)
        have hw2 : IntKind.i64.wrap (2 ^ k) = (q : Int) := by rw [← hw1, Int.one_mul]
        have HW1 : Hid (∀ v, wiC cs (q : Int) v lb = cs.set k v) := Lib.hid fun v => by rw [← HLN.out, ← hq]; exact wiC_two (by omega) v
        clear hq hqi
        have HX : Hid (chV (pn : Int) zs (cs.set k 1065353216) = suS (cs.set k 1065353216) (2 ^ pn) (worksB zs) (2 ^ pn)) := by show _ = _; unfold chV; rw [Int.toNat_natCast]
        have HY : Hid (chV (pn : Int) zs (cs.set k 0) = suS (cs.set k 0) (2 ^ pn) (worksB zs) (2 ^ pn)) := by show _ = _; unfold chV; rw [Int.toNat_natCast]
        have U1 := Lib.hid (set_unis HU.out k (v := 1065353216) (.inl (Nat.le_refl _)))
        have U0 := Lib.hid (set_unis HU.out k (v := 0) (.inl (Nat.zero_le _)))
        have K2 : Hid (SVar 30 wr.drew w.heap.size (pn : Int) a len cap) := hK.out
        have P2 : Hid (Cp 27 wr.drew w1.heap.size (paL (pn : Int) zs cs lb) k lb) := hP.out
        have B2 : Hid (Below w.heap.size w wr.drew) := hB.out.drew
        have S1 := Lib.hid K2.out.two
        have hk0 : (0 : Int) ≤ (k : Int) := by omega
        generalize chV (pn : Int) zs (cs.set k 1065353216) = X at *
        generalize chV (pn : Int) zs (cs.set k 0) = Y at *
        have hr : ∀ w, (binOp .sub 27 (.float .f32 X) (.float .f32 Y)).run Try.prog w = .ok (.float .f32 (paV (pn : Int) zs cs k)) w := fun w => run_float_arith w .sub 27 .f32 _ _ _ hok.1
        have HGT := Lib.hid hgt
        clear hP hK hB hok hgt
        go_wp2_with fail
        go_region_held3 (fun W => W.cell? ⟨w.heap.size, 0, none⟩ = some (.int .i64 (pn : Int)) ∧ W.cell? ⟨w.heap.size, 1, none⟩ = some (.slice a len cap))
          (first | exact S1.out.1 | exact S3.out.1 | exact S4.out.1)
          (first
            | (go_at_call 77; refine (withChance_any (q : Int) 1065353216 b lb cb cs _ (frow_keep HC.out B2.out) h0 hlen).mono ?_; rintro e w3 ⟨⟨g3, c3, rfl, hg3, hh3⟩, b3⟩; rw [HW1.out] at hh3; have A3 := Lib.hid hh3; have K3 := Lib.hid (K2.out.keep b3); have B3 := Lib.hid (B2.out.trans (b3.mono B2.out.size)); have P3 := Lib.hid (P2.out.keep b3); have S3 := Lib.hid K3.out.two; clear hg3 hh3 b3)
            | (have A9 := A3; go_at_call 74; refine (sumOf_any pn (2 ^ pn) rfl a len cap zs (some ⟨g3, 0, none⟩) lb c3 (cs.set k 1065353216) _ (H.out.keep B3.out) (A3.out.row (by omega) (fun z hz => uni_lt (U1.out z hz))) U1.out (by omega) (by omega) hlen).mono ?_; rintro e w4 ⟨rfl, b4⟩; rw [← HX.out]; have K4 := Lib.hid (K3.out.keep b4); have B4 := Lib.hid (B3.out.trans (b4.mono B3.out.size)); have P4 := Lib.hid (P3.out.keep b4); have S4 := Lib.hid K4.out.two; clear b4 A3 A9))
        have K5 : Hid (SVar 30 w4.drew w.heap.size (pn : Int) a len cap) := K4.out
        have P5 : Hid (Cp 27 w4.drew w1.heap.size (paL (pn : Int) zs cs lb) k lb) := P4.out
        have B5 : Hid (Below w.heap.size w w4.drew) := B4.out.drew
        have S5 := Lib.hid K5.out.two
        clear S1 S3 S4 K2 K3 K4 P2 P3 P4 B2 B3 B4
        go_wp2_with fail
        go_region_held3 (fun W => W.cell? ⟨w.heap.size, 0, none⟩ = some (.int .i64 (pn : Int)) ∧ W.cell? ⟨w.heap.size, 1, none⟩ = some (.slice a len cap))
          (first | exact S5.out.1 | exact S6.out.1 | exact S7.out.1)
          (first
            | (go_at_call 77; refine (withChance_any (q : Int) 0 b lb cb cs _ (frow_keep HC.out B5.out) h0 hlen).mono ?_; rintro e w6 ⟨⟨g6, c6, rfl, hg6, hh6⟩, b6⟩; rw [HW1.out] at hh6; have A6 := Lib.hid hh6; have K6 := Lib.hid (K5.out.keep b6); have B6 := Lib.hid (B5.out.trans (b6.mono B5.out.size)); have P6 := Lib.hid (P5.out.keep b6); have S6 := Lib.hid K6.out.two; clear hg6 hh6 b6)
            | (have A9 := A6; go_at_call 74; refine (sumOf_any pn (2 ^ pn) rfl a len cap zs (some ⟨g6, 0, none⟩) lb c6 (cs.set k 0) _ (H.out.keep B6.out) (A6.out.row (by omega) (fun z hz => uni_lt (U0.out z hz))) U0.out (by omega) (by omega) hlen).mono ?_; rintro e w7 ⟨rfl, b7⟩; rw [← HY.out]; have K7 := Lib.hid (K6.out.keep b7); have B7 := Lib.hid (B6.out.trans (b7.mono B6.out.size)); have P7 := Lib.hid (P6.out.keep b7); have S7 := Lib.hid K7.out.two; clear b7 A6 A9))
        obtain ⟨u, hu⟩ := P7.out.cell HLL.out (by omega) hlt
        have hfr := P7.out.frozen k
        have P8 := P7.out.set HLL.out hlt
        rw [HGT.out] at P8
        have HP8 := Lib.hid P8
        have K8 := Lib.hid (K7.out.other (k := w1.heap.size) k (.float .f32 (paV (pn : Int) zs cs k)) HNE.out)
        have B8 := Lib.hid (B7.out.setCell (p := ⟨w1.heap.size, k, none⟩) HGE.out (.float .f32 (paV (pn : Int) zs cs k)))
        clear P8 S5 S6 S7 K5 K6 K7 P5 P6 B5 B6
        go_wp2_with fail
        go_roundg (gk - 1)
        case measure => exact HG.out
        case rel => exact ⟨k + 1, by go_num, HJ, by omega, HP8.out, K8.out, B8.out⟩
      · obtain rfl : k = lb := by have := hk.out; omega
        clear hlt
        go_wp2_with fail
        go_ret2
        rw [HP.out.1, HP.out.2, HLL.out]
        have hr := made_row (zs := paL (pn : Int) zs cs k) ⟨hP.out, HLL.out⟩ (by omega) HLT.out
        have ho : Dec.Own wr w.heap.size (some ⟨w1.heap.size, 0, none⟩) k 27 := .inr ⟨_, rfl, HGE.out, _, hP.out, by rw [cpy_size HLL.out (Nat.le_refl _)]; exact Nat.le_refl _⟩
        first
          | exact ⟨⟨_, _, rfl, hr, ho⟩, hB.out⟩
          | exact ⟨⟨_, ⟨_, rfl⟩, hr, ho⟩, hB.out⟩
theorem owns_slice {w : World} {B : Nat} {e : TypeId} {sz : Nat} {v : Value} {n : Nat} {xs : List Value} (h : w.ownsRow B e sz v n xs) : ∃ a c, v = .slice a n c := by
  obtain ⟨h1, ⟨rfl, h2⟩ | ⟨g, cap, cur, rfl, _⟩⟩ := h
  · exact ⟨none, 0, by rw [h2]⟩
  · exact ⟨_, _, rfl⟩
theorem fv_one (l : List Nat) (t : Nat) : fv (l ++ [t]) = fv l ++ [.float .f32 t] := by simp [fv]
set_option maxRecDepth 40000 in
set_option maxHeartbeats 4000000 in
theorem sPartChances_any (p : Int) (a : Option Addr) (len cap : Nat) (zs : List Int) (b : Option Addr) (lb cb : Nat) (cs : List Nat) (w : World) (h : IRow w a len zs) (hcf : FRow w b lb cs) :
    Calls Try.prog 25 #[.agg #[.int .i64 p, .slice a len cap], .slice b lb cb] w fun e w' => (∃ a' c', e = .returned (.tuple #[.slice a' (paA p zs cs).length c', .bool (hvB p zs cs)]) ∧ FRow w' a' (paA p zs cs).length (paA p zs cs)) ∧ Below w.heap.size w w' := by
  have H := Lib.hid h
  have HC := Lib.hid hcf
  have HLN := Lib.hid hcf.1
  clear h hcf
  go_enter Try.func25, Try.ntmps25
  go_wp2_with fail
  have b0 : Below w.heap.size w (w.alloc (.cells #[.int .i64 p, .slice a len cap] 30)) := (Below.refl _ _).alloc (Nat.le_refl _) _
  have k0 : SVar 30 (w.alloc (.cells #[.int .i64 p, .slice a len cap] 30)) w.heap.size p a len cap := Blk.Blk.new _ _ _
  refine (specIs_any w.heap.size p a len cap zs _ k0 (H.out.keep b0)).mono ?_
  rintro e w1 ⟨rfl, d1⟩
  have B1 := Lib.hid (b0.trans (d1.below _))
  have K1 := Lib.hid (k0.keep (d1.below _))
  clear b0 d1 k0
  cases hs : sysB p zs with
  | false =>
    have HP : Hid (paA p zs cs = [] ∧ hvB p zs cs = false) := by show _ ∧ _; unfold paA hvB; rw [hs]; exact ⟨rfl, rfl⟩
    clear hs
    go_wp2_with fail
    go_ret2
    rw [HP.out.1, HP.out.2]
    exact ⟨⟨_, _, rfl, frow_nil _ _⟩, B1.out⟩
  | true =>
    have HE : Hid (hvB p zs cs = (decide ((cs.length : Int) = p) && chsB cs)) := by show _ = _; unfold hvB; rw [hs]; rfl
    obtain ⟨⟨v0, v1⟩, _, _⟩ := K1.out.two
    have hp := sysB_parts hs
    clear hs
    go_wp2_with fail
    refine (specChances_any p b lb cb cs _ (frow_keep HC.out B1.out)).mono ?_
    rintro e w2 ⟨rfl, rfl⟩
    cases hq : (decide ((cs.length : Int) = p) && chsB cs) with
    | false =>
      have HP : Hid (paA p zs cs = [] ∧ hvB p zs cs = false) := by show _ ∧ _; unfold paA; rw [HE.out, hq]; exact ⟨rfl, rfl⟩
      clear hq
      go_wp2_with fail
      go_ret2
      rw [HP.out.1, HP.out.2]
      exact ⟨⟨_, _, rfl, frow_nil _ _⟩, B1.out⟩
    | true =>
      have HP : Hid (paA p zs cs = paL p zs cs lb ∧ hvB p zs cs = true) := by show _ ∧ _; unfold paA; rw [HE.out, hq, HLN.out]; exact ⟨rfl, rfl⟩
      have hh := hvB_parts HP.out.2
      have HU := Lib.hid (chs_unis HC.out.2.2.1 hh.2.2)
      have hlen : lb ≤ 10 := by have := HC.out.1; omega
      have h0 : 0 < lb := by have := HC.out.1; omega
      obtain ⟨pn, rfl⟩ : ∃ pn : Nat, p = pn := ⟨p.toNat, by omega⟩
      have HLL : Hid ((paL (pn : Int) zs cs lb).length = lb) := paL_len _ _ _ _
      have HLT := Lib.hid (paL_lt HU.out hp.2 zs lb)
      have hrow := frow_keep HC.out B1.out
      obtain ⟨bb, off, rfl, hbl, _⟩ := hrow.2.2.2 0 h0
      have HR := Lib.hid hrow
      obtain ⟨i0, hi, hz0, hz1, hz2⟩ := info_parts (show (Try.prog.info? 27).map (fun i => (i.zero, i.size, i.bytes)) = some (some (.float .f32 0), 1, 4) by kernel_rfl)
      clear hq hh hrow v0 v1
      go_wp2_with fail
      go_loopg [6, 7, 8, 9, 22] lb (fun q v6 i7 i8 i9 i wr => ∃ (k c3 : Nat) (a3 : Option Addr), v6 = .slice a3 k c3 ∧ i = .int .i64 k ∧ Hid (k + q = lb) ∧ k ≤ lb ∧ Hid (wr.ownsRow w1.heap.size 27 1 (.slice a3 k c3) k (fv (paL (pn : Int) zs cs k))) ∧ Hid (Below w1.heap.size w1 wr))
      case atStart => exact ⟨0, _, _, rfl, rfl, by show _ = _; omega, Nat.zero_le _, World.ownsRow_made w1 #[] 0 (Nat.le_refl _) (Nat.zero_le _) rfl, (Below.refl _ w1).alloc (Nat.le_refl _) _⟩
      case round =>
        obtain ⟨k, c3, a3, rfl, rfl, hk, hkl, hO, hB⟩ := hrel
        by_cases hlt : k < lb
        · have HJ : Hid (k + 1 + (gk - 1) = lb) := by have := hk.out; show _ = _; omega
          have HG : Hid (gk - 1 < gk) := by have := hk.out; show _ < _; omega
          have hok := paV_ok HU.out hp.2 zs k
          have HTS : Hid (paL (pn : Int) zs cs (k + 1) = paL (pn : Int) zs cs k ++ [paV (pn : Int) zs cs k]) := paL_snoc _ _ _ _
          have HX : Hid (chV (pn : Int) zs (cs.set k 1065353216) = suS (cs.set k 1065353216) (2 ^ pn) (worksB zs) (2 ^ pn)) := by show _ = _; unfold chV; rw [Int.toNat_natCast]
          have HY : Hid (chV (pn : Int) zs (cs.set k 0) = suS (cs.set k 0) (2 ^ pn) (worksB zs) (2 ^ pn)) := by show _ = _; unfold chV; rw [Int.toNat_natCast]
          have U1 := Lib.hid (set_unis HU.out k (v := 1065353216) (.inl (Nat.le_refl _)))
          have U0 := Lib.hid (set_unis HU.out k (v := 0) (.inl (Nat.zero_le _)))
          obtain ⟨V, hV⟩ : ∃ V, paV (pn : Int) zs cs k = V := ⟨_, rfl⟩
          rw [hV] at hok HTS
          clear hV
          generalize chV (pn : Int) zs (cs.set k 1065353216) = X at *
          generalize chV (pn : Int) zs (cs.set k 0) = Y at *
          have hr : ∀ w, (binOp .sub 27 (.float .f32 X) (.float .f32 Y)).run Try.prog w = .ok (.float .f32 V) w := fun w => run_float_arith w .sub 27 .f32 _ _ _ hok.1
          have HR2 := Lib.hid (frow_keep HR.out hB.out)
          have HKW := Lib.hid (K1.out.keep hB.out)
          have HBW := Lib.hid (B1.out.trans (hB.out.mono B1.out.size))
          clear hok
          go_wp2_with (at_builtin; refine wpList_append_own _ rfl _ _ 25 rfl wr.heap.size 27 i0 (.float .f32 0) 1 4 Try.underlying25 hi hz0 hz1 hz2 rfl (by decide) _ _ _ rfl (World.ownsRow_made wr #[] 0 (Nat.le_refl _) (Nat.zero_le _) rfl) ⟨bb, off, none⟩ lb cb (fv cs) rfl ?qc1 ?qc2 ?qc3 ?qc4 ?qc5 ?qc6 ?_)
          case qc1 => simp [fv, HLN.out]
          case qc2 =>
            intro j u hj
            have hjn : j < (fv cs).length := (List.getElem?_eq_some_iff.1 hj).1
            have hjl : j < cs.length := by simpa [fv] using hjn
            rw [Addr.add_lit]
            refine Lib.cell?_alloc_some _ ?_
            obtain ⟨b', off', e1, _, q1⟩ := HR2.out.2.2.2 j (by rw [← HLN.out]; exact hjl)
            cases e1
            have : (fv cs)[j]? = some (.float .f32 (cs.getD j 0)) := by simp [fv, List.getD, hjl]
            rw [this] at hj; cases hj; exact q1
          case qc3 => intro u hu; unfold fv at hu; obtain ⟨x, _, rfl⟩ := List.mem_map.1 hu; rfl
          case qc4 => unfold maxLen; omega
          case qc5 => omega
          case qc6 => simp
          intro v' w2 hown hgrow hnil
          obtain ⟨g, c, rfl, hg, hgc, hA⟩ := fheld_of_owned (l := cs) (n := lb) (by simpa using hown) HLN.out h0
          have b2 : Below wr.heap.size wr w2 := ((Below.refl _ wr).alloc (Nat.le_refl _) _).grown hgrow (by simp) (by intro k hk; simp [Value.ownBlock] at hk; omega)
          obtain ⟨u, hu⟩ := hA.1.cell hlt
          have hfr := hA.1.frozen k
          have A3 := Lib.hid (hA.set hlt 1065353216)
          have B3 := Lib.hid (b2.setCell (p := ⟨g, k, none⟩) hg (.float .f32 1065353216))
          have HGE : Hid (wr.heap.size ≤ g) := hg
          clear hown hgrow hnil hA b2
          go_wp2_with fail
          refine (specChance_any w.heap.size pn (2 ^ pn) rfl a len cap zs (some ⟨g, 0, none⟩) lb c (cs.set k 1065353216) _ (HKW.out.keep B3.out) (H.out.keep (HBW.out.trans (B3.out.mono HBW.out.size))) (A3.out.row (by omega) (fun z hz => uni_lt (U1.out z hz))) U1.out (by omega) (by omega) hlen).mono ?_
          rintro e w4 ⟨rfl, d4⟩
          rw [← HX.out]
          have A4 := Lib.hid (A3.out.keep (d4.below _))
          have B4 := Lib.hid (B3.out.trans (d4.below _))
          obtain ⟨u4, hu4⟩ := A4.out.1.cell hlt
          have hfr4 := A4.out.1.frozen k
          have a5 := A4.out.set hlt 0
          rw [List.set_set] at a5
          have A5 := Lib.hid a5
          have B5 := Lib.hid (B4.out.setCell (p := ⟨g, k, none⟩) HGE.out (.float .f32 0))
          clear d4 a5 u hu hfr A3 B3
          go_wp2_with fail
          refine (specChance_any w.heap.size pn (2 ^ pn) rfl a len cap zs (some ⟨g, 0, none⟩) lb c (cs.set k 0) _ (HKW.out.keep B5.out) (H.out.keep (HBW.out.trans (B5.out.mono HBW.out.size))) (A5.out.row (by omega) (fun z hz => uni_lt (U0.out z hz))) U0.out (by omega) (by omega) hlen).mono ?_
          rintro e w6 ⟨rfl, d6⟩
          rw [← HY.out]
          have B6 := Lib.hid (B5.out.trans (d6.below _))
          have HO6 := Lib.hid (ownsRow_keep hO.out B6.out)
          have HB6 := Lib.hid (hB.out.trans (B6.out.mono hB.out.size))
          have HO1 := Lib.hid (HO6.out.alloc (.cells #[.float .f32 V] 27))
          have HB1 := Lib.hid (HB6.out.alloc HB6.out.size (.cells #[.float .f32 V] 27))
          have HCELL : Hid (∀ (j : Nat) (u : Value), [Value.float .f32 V][j]? = some u → (w6.alloc (.cells #[.float .f32 V] 27)).cell? ((⟨w6.heap.size, 0, none⟩ : Addr).add j) = some u) := Lib.hid (cell_new1 w6 27 (.float .f32 V))
          have HLE : Hid (k + 1 ≤ maxLen ∧ (k + 1) * 4 ≤ 140737488355328) := by show _ ∧ _; unfold maxLen; omega
          clear d6 A4 A5 B4 B5 u4 hu4 hfr4 hO hB
          go_wp2_with (at_builtin; refine wpList_append_own _ rfl _ _ 25 rfl w1.heap.size 27 i0 (.float .f32 0) 1 4 Try.underlying25 hi hz0 hz1 hz2 rfl (by decide) (.slice a3 k c3) k (fv (paL (pn : Int) zs cs k)) rfl HO1.out ⟨w6.heap.size, 0, none⟩ 1 1 [.float .f32 V] rfl rfl HCELL.out (by intro u hu; simp at hu; subst hu; rfl) HLE.out.1 HLE.out.2 HB1.out.size ?_)
          intro v' w7 hown' hgrow _
          have HO3 : Hid (w7.ownsRow w1.heap.size 27 1 v' (k + 1) (fv (paL (pn : Int) zs cs (k + 1)))) := by
            show World.ownsRow _ _ _ _ _ _ _
            rw [HTS.out, fv_one]; exact hown'
          have HB3 : Hid (Below w1.heap.size w1 w7) := Lib.hid (HB1.out.grown hgrow HB1.out.size (fun q hq => (HO1.out.lt q hq).1))
          clear hown' hgrow HO1 HB1 HCELL
          obtain ⟨a5, c5, rfl⟩ := owns_slice HO3.out
          go_wp2_with fail
          go_roundg (gk - 1)
          case measure => exact HG.out
          case rel => exact ⟨k + 1, c5, a5, rfl, by go_num, HJ, by omega, HO3.out, HB3.out⟩
        · obtain rfl : k = lb := by have := hk.out; omega
          have hfr := hO.out
          rw [show k = (paL (pn : Int) zs cs k).length from HLL.out.symm] at hfr
          obtain ⟨a4, c4, he, hr⟩ := frow_of_owned (Z := paL (pn : Int) zs cs k) (by have := hO.out; rw [← HLL.out] at this; simpa [HLL.out] using hO.out) (by rw [HLL.out]; omega) HLT.out
          rw [HLL.out] at he hr
          cases he
          have B2 := Lib.hid (B1.out.trans (hB.out.mono B1.out.size))
          have HF := Lib.hid hr
          clear hO hB hlt hr hfr
          go_wp2_with fail
          go_ret2
          rw [HP.out.1, HP.out.2, HLL.out]
          first
            | exact ⟨⟨_, _, rfl, HF.out⟩, B2.out⟩
            | exact ⟨⟨_, ⟨_, rfl⟩, HF.out⟩, B2.out⟩
end Go.Proofs.Ytbmgloncimjfhab
