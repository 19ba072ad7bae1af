/-
  Contracts: with how many sets of each size a system works, in the program and in its model. Conditions: the lists read as lists of whole numbers.
-/
import Derived.Test.YtbmgloncimjfhabCntW
import Derived.Test.YtbmgloncimjfhabGivW
import Derived.Deep.RegionHeld3
namespace Syl
open Go Dec
def wcL (p : Int) (zs : List Int) : List Int := cntL p.toNat (setsF (2 ^ p.toNat) (worksB zs) (2 ^ p.toNat))
def wcA (p : Int) (zs : List Int) : List Int := if sysB p zs then wcL p zs else []
theorem wcA_len (p : Int) (zs : List Int) : (wcA p zs).length ≤ 1048576 := by
  unfold wcA
  cases h : sysB p zs with
  | false => simp
  | true => have := sysB_parts h; simp only [↓reduceIte]; unfold wcL; rw [cntL_len]; omega
theorem cnt_bd {p T : Nat} {is : Int → Bool} {k : Nat} (hk : k ≤ 1024) : ∀ z ∈ cntL p (setsF T is k), 0 ≤ z ∧ z ≤ 1024 := fun z hz => by
  have h1 := cntL_bd p _ z hz
  have h2 := setsF_len T is k
  omega
end Syl
namespace Go.Proofs.Ytbmgloncimjfhab
open Go.RowKit Dec Flt Syl Sep
theorem worksOf_any (p : Int) (a : Option Addr) (len cap : Nat) (w : World) :
    Calls Try.prog 85 #[.agg #[.int .i64 p, .slice a len cap]] w fun e w' => e = .returned (.func (.func 128) #[] #[.pointer (some ⟨w.heap.size, 0, none⟩)]) ∧ SVar 30 w' w.heap.size p a len cap ∧ Below w.heap.size w w' := by
  have k0 := Lib.hid (Blk.Blk.new w #[.int .i64 p, .slice a len cap] 30)
  go_enter Try.func85, Try.ntmps85
  go_wp2_with fail
  go_ret
  exact ⟨rfl, k0.out, (Below.refl _ _).alloc (Nat.le_refl _) _⟩
theorem worksOf1_any (t : Int) (g : Nat) (p : Int) (a : Option Addr) (len cap : Nat) (zs : List Int) (w : World) (hv : SVar 30 w g p a len cap) (h : IRow w a len zs) :
    Calls Try.prog 128 #[.int .i64 t, .pointer (some ⟨g, 0, none⟩)] w fun e w' => e = .returned (.bool (worksB zs t)) ∧ Below w.heap.size w w' := by
  have H := Lib.hid h
  obtain ⟨⟨v0, v1⟩, _, _⟩ := hv.two
  clear h hv
  go_enter Try.func128, Try.ntmps128
  go_wp2_with fail
  refine (hasOne_any t a len cap zs _ H.out).mono ?_
  rintro e w1 ⟨rfl, b1⟩
  have B1 := Lib.hid b1
  clear b1
  go_wp2_with fail
  go_ret
  exact ⟨rfl, B1.out⟩
set_option maxRecDepth 20000 in
set_option maxHeartbeats 1600000 in
theorem iWorkingCounts_any (p : Int) (a : Option Addr) (len cap : Nat) (zs : List Int) (w : World) (h : IRow w a len zs) (hcap : len ≤ cap) :
    Calls Try.prog 33 #[.agg #[.int .i64 p, .slice a len cap]] w fun e w' => (∃ a' c', e = .returned (.tuple #[.slice a' (wcA p zs).length c', .bool (sysB p zs)]) ∧ IRow w' a' (wcA p zs).length (wcA p zs) ∧ Dec.Own w' w.heap.size a' (wcA p zs).length 2) ∧ Below w.heap.size w w' := by
  have H := Lib.hid h
  clear h
  go_enter Try.func33, Try.ntmps33
  go_wp2_with fail
  have b0 : Below w.heap.size w (w.alloc (.cells #[.int .i64 p, .slice a len cap] 30)) := (Below.refl _ _).alloc (Nat.le_refl _) _
  have k0 : SVar 30 (w.alloc (.cells #[.int .i64 p, .slice a len cap] 30)) w.heap.size p a len cap := Blk.Blk.new _ _ _
  refine (implVSys_any p a len cap zs _ (H.out.keep b0) hcap).mono ?_
  rintro e w1 ⟨rfl, b1⟩
  have B1 := Lib.hid (b0.trans (b1.mono b0.size))
  have K1 := Lib.hid (k0.keep b1)
  clear b0 b1 k0
  cases hs : sysB p zs with
  | false =>
    have HP : Hid (wcA p zs = [] ∧ sysB p zs = false) := by show _ ∧ _; unfold wcA; rw [hs]; exact ⟨rfl, rfl⟩
    clear hs
    go_wp2_with fail
    go_ret2
    rw [HP.out.1, HP.out.2]
    exact ⟨⟨_, _, rfl, irow_nil _ _, .inl rfl⟩, B1.out⟩
  | true =>
    have HP : Hid (wcA p zs = wcL p zs ∧ sysB p zs = true) := by show _ ∧ _; unfold wcA; rw [hs]; exact ⟨rfl, rfl⟩
    have hp := sysB_parts hs
    obtain ⟨pn, rfl⟩ : ∃ pn : Nat, p = pn := ⟨p.toNat, by omega⟩
    have HL : Hid (cntL pn (setsF (2 ^ pn) (worksB zs) (2 ^ pn)) = wcL (pn : Int) zs) := by show _ = _; unfold wcL; rw [Int.toNat_natCast]
    have HT10 : Hid (2 ^ pn ≤ 1024) := by show 2 ^ pn ≤ 2 ^ 10; exact Nat.pow_le_pow_right (by decide) (by omega)
    clear hs
    go_wp2_with fail
    have K1d : Hid (SVar 30 w1.drew w.heap.size (pn : Int) a len cap) := K1.out
    have B1d : Hid (Below w.heap.size w w1.drew) := B1.out.drew
    have S1 := Lib.hid K1d.out.two
    clear K1 B1
    go_region_held3 (fun W => W.cell? ⟨w.heap.size, 0, none⟩ = some (.int .i64 (pn : Int)) ∧ W.cell? ⟨w.heap.size, 1, none⟩ = some (.slice a len cap))
      (first | exact S1.out.1 | exact S2.out.1 | exact S3.out.1)
      (first | (go_at_call 85; refine (worksOf_any (pn : Int) a len cap _).mono ?_; rintro e w2 ⟨rfl, k2, b2⟩; have K2 := Lib.hid k2; have S2 := Lib.hid ((K1d.out.keep b2).two); have K12 := Lib.hid (K1d.out.keep b2); have B2 := Lib.hid (B1d.out.trans (b2.mono B1d.out.size)); clear k2 b2) | (go_at_call 84; refine (countsBy_any pn (2 ^ pn) rfl (worksB zs) 128 #[.pointer (some ⟨w1.drew.heap.size, 0, none⟩)] (by intro args w; kernel_rfl) _ (by omega) (by omega) (fun W t _ _ hb => worksOf1_any t _ _ a len cap zs W (K2.out.keep hb) ((H.out.keep B2.out).keep hb))).mono ?_; rintro e w3 ⟨rfl, i3, b3⟩; rw [HL.out] at i3; have I3 := Lib.hid i3; have S3 := Lib.hid ((K12.out.keep b3).two); have B3 := Lib.hid (B2.out.trans (b3.mono B2.out.size)); clear i3 b3))
    have HLN : Hid ((wcL (pn : Int) zs).length = pn + 1) := by show _ = _; rw [← HL.out, cntL_len]
    have HBD : Hid (∀ z ∈ wcL (pn : Int) zs, 0 ≤ z ∧ z ≤ 1024) := by rw [← HL.out]; exact cnt_bd HT10.out
    have HGE : Hid (w.heap.size ≤ w2.heap.size) := B2.out.size
    go_wp2_with fail
    go_ret2
    rw [HP.out.1, HP.out.2, HLN.out]
    have hr := I3.out.row (by rw [HLN.out]; omega) (fun z hz => by have := HBD.out z hz; omega)
    have ho := I3.out.own (B := w.heap.size) HGE.out
    rw [HLN.out] at hr ho
    first
      | exact ⟨⟨_, _, rfl, hr, ho⟩, B3.out⟩
      | exact ⟨⟨_, ⟨_, rfl⟩, hr, ho⟩, B3.out⟩
set_option maxRecDepth 20000 in
set_option maxHeartbeats 4000000 in
theorem sWorkingCounts_any (p : Int) (a : Option Addr) (len cap : Nat) (zs : List Int) (w : World) (h : IRow w a len zs) :
    Calls Try.prog 32 #[.agg #[.int .i64 p, .slice a len cap]] w fun e w' => (∃ a' c', e = .returned (.tuple #[.slice a' (wcA p zs).length c', .bool (sysB p zs)]) ∧ IRow w' a' (wcA p zs).length (wcA p zs)) ∧ Below w.heap.size w w' := by
  have H := Lib.hid h
  clear h
  cases hs : sysB p zs with
  | false =>
    have HP : Hid (wcA p zs = [] ∧ sysB p zs = false) := by show _ ∧ _; unfold wcA; rw [hs]; exact ⟨rfl, rfl⟩
    clear hs
    go_enter Try.func32, Try.ntmps32
    go_wp2_with fail
    have b0 : Below w.heap.size w (w.alloc (.cells #[.int .i64 p, .slice a len cap] 30)) := (Below.refl _ _).alloc (Nat.le_refl _) _
    refine (specIs_any w.heap.size p a len cap zs _ (Blk.Blk.new _ _ _) (H.out.keep b0)).mono ?_
    rintro e w1 ⟨rfl, d1⟩
    have B1 := Lib.hid (b0.trans (d1.below _))
    rw [HP.out.2]
    clear b0 d1
    go_wp2_with fail
    go_ret2
    rw [HP.out.1]
    exact ⟨⟨_, _, rfl, irow_nil _ _⟩, B1.out⟩
  | true =>
    have HP : Hid (wcA p zs = wcL p zs ∧ sysB p zs = true) := by show _ ∧ _; unfold wcA; rw [hs]; exact ⟨rfl, rfl⟩
    have hp := sysB_parts hs
    obtain ⟨pn, rfl⟩ : ∃ pn : Nat, p = pn := ⟨p.toNat, by omega⟩
    obtain ⟨T, hT⟩ : ∃ T, 2 ^ pn = T := ⟨_, rfl⟩
    have hTT : two (pn : Int) = (T : Int) := by unfold two; rw [← hT, Int.toNat_natCast]; simp
    have ht := two_bd (pn : Int) hp.1 hp.2
    rw [hTT] at ht
    have hpow : (2 : Int) ^ pn = (T : Int) := by rw [← hT]; simp
    have hw1 : IntKind.i64.wrap (1 * 2 ^ pn) = (T : Int) := by rw [Int.one_mul, hpow]; exact wrap_i64 _ (by omega) (by omega)
    have hw2 : IntKind.i64.wrap (2 ^ pn) = (T : Int) := by rw [hpow]; exact wrap_i64 _ (by omega) (by omega)
    have HL : Hid (cntL pn (setsF T (worksB zs) T) = wcL (pn : Int) zs) := by show _ = _; unfold wcL; rw [Int.toNat_natCast, hT]
    have HTP := Lib.hid hT
    have hmk : ∀ w, (Instr.makeSlice 22 (.int .i64 ((pn : Int) + 1)) (.int .i64 ((pn : Int) + 1))).run Try.prog w = .ok (.slice (some ⟨w.heap.size, 0, none⟩) (pn + 1) (pn + 1)) (w.alloc (.cells (iv (cntL pn ([] : List (Fin T)))).toArray 2)) := by
      intro w
      obtain ⟨i, hi, hz0, hz1, hz2⟩ := info_parts (show (Try.prog.info? 2).map (fun i => (i.zero, i.size, i.bytes)) = some (some (.int .i64 0), 1, 8) by kernel_rfl)
      have := run_make (P := Try.prog) w 22 2 i (.int .i64 0) Try.underlying22 hi hz0 .i64 .i64 ((pn + 1 : Nat) : Int) ((pn + 1 : Nat) : Int) (by omega) (Int.le_refl _) (by rw [hz2]; omega) (by omega)
      rw [show ((pn : Int) + 1) = ((pn + 1 : Nat) : Int) by omega, this, hz1, Int.toNat_natCast]
      congr 3
      rw [cntL_zero]
      unfold madeCells iv
      refine Array.ext_getElem? fun j => ?_
      by_cases hj : j < pn + 1
      · simp [Value.cells, hj, Nat.mod_one]
      · simp [hj]
    clear hs hpow hT hTT
    go_enter Try.func32, Try.ntmps32
    go_wp2_with fail
    have b0 : Below w.heap.size w (w.alloc (.cells #[.int .i64 (pn : Int), .slice a len cap] 30)) := (Below.refl _ _).alloc (Nat.le_refl _) _
    have k0 : SVar 30 (w.alloc (.cells #[.int .i64 (pn : Int), .slice a len cap] 30)) w.heap.size (pn : Int) a len cap := Blk.Blk.new _ _ _
    refine (specIs_any w.heap.size (pn : Int) a len cap zs _ k0 (H.out.keep b0)).mono ?_
    rintro e w1 ⟨rfl, d1⟩
    have B1 := Lib.hid (b0.trans (d1.below _))
    have K1 := Lib.hid (k0.keep (d1.below _))
    rw [HP.out.2]
    clear b0 d1 k0
    obtain ⟨⟨v0, v1⟩, _, _⟩ := K1.out.two
    go_wp2_with fail
    obtain ⟨W2, hW2⟩ : ∃ W2, W2 = w1.alloc (.cells (iv (cntL pn ([] : List (Fin T)))).toArray 2) := ⟨_, rfl⟩
    have b2 : Below w1.heap.size w1 W2 := by rw [hW2]; exact (Below.refl _ _).alloc (Nat.le_refl _) _
    have KC : Hid (IBlk 2 W2 w1.heap.size (cntL pn (setsF T (worksB zs) 0))) := by rw [hW2]; exact Blk.Blk.new' _ _ _
    have B2 := Lib.hid (B1.out.trans (b2.mono B1.out.size))
    have K2 := Lib.hid (K1.out.keep b2)
    have HGE : Hid (w.heap.size < w1.heap.size) := K1.out.lt
    rw [← hW2]
    clear hW2 b2 v0 v1
    go_loopg [5] T (fun q v5 wr => ∃ k : Nat, v5 = .int .i64 k ∧ Hid (k + q = T) ∧ k ≤ T ∧ Hid (IBlk 2 wr w1.heap.size (cntL pn (setsF T (worksB zs) k))) ∧ Hid (SVar 30 wr w.heap.size (pn : Int) a len cap) ∧ Hid (Below w.heap.size w wr))
    case atStart => exact ⟨0, rfl, by show _ = _; omega, Nat.zero_le _, KC.out, K2.out, B2.out⟩
    case round =>
      clear KC K2 B2
      obtain ⟨k, rfl, hk, hkl, hC, hS, hB⟩ := hrel
      obtain ⟨⟨v0, v1⟩, _, _⟩ := hS.out.two
      by_cases hlt : k < T
      · have HJ : Hid (k + 1 + (gk - 1) = T) := by have := hk.out; show _ = _; omega
        have HG : Hid (gk - 1 < gk) := by have := hk.out; show _ < _; omega
        have hlti : (k : Int) < (T : Int) := by omega
        cases hq : worksB zs (k : Int) with
        | false =>
          have HN := Lib.hid (setsF_no (is := worksB zs) hlt hq)
          have HQ := Lib.hid hq
          clear hq
          go_wp2_with fail
          refine (specWorks_any (k : Int) w.heap.size (pn : Int) a len cap zs _ hS.out (H.out.keep hB.out)).mono ?_
          rintro e w2 ⟨rfl, d2⟩
          rw [HQ.out]
          have b2 : Below wr.heap.size wr w2 := d2.below _
          have HC2 : Hid (IBlk 2 w2 w1.heap.size (cntL pn (setsF T (worksB zs) (k + 1)))) := by show IBlk _ _ _ _; rw [HN.out]; exact Blk.Blk.keep hC.out b2
          have HS2 := Lib.hid (hS.out.keep b2)
          have HB2 := Lib.hid (hB.out.trans (b2.mono hB.out.size))
          clear b2 d2 hC hS hB v0 v1
          go_wp2_with fail
          go_roundg (gk - 1)
          case measure => exact HG.out
          case rel => exact ⟨k + 1, by go_num, HJ, by omega, HC2.out, HS2.out, HB2.out⟩
        | true =>
          have HN := Lib.hid (setsF_yes (is := worksB zs) hlt hq)
          have HQ := Lib.hid hq
          have hsz := size_le (p := pn) (x := k) (by omega) (by rw [HTP.out]; exact hlt)
          clear hq
          go_wp2_with fail
          refine (specWorks_any (k : Int) w.heap.size (pn : Int) a len cap zs _ hS.out (H.out.keep hB.out)).mono ?_
          rintro e w2 ⟨rfl, d2⟩
          rw [HQ.out]
          have b2 : Below wr.heap.size wr w2 := d2.below _
          have hC2 : IBlk 2 w2 w1.heap.size (cntL pn (setsF T (worksB zs) k)) := Blk.Blk.keep hC.out b2
          have hS2 := hS.out.keep b2
          have hB2 := hB.out.trans (b2.mono hB.out.size)
          clear b2 d2 hC hS hB v0 v1
          have hsn := cntL_snoc pn (setsF T (worksB zs) k) ⟨k, hlt⟩ (by show sizeB k < _; omega)
          have hcell := hC2.cell (j := sizeB k) (by rw [cntL_len]; omega)
          have hfr := Blk.Blk.frozen hC2 (sizeB k)
          have hbd := cnt_bd (p := pn) (T := T) (is := worksB zs) (k := k) (by omega) ((cntL pn (setsF T (worksB zs) k)).getD (sizeB k) 0) (by
            rw [show (cntL pn (setsF T (worksB zs) k)).getD (sizeB k) 0 = (cntL pn (setsF T (worksB zs) k))[sizeB k]'(by rw [cntL_len]; omega) from by simp [List.getD, cntL_len, show sizeB k < pn + 1 by omega]]
            exact List.getElem_mem _)
          have HC3 : Hid (IBlk 2 (w2.setCell ⟨w1.heap.size, sizeB k, none⟩ (.int .i64 ((cntL pn (setsF T (worksB zs) k)).getD (sizeB k) 0 + 1))) w1.heap.size (cntL pn (setsF T (worksB zs) (k + 1)))) := by
            show IBlk _ _ _ _
            rw [HN.out, hsn]; exact hC2.set _ _
          have HS3 := Lib.hid (hS2.other (k := w1.heap.size) (sizeB k) (.int .i64 ((cntL pn (setsF T (worksB zs) k)).getD (sizeB k) 0 + 1)) (by have := HGE.out; omega))
          have HB3 := Lib.hid (hB2.setCell (p := ⟨w1.heap.size, sizeB k, none⟩) (Nat.le_of_lt HGE.out) (.int .i64 ((cntL pn (setsF T (worksB zs) k)).getD (sizeB k) 0 + 1)))
          generalize (cntL pn (setsF T (worksB zs) k)).getD (sizeB k) 0 = c at *
          have hs1 : (sizeB k : Int) < ((pn + 1 : Nat) : Int) := by omega
          clear hsn hC2 hS2 hB2
          go_wp2_with fail
          refine (specSize_any k _ (by omega)).mono ?_
          rintro e w3 ⟨rfl, rfl⟩
          go_wp2_with fail
          go_roundg (gk - 1)
          case measure => exact HG.out
          case rel => exact ⟨k + 1, by go_num, HJ, by omega, HC3.out, HS3.out, HB3.out⟩
      · obtain rfl : k = T := by have := hk.out; omega
        have hge : ¬ ((k : Int) < (k : Int)) := by omega
        have hi3 := hC.out
        rw [HL.out] at hi3
        have I3 := Lib.hid hi3
        have HLN : Hid ((wcL (pn : Int) zs).length = pn + 1) := by show _ = _; rw [← HL.out, cntL_len]
        have HBD : Hid (∀ z ∈ wcL (pn : Int) zs, 0 ≤ z ∧ z ≤ 1024) := by rw [← HL.out]; exact cnt_bd (by omega)
        clear hlt hC hi3
        go_wp2_with fail
        go_ret2
        rw [HP.out.1, HLN.out]
        have hr := I3.out.row (by rw [HLN.out]; omega) (fun z hz => by have := HBD.out z hz; omega)
        rw [HLN.out] at hr
        first
          | exact ⟨⟨_, _, rfl, hr⟩, hB.out⟩
          | exact ⟨⟨_, ⟨_, rfl⟩, hr⟩, hB.out⟩
end Go.Proofs.Ytbmgloncimjfhab
