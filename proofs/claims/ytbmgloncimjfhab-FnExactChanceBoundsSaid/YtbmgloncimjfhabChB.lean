/-
  Contracts: bounds of how likely a system works, in the program and in its model. Conditions: the lists read as lists of numbers.
-/
import Derived.Test.YtbmgloncimjfhabChO
import Derived.BigQuiet
import Derived.Deep.QuietTactic
namespace Chn
open Go Flt Syl
/-- the product over the first 'k' parts of a set -/
def noP (cs : List Nat) (x : Int) : Nat → Nat
  | 0 => 1065353216
  | k + 1 => if partB x (k : Int) then mulC (noP cs x k) (cs.getD k 0) else noP cs x k
theorem noP_ok {cs : List Nat} (h : unis cs) (x : Int) : ∀ k, k ≤ cs.length → uni (noP cs x k)
  | 0, _ => .inl (Nat.le_refl 1065353216)
  | k + 1, hk => by
    unfold noP
    split
    · exact (mulC_ok (noP_ok h x k (by omega)) (unis_at h (by omega))).2
    · exact noP_ok h x k (by omega)
theorem noP_yes {cs : List Nat} (h : unis cs) {x : Int} {k : Nat} (hk : k < cs.length) (hp : partB x (k : Int) = true) : Go.floatBits .mul .f32 (noP cs x k) (cs.getD k 0) = some (noP cs x (k + 1)) := by
  have := (mulC_ok (noP_ok h x k (by omega)) (unis_at h hk)).1
  rw [this, noP, if_pos hp]
theorem noP_no {cs : List Nat} {x : Int} {k : Nat} (hp : partB x (k : Int) = false) : noP cs x (k + 1) = noP cs x k := by rw [noP, if_neg (by rw [hp]; decide)]
/-- the product over the first 'n' sets of 1 less these -/
def noS (zs : List Int) (cs : List Nat) : Nat → Nat
  | 0 => 1065353216
  | n + 1 => mulC (noS zs cs n) (subC 1065353216 (noP cs (zs.getD n 0) cs.length))
theorem noS_ok {cs : List Nat} (h : unis cs) (zs : List Int) : ∀ n, uni (noS zs cs n)
  | 0 => .inl (Nat.le_refl 1065353216)
  | n + 1 => (mulC_ok (noS_ok h zs n) (subC_ok (noP_ok h (zs.getD n 0) cs.length (Nat.le_refl _))).2).2
theorem noS_next {cs : List Nat} (h : unis cs) (zs : List Int) (n : Nat) : Go.floatBits .sub .f32 1065353216 (noP cs (zs.getD n 0) cs.length) = some (subC 1065353216 (noP cs (zs.getD n 0) cs.length)) ∧ Go.floatBits .mul .f32 (noS zs cs n) (subC 1065353216 (noP cs (zs.getD n 0) cs.length)) = some (noS zs cs (n + 1)) := by
  have h1 := subC_ok (noP_ok h (zs.getD n 0) cs.length (Nat.le_refl _))
  exact ⟨h1.1, (mulC_ok (noS_ok h zs n) h1.2).1⟩
/-- what is left of 1 -/
def oth (cs : List Nat) : List Nat := cs.map (subC 1065353216)
theorem oth_len (cs : List Nat) : (oth cs).length = cs.length := by simp [oth]
theorem oth_at {cs : List Nat} {k : Nat} (h : k < cs.length) : (oth cs).getD k 0 = subC 1065353216 (cs.getD k 0) := by simp [oth, List.getD, h]
theorem oth_unis {cs : List Nat} (h : unis cs) : unis (oth cs) := fun z hz => by
  obtain ⟨c, hc, rfl⟩ := List.mem_map.1 hz
  exact (subC_ok (h c hc)).2
/-- what both answer -/
def loV (p : Int) (zs : List Int) (cs : List Nat) : Nat := noS (cutL p zs) (oth cs) (cutL p zs).length
def hiV (zs : List Int) (cs : List Nat) : Nat := subC 1065353216 (noS zs cs zs.length)
def loA (p : Int) (zs : List Int) (cs : List Nat) : Nat := if hvB p zs cs then loV p zs cs else 0
def hiA (p : Int) (zs : List Int) (cs : List Nat) : Nat := if hvB p zs cs then hiV zs cs else 0
theorem loA_num {cs : List Nat} (hz : ∀ z ∈ cs, z < 4294967296) (p : Int) (zs : List Int) : nan .f32 (loA p zs cs) = false := by
  unfold loA
  cases h : hvB p zs cs with
  | false => exact (show nan .f32 0 = false by decide)
  | true => exact uni_num (noS_ok (oth_unis (chs_unis hz (hvB_parts h).2.2)) _ _)
theorem hiA_num {cs : List Nat} (hz : ∀ z ∈ cs, z < 4294967296) (p : Int) (zs : List Int) : nan .f32 (hiA p zs cs) = false := by
  unfold hiA
  cases h : hvB p zs cs with
  | false => exact (show nan .f32 0 = false by decide)
  | true => exact uni_num (subC_ok (noS_ok (chs_unis hz (hvB_parts h).2.2) _ _)).2
end Chn
namespace Go.Proofs.Ytbmgloncimjfhab
open Go.RowKit Go.Shelf Dec Flt Syl Sep Chn
set_option maxRecDepth 40000 in
set_option maxHeartbeats 4000000 in
theorem noneOf_any (a : Option Addr) (len cap : Nat) (zs : List Int) (b : Option Addr) (lb cb : Nat) (cs : List Nat) (w : World) (h : IRow w a len zs) (hc : FRow w b lb cs) (hu : unis cs) (hl : lb ≤ 10) :
    Calls Try.prog 76 #[.slice a len cap, .slice b lb cb] w fun e w' => e = .returned (.float .f32 (noS zs cs len)) ∧ w = w' := by
  have H := Lib.hid h
  have HC := Lib.hid hc
  have HU := Lib.hid hu
  have HLN := Lib.hid hc.1
  have hm : len ≤ 9223372036854775807 := by have := h.2.1; unfold maxLen at this; exact this
  clear h hc hu
  go_enter Try.func76, Try.ntmps76
  go_wp2_with fail
  go_loopg [5, 7, 8, 9, 10, 13] len (fun q i5 i7 i8 i9 i10 i13 wr => ∃ k : Nat, i13 = .int .i64 k ∧ i5 = .float .f32 (noS zs cs k) ∧ Hid (k + q = len) ∧ k ≤ len ∧ w = wr)
  case atStart => exact ⟨0, rfl, rfl, by show _ = _; omega, Nat.zero_le _, rfl⟩
  case round =>
    obtain ⟨k, rfl, rfl, hk, hkl, rfl⟩ := hrel
    by_cases hlt : k < len
    · obtain ⟨g0, o0, rfl, hb0, hc0⟩ := H.out.2.2.2 k hlt
      have HJ : Hid (k + 1 + (gk - 1) = len) := by have := hk.out; show _ = _; omega
      have HG : Hid (gk - 1 < gk) := by have := hk.out; show _ < _; omega
      obtain ⟨go, hgo⟩ : ∃ go, gk - 1 = go := ⟨_, rfl⟩
      rw [hgo] at HJ HG
      clear hgo
      have hnx := noS_next HU.out zs k
      rw [HLN.out] at hnx
      obtain ⟨x, hx⟩ : ∃ x, zs.getD k 0 = x := ⟨_, rfl⟩
      rw [hx] at hc0 hnx
      clear hx
      have hr0 : ∀ w, (binOp .sub 27 (.float .f32 1065353216) (.float .f32 (noP cs x lb))).run Try.prog w = .ok (.float .f32 (subC 1065353216 (noP cs x lb))) w := fun w => run_float_arith w .sub 27 .f32 _ _ _ hnx.1
      have hr1 : ∀ w, (binOp .mul 27 (.float .f32 (noS zs cs k)) (.float .f32 (subC 1065353216 (noP cs x lb)))).run Try.prog w = .ok (.float .f32 (noS zs cs (k + 1))) w := fun w => run_float_arith w .mul 27 .f32 _ _ _ hnx.2
      clear hnx
      go_wp2_with fail
      go_loopg [8, 9, 10, 19] lb (fun q2 i8 i9 i10 i19 wr2 => ∃ j : Nat, i19 = .int .i64 j ∧ i8 = .float .f32 (noP cs x j) ∧ Hid (j + q2 = lb) ∧ j ≤ lb ∧ w = wr2)
      case atStart => exact ⟨0, rfl, rfl, by show _ = _; omega, Nat.zero_le _, rfl⟩
      case round =>
        obtain ⟨j, rfl, rfl, hj, hjl, rfl⟩ := hrel
        by_cases hlt2 : j < lb
        · obtain ⟨gg, off, rfl, hbl, hc⟩ := HC.out.2.2.2 j hlt2
          have HJ2 : Hid (j + 1 + (gk - 1) = lb) := by have := hj.out; show _ = _; omega
          have HG2 : Hid (gk - 1 < gk) := by have := hj.out; show _ < _; omega
          cases hp : partB x (j : Int) with
          | true =>
            have hn := noP_yes HU.out (x := x) (k := j) (by rw [HLN.out]; exact hlt2) hp
            obtain ⟨z, hz0⟩ : ∃ z, cs.getD j 0 = z := ⟨_, rfl⟩
            rw [hz0] at hc hn
            clear hz0
            have hr2 : ∀ w, (binOp .mul 27 (.float .f32 (noP cs x j)) (.float .f32 z)).run Try.prog w = .ok (.float .f32 (noP cs x (j + 1))) w := fun w => run_float_arith w .mul 27 .f32 _ _ _ hn
            go_wp2_with fail
            refine (hasPart_any x j _ (by omega) (by omega)).mono ?_
            rintro e w1 ⟨rfl, rfl⟩
            rw [hp]
            go_wp2_with fail
            go_roundg (gk - 1)
            case measure => exact HG2.out
            case rel => exact ⟨j + 1, by go_num, rfl, HJ2, by omega, rfl⟩
          | false =>
            have HN := Lib.hid (noP_no (cs := cs) hp)
            obtain ⟨z, hz0⟩ : ∃ z, cs.getD j 0 = z := ⟨_, rfl⟩
            rw [hz0] at hc
            clear hz0
            go_wp2_with fail
            refine (hasPart_any x j _ (by omega) (by omega)).mono ?_
            rintro e w1 ⟨rfl, rfl⟩
            rw [hp]
            go_wp2_with fail
            go_roundg (gk - 1)
            case measure => exact HG2.out
            case rel => exact ⟨j + 1, by go_num, by rw [HN.out], HJ2, by omega, rfl⟩
        · obtain rfl : j = lb := by have := hj.out; omega
          clear hlt2
          go_wp2_with fail
          go_roundg go
          case measure => exact HG.out
          case rel => exact ⟨k + 1, by go_num, rfl, HJ, by omega, rfl⟩
    · obtain rfl : k = len := by have := hk.out; omega
      clear hlt
      go_wp2_with fail
      go_ret
      exact ⟨rfl, rfl⟩
set_option maxRecDepth 40000 in
set_option maxHeartbeats 4000000 in
theorem iChanceBounds_any (p : Int) (a : Option Addr) (len cap : Nat) (zs : List Int) (b : Option Addr) (lb cb : Nat) (cs : List Nat) (w : World) (h : IRow w a len zs) (hcf : FRow w b lb cs) (hcap : len ≤ cap) (_ : lb ≤ cb) :
    Calls Try.prog 24 #[.agg #[.int .i64 p, .slice a len cap], .slice b lb cb] w fun e w' => e = .returned (.tuple #[.float .f32 (loA p zs cs), .float .f32 (hiA p zs cs), .bool (hvB p zs cs)]) ∧ Below w.heap.size w w' := by
  have H := Lib.hid h
  have HC := Lib.hid hcf
  have HLN := Lib.hid hcf.1
  have HLZ := Lib.hid h.1
  clear h hcf
  go_enter Try.func24, Try.ntmps24
  go_wp2_with fail
  have b0 : Below w.heap.size w (w.alloc (.cells #[.int .i64 p, .slice a len cap] 30)) := (Below.refl _ _).alloc (Nat.le_refl _) _
  have k0 : SVar 30 (w.alloc (.cells #[.int .i64 p, .slice a len cap] 30)) w.heap.size p a len cap := Blk.Blk.new _ _ _
  refine (iCutsOf_any p a len cap zs _ (H.out.keep b0) hcap).mono ?_
  obtain ⟨cu, hcu⟩ : ∃ cu, cutA p zs = cu := ⟨_, rfl⟩
  obtain ⟨nc, hnc⟩ : ∃ nc, cu.length = nc := ⟨_, rfl⟩
  rw [hcu, hnc]
  have HCUE := Lib.hid hcu
  have HNC := Lib.hid hnc
  clear hcu hnc
  rintro e w1 ⟨⟨a1, c1, rfl, hr, _⟩, b1⟩
  have B1 := Lib.hid (b0.trans (b1.mono b0.size))
  have K1 := Lib.hid (k0.keep b1)
  have HR := Lib.hid hr
  clear b0 b1 k0 hr
  cases hs : sysB p zs with
  | false =>
    have HP : Hid (loA p zs cs = 0 ∧ hiA p zs cs = 0 ∧ hvB p zs cs = false) := by show _ ∧ _; unfold loA hiA hvB; rw [hs]; exact ⟨rfl, rfl, rfl⟩
    clear hs
    go_wp2_with fail
    go_ret3
    rw [HP.out.1, HP.out.2.1, HP.out.2.2]
    exact ⟨rfl, B1.out⟩
  | true =>
    have HCU : Hid (cu = cutL p zs) := by show _ = _; rw [← HCUE.out]; unfold cutA; rw [hs]; rfl
    clear hs
    obtain ⟨⟨v0, v1⟩, _, _⟩ := K1.out.two
    go_wp2_with fail
    refine (haveChances_any p a len cap zs b lb cb cs _ (H.out.keep B1.out) hcap (frow_keep HC.out B1.out)).mono ?_
    rintro e w2 ⟨rfl, b2⟩
    have B2 := Lib.hid (B1.out.trans (b2.mono B1.out.size))
    have K2 := Lib.hid (K1.out.keep b2)
    have HR2 := Lib.hid (HR.out.keep b2)
    clear b2 v0 v1
    cases hs : hvB p zs cs with
    | false =>
      have HP : Hid (loA p zs cs = 0 ∧ hiA p zs cs = 0 ∧ hvB p zs cs = false) := by show _ ∧ _; unfold loA hiA; rw [hs]; exact ⟨rfl, rfl, rfl⟩
      clear hs
      go_wp2_with fail
      go_ret3
      rw [HP.out.1, HP.out.2.1, HP.out.2.2]
      exact ⟨rfl, B2.out⟩
    | true =>
      have HP : Hid (loA p zs cs = loV p zs cs ∧ hiA p zs cs = hiV zs cs ∧ hvB p zs cs = true) := by show _ ∧ _; unfold loA hiA; rw [hs]; exact ⟨rfl, rfl, rfl⟩
      have hh := hvB_parts hs
      have hp := sysB_parts hh.1
      have HU := Lib.hid (chs_unis HC.out.2.2.1 hh.2.2)
      have hlen : lb ≤ 10 := by have := HC.out.1; omega
      have hmk : ∀ w, (Instr.makeSlice 25 (.int .i64 (lb : Int)) (.int .i64 (lb : Int))).run Try.prog w = .ok (.slice (some ⟨w.heap.size, 0, none⟩) lb lb) (w.alloc (.cells (cpy (oth cs) 0 lb) 27)) := by
        intro w
        obtain ⟨i, hi, hz0, hz1, hz2⟩ := info_parts (show (Try.prog.info? 27).map (fun i => (i.zero, i.size, i.bytes)) = some (some (.float .f32 0), 1, 4) by kernel_rfl)
        have := run_make (P := Try.prog) w 25 27 i (.float .f32 0) Try.underlying25 hi hz0 .i64 .i64 lb lb (by omega) (Int.le_refl _) (by rw [hz2]; omega) (by omega)
        rw [this, hz1, Int.toNat_natCast, cpy_made (oth cs) lb]
      have hzo : (oth cs).length = lb := by rw [oth_len, HLN.out]
      have HZO := Lib.hid hzo
      clear hs hh hzo
      go_wp2_with fail
      go_loopg [10, 11, 30] lb (fun q i10 i11 i wr => ∃ k : Nat, i = .int .i64 k ∧ Hid (k + q = lb) ∧ k ≤ lb ∧ w2.alloc (.cells (cpy (oth cs) k lb) 27) = wr)
      case atStart => exact ⟨0, rfl, by show _ = _; omega, Nat.zero_le _, rfl⟩
      case round =>
        obtain ⟨k, rfl, hk, hkl, rfl⟩ := hrel
        have b3 : Below w2.heap.size w2 (w2.alloc (.cells (cpy (oth cs) k lb) 27)) := (Below.refl _ _).alloc (Nat.le_refl _) _
        by_cases hlt : k < lb
        · obtain ⟨b', off, rfl, hb, hc⟩ := (frow_keep HC.out (B2.out.trans (b3.mono B2.out.size))).2.2.2 k hlt
          have hs := Lib.hid (cpy_set HZO.out hlt)
          have hold : (cpy (oth cs) k lb)[k]? = some (.float .f32 0) := by rw [cpy_get HZO.out (by omega) hlt, if_neg (by omega)]
          have hz := subC_ok (unis_at HU.out (k := k) (by rw [HLN.out]; exact hlt))
          rw [oth_at (by rw [HLN.out]; exact hlt)] at hs
          generalize cs.getD k 0 = z at *
          have hr0 : ∀ w, (binOp .sub 27 (.float .f32 1065353216) (.float .f32 z)).run Try.prog w = .ok (.float .f32 (subC 1065353216 z)) w := fun w => run_float_arith w .sub 27 .f32 _ _ _ hz.1
          have HJ : Hid (k + 1 + (gk - 1) = lb) := by have := hk.out; show _ = _; omega
          clear hz b3
          go_wp2_with fail
          go_roundg (gk - 1)
          case measure => have := hk.out; omega
          case rel => exact ⟨k + 1, by go_num, HJ, by omega, by rw [← hs.out]⟩
        · obtain rfl : k = lb := by have := hk.out; omega
          clear hlt
          have HMD : Hid (Made (w2.alloc (.cells (cpy (oth cs) k k) 27)) w2.heap.size k (oth cs)) := Lib.hid ⟨heap_alloc_new _ _, HZO.out⟩
          obtain ⟨w3, hw3⟩ : ∃ w3, w2.alloc (.cells (cpy (oth cs) k k) 27) = w3 := ⟨_, rfl⟩
          rw [hw3] at b3 HMD
          rw [hw3]
          clear hw3
          have B3 := Lib.hid (B2.out.trans (b3.mono B2.out.size))
          have K3 : Hid (SVar 30 w3.drew w.heap.size p a len cap) := Lib.hid ((K2.out.keep b3).keep ((Below.refl _ _).drew))
          have RC : Hid (∀ m, IRow (w3.drewN m) a1 nc cu) := Lib.hid fun m => (HR2.out.keep b3).keep (below_drewN (Below.refl _ _) m)
          have RO : Hid (∀ m, FRow (w3.drewN m) (some ⟨w2.heap.size, 0, none⟩) k (oth cs)) := Lib.hid fun m => frow_keep (made_row HMD.out (by omega) (fun z hz => uni_lt (oth_unis HU.out z hz))) (below_drewN (Below.refl _ _) m)
          have RZ : Hid (∀ m, IRow (w3.drewN m) a len zs) := Lib.hid fun m => (H.out.keep B3.out).keep (below_drewN (Below.refl _ _) m)
          have RF : Hid (∀ m, FRow (w3.drewN m) b k cs) := Lib.hid fun m => frow_keep (frow_keep HC.out B3.out) (below_drewN (Below.refl _ _) m)
          have hsb := subC_ok (noS_ok HU.out zs len)
          have hr0 : ∀ w, (binOp .sub 27 (.float .f32 1065353216) (.float .f32 (noS zs cs len))).run Try.prog w = .ok (.float .f32 (subC 1065353216 (noS zs cs len))) w := fun w => run_float_arith w .sub 27 .f32 _ _ _ hsb.1
          have S1 := Lib.hid K3.out.two
          have HOU := Lib.hid (oth_unis HU.out)
          clear b3 HMD hsb
          have hv0 : ∀ m, (w3.drewN m).cell? ⟨w.heap.size, 1, none⟩ = some (.slice a len cap) := fun _ => S1.out.1.2
          have hv1 : w3.drew.cell? ⟨w.heap.size, 1, none⟩ = some (.slice a len cap) := S1.out.1.2
          have hv2 : w3.cell? ⟨w.heap.size, 1, none⟩ = some (.slice a len cap) := S1.out.1.2
          go_wp2_with fail
          go_quiet ((first | (go_at_call_of 76 (Value.slice a1 nc c1); exact (noneOf_any a1 nc c1 cu (some ⟨w2.heap.size, 0, none⟩) k k (oth cs) _ (RC.out _) (RO.out _) HOU.out hlen).mono fun e w' ⟨h1, h2⟩ => ⟨h1, ⟨_, h2.symm⟩⟩) | (go_at_call_of 76 (Value.slice a len cap); exact (noneOf_any a len cap zs b k cb cs _ (RZ.out _) (RF.out _) HU.out hlen).mono fun e w' ⟨h1, h2⟩ => ⟨h1, ⟨_, h2.symm⟩⟩)))
          go_wp2_with fail
          go_ret3
          rw [HP.out.1, HP.out.2.1, HP.out.2.2]
          refine ⟨?_, by first | exact B3.out.drew | exact below_drewN B3.out _⟩
          unfold loV hiV
          rw [← HCU.out, HLZ.out, HNC.out]
          first | rfl | exact ⟨_, rfl⟩
set_option maxRecDepth 40000 in
set_option maxHeartbeats 8000000 in
theorem sChanceBounds_any (p : Int) (a : Option Addr) (len cap : Nat) (zs : List Int) (b : Option Addr) (lb cb : Nat) (cs : List Nat) (w : World) (h : IRow w a len zs) (hcf : FRow w b lb cs) :
    Calls Try.prog 23 #[.agg #[.int .i64 p, .slice a len cap], .slice b lb cb] w fun e w' => e = .returned (.tuple #[.float .f32 (loA p zs cs), .float .f32 (hiA p zs cs), .bool (hvB p zs cs)]) ∧ Below w.heap.size w w' := by
  have H := Lib.hid h
  have HC := Lib.hid hcf
  have HLN := Lib.hid hcf.1
  have HLZ := Lib.hid h.1
  have hm : len ≤ 9223372036854775807 := by have := h.2.1; unfold maxLen at this; exact this
  clear h hcf
  go_enter Try.func23, Try.ntmps23
  go_wp2_with fail
  have b0 : Below w.heap.size w (w.alloc (.cells #[.int .i64 p, .slice a len cap] 30)) := (Below.refl _ _).alloc (Nat.le_refl _) _
  have k0 : SVar 30 (w.alloc (.cells #[.int .i64 p, .slice a len cap] 30)) w.heap.size p a len cap := Blk.Blk.new _ _ _
  refine (specIs_any w.heap.size p a len cap zs _ k0 (H.out.keep b0)).mono ?_
  rintro e w1 ⟨rfl, d1⟩
  have B1 := Lib.hid (b0.trans (d1.below _))
  have K1 := Lib.hid (k0.keep (d1.below _))
  clear b0 d1 k0
  cases hs : sysB p zs with
  | false =>
    have HP : Hid (loA p zs cs = 0 ∧ hiA p zs cs = 0 ∧ hvB p zs cs = false) := by show _ ∧ _; unfold loA hiA hvB; rw [hs]; exact ⟨rfl, rfl, rfl⟩
    clear hs
    go_wp2_with fail
    go_ret3
    rw [HP.out.1, HP.out.2.1, HP.out.2.2]
    exact ⟨rfl, B1.out⟩
  | true =>
    have HE : Hid (hvB p zs cs = (decide ((cs.length : Int) = p) && chsB cs)) := by show _ = _; unfold hvB; rw [hs]; rfl
    have HSY := Lib.hid hs
    obtain ⟨⟨v0, v1⟩, _, _⟩ := K1.out.two
    clear hs
    go_wp2_with fail
    refine (specChances_any p b lb cb cs _ (frow_keep HC.out B1.out)).mono ?_
    rintro e w2 ⟨rfl, rfl⟩
    cases hq : (decide ((cs.length : Int) = p) && chsB cs) with
    | false =>
      have HP : Hid (loA p zs cs = 0 ∧ hiA p zs cs = 0 ∧ hvB p zs cs = false) := by show _ ∧ _; unfold loA hiA; rw [HE.out, hq]; exact ⟨rfl, rfl, rfl⟩
      clear hq
      go_wp2_with fail
      go_ret3
      rw [HP.out.1, HP.out.2.1, HP.out.2.2]
      exact ⟨rfl, B1.out⟩
    | true =>
      have HP : Hid (loA p zs cs = loV p zs cs ∧ hiA p zs cs = hiV zs cs ∧ hvB p zs cs = true) := by show _ ∧ _; unfold loA hiA; rw [HE.out, hq]; exact ⟨rfl, rfl, rfl⟩
      have hh := hvB_parts HP.out.2.2
      have HU := Lib.hid (chs_unis HC.out.2.2.1 hh.2.2)
      have HOU := Lib.hid (oth_unis HU.out)
      have hlen : lb ≤ 10 := by have := HC.out.1; have := sysB_parts hh.1; omega
      obtain ⟨cu, hcu⟩ : ∃ cu, cutL p zs = cu := ⟨_, rfl⟩
      obtain ⟨nc, hnc⟩ : ∃ nc, cu.length = nc := ⟨_, rfl⟩
      have HCU := Lib.hid hcu
      have HNC := Lib.hid hnc
      have hcb : ∀ z ∈ cu, 0 ≤ z ∧ z ≤ 1024 := fun z hz => by
        rw [← hcu] at hz
        have h1 := leastL_bd hz
        have h2 : 2 ^ p.toNat ≤ 2 ^ 10 := Nat.pow_le_pow_right (by decide) (by have := sysB_parts hh.1; omega)
        omega
      clear hq hh
      go_wp2_with fail
      have hct := specCuts_any w.heap.size p a len cap zs w1 K1.out (H.out.keep B1.out) HSY.out
      rw [hcu, hnc] at hct
      clear hcu hnc
      refine hct.mono ?_
      rintro e w3 ⟨⟨a1, c1, rfl, hr, _⟩, b3⟩
      have B3 := Lib.hid (B1.out.trans (b3.mono B1.out.size))
      have R1 := Lib.hid hr
      have R2 := Lib.hid (H.out.keep B3.out)
      have F3 := Lib.hid (frow_keep HC.out B3.out)
      obtain ⟨⟨u0, u1⟩, _, _⟩ := (K1.out.keep b3).two
      have hnm : nc ≤ 9223372036854775807 := by have := hr.2.1; unfold maxLen at this; exact this
      clear v0 v1 b3 hr hct
      go_wp2_with fail
      go_loopg [8, 9, 10, 11, 28] nc (fun q i5 i7 i8 i9 i13 wr => ∃ k : Nat, i13 = .int .i64 k ∧ i5 = .float .f32 (noS cu (oth cs) k) ∧ Hid (k + q = nc) ∧ k ≤ nc ∧ w3 = wr)
      case atStart => exact ⟨0, rfl, rfl, by show _ = _; omega, Nat.zero_le _, rfl⟩
      case round =>
        obtain ⟨k, rfl, rfl, hk, hkl, rfl⟩ := hrel
        by_cases hlt : k < nc
        · obtain ⟨g0, o0, rfl, hb0, hc0⟩ := R1.out.2.2.2 k hlt
          have HJ : Hid (k + 1 + (gk - 1) = nc) := by have := hk.out; show _ = _; omega
          have HG : Hid (gk - 1 < gk) := by have := hk.out; show _ < _; omega
          obtain ⟨go, hgo⟩ : ∃ go, gk - 1 = go := ⟨_, rfl⟩
          rw [hgo] at HJ HG
          clear hgo
          have hnx := noS_next HOU.out cu k
          rw [oth_len, HLN.out] at hnx
          obtain ⟨x, hx⟩ : ∃ x, cu.getD k 0 = x := ⟨_, rfl⟩
          rw [hx] at hc0 hnx
          clear hx
          have hr0 : ∀ w, (binOp .sub 27 (.float .f32 1065353216) (.float .f32 (noP (oth cs) x lb))).run Try.prog w = .ok (.float .f32 (subC 1065353216 (noP (oth cs) x lb))) w := fun w => run_float_arith w .sub 27 .f32 _ _ _ hnx.1
          have hr1 : ∀ w, (binOp .mul 27 (.float .f32 (noS cu (oth cs) k)) (.float .f32 (subC 1065353216 (noP (oth cs) x lb)))).run Try.prog w = .ok (.float .f32 (noS cu (oth cs) (k + 1))) w := fun w => run_float_arith w .mul 27 .f32 _ _ _ hnx.2
          clear hnx
          go_wp2_with fail
          go_loopg [10, 11, 33] lb (fun q2 i8 i9 i19 wr2 => ∃ j : Nat, i19 = .int .i64 j ∧ i8 = .float .f32 (noP (oth cs) x j) ∧ Hid (j + q2 = lb) ∧ j ≤ lb ∧ w3 = wr2)
          case atStart => exact ⟨0, rfl, rfl, by show _ = _; omega, Nat.zero_le _, rfl⟩
          case round =>
            obtain ⟨j, rfl, rfl, hj, hjl, rfl⟩ := hrel
            by_cases hlt2 : j < lb
            · obtain ⟨gg, off, rfl, hbl, hc⟩ := F3.out.2.2.2 j hlt2
              have HJ2 : Hid (j + 1 + (gk - 1) = lb) := by have := hj.out; show _ = _; omega
              have HG2 : Hid (gk - 1 < gk) := by have := hj.out; show _ < _; omega
              have hcv : IntKind.u64.wrap (j : Int) = j := by have : IntKind.u64.wrap (j : Int) = (j : Int) % 18446744073709551616 := rfl; omega
              cases hp : partB x (j : Int) with
              | true =>
                have hn := noP_yes HOU.out (x := x) (k := j) (by rw [oth_len, HLN.out]; exact hlt2) hp
                rw [oth_at (by rw [HLN.out]; exact hlt2)] at hn
                have hz := subC_ok (unis_at HU.out (k := j) (by rw [HLN.out]; exact hlt2))
                obtain ⟨z, hz0⟩ : ∃ z, cs.getD j 0 = z := ⟨_, rfl⟩
                rw [hz0] at hc hn hz
                clear hz0
                have hr3 : ∀ w, (binOp .sub 27 (.float .f32 1065353216) (.float .f32 z)).run Try.prog w = .ok (.float .f32 (subC 1065353216 z)) w := fun w => run_float_arith w .sub 27 .f32 _ _ _ hz.1
                have hr2 : ∀ w, (binOp .mul 27 (.float .f32 (noP (oth cs) x j)) (.float .f32 (subC 1065353216 z))).run Try.prog w = .ok (.float .f32 (noP (oth cs) x (j + 1))) w := fun w => run_float_arith w .mul 27 .f32 _ _ _ hn
                unfold partB at hp
                rw [Int.toNat_natCast] at hp
                go_wp2_with fail
                go_roundg (gk - 1)
                case measure => exact HG2.out
                case rel => exact ⟨j + 1, by go_num, rfl, HJ2, by omega, rfl⟩
              | false =>
                have HN := Lib.hid (noP_no (cs := oth cs) hp)
                unfold partB at hp
                rw [Int.toNat_natCast] at hp
                go_wp2_with fail
                go_roundg (gk - 1)
                case measure => exact HG2.out
                case rel => exact ⟨j + 1, by go_num, by rw [HN.out], HJ2, by omega, rfl⟩
            · obtain rfl : j = lb := by have := hj.out; omega
              clear hlt2
              go_wp2_with fail
              go_roundg go
              case measure => exact HG.out
              case rel => exact ⟨k + 1, by go_num, rfl, HJ, by omega, rfl⟩
        · obtain rfl : k = nc := by have := hk.out; omega
          clear hlt
          go_wp2_with fail
          go_loopg [12, 13, 14, 15, 61] len (fun q i5 i7 i8 i9 i13 wr => ∃ k : Nat, i13 = .int .i64 k ∧ i5 = .float .f32 (noS zs cs k) ∧ Hid (k + q = len) ∧ k ≤ len ∧ w3 = wr)
          case atStart => exact ⟨0, rfl, rfl, by show _ = _; omega, Nat.zero_le _, rfl⟩
          case round =>
            obtain ⟨i, rfl, rfl, hk, hkl, rfl⟩ := hrel
            by_cases hlt : i < len
            · obtain ⟨g0, o0, rfl, hb0, hc0⟩ := R2.out.2.2.2 i hlt
              have HJ : Hid (i + 1 + (gk - 1) = len) := by have := hk.out; show _ = _; omega
              have HG : Hid (gk - 1 < gk) := by have := hk.out; show _ < _; omega
              obtain ⟨go, hgo⟩ : ∃ go, gk - 1 = go := ⟨_, rfl⟩
              rw [hgo] at HJ HG
              clear hgo
              have hnx := noS_next HU.out zs i
              rw [HLN.out] at hnx
              obtain ⟨x, hx⟩ : ∃ x, zs.getD i 0 = x := ⟨_, rfl⟩
              rw [hx] at hc0 hnx
              clear hx
              have hr0 : ∀ w, (binOp .sub 27 (.float .f32 1065353216) (.float .f32 (noP cs x lb))).run Try.prog w = .ok (.float .f32 (subC 1065353216 (noP cs x lb))) w := fun w => run_float_arith w .sub 27 .f32 _ _ _ hnx.1
              have hr1 : ∀ w, (binOp .mul 27 (.float .f32 (noS zs cs i)) (.float .f32 (subC 1065353216 (noP cs x lb)))).run Try.prog w = .ok (.float .f32 (noS zs cs (i + 1))) w := fun w => run_float_arith w .mul 27 .f32 _ _ _ hnx.2
              clear hnx
              go_wp2_with fail
              go_loopg [14, 15, 66] lb (fun q2 i8 i9 i19 wr2 => ∃ j : Nat, i19 = .int .i64 j ∧ i8 = .float .f32 (noP cs x j) ∧ Hid (j + q2 = lb) ∧ j ≤ lb ∧ w3 = wr2)
              case atStart => exact ⟨0, rfl, rfl, by show _ = _; omega, Nat.zero_le _, rfl⟩
              case round =>
                obtain ⟨j, rfl, rfl, hj, hjl, rfl⟩ := hrel
                by_cases hlt2 : j < lb
                · obtain ⟨gg, off, rfl, hbl, hc⟩ := F3.out.2.2.2 j hlt2
                  have HJ2 : Hid (j + 1 + (gk - 1) = lb) := by have := hj.out; show _ = _; omega
                  have HG2 : Hid (gk - 1 < gk) := by have := hj.out; show _ < _; omega
                  have hcv : IntKind.u64.wrap (j : Int) = j := by have : IntKind.u64.wrap (j : Int) = (j : Int) % 18446744073709551616 := rfl; omega
                  cases hp : partB x (j : Int) with
                  | true =>
                    have hn := noP_yes HU.out (x := x) (k := j) (by rw [HLN.out]; exact hlt2) hp
                    obtain ⟨z, hz0⟩ : ∃ z, cs.getD j 0 = z := ⟨_, rfl⟩
                    rw [hz0] at hc hn
                    clear hz0
                    have hr2 : ∀ w, (binOp .mul 27 (.float .f32 (noP cs x j)) (.float .f32 z)).run Try.prog w = .ok (.float .f32 (noP cs x (j + 1))) w := fun w => run_float_arith w .mul 27 .f32 _ _ _ hn
                    unfold partB at hp
                    rw [Int.toNat_natCast] at hp
                    go_wp2_with fail
                    go_roundg (gk - 1)
                    case measure => exact HG2.out
                    case rel => exact ⟨j + 1, by go_num, rfl, HJ2, by omega, rfl⟩
                  | false =>
                    have HN := Lib.hid (noP_no (cs := cs) hp)
                    unfold partB at hp
                    rw [Int.toNat_natCast] at hp
                    go_wp2_with fail
                    go_roundg (gk - 1)
                    case measure => exact HG2.out
                    case rel => exact ⟨j + 1, by go_num, by rw [HN.out], HJ2, by omega, rfl⟩
                · obtain rfl : j = lb := by have := hj.out; omega
                  clear hlt2
                  go_wp2_with fail
                  go_roundg go
                  case measure => exact HG.out
                  case rel => exact ⟨i + 1, by go_num, rfl, HJ, by omega, rfl⟩
            · obtain rfl : i = len := by have := hk.out; omega
              have hsb := subC_ok (noS_ok HU.out zs i)
              have hr0 : ∀ w, (binOp .sub 27 (.float .f32 1065353216) (.float .f32 (noS zs cs i))).run Try.prog w = .ok (.float .f32 (subC 1065353216 (noS zs cs i))) w := fun w => run_float_arith w .sub 27 .f32 _ _ _ hsb.1
              clear hlt hsb
              go_wp2_with fail
              go_ret3
              rw [HP.out.1, HP.out.2.1, HP.out.2.2]
              refine ⟨?_, B3.out⟩
              unfold loV hiV
              rw [HCU.out, HNC.out, HLZ.out]
              first | rfl | exact ⟨_, rfl⟩
end Go.Proofs.Ytbmgloncimjfhab
