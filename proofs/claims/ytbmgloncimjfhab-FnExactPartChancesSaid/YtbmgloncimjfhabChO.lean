/-
  Contracts: ChanceOf and SharedShock, in the program and in its model. Conditions: the lists read as lists of numbers.
-/
import Derived.Test.YtbmgloncimjfhabChS
import Derived.Test.YtbmgloncimjfhabEqW
namespace Chn
open Go Flt Syl
def chV (p : Int) (zs : List Int) (cs : List Nat) : Nat := suS cs (2 ^ p.toNat) (worksB zs) (2 ^ p.toNat)
def chA (p : Int) (zs : List Int) (cs : List Nat) : Nat := if hvB p zs cs then chV p zs cs else 0
theorem hvB_parts {p : Int} {zs : List Int} {cs : List Nat} (h : hvB p zs cs = true) : sysB p zs = true ∧ (cs.length : Int) = p ∧ chsB cs = true := by
  unfold hvB at h
  simp only [Bool.and_eq_true, decide_eq_true_eq] at h
  exact h
theorem chA_num {cs : List Nat} (hz : ∀ z ∈ cs, z < 4294967296) (p : Int) (zs : List Int) : nan .f32 (chA p zs cs) = false := by
  unfold chA
  cases h : hvB p zs cs with
  | false => exact (show nan .f32 0 = false by decide)
  | true => exact (suC_num (chs_unis hz (hvB_parts h).2.2) _).1
theorem chV_num {cs : List Nat} (hu : unis cs) (p : Int) (zs : List Int) : nan .f32 (chV p zs cs) = false ∧ chV p zs cs < 4294967296 := suC_num hu _
end Chn
namespace Go.Proofs.Ytbmgloncimjfhab
open Go.RowKit Go.Shelf Dec Flt Syl Sep Chn
set_option maxRecDepth 20000 in
set_option maxHeartbeats 1600000 in
theorem iChanceOf_any (p : Int) (a : Option Addr) (len cap : Nat) (zs : List Int) (b : Option Addr) (lb cb : Nat) (cs : List Nat) (w : World) (h : IRow w a len zs) (hcf : FRow w b lb cs) (hcap : len ≤ cap) (_ : lb ≤ cb) :
    Calls Try.prog 19 #[.agg #[.int .i64 p, .slice a len cap], .slice b lb cb] w fun e w' => e = .returned (.tuple #[.float .f32 (chA p zs cs), .bool (hvB p zs cs)]) ∧ Below w.heap.size w w' := by
  have H := Lib.hid h
  have HC := Lib.hid hcf
  clear h hcf
  go_enter Try.func19, Try.ntmps19
  go_wp2_with fail
  have b0 : Below w.heap.size w (w.alloc (.cells #[.int .i64 p, .slice a len cap] 30)) := (Below.refl _ _).alloc (Nat.le_refl _) _
  have k0 : SVar 30 (w.alloc (.cells #[.int .i64 p, .slice a len cap] 30)) w.heap.size p a len cap := Blk.Blk.new _ _ _
  refine (haveChances_any p a len cap zs b lb cb cs _ (H.out.keep b0) hcap (frow_keep HC.out b0)).mono ?_
  rintro e w1 ⟨rfl, b1⟩
  have B1 := Lib.hid (b0.trans (b1.mono b0.size))
  have K1 := Lib.hid (k0.keep b1)
  clear b0 b1 k0
  cases hs : hvB p zs cs with
  | false =>
    have HP : Hid (chA p zs cs = 0 ∧ hvB p zs cs = false) := by show _ ∧ _; unfold chA; rw [hs]; exact ⟨rfl, rfl⟩
    clear hs
    go_wp2_with fail
    go_ret2
    rw [HP.out.1, HP.out.2]
    exact ⟨rfl, B1.out⟩
  | true =>
    have HP : Hid (chA p zs cs = chV p zs cs ∧ hvB p zs cs = true) := by show _ ∧ _; unfold chA; rw [hs]; exact ⟨rfl, rfl⟩
    have hh := hvB_parts hs
    have hp := sysB_parts hh.1
    have hu := chs_unis HC.out.2.2.1 hh.2.2
    have hlen : lb ≤ 10 := by have := HC.out.1; omega
    obtain ⟨pn, rfl⟩ : ∃ pn : Nat, p = pn := ⟨p.toNat, by omega⟩
    obtain ⟨⟨v0, v1⟩, _, _⟩ := K1.out.two
    have HU := Lib.hid hu
    clear hs hh hu
    go_wp2_with fail
    refine (sumOf_any pn (2 ^ pn) rfl a len cap zs b lb cb cs _ (H.out.keep B1.out) (frow_keep HC.out B1.out) HU.out (by omega) (by omega) hlen).mono ?_
    rintro e w2 ⟨rfl, b2⟩
    have B2 := Lib.hid (B1.out.trans (b2.mono B1.out.size))
    clear b2 v0 v1
    go_wp2_with fail
    go_ret2
    rw [HP.out.1, HP.out.2]
    unfold chV
    rw [Int.toNat_natCast]
    exact ⟨rfl, B2.out⟩
set_option maxRecDepth 20000 in
set_option maxHeartbeats 1600000 in
theorem sChanceOf_any (p : Int) (a : Option Addr) (len cap : Nat) (zs : List Int) (b : Option Addr) (lb cb : Nat) (cs : List Nat) (w : World) (h : IRow w a len zs) (hcf : FRow w b lb cs) :
    Calls Try.prog 16 #[.agg #[.int .i64 p, .slice a len cap], .slice b lb cb] w fun e w' => e = .returned (.tuple #[.float .f32 (chA p zs cs), .bool (hvB p zs cs)]) ∧ Below w.heap.size w w' := by
  have H := Lib.hid h
  have HC := Lib.hid hcf
  clear h hcf
  go_enter Try.func16, Try.ntmps16
  go_wp2_with fail
  have b0 : Below w.heap.size w (w.alloc (.cells #[.int .i64 p, .slice a len cap] 30)) := (Below.refl _ _).alloc (Nat.le_refl _) _
  have k0 : SVar 30 (w.alloc (.cells #[.int .i64 p, .slice a len cap] 30)) w.heap.size p a len cap := Blk.Blk.new _ _ _
  refine (specIs_any w.heap.size p a len cap zs _ k0 (H.out.keep b0)).mono ?_
  rintro e w1 ⟨rfl, d1⟩
  have B1 := Lib.hid (b0.trans (d1.below _))
  have K1 := Lib.hid (k0.keep (d1.below _))
  clear b0 d1 k0
  cases hs : sysB p zs with
  | false =>
    have HP : Hid (chA p zs cs = 0 ∧ hvB p zs cs = false) := by show _ ∧ _; unfold chA hvB; rw [hs]; exact ⟨rfl, rfl⟩
    clear hs
    go_wp2_with fail
    go_ret2
    rw [HP.out.1, HP.out.2]
    exact ⟨rfl, B1.out⟩
  | true =>
    have HE : Hid (hvB p zs cs = (decide ((cs.length : Int) = p) && chsB cs)) := by show _ = _; unfold hvB; rw [hs]; rfl
    obtain ⟨⟨v0, v1⟩, _, _⟩ := K1.out.two
    have HSY := Lib.hid hs
    clear hs
    go_wp2_with fail
    refine (specChances_any p b lb cb cs _ (frow_keep HC.out B1.out)).mono ?_
    rintro e w2 ⟨rfl, rfl⟩
    cases hq : (decide ((cs.length : Int) = p) && chsB cs) with
    | false =>
      have HP : Hid (chA p zs cs = 0 ∧ hvB p zs cs = false) := by show _ ∧ _; unfold chA; rw [HE.out, hq]; exact ⟨rfl, rfl⟩
      clear hq
      go_wp2_with fail
      go_ret2
      rw [HP.out.1, HP.out.2]
      exact ⟨rfl, B1.out⟩
    | true =>
      have HP : Hid (chA p zs cs = chV p zs cs ∧ hvB p zs cs = true) := by show _ ∧ _; unfold chA; rw [HE.out, hq]; exact ⟨rfl, rfl⟩
      have hh := hvB_parts HP.out.2
      have hp := sysB_parts hh.1
      have hu := chs_unis HC.out.2.2.1 hh.2.2
      have hlen : lb ≤ 10 := by have := HC.out.1; omega
      obtain ⟨pn, rfl⟩ : ∃ pn : Nat, p = pn := ⟨p.toNat, by omega⟩
      have HU := Lib.hid hu
      clear hq hh hu
      go_wp2_with fail
      refine (specChance_any w.heap.size pn (2 ^ pn) rfl a len cap zs b lb cb cs _ K1.out (H.out.keep B1.out) (frow_keep HC.out B1.out) HU.out (by omega) (by omega) hlen).mono ?_
      rintro e w3 ⟨rfl, d3⟩
      have B3 := Lib.hid (B1.out.trans (d3.below _))
      clear d3 v0 v1
      go_wp2_with fail
      go_ret2
      rw [HP.out.1, HP.out.2]
      unfold chV
      rw [Int.toNat_natCast]
      exact ⟨rfl, B3.out⟩
theorem _root_.Flt.FRow.keep {w w' : World} {a : Option Addr} {len : Nat} {zs : List Nat} (h : FRow w a len zs) (hb : Below w.heap.size w w') : FRow w' a len zs := frow_keep h hb
theorem eqFl_any (a b : Option Addr) (len c1 c2 : Nat) (zs : List Nat) (w : World) (h1 : FRow w a len zs) (h2 : FRow w b len zs) (hn : len ≤ 1048576) :
    Calls Try.prog 22 #[.slice a len c1, .slice b len c2] w fun e w' => e = .returned (.bool true) ∧ Below w.heap.size w w' := (eqF32_any a b len c1 c2 zs w h1 h2 hn).mono fun _ _ h => ⟨h.1, h.2.below _⟩
theorem samF_any (v : Nat) (w : World) (hn : nan .f32 v = false) :
    Calls Try.prog 20 #[.float .f64 (W v), .float .f64 (W v)] w fun e w' => e = .returned (.bool true) ∧ Below w.heap.size w w' := by
  have hw : Wide v (W v) := ⟨W_lt v, by rw [if_neg (by rw [hn]; decide)]⟩
  refine (same_wide v (W v) (W v) hw hw w).mono fun _ _ h => ⟨h.1, ?_⟩
  rw [← h.2]; exact Below.refl _ _
theorem conv_num (v : Nat) (hn : nan .f32 v = false) : ∀ w, (convert 27 34 (.float .f32 v)).run Try.prog w = .ok (.float .f64 (W v)) w := fun w => by
  have := widen_run v w
  rw [if_neg (by rw [hn]; decide), if_neg (by rw [hn]; decide)] at this
  exact this
end Go.Proofs.Ytbmgloncimjfhab
