/-
  The source of choices: contracts of its methods. Conditions: the source lies in a block of its own, its bytes below it.
-/
import Derived.Test.YtfmicahibmpjmaaDoorByteW
import Derived.Test.YtfmicahibmpjmaaDoorSlW
import Derived.Deep.DeepMust
import Derived.WalkSpells
import Derived.Laws.AppendOwn
import Derived.BigQuiet
import Derived.Deep.LoopGhost
import Derived.WalkSmall
namespace Flt
open Go
/-- a source of choices in a block: its bytes, how many were taken, at most 'K', and its seed -/
def Src (w : World) (g : Nat) (a : Option Addr) (len cap K : Nat) : Prop := ∃ (T : TypeId) (n : Nat) (seed : Int), n ≤ K ∧ 0 ≤ seed ∧ seed < 18446744073709551616 ∧ w.heap[g]? = some (.cells #[.slice a len cap, .int .i64 n, .int .u64 seed] T (0, 0))
theorem Src.lt {w : World} {g : Nat} {a : Option Addr} {len cap K : Nat} (h : Src w g a len cap K) : g < w.heap.size := by
  obtain ⟨T, n, s, _, _, _, h⟩ := h
  refine Nat.lt_of_not_le fun hle => ?_
  rw [Array.getElem?_eq_none hle] at h; cases h
theorem Src.more {w : World} {g : Nat} {a : Option Addr} {len cap K L : Nat} (h : Src w g a len cap K) (hk : K ≤ L) : Src w g a len cap L := by
  obtain ⟨T, n, s, h1, h2, h3, h⟩ := h
  exact ⟨T, n, s, by omega, h2, h3, h⟩
theorem Src.grown {w w' : World} {g : Nat} {a : Option Addr} {len cap K : Nat} {row : Option Nat} (h : Src w g a len cap K) (hg : w.grownBy w' row) (hne : row ≠ some g) : Src w' g a len cap K := by
  have hl := h.lt
  obtain ⟨T, n, s, h1, h2, h3, h⟩ := h
  exact ⟨T, n, s, h1, h2, h3, by rw [hg.block g hl (fun e => hne e.symm)]; exact h⟩
theorem BRow.grown {w w' : World} {a : Option Addr} {len : Nat} {zs : List Nat} {row : Nat} (h : BRow w a len zs) (hg : w.grownBy w' (some row)) (hne : 0 < len → ∀ b off, a = some ⟨b, off, none⟩ → b ≠ row) : BRow w' a len zs := by
  obtain ⟨h1, h2, h3, h4⟩ := h
  refine ⟨h1, h2, h3, fun i hi => ?_⟩
  obtain ⟨b, off, e, hlt, hc⟩ := h4 i hi
  exact ⟨b, off, e, Nat.lt_of_lt_of_le hlt hg.size, hg.cell hc (by intro e2; exact hne (by omega) b off e (Option.some.inj e2))⟩
theorem src_step {w : World} {g : Nat} {a : Option Addr} {len cap K : Nat} {T : TypeId} {n : Nat} {seed : Int} (hh : w.heap[g]? = some (.cells #[.slice a len cap, .int .i64 n, .int .u64 seed] T (0, 0))) (hn : n ≤ K) (m q : Nat) (x : Int) :
    Src ((((w.drewN m).setCell ⟨g, 1, none⟩ (.int .i64 ((n : Int) + 1))).setCell ⟨g, 2, none⟩ (.int .u64 (IntKind.u64.wrap x))).drewN q) g a len cap (K + 1) ∧
    w.grownBy ((((w.drewN m).setCell ⟨g, 1, none⟩ (.int .i64 ((n : Int) + 1))).setCell ⟨g, 2, none⟩ (.int .u64 (IntKind.u64.wrap x))).drewN q) (some g) := by
  have e1 := heap_setCell_same (w.drewN m) g 1 _ T (.int .i64 ((n : Int) + 1)) hh
  have e2 := heap_setCell_same ((w.drewN m).setCell ⟨g, 1, none⟩ (.int .i64 ((n : Int) + 1))) g 2 _ T (.int .u64 (IntKind.u64.wrap x)) e1
  refine ⟨⟨T, n + 1, IntKind.u64.wrap x, by omega, by rw [IntKind.wrap_u64]; omega, by rw [IntKind.wrap_u64]; omega, ?_⟩, rfl, rfl, rfl, ?_, fun i _ hne => ?_⟩
  · show ((((w.drewN m).setCell ⟨g, 1, none⟩ (.int .i64 ((n : Int) + 1))).setCell ⟨g, 2, none⟩ (.int .u64 (IntKind.u64.wrap x)))).heap[g]? = _
    rw [e2]
    simp
  · simp
  · have hig : i ≠ g := fun e => hne (by rw [e])
    show ((((w.drewN m).setCell ⟨g, 1, none⟩ (.int .i64 ((n : Int) + 1))).setCell ⟨g, 2, none⟩ (.int .u64 (IntKind.u64.wrap x)))).heap[i]? = _
    rw [heap_setCell_other, heap_setCell_other]
    · rfl
    · exact hig
    · exact hig
theorem u64_and255 (n : Int) : bits .and .u64 n 255 = n % 256 := by
  have h15 : (BitVec.ofInt 64 255).toNat = 2 ^ 8 - 1 := by decide
  have key : (BitVec.ofInt 64 n &&& BitVec.ofInt 64 255).toNat = (n % ((2 ^ 64 : Nat) : Int)).toNat % 2 ^ 8 := by
    rw [BitVec.toNat_and, BitVec.toNat_ofInt, h15, Nat.and_two_pow_sub_one_eq_mod]
  show IntKind.u64.wrap ((BitVec.ofInt 64 n &&& BitVec.ofInt 64 255).toNat : Nat) = n % 256
  rw [key, IntKind.wrap_u64]
  omega
theorem low255 (y : Int) : ∃ b : Nat, b < 256 ∧ Go.RowKit.wrap64 (bits .and .u64 y 255) = b := by
  refine ⟨(y % 256).toNat, by omega, ?_⟩
  rw [u64_and255]
  unfold Go.RowKit.wrap64
  omega
end Flt
namespace Go.Proofs.YtfmicahibmpjmaaDoor
open Go.RowKit Flt
set_option maxRecDepth 20000 in
set_option maxHeartbeats 1600000 in
theorem next_any (g : Nat) (a : Option Addr) (len cap K : Nat) (zs : List Nat) (w : World) (hK : K ≤ 1048576) (hS : Src w g a len cap K) (hR : BRow w a len zs) (hg : 0 < len → ∀ b off, a = some ⟨b, off, none⟩ → b ≠ g) :
    Calls Tryd.prog 72 #[.pointer (some ⟨g, 0, none⟩)] w fun e w' => ∃ b : Nat, b < 256 ∧ e = .returned (.int .i64 b) ∧ Src w' g a len cap (K + 1) ∧ w.grownBy w' (some g) := by
  obtain ⟨T, n, seed, h1, h2, h3, hh⟩ := hS
  have hmax : len ≤ 9223372036854775807 := by have := hR.2.1; unfold maxLen at this; exact this
  have c0 : w.cell? ⟨g, 0, none⟩ = some (.slice a len cap) := by unfold World.cell?; simp [hh]
  have c1 : w.cell? ⟨g, 1, none⟩ = some (.int .i64 n) := by unfold World.cell?; simp [hh]
  have c2 : w.cell? ⟨g, 2, none⟩ = some (.int .u64 seed) := by unfold World.cell?; simp [hh]
  have f1 : ∀ j, w.frozen? ⟨g, j, none⟩ = false := by intro j; unfold World.frozen?; simp [hh]
  have HH := Lib.hid hh
  by_cases hlt : n < len
  · obtain ⟨b, off, rfl, _, hc⟩ := hR.2.2.2 n hlt
    have hz := hR.bd hlt
    generalize zs.getD n 0 = z at *
    clear hh hR
    go_enter Tryd.func72, Tryd.ntmps72
    go_wp2_with fail
    go_quiet (fail)
    go_wp2_with fail
    go_quiet (fail)
    go_wp2_with fail
    go_quiet (fail)
    go_wp2_with fail
    go_ret
    exact ⟨z, hz, rfl, src_step HH.out h1 _ _ _⟩
  · have hlt2 : ¬ (n : Int) + 1 ≤ (len : Int) := by omega
    clear hh hR
    go_enter Tryd.func72, Tryd.ntmps72
    go_wp2_with fail
    go_quiet (fail)
    go_wp2_with fail
    go_quiet (fail)
    go_wp2_with fail
    obtain ⟨b, hb, he⟩ := low255 (IntKind.u64.wrap (IntKind.u64.wrap (IntKind.u64.wrap (seed * 6364136223846793005)) + 1442695040888963407) / 1099511627776)
    go_ret
    exact ⟨b, hb, by rw [← he] <;> rfl, src_step HH.out h1 _ _ _⟩
set_option maxRecDepth 20000 in
set_option maxHeartbeats 1600000 in
theorem pick_any (n : Nat) (hn : 2 ≤ n) (hn2 : n ≤ 1048576) (g : Nat) (a : Option Addr) (len cap K : Nat) (zs : List Nat) (w : World) (hK : K ≤ 1048000) (hS : Src w g a len cap K) (hR : BRow w a len zs) (hg : 0 < len → ∀ b off, a = some ⟨b, off, none⟩ → b ≠ g) :
    Calls Tryd.prog 40 #[.pointer (some ⟨g, 0, none⟩), .int .i64 n] w fun e w' => ∃ v : Nat, v < n ∧ e = .returned (.int .i64 v) ∧ Src w' g a len cap (K + 2) ∧ w.grownBy w' (some g) := by
  have H1 := Lib.hid (next_any g a len cap K zs w (by omega) hS hR hg)
  have H2 : Hid (∀ w', Src w' g a len cap (K + 1) → w.grownBy w' (some g) → Calls Tryd.prog 72 #[.pointer (some ⟨g, 0, none⟩)] w' fun e w'' => ∃ b : Nat, b < 256 ∧ e = .returned (.int .i64 b) ∧ Src w'' g a len cap (K + 2) ∧ w'.grownBy w'' (some g)) :=
    fun w' h1 h2 => next_any g a len cap (K + 1) zs w' (by omega) h1 (hR.grown h2 hg) hg
  have hn0 : ¬ (n : Int) ≤ 1 := by omega
  clear hS hR hg
  by_cases h200 : n ≤ 200
  · have h201 : ¬ (200 : Int) < (n : Int) := by omega
    go_enter Tryd.func40, Tryd.ntmps40
    go_wp2_with fail
    refine H1.out.mono ?_
    rintro e w1 ⟨x, hx, rfl, hS1, hg1⟩
    have HM : Hid ((x : Int).tmod (n : Int) = ((x % n : Nat) : Int)) := (Int.ofNat_tmod x n).symm
    have HS1 := Lib.hid (hS1.more (Nat.le_succ _))
    have HG1 := Lib.hid hg1
    have hm := HM.out
    have hlt : x % n < n := Nat.mod_lt _ (by omega)
    clear hS1 hg1
    generalize x % n = v at *
    go_wp2_with fail
    go_ret
    exact ⟨v, hlt, rfl, HS1.out, HG1.out⟩
  · have h201 : (200 : Int) < (n : Int) := by omega
    go_enter Tryd.func40, Tryd.ntmps40
    go_wp2_with fail
    refine H1.out.mono ?_
    rintro e w1 ⟨x, hx, rfl, hS1, hg1⟩
    have HS1 := Lib.hid hS1
    have HG1 := Lib.hid hg1
    clear hS1 hg1
    go_wp2_with fail
    refine (H2.out w1 HS1.out HG1.out).mono ?_
    rintro e w2 ⟨y, hy, rfl, hS2, hg2⟩
    have hm : ((x : Int) * 256 + (y : Int)).tmod (n : Int) = (((x * 256 + y) % n : Nat) : Int) := by
      have := (Int.ofNat_tmod (x * 256 + y) n).symm
      simpa using this
    have HS2 := Lib.hid hS2
    have HG2 := Lib.hid (HG1.out.trans hg2)
    have hlt : (x * 256 + y) % n < n := Nat.mod_lt _ (by omega)
    clear hS2 hg2
    generalize (x * 256 + y) % n = v at *
    go_wp2_with fail
    go_ret
    exact ⟨v, hlt, rfl, HS2.out, HG2.out⟩
theorem one_any (n : Nat) (hn : 2 ≤ n) (hn2 : n ≤ 1048576) (g : Nat) (a : Option Addr) (len cap K : Nat) (zs : List Nat) (w : World) (hK : K ≤ 1048000) (hS : Src w g a len cap K) (hR : BRow w a len zs) (hg : 0 < len → ∀ b off, a = some ⟨b, off, none⟩ → b ≠ g) :
    Calls Tryd.prog 39 #[.pointer (some ⟨g, 0, none⟩), .int .i64 n] w fun e w' => ∃ q : Bool, e = .returned (.bool q) ∧ Src w' g a len cap (K + 2) ∧ w.grownBy w' (some g) := by
  have H1 := Lib.hid (pick_any n hn hn2 g a len cap K zs w hK hS hR hg)
  clear hS hR hg
  go_enter Tryd.func39, Tryd.ntmps39
  go_wp2_with fail
  refine H1.out.mono ?_
  rintro e w1 ⟨v, hv, rfl, hS1, hg1⟩
  have HS1 := Lib.hid hS1
  have HG1 := Lib.hid hg1
  clear hS1 hg1
  go_wp2_with fail
  go_ret
  exact ⟨_, rfl, HS1.out, HG1.out⟩
theorem among_any (f : Nat → Int) (b2 l2 c2 : Nat) (hl : 2 ≤ l2) (hl2 : l2 ≤ 1000) (g : Nat) (a : Option Addr) (len cap K : Nat) (zs : List Nat) (w : World) (hK : K ≤ 1048000) (hS : Src w g a len cap K) (hR : BRow w a len zs) (hg : 0 < len → ∀ b off, a = some ⟨b, off, none⟩ → b ≠ g)
    (hb : b2 ≠ g) (hL : ∀ j, j < l2 → w.cell? ⟨b2, j, none⟩ = some (.int .i64 (f j))) :
    Calls Tryd.prog 74 #[.pointer (some ⟨g, 0, none⟩), .slice (some ⟨b2, 0, none⟩) l2 c2] w fun e w' => ∃ j : Nat, j < l2 ∧ e = .returned (.int .i64 (f j)) ∧ Src w' g a len cap (K + 2) ∧ w.grownBy w' (some g) := by
  have H1 := Lib.hid (pick_any l2 hl (by omega) g a len cap K zs w hK hS hR hg)
  have HL := Lib.hid hL
  clear hS hR hg hL
  go_enter Tryd.func74, Tryd.ntmps74
  go_wp2_with fail
  refine H1.out.mono ?_
  rintro e w1 ⟨v, hv, rfl, hS1, hg1⟩
  have hc := hg1.cell (HL.out v hv) (by intro e; exact hb (Option.some.inj e))
  have HS1 := Lib.hid hS1
  have HG1 := Lib.hid hg1
  clear hS1 hg1
  go_wp2_with fail
  go_ret
  exact ⟨v, hv, rfl, HS1.out, HG1.out⟩
theorem from_any (a : Option Addr) (len cap : Nat) (w : World) : Calls Tryd.prog 38 #[.slice a len cap] w fun e w' => e = .returned (.pointer (some ⟨w.heap.size, 0, none⟩)) ∧ Src w' w.heap.size a len cap 0 ∧ Below w.heap.size w w' ∧ w'.heap.size = w.heap.size + 1 := by
  go_enter Tryd.func38, Tryd.ntmps38
  go_wp2_with fail
  go_ret
  refine ⟨rfl, ⟨_, 0, 0, Nat.le_refl _, Int.le_refl _, by decide, heap_alloc_new w _⟩, (Below.refl _ _).alloc (Nat.le_refl _) _, by simp⟩
end Go.Proofs.YtfmicahibmpjmaaDoor
