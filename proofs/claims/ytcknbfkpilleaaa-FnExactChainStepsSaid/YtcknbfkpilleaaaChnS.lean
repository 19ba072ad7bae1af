/-
  Whether chains are the same, and whether one is valid: contracts of both. Conditions: the lists read as lists of 32-bit numbers.
-/
import Derived.Test.YtcknbfkpilleaaaChnW
import Derived.Test.YtcknbfkpilleaaaCmW
import Derived.Deep.QuietTactic
import Derived.BigQuiet
import Derived.IntWalk
namespace Cha
open Go Flt Cm
def sameL (zs ys : List Nat) : Bool := decide (zs.length = ys.length) && (List.range zs.length).all fun k => sameB (zs.getD k 0) (ys.getD k 0)
theorem sameL_len {zs ys : List Nat} (h : zs.length ≠ ys.length) : sameL zs ys = false := by unfold sameL; rw [decide_eq_false h, Bool.false_and]
theorem sameL_no {zs ys : List Nat} {k : Nat} (hk : k < zs.length) (h : sameB (zs.getD k 0) (ys.getD k 0) = false) : sameL zs ys = false := by
  have : ((List.range zs.length).all fun k => sameB (zs.getD k 0) (ys.getD k 0)) = false := by
    rw [List.all_eq_false]
    exact ⟨k, List.mem_range.2 hk, by rw [h]; decide⟩
  unfold sameL; rw [this, Bool.and_false]
theorem sameL_yes {zs ys : List Nat} (hl : zs.length = ys.length) (h : ∀ k, k < zs.length → sameB (zs.getD k 0) (ys.getD k 0) = true) : sameL zs ys = true := by
  have : ((List.range zs.length).all fun k => sameB (zs.getD k 0) (ys.getD k 0)) = true := List.all_eq_true.2 fun k hk => h k (List.mem_range.1 hk)
  unfold sameL; rw [this, decide_eq_true hl]; rfl
/-- whether two chains are the same -/
def chEq (p : Int) (zs : List Nat) (q : Int) (ys : List Nat) : Bool := decide (p = q) && sameL zs ys
/-- whether a rate may stand at a place -/
def midB (p : Int) (k : Nat) : Bool := ((k : Int) % (p + 1) == 0)
def rateB (p : Int) (zs : List Nat) (k : Nat) : Bool := nng (zs.getD k 0) && !(midB p k && (FloatKind.f32.format.order (zs.getD k 0) 0 != some .eq))
/-- whether a chain is valid -/
def chB (p : Int) (zs : List Nat) : Bool := decide (1 ≤ p ∧ p ≤ 8) && (decide ((zs.length : Int) = p * p) && (List.range zs.length).all (rateB p zs))
theorem chB_p {p : Int} {zs : List Nat} (h : ¬ (1 ≤ p ∧ p ≤ 8)) : chB p zs = false := by unfold chB; rw [decide_eq_false h, Bool.false_and]
theorem chB_len {p : Int} {zs : List Nat} (h : (zs.length : Int) ≠ p * p) : chB p zs = false := by unfold chB; rw [decide_eq_false h, Bool.false_and, Bool.and_false]
theorem chB_no {p : Int} {zs : List Nat} {k : Nat} (hk : k < zs.length) (h : rateB p zs k = false) : chB p zs = false := by
  have : (List.range zs.length).all (rateB p zs) = false := by
    rw [List.all_eq_false]
    exact ⟨k, List.mem_range.2 hk, by rw [h]; decide⟩
  unfold chB; rw [this, Bool.and_false, Bool.and_false]
theorem chB_yes {p : Int} {zs : List Nat} (h1 : 1 ≤ p ∧ p ≤ 8) (h2 : (zs.length : Int) = p * p) (h : ∀ k, k < zs.length → rateB p zs k = true) : chB p zs = true := by
  have : (List.range zs.length).all (rateB p zs) = true := List.all_eq_true.2 fun k hk => h k (List.mem_range.1 hk)
  unfold chB; rw [this, decide_eq_true h1, decide_eq_true h2]; rfl
theorem sq_bd {p : Int} (h : 1 ≤ p ∧ p ≤ 8) : 1 ≤ p * p ∧ p * p ≤ 64 := by
  obtain ⟨h1, h2⟩ := h
  have : p = 1 ∨ p = 2 ∨ p = 3 ∨ p = 4 ∨ p = 5 ∨ p = 6 ∨ p = 7 ∨ p = 8 := by omega
  rcases this with rfl | rfl | rfl | rfl | rfl | rfl | rfl | rfl <;> decide
end Cha
namespace Go.Proofs.Ytcknbfkpilleaaa
open Go.RowKit Dec Flt Syl Sep Cha Cm Liv
set_option maxHeartbeats 1600000 in
theorem sameAll_any (a b : Option Addr) (len len' c1 c2 : Nat) (zs ys : List Nat) (w : World) (h1 : FRow w a len zs) (h2 : FRow w b len' ys) :
    Calls Try.prog 92 #[.slice a len c1, .slice b len' c2] w fun e w' => e = .returned (.bool (sameL zs ys)) ∧ Drawn w w' := by
  have r1 := Lib.hid h1
  have r2 := Lib.hid h2
  have hm : len ≤ 9223372036854775807 := by have := h1.2.1; unfold maxLen at this; exact this
  have hm' : len' ≤ 9223372036854775807 := by have := h2.2.1; unfold maxLen at this; exact this
  clear h1 h2
  by_cases hl : len = len'
  · subst hl
    clear hm'
    go_enter Try.func92, Try.ntmps92
    go_wp2_with fail
    go_loopg [5] len (fun n i wr => ∃ k : Nat, i = .int .i64 k ∧ Hid (k + n = len) ∧ k ≤ len ∧ Hid (Drawn w wr) ∧ Hid (∀ j, j < k → sameB (zs.getD j 0) (ys.getD j 0) = true))
    case atStart => exact ⟨0, rfl, by show _ = _; omega, Nat.zero_le _, Drawn.refl _, fun j hj => absurd hj (Nat.not_lt_zero _)⟩
    case round =>
      obtain ⟨k, rfl, hk, hkl, hd, hN⟩ := hrel
      by_cases hlt : k < len
      · obtain ⟨g1, o1, rfl, _, e1⟩ := (r1.out.keep (hd.out.below _)).2.2.2 k hlt
        obtain ⟨g2, o2, rfl, _, e2⟩ := (r2.out.keep (hd.out.below _)).2.2.2 k hlt
        have HJ : Hid (k + 1 + (gk - 1) = len) := by have := hk.out; show _ = _; omega
        have HG : Hid (gk - 1 < gk) := by have := hk.out; show _ < _; omega
        have HX1 : Hid (zs.getD k 0 < 4294967296) := r1.out.2.2.1 _ (by simp [List.getD, r1.out.1, hlt])
        have HX2 : Hid (ys.getD k 0 < 4294967296) := r2.out.2.2.1 _ (by simp [List.getD, r2.out.1, hlt])
        obtain ⟨x, hx⟩ : ∃ x, zs.getD k 0 = x := ⟨_, rfl⟩
        obtain ⟨y, hy⟩ : ∃ y, ys.getD k 0 = y := ⟨_, rfl⟩
        rw [hx] at e1 HX1
        rw [hy] at e2 HX2
        have HX : Hid (zs.getD k 0 = x ∧ ys.getD k 0 = y) := ⟨hx, hy⟩
        have hc1 : ∀ m, (wr.drewN m).cell? ⟨g1, o1 + k, none⟩ = some (.float .f32 x) := fun _ => e1
        have hc2 : ∀ m, (wr.drewN m).cell? ⟨g2, o2 + k, none⟩ = some (.float .f32 y) := fun _ => e2
        clear hx hy e1 e2
        cases hxy : sameB x y with
        | true =>
          have HS := Lib.hid hxy
          clear hxy
          go_wp2_with fail
          go_quiet ((go_at_call 110; exact Calls.quiet_of_same ((l01Same_any x y _ HX1.out HX2.out).mono fun e w' ⟨h1, h2⟩ => ⟨h1.trans (by rw [HS.out]), h2.symm⟩)))
          go_wp2_with fail
          go_roundg (gk - 1)
          case measure => exact HG.out
          case rel =>
            refine ⟨k + 1, by go_num, HJ, by omega, hd.out.trans ⟨_, rfl⟩, (show Hid _ from fun j hj => ?_)⟩
            by_cases e : j = k
            · subst e; rw [HX.out.1, HX.out.2]; exact HS.out
            · exact hN.out j (by omega)
        | false =>
          have HS := Lib.hid hxy
          have HR := Lib.hid (sameL_no (zs := zs) (ys := ys) (k := k) (by rw [r1.out.1]; exact hlt) (by rw [HX.out.1, HX.out.2]; exact hxy))
          clear hxy
          go_wp2_with fail
          go_quiet ((go_at_call 110; exact Calls.quiet_of_same ((l01Same_any x y _ HX1.out HX2.out).mono fun e w' ⟨h1, h2⟩ => ⟨h1.trans (by rw [HS.out]), h2.symm⟩)))
          go_wp2_with fail
          go_ret
          exact ⟨congrArg (fun b => Ending.returned (.bool b)) HR.out.symm, hd.out.trans ⟨_, rfl⟩⟩
      · obtain rfl : k = len := by have := hk.out; omega
        have HS := Lib.hid (sameL_yes (zs := zs) (ys := ys) (by rw [r1.out.1, r2.out.1]) (by rw [r1.out.1]; exact hN.out))
        clear hlt
        go_wp2_with fail
        go_ret
        exact ⟨congrArg (fun b => Ending.returned (.bool b)) HS.out.symm, hd.out⟩
  · have HS := Lib.hid (sameL_len (zs := zs) (ys := ys) (by rw [r1.out.1, r2.out.1]; exact hl))
    have hne : ((len : Int) != (len' : Int)) = true := by simp; omega
    clear hl
    go_enter Try.func92, Try.ntmps92
    go_wp2_with fail
    go_ret
    exact ⟨congrArg (fun b => Ending.returned (.bool b)) HS.out.symm, Drawn.refl _⟩
set_option maxHeartbeats 1600000 in
theorem equalFunc_any (a b : Option Addr) (len len' c1 c2 : Nat) (zs ys : List Nat) (w : World) (h1 : FRow w a len zs) (h2 : FRow w b len' ys) :
    Calls Try.prog 58 #[.slice a len c1, .slice b len' c2, .func (.func 59) #[] #[]] w fun e w' => e = .returned (.bool (sameL zs ys)) ∧ w = w' := by
  have r1 := Lib.hid h1
  have r2 := Lib.hid h2
  have eg : ∀ args w, (callFunc 59 args).run Try.prog w = .ok (.enter 59 args) w := by intro args w; kernel_rfl
  have hm : len ≤ 9223372036854775807 := by have := h1.2.1; unfold maxLen at this; exact this
  have hm' : len' ≤ 9223372036854775807 := by have := h2.2.1; unfold maxLen at this; exact this
  clear h1 h2
  by_cases hl : len = len'
  · subst hl
    clear hm'
    go_enter Try.func58, Try.ntmps58
    go_wp2_with fail
    go_loopg [17] len (fun n i wr => ∃ k : Nat, i = .int .i64 k ∧ Hid (k + n = len) ∧ k ≤ len ∧ w = wr ∧ Hid (∀ j, j < k → sameB (zs.getD j 0) (ys.getD j 0) = true))
    case atStart => exact ⟨0, rfl, by show _ = _; omega, Nat.zero_le _, rfl, fun j hj => absurd hj (Nat.not_lt_zero _)⟩
    case round =>
      obtain ⟨k, rfl, hk, hkl, rfl, hN⟩ := hrel
      by_cases hlt : k < len
      · obtain ⟨g1, o1, rfl, _, e1⟩ := r1.out.2.2.2 k hlt
        obtain ⟨g2, o2, rfl, _, e2⟩ := r2.out.2.2.2 k hlt
        have HJ : Hid (k + 1 + (gk - 1) = len) := by have := hk.out; show _ = _; omega
        have HG : Hid (gk - 1 < gk) := by have := hk.out; show _ < _; omega
        have HX1 : Hid (zs.getD k 0 < 4294967296) := r1.out.2.2.1 _ (by simp [List.getD, r1.out.1, hlt])
        have HX2 : Hid (ys.getD k 0 < 4294967296) := r2.out.2.2.1 _ (by simp [List.getD, r2.out.1, hlt])
        obtain ⟨x, hx⟩ : ∃ x, zs.getD k 0 = x := ⟨_, rfl⟩
        obtain ⟨y, hy⟩ : ∃ y, ys.getD k 0 = y := ⟨_, rfl⟩
        rw [hx] at e1 HX1
        rw [hy] at e2 HX2
        have HX : Hid (zs.getD k 0 = x ∧ ys.getD k 0 = y) := ⟨hx, hy⟩
        clear hx hy
        cases hxy : sameB x y with
        | true =>
          have HS := Lib.hid hxy
          clear hxy
          go_wp2_with fail
          refine (implSame_any x y _ HX1.out HX2.out).mono ?_
          rintro e w1 ⟨rfl, rfl⟩
          rw [HS.out]
          go_wp2_with fail
          go_roundg (gk - 1)
          case measure => exact HG.out
          case rel =>
            refine ⟨k + 1, by go_num, HJ, by omega, rfl, (show Hid _ from fun j hj => ?_)⟩
            by_cases e : j = k
            · subst e; rw [HX.out.1, HX.out.2]; exact HS.out
            · exact hN.out j (by omega)
        | false =>
          have HS := Lib.hid hxy
          have HR := Lib.hid (sameL_no (zs := zs) (ys := ys) (k := k) (by rw [r1.out.1]; exact hlt) (by rw [HX.out.1, HX.out.2]; exact hxy))
          clear hxy
          go_wp2_with fail
          refine (implSame_any x y _ HX1.out HX2.out).mono ?_
          rintro e w1 ⟨rfl, rfl⟩
          rw [HS.out]
          go_wp2_with fail
          go_ret
          exact ⟨congrArg (fun b => Ending.returned (.bool b)) HR.out.symm, rfl⟩
      · obtain rfl : k = len := by have := hk.out; omega
        have HS := Lib.hid (sameL_yes (zs := zs) (ys := ys) (by rw [r1.out.1, r2.out.1]) (by rw [r1.out.1]; exact hN.out))
        clear hlt
        go_wp2_with fail
        go_ret
        exact ⟨congrArg (fun b => Ending.returned (.bool b)) HS.out.symm, rfl⟩
  · have HS := Lib.hid (sameL_len (zs := zs) (ys := ys) (by rw [r1.out.1, r2.out.1]; exact hl))
    have hne : ((len : Int) != (len' : Int)) = true := by simp; omega
    clear hl
    go_enter Try.func58, Try.ntmps58
    go_wp2_with fail
    go_ret
    exact ⟨congrArg (fun b => Ending.returned (.bool b)) HS.out.symm, rfl⟩
set_option maxHeartbeats 1600000 in
theorem iSameChain_any (p : Int) (a : Option Addr) (len cap : Nat) (zs : List Nat) (q : Int) (b : Option Addr) (len' cap' : Nat) (ys : List Nat) (w : World) (h1 : FRow w a len zs) (h2 : FRow w b len' ys) (_ : len ≤ cap) (_ : len' ≤ cap') :
    Calls Try.prog 21 #[.agg #[.int .i64 p, .slice a len cap], .agg #[.int .i64 q, .slice b len' cap']] w fun e w' => e = .returned (.bool (chEq p zs q ys)) ∧ Below w.heap.size w w' := by
  have H1 := Lib.hid h1
  have H2 := Lib.hid h2
  clear h1 h2
  by_cases hpq : p = q
  · subst hpq
    have HS : Hid (chEq p zs p ys = sameL zs ys) := by show _ = _; unfold chEq; simp
    have hx : (p == p) = true := by simp
    go_enter Try.func21, Try.ntmps21
    go_wp2_with fail
    have b0 : Below w.heap.size w ((w.alloc (.cells #[.int .i64 p, .slice a len cap] 27)).alloc (.cells #[.int .i64 p, .slice b len' cap'] 27)) := ((Below.refl _ _).alloc (Nat.le_refl _) _).alloc (by simp) _
    refine (equalFunc_any a b len len' cap cap' zs ys _ (H1.out.keep b0) (H2.out.keep b0)).mono ?_
    rintro e w1 ⟨rfl, rfl⟩
    have B1 := Lib.hid b0
    clear b0
    go_wp2_with fail
    go_ret
    exact ⟨congrArg (fun b => Ending.returned (.bool b)) HS.out.symm, B1.out⟩
  · have HS : Hid (chEq p zs q ys = false) := by show _ = _; unfold chEq; rw [decide_eq_false hpq, Bool.false_and]
    have hx : (p == q) = false := by simpa using hpq
    clear hpq
    go_enter Try.func21, Try.ntmps21
    go_wp2_with fail
    go_ret
    exact ⟨congrArg (fun b => Ending.returned (.bool b)) HS.out.symm, ((Below.refl _ _).alloc (Nat.le_refl _) _).alloc (by simp) _⟩
set_option maxHeartbeats 1600000 in
theorem l04Same_any (g1 g2 : Nat) (p : Int) (a : Option Addr) (len cap : Nat) (zs : List Nat) (q : Int) (b : Option Addr) (len' cap' : Nat) (ys : List Nat) (w : World) (hv1 : CVar 27 w g1 p a len cap) (hv2 : CVar 27 w g2 q b len' cap') (h1 : FRow w a len zs) (h2 : FRow w b len' ys) :
    Calls Try.prog 57 #[.pointer (some ⟨g1, 0, none⟩), .pointer (some ⟨g2, 0, none⟩)] w fun e w' => e = .returned (.bool (chEq p zs q ys)) ∧ ∃ n, w' = w.drewN n := by
  have V1 := Lib.hid hv1
  have V2 := Lib.hid hv2
  have H1 : Hid (∀ m, FRow (w.drewN m) a len zs) := Lib.hid fun m => h1
  have H2 : Hid (∀ m, FRow (w.drewN m) b len' ys) := Lib.hid fun m => h2
  have c1 : ∀ m, (w.drewN m).cell? ⟨g1, 0, none⟩ = some (.int .i64 p) := fun m => (V1.out.two).1.1
  have c2 : ∀ m, (w.drewN m).cell? ⟨g1, 1, none⟩ = some (.slice a len cap) := fun m => (V1.out.two).1.2
  have c3 : ∀ m, (w.drewN m).cell? ⟨g2, 0, none⟩ = some (.int .i64 q) := fun m => (V2.out.two).1.1
  have c4 : ∀ m, (w.drewN m).cell? ⟨g2, 1, none⟩ = some (.slice b len' cap') := fun m => (V2.out.two).1.2
  clear hv1 hv2 h1 h2
  by_cases hpq : p = q
  · subst hpq
    have HS : Hid (chEq p zs p ys = sameL zs ys) := by show _ = _; unfold chEq; simp
    have hx : (p == p) = true := by simp
    obtain ⟨bv, hbv⟩ : ∃ bv, sameL zs ys = bv := ⟨_, rfl⟩
    have HB := Lib.hid hbv
    clear hbv
    go_enter Try.func57, Try.ntmps57
    go_wp2_with fail
    go_quiet ((go_at_call 92; exact (sameAll_any a b len len' cap cap' zs ys _ (H1.out _) (H2.out _)).mono fun e w' ⟨h1, ⟨n, h2⟩⟩ => ⟨h1.trans (by rw [HB.out]), ⟨_, h2.trans (Flt.drewN_drewN _ _ _)⟩⟩))
    go_wp2_with fail
    go_ret
    exact ⟨congrArg (fun b => Ending.returned (.bool b)) (by rw [HS.out, HB.out]), _, rfl⟩
  · have HS : Hid (chEq p zs q ys = false) := by show _ = _; unfold chEq; rw [decide_eq_false hpq, Bool.false_and]
    have hx : (p == q) = false := by simpa using hpq
    clear hpq
    go_enter Try.func57, Try.ntmps57
    go_wp2_with fail
    go_quiet (fail)
    go_wp2_with fail
    go_ret
    exact ⟨congrArg (fun b => Ending.returned (.bool b)) HS.out.symm, _, rfl⟩
theorem sSameChain_any (p : Int) (a : Option Addr) (len cap : Nat) (zs : List Nat) (q : Int) (b : Option Addr) (len' cap' : Nat) (ys : List Nat) (w : World) (h1 : FRow w a len zs) (h2 : FRow w b len' ys) :
    Calls Try.prog 20 #[.agg #[.int .i64 p, .slice a len cap], .agg #[.int .i64 q, .slice b len' cap']] w fun e w' => e = .returned (.bool (chEq p zs q ys)) ∧ Below w.heap.size w w' := by
  have H1 := Lib.hid h1
  have H2 := Lib.hid h2
  clear h1 h2
  go_enter Try.func20, Try.ntmps20
  go_wp2_with fail
  have b0 : Below w.heap.size w ((w.alloc (.cells #[.int .i64 p, .slice a len cap] 27)).alloc (.cells #[.int .i64 q, .slice b len' cap'] 27)) := ((Below.refl _ _).alloc (Nat.le_refl _) _).alloc (by simp) _
  have k1 : Blk.Blk ((w.alloc (.cells #[.int .i64 p, .slice a len cap] 27)).alloc (.cells #[.int .i64 q, .slice b len' cap'] 27)) w.heap.size [.int .i64 p, .slice a len cap] 27 := (Blk.Blk.new w #[.int .i64 p, .slice a len cap] 27).alloc _
  have k2 : Blk.Blk ((w.alloc (.cells #[.int .i64 p, .slice a len cap] 27)).alloc (.cells #[.int .i64 q, .slice b len' cap'] 27)) (w.heap.size + 1) [.int .i64 q, .slice b len' cap'] 27 := by
    have := Blk.Blk.new (w.alloc (.cells #[.int .i64 p, .slice a len cap] 27)) #[.int .i64 q, .slice b len' cap'] 27
    rw [World.size_alloc] at this
    exact this
  refine (l04Same_any _ _ p a len cap zs q b len' cap' ys _ k1 k2 (H1.out.keep b0) (H2.out.keep b0)).mono ?_
  rintro e w1 ⟨rfl, n, rfl⟩
  have B1 := Lib.hid (below_drewN b0 n)
  clear b0 k1 k2
  go_wp2_with fail
  go_ret
  exact ⟨rfl, B1.out⟩
end Go.Proofs.Ytcknbfkpilleaaa
