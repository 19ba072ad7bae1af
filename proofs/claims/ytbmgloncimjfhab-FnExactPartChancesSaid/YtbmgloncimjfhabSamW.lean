/-
  Contracts: whether two lists of whole numbers, and two systems, are the same; whether a system works with a set. Conditions: the lists read as lists of whole numbers.
-/
import Derived.Test.YtbmgloncimjfhabSpcW
namespace Syl
open Go Dec
theorem list_ne {zs ys : List Int} {k : Nat} (h : zs.getD k 0 ≠ ys.getD k 0) : decide (zs = ys) = false := decide_eq_false (fun e => h (by rw [e]))
theorem list_eq {zs ys : List Int} {n : Nat} (h1 : zs.length = n) (h2 : ys.length = n) (h : ∀ k, k < n → zs.getD k 0 = ys.getD k 0) : decide (zs = ys) = true := by
  refine decide_eq_true (List.ext_getElem (h1.trans h2.symm) fun i hi hj => ?_)
  have := h i (by omega)
  rw [show zs.getD i 0 = zs[i] from by simp [List.getD, hi], show ys.getD i 0 = ys[i] from by simp [List.getD, hj]] at this
  exact this
theorem list_len {zs ys : List Int} (h : zs.length ≠ ys.length) : decide (zs = ys) = false := decide_eq_false (fun e => h (by rw [e]))
/-- whether two systems are the same -/
def sysEq (p : Int) (zs : List Int) (q : Int) (ys : List Int) : Bool := decide (p = q) && decide (zs = ys)
end Syl
namespace Go.Proofs.Ytbmgloncimjfhab
open Go.RowKit Dec Flt Syl Sep
set_option maxHeartbeats 1600000 in
theorem equalI_any (a b : Option Addr) (len len' c1 c2 : Nat) (zs ys : List Int) (w : World) (h1 : IRow w a len zs) (h2 : IRow w b len' ys) :
    Calls Try.prog 124 #[.slice a len c1, .slice b len' c2] w fun e w' => e = .returned (.bool (decide (zs = ys))) ∧ Below w.heap.size w w' := by
  have r1 := Lib.hid h1
  have r2 := Lib.hid h2
  have hm : len ≤ 9223372036854775807 := by have := h1.2.1; unfold maxLen at this; exact this
  have hm' : len' ≤ 9223372036854775807 := by have := h2.2.1; unfold maxLen at this; exact this
  clear h1 h2
  by_cases hl : len = len'
  · subst hl
    clear hm'
    go_enter Try.func124, Try.ntmps124
    go_wp2_with fail
    go_loopg [5, 13] len (fun n i5 i wr => ∃ k : Nat, i = .int .i64 k ∧ Hid (k + n = len) ∧ k ≤ len ∧ Hid (Below w.heap.size w wr) ∧ Hid (∀ j, j < k → zs.getD j 0 = ys.getD j 0))
    case atStart => exact ⟨0, rfl, by show _ = _; omega, Nat.zero_le _, Below.refl _ _, fun j hj => absurd hj (Nat.not_lt_zero _)⟩
    case round =>
      obtain ⟨k, rfl, hk, hkl, hd, hN⟩ := hrel
      by_cases hlt : k < len
      · obtain ⟨g1, o1, rfl, _, e1⟩ := (r1.out.keep hd.out).2.2.2 k hlt
        obtain ⟨g2, o2, rfl, _, e2⟩ := (r2.out.keep hd.out).2.2.2 k hlt
        have HJ : Hid (k + 1 + (gk - 1) = len) := by have := hk.out; show _ = _; omega
        have HG : Hid (gk - 1 < gk) := by have := hk.out; show _ < _; omega
        obtain ⟨x, hx⟩ : ∃ x, zs.getD k 0 = x := ⟨_, rfl⟩
        obtain ⟨y, hy⟩ : ∃ y, ys.getD k 0 = y := ⟨_, rfl⟩
        rw [hx] at e1
        rw [hy] at e2
        have HX : Hid (zs.getD k 0 = x ∧ ys.getD k 0 = y) := ⟨hx, hy⟩
        have HB : Hid (∀ n, Below w.heap.size w (wr.drewN n)) := fun n => below_drewN hd.out n
        clear hx hy
        by_cases hxy : x = y
        · subst hxy
          have hne : (x != x) = false := by simp
          go_wp2_with fail
          go_quiet (fail)
          go_wp2_with fail
          go_roundg (gk - 1)
          case measure => exact HG.out
          case rel =>
            refine ⟨k + 1, by go_num, HJ, by omega, HB.out _, (show Hid _ from fun j hj => ?_)⟩
            by_cases e : j = k
            · subst e; rw [HX.out.1, HX.out.2]
            · exact hN.out j (by omega)
        · have hne : (x != y) = true := by simpa using hxy
          have HS := Lib.hid (list_ne (zs := zs) (ys := ys) (k := k) (by rw [HX.out.1, HX.out.2]; exact hxy))
          clear hxy
          go_wp2_with fail
          go_quiet (fail)
          go_wp2_with fail
          go_ret
          exact ⟨congrArg (fun b => Ending.returned (.bool b)) HS.out.symm, HB.out _⟩
      · obtain rfl : k = len := by have := hk.out; omega
        have HS := Lib.hid (list_eq r1.out.1 r2.out.1 hN.out)
        clear hlt
        go_wp2_with fail
        go_ret
        exact ⟨congrArg (fun b => Ending.returned (.bool b)) HS.out.symm, hd.out⟩
  · have HS := Lib.hid (list_len (zs := zs) (ys := ys) (by rw [r1.out.1, r2.out.1]; exact hl))
    have hne : ((len : Int) != (len' : Int)) = true := by simp; omega
    clear hl
    go_enter Try.func124, Try.ntmps124
    go_wp2_with fail
    go_ret
    exact ⟨congrArg (fun b => Ending.returned (.bool b)) HS.out.symm, Below.refl _ _⟩
set_option maxHeartbeats 1600000 in
theorem iSameSystem_any (p : Int) (a : Option Addr) (len cap : Nat) (zs : List Int) (q : Int) (b : Option Addr) (len' cap' : Nat) (ys : List Int) (w : World) (h1 : IRow w a len zs) (h2 : IRow w b len' ys) (_ : len ≤ cap) (_ : len' ≤ cap') :
    Calls Try.prog 63 #[.agg #[.int .i64 p, .slice a len cap], .agg #[.int .i64 q, .slice b len' cap']] w fun e w' => e = .returned (.bool (sysEq p zs q ys)) ∧ Below w.heap.size w w' := by
  have H1 := Lib.hid h1
  have H2 := Lib.hid h2
  clear h1 h2
  by_cases hpq : p = q
  · subst hpq
    have HS : Hid (sysEq p zs p ys = decide (zs = ys)) := by show _ = _; unfold sysEq; simp
    have hx : (p == p) = true := by simp
    go_enter Try.func63, Try.ntmps63
    go_wp2_with fail
    have b0 : Below w.heap.size w ((w.alloc (.cells #[.int .i64 p, .slice a len cap] 30)).alloc (.cells #[.int .i64 p, .slice b len' cap'] 30)) := ((Below.refl _ _).alloc (Nat.le_refl _) _).alloc (by simp) _
    refine (equalI_any a b len len' cap cap' zs ys _ (H1.out.keep b0) (H2.out.keep b0)).mono ?_
    rintro e w1 ⟨rfl, b1⟩
    have B1 := Lib.hid (b0.trans (b1.mono b0.size))
    clear b0 b1
    go_wp2_with fail
    go_ret
    exact ⟨congrArg (fun b => Ending.returned (.bool b)) HS.out.symm, B1.out⟩
  · have HS : Hid (sysEq p zs q ys = false) := by show _ = _; unfold sysEq; rw [decide_eq_false hpq, Bool.false_and]
    have hx : (p == q) = false := by simpa using hpq
    clear hpq
    go_enter Try.func63, Try.ntmps63
    go_wp2_with fail
    go_ret
    exact ⟨congrArg (fun b => Ending.returned (.bool b)) HS.out.symm, ((Below.refl _ _).alloc (Nat.le_refl _) _).alloc (by simp) _⟩
set_option maxHeartbeats 1600000 in
theorem iWorksWith_any (p : Int) (a : Option Addr) (len cap : Nat) (zs : List Int) (s : Int) (w : World) (h : IRow w a len zs) (hcap : len ≤ cap) :
    Calls Try.prog 65 #[.agg #[.int .i64 p, .slice a len cap], .int .i64 s] w fun e w' => e = .returned (.tuple #[.bool (sysB p zs && (setB p s && worksB zs s)), .bool (sysB p zs && setB p s)]) ∧ Below w.heap.size w w' := by
  have H := Lib.hid h
  clear h
  go_enter Try.func65, Try.ntmps65
  go_wp2_with fail
  have b0 : Below w.heap.size w (w.alloc (.cells #[.int .i64 p, .slice a len cap] 30)) := (Below.refl _ _).alloc (Nat.le_refl _) _
  have k0 : SVar 30 (w.alloc (.cells #[.int .i64 p, .slice a len cap] 30)) w.heap.size p a len cap := Blk.Blk.new _ _ _
  refine (implVSys_any p a len cap zs _ (H.out.keep b0) hcap).mono ?_
  rintro e w1 ⟨rfl, b1⟩
  have B1 := Lib.hid (b0.trans (b1.mono b0.size))
  have K1 := Lib.hid (k0.keep b1)
  clear b0 b1 k0
  cases hs : sysB p zs with
  | false =>
    have HS := Lib.hid hs
    clear hs
    go_wp2_with fail
    go_ret2
    exact ⟨by simp [HS.out], B1.out⟩
  | true =>
    have hp := sysB_parts hs
    have HS := Lib.hid hs
    obtain ⟨⟨c0, c1⟩, _, _⟩ := K1.out.two
    clear hs
    go_wp2_with fail
    refine (isSet_any p s _ hp.1 hp.2).mono ?_
    rintro e w2 ⟨rfl, rfl⟩
    cases ht : setB p s with
    | false =>
      have HT := Lib.hid ht
      clear ht
      go_wp2_with fail
      go_ret2
      exact ⟨by simp [HS.out, HT.out], B1.out⟩
    | true =>
      have HT := Lib.hid ht
      go_wp2_with fail
      refine (hasOne_any s a len cap zs _ (H.out.keep B1.out)).mono ?_
      rintro e w2 ⟨rfl, b2⟩
      have B2 := Lib.hid (B1.out.trans (b2.mono B1.out.size))
      clear b2 c0 c1 ht
      go_wp2_with fail
      go_ret2
      exact ⟨by simp [HS.out, HT.out], B2.out⟩
set_option maxHeartbeats 1600000 in
theorem sWorksWith_any (p : Int) (a : Option Addr) (len cap : Nat) (zs : List Int) (s : Int) (w : World) (h : IRow w a len zs) :
    Calls Try.prog 66 #[.agg #[.int .i64 p, .slice a len cap], .int .i64 s] w fun e w' => e = .returned (.tuple #[.bool (sysB p zs && (setB p s && worksB zs s)), .bool (sysB p zs && setB p s)]) ∧ Below w.heap.size w w' := by
  have H := Lib.hid h
  clear h
  go_enter Try.func66, Try.ntmps66
  go_wp2_with fail
  have b0 : Below w.heap.size w (w.alloc (.cells #[.int .i64 p, .slice a len cap] 30)) := (Below.refl _ _).alloc (Nat.le_refl _) _
  have k0 : SVar 30 (w.alloc (.cells #[.int .i64 p, .slice a len cap] 30)) w.heap.size p a len cap := Blk.Blk.new _ _ _
  refine (specIs_any w.heap.size p a len cap zs _ k0 (H.out.keep b0)).mono ?_
  rintro e w1 ⟨rfl, d1⟩
  have B1 := Lib.hid (b0.trans (d1.below _))
  have K1 := Lib.hid (k0.keep (d1.below _))
  clear b0 d1 k0
  cases hs : sysB p zs with
  | false =>
    have HS := Lib.hid hs
    clear hs
    go_wp2_with fail
    go_ret2
    exact ⟨by simp [HS.out], B1.out⟩
  | true =>
    have hp := sysB_parts hs
    have HS := Lib.hid hs
    clear hs
    go_wp2_with fail
    refine (specSet_any s _ p a len cap _ K1.out hp.1 hp.2).mono ?_
    rintro e w2 ⟨rfl, rfl⟩
    cases ht : setB p s with
    | false =>
      have HT := Lib.hid ht
      clear ht
      go_wp2_with fail
      go_ret2
      exact ⟨by simp [HS.out, HT.out], B1.out⟩
    | true =>
      have HT := Lib.hid ht
      clear ht
      go_wp2_with fail
      refine (specWorks_any s _ p a len cap zs _ K1.out (H.out.keep B1.out)).mono ?_
      rintro e w2 ⟨rfl, d2⟩
      have B2 := Lib.hid (B1.out.trans (d2.below _))
      clear d2
      go_wp2_with fail
      go_ret2
      exact ⟨by simp [HS.out, HT.out], B2.out⟩
end Go.Proofs.Ytbmgloncimjfhab
