/-
  Contracts of products of lists of float32 numbers in the program and in its model, and the walk of the exact law of DotNumbers. Conditions: arguments fit their kind.
-/
import Derived.Test.YtmgmelbpggedkacSumW
namespace Flt
open Ieee
/-- an operation as it runs: its value and the world behind it -/
def arR (op : Go.BinOp) (x y : Nat) (w : Go.World) : Nat := match Go.floatBits op .f32 x y with | some r => r | none => drawNan .f32 x y w
def arW (op : Go.BinOp) (x y : Nat) (w : Go.World) : Go.World := match Go.floatBits op .f32 x y with | some _ => w | none => w.drew
def dotO (zs ys : List Nat) : Option Nat := (zs.zip ys).foldl (fun o p => opO .add o (opO .mul (numO p.1) (numO p.2))) (some 0)
theorem dotO_snoc (zs ys : List Nat) (z y : Nat) (h : zs.length = ys.length) : dotO (zs ++ [z]) (ys ++ [y]) = opO .add (dotO zs ys) (opO .mul (numO z) (numO y)) := by
  unfold dotO; rw [List.zip_append h, List.foldl_append]; rfl
end Flt
namespace Go.Proofs.Ytmgmelbpggedkac
open Go.RowKit Flt
theorem ar_run (op : BinOp) (hop : op = .add ∨ op = .mul) (x y : Nat) (w : World) : (binOp op 22 (.float .f32 x) (.float .f32 y)).run Try.prog w = .ok (.float .f32 (arR op x y w)) (arW op x y w) := by
  unfold arR arW
  cases hb : floatBits op .f32 x y with
  | none => exact run_arith_nan w op (by rcases hop with rfl | rfl <;> rfl) 22 .f32 x y hb
  | some r =>
    rcases hop with rfl | rfl
    · exact run_float_arith w .add 22 .f32 x y r hb
    · exact run_float_arith w .mul 22 .f32 x y r hb
theorem ar_is (op : BinOp) (hop : op = .add ∨ op = .mul) {o p : Option Nat} {x y : Nat} (h : Is o x) (g : Is p y) (w : World) : Is (opO op o p) (arR op x y w) := by
  unfold arR
  rcases op_step op hop h g with ⟨s1, s2⟩ | ⟨r, s1, s2, s3, s4⟩
  · rw [s1, s2]; exact drawNan_nan .f32 x y w
  · rw [s1, s2]; exact ⟨rfl, s3, s4⟩
theorem ar_drawn (op : BinOp) (x y : Nat) {w w' : World} (h : Drawn w w') : Drawn w (arW op x y w') := by
  unfold arW
  split
  · exact h
  · exact h.drew
theorem row_lt {w : World} {a : Option Addr} {len k : Nat} {zs : List Nat} (h : FRow w a len zs) (hk : k < len) : zs.getD k 0 < 4294967296 := h.2.2.1 _ (by
  have hkz : k < zs.length := by rw [h.1]; exact hk
  rw [show zs.getD k 0 = zs[k] from by simp [List.getD, hkz]]
  exact List.getElem_mem hkz)
def dotV (o p : Option Nat) (s1 s2 : Value) (v k : Nat) (p1 p2 : Addr) (z y : Nat) : Nat → Value → Prop
  | 0, u => u = .float .f32 v
  | 1, u => u = s1
  | 2, u => u = .int .i64 k
  | 3, u => u = .pointer (some p1)
  | 4, u => u = .float .f32 z
  | 5, u => u = s2
  | 6, u => u = .int .i64 k
  | 7, u => u = .pointer (some p2)
  | 8, u => u = .float .f32 y
  | 9, u => ∃ r, u = .float .f32 r ∧ Is p r
  | 10, u => ∃ r, u = .float .f32 r ∧ Is o r
  | 11, u => ∃ r, u = .float .f32 r ∧ Is o r
  | _, _ => True

set_option maxHeartbeats 1600000 in
theorem specDotL_any (a b : Option Addr) (len c1 c2 : Nat) (zs ys : List Nat) (w : World) (h : FRow w a len zs) (g : FRow w b len ys) (hn : len ≤ 256) :
    Calls Try.prog 56 #[.slice a len c1, .slice b len c2] w fun e w' => ∃ v, e = .returned (.float .f32 v) ∧ Is (dotO zs ys) v ∧ Drawn w w' := by
  have hz := Lib.hid h.1
  have hrow := Lib.hid h
  have hy := Lib.hid g.1
  have grow := Lib.hid g
  clear h g
  go_enter Try.func56, Try.ntmps56
  go_wp2_with fail
  go_loopg [5, 6] len (fun n s i wr => ∃ (k v : Nat), s = .float .f32 v ∧ i = .int .i64 k ∧ Hid (k + n = len) ∧ k ≤ len ∧ Is (dotO (zs.take k) (ys.take k)) v ∧ Drawn w wr)
  case atStart => exact ⟨0, 0, rfl, rfl, by show _ = _; omega, Nat.zero_le _, ⟨rfl, by decide, by decide⟩, Drawn.refl _⟩
  case round =>
    obtain ⟨k, v, rfl, rfl, hk, hkl, hI, hd⟩ := hrel
    have hk' := hk.out
    by_cases hlt : k < len
    · obtain ⟨g1, o1, rfl, _, e1⟩ := hrow.out.2.2.2 k hlt
      obtain ⟨g2, o2, rfl, _, e2⟩ := grow.out.2.2.2 k hlt
      have HJ : Hid (k + 1 + (gk - 1) = len) := by show _ = _; omega
      have HG : Hid (gk - 1 < gk) := by show _ < _; omega
      have hs := Lib.hid (take_next zs k (by rw [hz.out]; exact hlt))
      have ht := Lib.hid (take_next ys k (by rw [hy.out]; exact hlt))
      have hl := Lib.hid (show (zs.take k).length = (ys.take k).length by simp [hz.out, hy.out])
      have hgz := Lib.hid (is_num (row_lt hrow.out hlt))
      have hgy := Lib.hid (is_num (row_lt grow.out hlt))
      have HI := Lib.hid hI
      generalize zs.getD k 0 = z at *
      generalize ys.getD k 0 = y at *
      clear hk' hI
      go_wp2_with fail
      refine wp_region_vals (C := fun w' => Drawn w w') (V := dotV (opO .add (dotO (zs.take k) (ys.take k)) (opO .mul (numO z) (numO y))) (opO .mul (numO z) (numO y)) (.slice (some ⟨g1, o1, none⟩) len c1) (.slice (some ⟨g2, o2, none⟩) len c2) v k ⟨g1, o1 + k, none⟩ ⟨g2, o2 + k, none⟩ z y) (by kernel_rfl) hd.drew (by kernel_rfl) ?_ ?_
      · intro i o ho A W hC hdep hbase
        clear hk HJ HG hd
        have m1 : W.cell? ⟨g1, o1 + k, none⟩ = some (.float .f32 z) := by rw [hC.cell]; exact e1
        have m2 : W.cell? ⟨g2, o2 + k, none⟩ = some (.float .f32 y) := by rw [hC.cell]; exact e2
        rcases i with _ | _ | _ | _ | _ | _ | _ | _ | _ | _ | _ | _ | i
        · obtain rfl := Option.some.inj ho
          have b0 : A.tmps.getD 5 undef = .float .f32 v := hbase 5 (by kernel_rfl)
          refine stepK (.float .f32 v) W rfl hC fun K hK => ?_
          simp only [Array.getD_eq_getD_getElem?] at b0
          unfold Oper.wp
          go_simp
          exact hK
        · obtain rfl := Option.some.inj ho
          have b0 : A.tmps.getD 0 undef = .slice (some ⟨g1, o1, none⟩) len c1 := hbase 0 (by kernel_rfl)
          refine stepK (.slice (some ⟨g1, o1, none⟩) len c1) W rfl hC fun K hK => ?_
          simp only [Array.getD_eq_getD_getElem?] at b0
          unfold Oper.wp
          go_simp
          exact hK
        · obtain rfl := Option.some.inj ho
          have b0 : A.tmps.getD 6 undef = .int .i64 k := hbase 6 (by kernel_rfl)
          refine stepK (.int .i64 k) W rfl hC fun K hK => ?_
          simp only [Array.getD_eq_getD_getElem?] at b0
          unfold Oper.wp
          go_simp
          exact hK
        · obtain rfl := Option.some.inj ho
          have b1 : A.tmps.getD 14 undef = .slice (some ⟨g1, o1, none⟩) len c1 := hdep ⟨1, .data⟩ (by simp) rfl 14 rfl
          have b2 : A.tmps.getD 15 undef = .int .i64 k := hdep ⟨2, .data⟩ (by simp) rfl 15 rfl
          refine stepK (.pointer (some ⟨g1, o1 + k, none⟩)) W rfl hC fun K hK => ?_
          simp only [Array.getD_eq_getD_getElem?] at b1 b2
          unfold Oper.wp
          go_simp
          exact hK
        · obtain rfl := Option.some.inj ho
          have b1 : A.tmps.getD 16 undef = .pointer (some ⟨g1, o1 + k, none⟩) := hdep ⟨3, .data⟩ (by simp) rfl 16 rfl
          refine stepK (.float .f32 z) W rfl hC fun K hK => ?_
          simp only [Array.getD_eq_getD_getElem?] at b1
          unfold Oper.wp
          go_simp
          exact hK
        · obtain rfl := Option.some.inj ho
          have b0 : A.tmps.getD 1 undef = .slice (some ⟨g2, o2, none⟩) len c2 := hbase 1 (by kernel_rfl)
          refine stepK (.slice (some ⟨g2, o2, none⟩) len c2) W rfl hC fun K hK => ?_
          simp only [Array.getD_eq_getD_getElem?] at b0
          unfold Oper.wp
          go_simp
          exact hK
        · obtain rfl := Option.some.inj ho
          have b0 : A.tmps.getD 6 undef = .int .i64 k := hbase 6 (by kernel_rfl)
          refine stepK (.int .i64 k) W rfl hC fun K hK => ?_
          simp only [Array.getD_eq_getD_getElem?] at b0
          unfold Oper.wp
          go_simp
          exact hK
        · obtain rfl := Option.some.inj ho
          have b1 : A.tmps.getD 18 undef = .slice (some ⟨g2, o2, none⟩) len c2 := hdep ⟨5, .data⟩ (by simp) rfl 18 rfl
          have b2 : A.tmps.getD 19 undef = .int .i64 k := hdep ⟨6, .data⟩ (by simp) rfl 19 rfl
          refine stepK (.pointer (some ⟨g2, o2 + k, none⟩)) W rfl hC fun K hK => ?_
          simp only [Array.getD_eq_getD_getElem?] at b1 b2
          unfold Oper.wp
          go_simp
          exact hK
        · obtain rfl := Option.some.inj ho
          have b1 : A.tmps.getD 20 undef = .pointer (some ⟨g2, o2 + k, none⟩) := hdep ⟨7, .data⟩ (by simp) rfl 20 rfl
          refine stepK (.float .f32 y) W rfl hC fun K hK => ?_
          simp only [Array.getD_eq_getD_getElem?] at b1
          unfold Oper.wp
          go_simp
          exact hK
        · obtain rfl := Option.some.inj ho
          have b1 : A.tmps.getD 17 undef = .float .f32 z := hdep ⟨4, .data⟩ (by simp) rfl 17 rfl
          have b2 : A.tmps.getD 21 undef = .float .f32 y := hdep ⟨8, .data⟩ (by simp) rfl 21 rfl
          have hr := ar_run .mul (.inr rfl) z y W
          have hi := Lib.hid (ar_is .mul (.inr rfl) hgz.out hgy.out W)
          have hc' := ar_drawn .mul z y hC
          refine stepK (.float .f32 (arR .mul z y W)) (arW .mul z y W) ⟨_, rfl, hi.out⟩ hc' fun K hK => ?_
          generalize arR .mul z y W = m at *
          generalize arW .mul z y W = W' at *
          simp only [Array.getD_eq_getD_getElem?] at b1 b2
          unfold Oper.wp
          go_simp
          exact hK
        · obtain rfl := Option.some.inj ho
          have b1 : A.tmps.getD 13 undef = .float .f32 v := hdep ⟨0, .data⟩ (by simp) rfl 13 rfl
          obtain ⟨m, b2, hm⟩ := hdep ⟨9, .data⟩ (by simp) rfl 22 rfl
          have hr := ar_run .add (.inl rfl) v m W
          have hi := Lib.hid (ar_is .add (.inl rfl) HI.out hm W)
          have hc' := ar_drawn .add v m hC
          refine stepK (.float .f32 (arR .add v m W)) (arW .add v m W) ⟨_, rfl, hi.out⟩ hc' fun K hK => ?_
          generalize arR .add v m W = r at *
          generalize arW .add v m W = W' at *
          simp only [Array.getD_eq_getD_getElem?] at b1 b2
          unfold Oper.wp
          go_simp
          exact hK
        · obtain rfl := Option.some.inj ho
          obtain ⟨r, b1, hr⟩ := hdep ⟨10, .data⟩ (by simp) rfl 23 rfl
          refine stepK (.float .f32 r) W ⟨_, rfl, hr⟩ hC fun K hK => ?_
          simp only [Array.getD_eq_getD_getElem?] at b1
          unfold Oper.wp
          go_simp
          exact hK
        · have := (Array.getElem?_eq_some_iff.1 ho).1
          simp at this
          omega
      · intro vals W hC hlen hV
        clear e1 e2
        match vals, hlen with
        | [v0, v1, v2, v3, v4, v5, v6, v7, v8, v9, v10, v11], _ =>
          obtain rfl : v0 = _ := hV 0 (by simp)
          obtain rfl : v1 = _ := hV 1 (by simp)
          obtain rfl : v2 = _ := hV 2 (by simp)
          obtain rfl : v3 = _ := hV 3 (by simp)
          obtain rfl : v4 = _ := hV 4 (by simp)
          obtain rfl : v5 = _ := hV 5 (by simp)
          obtain rfl : v6 = _ := hV 6 (by simp)
          obtain rfl : v7 = _ := hV 7 (by simp)
          obtain rfl : v8 = _ := hV 8 (by simp)
          obtain ⟨m, rfl, _⟩ : ∃ r, v9 = .float .f32 r ∧ Is (opO .mul (numO z) (numO y)) r := hV 9 (by simp)
          obtain ⟨r0, rfl, _⟩ : ∃ r, v10 = .float .f32 r ∧ Is (opO .add (dotO (zs.take k) (ys.take k)) (opO .mul (numO z) (numO y))) r := hV 10 (by simp)
          obtain ⟨r, rfl, hr⟩ : ∃ r, v11 = .float .f32 r ∧ Is (opO .add (dotO (zs.take k) (ys.take k)) (opO .mul (numO z) (numO y))) r := hV 11 (by simp)
          have HR : Hid (Is (dotO (zs.take (k + 1)) (ys.take (k + 1))) r) := by
            show Is _ _
            rw [hs.out, ht.out, dotO_snoc _ _ _ _ hl.out]; exact hr
          clear hV hr
          simp only [puts, Act.put, List.zip_cons_cons, List.zip_nil_left, List.foldl_cons, List.foldl_nil, List.setIfInBounds_toArray, List.set_cons_zero, List.set_cons_succ]
          go_wp2_with fail
          go_roundg (gk - 1)
          case measure => exact HG.out
          case rel => exact ⟨k + 1, r, rfl, by go_num, HJ, by omega, HR.out, hC⟩
    · have hke : Hid (k = len) := by show _ = _; omega
      have HI : Hid (Is (dotO zs ys) v) := by
        show Is _ _
        have := hI
        have e1 : zs.take k = zs := by rw [hke.out, ← hz.out, List.take_length]
        have e2 : ys.take k = ys := by rw [hke.out, ← hy.out, List.take_length]
        rw [e1, e2] at this
        exact this
      clear hk'
      go_wp2_with fail
      go_ret
      exact ⟨v, rfl, HI.out, hd⟩

theorem specDot_yes (a b : Option Addr) (len c1 c2 : Nat) (zs ys : List Nat) (w : World) (h : FRow w a len zs) (g : FRow w b len ys) (hn : len ≤ 256) :
    Calls Try.prog 32 #[.slice a len c1, .slice b len c2] w fun e w' => ∃ v, e = .returned (.tuple #[.float .f32 v, .bool true]) ∧ Is (dotO zs ys) v ∧ Drawn w w' := by
  have hd : Hid (decide ((len : Int) ≤ 256) = true) := decide_eq_true (by omega)
  have HH := Lib.hid h
  have GG := Lib.hid g
  clear h g
  go_enter Try.func32, Try.ntmps32
  go_wp2_with fail
  refine (few_any a len c1 _ (by omega)).mono ?_
  rintro e w' ⟨rfl, rfl⟩
  rw [hd.out]
  go_wp2_with fail
  refine (specDotL_any a b len c1 c2 zs ys _ HH.out GG.out hn).mono ?_
  rintro e w' ⟨v, rfl, hI, d⟩
  have HI := Lib.hid hI
  clear hI
  go_wp2_with fail
  go_ret2
  exact ⟨v, rfl, HI.out, d⟩
theorem specDot_no (a b : Option Addr) (len l2 c1 c2 : Nat) (w : World) (hn : 256 < len ∨ len ≠ l2) (hm : len ≤ 1048576) (_hm2 : l2 ≤ 1048576) :
    Calls Try.prog 32 #[.slice a len c1, .slice b l2 c2] w fun e w' => e = .returned (.tuple #[.float .f32 0, .bool false]) ∧ w = w' := by
  by_cases h256 : (len : Int) ≤ 256
  · have hd : Hid (decide ((len : Int) ≤ 256) = true) := decide_eq_true h256
    have hne : len ≠ l2 := by rcases hn with h | h; omega; exact h
    have hq : ((len : Int) != (l2 : Int)) = true := by simpa using (by omega : ¬ (len : Int) = l2)
    clear hn hne
    go_enter Try.func32, Try.ntmps32
    go_wp2_with fail
    refine (few_any a len c1 _ hm).mono ?_
    rintro e w' ⟨rfl, rfl⟩
    rw [hd.out]
    go_wp2_with fail
    go_ret2
    exact ⟨rfl, rfl⟩
  · have hd : Hid (decide ((len : Int) ≤ 256) = false) := decide_eq_false h256
    clear hn h256
    go_enter Try.func32, Try.ntmps32
    go_wp2_with fail
    refine (few_any a len c1 _ hm).mono ?_
    rintro e w' ⟨rfl, rfl⟩
    rw [hd.out]
    go_wp2_with fail
    go_ret2
    exact ⟨rfl, rfl⟩
set_option maxHeartbeats 800000 in
theorem implDot_yes (a b : Option Addr) (len c1 c2 : Nat) (zs ys : List Nat) (w : World) (h : FRow w a len zs) (g : FRow w b len ys) (hn : len ≤ 256) :
    Calls Try.prog 33 #[.slice a len c1, .slice b len c2] w fun e w' => ∃ v, e = .returned (.tuple #[.float .f32 v, .bool true]) ∧ Is (dotO zs ys) v ∧ Drawn w w' := by
  have hz := Lib.hid h.1
  have hrow := Lib.hid h
  have hy := Lib.hid g.1
  have grow := Lib.hid g
  clear h g
  go_enter Try.func33, Try.ntmps33
  go_wp2_with fail
  go_loopg [6, 21] len (fun n s i wr => ∃ (k v : Nat), s = .float .f32 v ∧ i = .int .i64 k ∧ Hid (k + n = len) ∧ k ≤ len ∧ Is (dotO (zs.take k) (ys.take k)) v ∧ Drawn w wr)
  case atStart => exact ⟨0, 0, rfl, rfl, by show _ = _; omega, Nat.zero_le _, ⟨rfl, by decide, by decide⟩, Drawn.refl _⟩
  case round =>
    obtain ⟨k, v, rfl, rfl, hk, hkl, hI, hd⟩ := hrel
    have hk' := hk.out
    by_cases hlt : k < len
    · obtain ⟨g1, o1, rfl, _, e1⟩ := hrow.out.2.2.2 k hlt
      obtain ⟨g2, o2, rfl, _, e2⟩ := grow.out.2.2.2 k hlt
      have HJ : Hid (k + 1 + (gk - 1) = len) := by show _ = _; omega
      have HG : Hid (gk - 1 < gk) := by show _ < _; omega
      have hs := Lib.hid (take_next zs k (by rw [hz.out]; exact hlt))
      have ht := Lib.hid (take_next ys k (by rw [hy.out]; exact hlt))
      have hl := Lib.hid (show (zs.take k).length = (ys.take k).length by simp [hz.out, hy.out])
      have hgz := Lib.hid (is_num (row_lt hrow.out hlt))
      have hgy := Lib.hid (is_num (row_lt grow.out hlt))
      have m1 : wr.cell? ⟨g1, o1 + k, none⟩ = some (.float .f32 (zs.getD k 0)) := by rw [hd.cell]; exact e1
      have m2 : wr.cell? ⟨g2, o2 + k, none⟩ = some (.float .f32 (ys.getD k 0)) := by rw [hd.cell]; exact e2
      clear e1 e2
      generalize zs.getD k 0 = z at *
      generalize ys.getD k 0 = y at *
      have hr1 := ar_run .mul (.inr rfl) z y wr
      have hr2 := ar_run .add (.inl rfl) v (arR .mul z y wr) (arW .mul z y wr)
      have HR : Hid (Is (dotO (zs.take (k + 1)) (ys.take (k + 1))) (arR .add v (arR .mul z y wr) (arW .mul z y wr))) := by
        show Is _ _
        rw [hs.out, ht.out, dotO_snoc _ _ _ _ hl.out]
        exact ar_is .add (.inl rfl) hI (ar_is .mul (.inr rfl) hgz.out hgy.out wr) _
      have HD := Lib.hid (ar_drawn .add v (arR .mul z y wr) (ar_drawn .mul z y hd))
      generalize arR .mul z y wr = m at *
      generalize arW .mul z y wr = W1 at *
      generalize arR .add v m W1 = r at *
      generalize arW .add v m W1 = W2 at *
      clear hk' hI hgz hgy hd
      go_wp2_with fail
      go_roundg (gk - 1)
      case measure => exact HG.out
      case rel => exact ⟨k + 1, r, rfl, by go_num, HJ, by omega, HR.out, HD.out⟩
    · have hke : Hid (k = len) := by show _ = _; omega
      have HI : Hid (Is (dotO zs ys) v) := by
        show Is _ _
        have := hI
        have e1 : zs.take k = zs := by rw [hke.out, ← hz.out, List.take_length]
        have e2 : ys.take k = ys := by rw [hke.out, ← hy.out, List.take_length]
        rw [e1, e2] at this
        exact this
      clear hk'
      go_wp2_with fail
      go_ret2
      exact ⟨v, rfl, HI.out, hd⟩
theorem implDot_no (a b : Option Addr) (len l2 c1 c2 : Nat) (w : World) (hn : 256 < len ∨ len ≠ l2) (hm : len ≤ 1048576) (_hm2 : l2 ≤ 1048576) :
    Calls Try.prog 33 #[.slice a len c1, .slice b l2 c2] w fun e w' => e = .returned (.tuple #[.float .f32 0, .bool false]) ∧ w = w' := by
  by_cases h256 : 256 < len
  · clear hn
    go_enter Try.func33, Try.ntmps33
    go_wp2_with fail
    go_ret2
    exact ⟨rfl, rfl⟩
  · have hne : len ≠ l2 := by rcases hn with h | h; omega; exact h
    have hq : ((len : Int) != (l2 : Int)) = true := by simpa using (by omega : ¬ (len : Int) = l2)
    clear hn hne
    go_enter Try.func33, Try.ntmps33
    go_wp2_with fail
    go_ret2
    exact ⟨rfl, rfl⟩
set_option maxHeartbeats 1600000 in
theorem dotLaw_walk (a b : Option Addr) (la ca lb cb : Nat) (zs ys : List Nat) (w : World) (ha : FRow w a la zs) (hb : FRow w b lb ys) :
    Calls Try.prog 11 #[.slice a la ca, .slice b lb cb] w fun e w' => e = .returned (.bool true) ∧ Below w.heap.size w w' := by
  have hmax : la ≤ 9223372036854775807 := by have := ha.2.1; unfold maxLen at this; exact this
  have hmaxb : lb ≤ 9223372036854775807 := by have := hb.2.1; unfold maxLen at this; exact this
  by_cases hna : la ≤ 1048576
  · by_cases hnb : lb ≤ 1048576
    · have Ha := Lib.hid ha
      have HZa := Lib.hid ha.2.2.1
      have Hb := Lib.hid hb
      have HZb := Lib.hid hb.2.2.1
      have hx : ∀ x : Bool, (x != x) = false := by simp
      clear ha hb
      by_cases hyes : la ≤ 256 ∧ la = lb
      · obtain ⟨h256, rfl⟩ := hyes
        have hq : ((la : Int) != (la : Int)) = false := by simp
        go_enter Try.func11, Try.ntmps11
        go_wp2_with fail
        refine (toF32_made a la ca zs _ Ha.out hna).mono ?_
        rintro e w1 ⟨rfl, m, b, s⟩
        have B1 := Lib.hid (b)
        have P_1 := Lib.hid m
        clear m b s
        go_wp2_with fail
        refine (toF32_made b la cb ys _ (frow_keep Hb.out B1.out) hnb).mono ?_
        rintro e w2 ⟨rfl, m, b, s⟩
        have B2 := Lib.hid (B1.out.trans (b.mono B1.out.size))
        have P_2 := Lib.hid (P_1.out.below b)
        have Q_2 := Lib.hid m
        clear m b s
        go_wp2_with fail
        refine (specDot_yes _ _ la la la zs ys _ (made_row P_2.out hna HZa.out) (made_row Q_2.out hnb HZb.out) h256).mono ?_
        rintro e w3 ⟨u, rfl, hu, d⟩
        have U := Lib.hid hu
        have b := d.below
        clear hu
        have B3 := Lib.hid (B2.out.trans ((b _).mono B2.out.size))
        clear b d
        go_wp2_with fail
        refine (toF32_made a la ca zs _ (frow_keep Ha.out B3.out) hna).mono ?_
        rintro e w4 ⟨rfl, m, b, s⟩
        have B4 := Lib.hid (B3.out.trans (b.mono B3.out.size))
        have X_4 := Lib.hid m
        clear m b s
        go_wp2_with fail
        refine (toF32_made b la cb ys _ (frow_keep Hb.out B4.out) hnb).mono ?_
        rintro e w5 ⟨rfl, m, b, s⟩
        have B5 := Lib.hid (B4.out.trans (b.mono B4.out.size))
        have X_5 := Lib.hid (X_4.out.below b)
        have Y_5 := Lib.hid m
        clear m b s
        go_wp2_with fail
        refine (implDot_yes _ _ la la la zs ys _ (made_row X_5.out hna HZa.out) (made_row Y_5.out hnb HZb.out) h256).mono ?_
        rintro e w6 ⟨v, rfl, hv, d⟩
        have b := d.below
        have B6 := Lib.hid (B5.out.trans ((b _).mono B5.out.size))
        have X_6 := Lib.hid (X_5.out.below (b _))
        have Y_6 := Lib.hid (Y_5.out.below (b _))
        clear b d
        rcases U.out.two hv with ⟨rfl, hnu⟩ | ⟨hnu, hnv⟩
        · have hW := widen u hnu
          have hq2 := (W_spec u hnu).2.1
          have hr := W_lt u
          clear hnu hv U
          go_wp2_with fail
          refine (sameFloat_eq (W u) hr hq2 _).mono ?_
          rintro e _ ⟨rfl, rfl⟩
          go_wp2_with fail
          refine (toF32_made a la ca zs _ (frow_keep Ha.out B6.out) hna).mono ?_
          rintro e w7 ⟨rfl, m, b, s⟩
          have B7 := Lib.hid (B6.out.trans (b.mono B6.out.size))
          have X_7 := Lib.hid (X_6.out.below b)
          have Y_7 := Lib.hid (Y_6.out.below b)
          have E_7 := Lib.hid m
          clear m b s
          go_wp2_with fail
          refine (eqF32_any _ _ la la la zs _ (made_row X_7.out hna HZa.out) (made_row E_7.out hna HZa.out) hna).mono ?_
          rintro e w8 ⟨rfl, d⟩
          have b := d.below
          have B8 := Lib.hid (B7.out.trans ((b _).mono B7.out.size))
          have X_8 := Lib.hid (X_7.out.below (b _))
          have Y_8 := Lib.hid (Y_7.out.below (b _))
          have E_8 := Lib.hid (E_7.out.below (b _))
          clear b d
          go_wp2_with fail
          refine (toF32_made b la cb ys _ (frow_keep Hb.out B8.out) hnb).mono ?_
          rintro e w9 ⟨rfl, m, b, s⟩
          have B9 := Lib.hid (B8.out.trans (b.mono B8.out.size))
          have X_9 := Lib.hid (X_8.out.below b)
          have Y_9 := Lib.hid (Y_8.out.below b)
          have F_9 := Lib.hid m
          clear m b s
          go_wp2_with fail
          refine (eqF32_any _ _ la la la ys _ (made_row Y_9.out hnb HZb.out) (made_row F_9.out hnb HZb.out) hnb).mono ?_
          rintro e w10 ⟨rfl, d⟩
          have b := d.below
          have B10 := Lib.hid (B9.out.trans ((b _).mono B9.out.size))
          have X_10 := Lib.hid (X_9.out.below (b _))
          have Y_10 := Lib.hid (Y_9.out.below (b _))
          have F_10 := Lib.hid (F_9.out.below (b _))
          clear b d
          go_wp2_with fail
          go_ret
          exact ⟨rfl, B10.out⟩
        · have hW := narrowed u hnu
          have hW' := narrowed v hnv
          have hx1 := fun w => convNan_nan .f64 u w
          have hz1 := fun w => convNan_nan .f64 v w
          clear hnu hnv hv U
          go_wp2_with fail
          refine (sameFloat_nan _ _ (hz1 _) (hx1 _) _).mono ?_
          rintro e _ ⟨rfl, rfl⟩
          have dd : Drawn w6 w6.drew.drew := (Drawn.one _).trans (Drawn.one _)
          have b := dd.below
          have B7 := Lib.hid (B6.out.trans ((b _).mono B6.out.size))
          have X_7 := Lib.hid (X_6.out.below (b _))
          have Y_7 := Lib.hid (Y_6.out.below (b _))
          generalize w6.drew.drew = w7 at *
          clear dd b
          go_wp2_with fail
          refine (toF32_made a la ca zs _ (frow_keep Ha.out B7.out) hna).mono ?_
          rintro e w8 ⟨rfl, m, b, s⟩
          have B8 := Lib.hid (B7.out.trans (b.mono B7.out.size))
          have X_8 := Lib.hid (X_7.out.below b)
          have Y_8 := Lib.hid (Y_7.out.below b)
          have E_8 := Lib.hid m
          clear m b s
          go_wp2_with fail
          refine (eqF32_any _ _ la la la zs _ (made_row X_8.out hna HZa.out) (made_row E_8.out hna HZa.out) hna).mono ?_
          rintro e w9 ⟨rfl, d⟩
          have b := d.below
          have B9 := Lib.hid (B8.out.trans ((b _).mono B8.out.size))
          have X_9 := Lib.hid (X_8.out.below (b _))
          have Y_9 := Lib.hid (Y_8.out.below (b _))
          have E_9 := Lib.hid (E_8.out.below (b _))
          clear b d
          go_wp2_with fail
          refine (toF32_made b la cb ys _ (frow_keep Hb.out B9.out) hnb).mono ?_
          rintro e w10 ⟨rfl, m, b, s⟩
          have B10 := Lib.hid (B9.out.trans (b.mono B9.out.size))
          have X_10 := Lib.hid (X_9.out.below b)
          have Y_10 := Lib.hid (Y_9.out.below b)
          have F_10 := Lib.hid m
          clear m b s
          go_wp2_with fail
          refine (eqF32_any _ _ la la la ys _ (made_row Y_10.out hnb HZb.out) (made_row F_10.out hnb HZb.out) hnb).mono ?_
          rintro e w11 ⟨rfl, d⟩
          have b := d.below
          have B11 := Lib.hid (B10.out.trans ((b _).mono B10.out.size))
          have X_11 := Lib.hid (X_10.out.below (b _))
          have Y_11 := Lib.hid (Y_10.out.below (b _))
          have F_11 := Lib.hid (F_10.out.below (b _))
          clear b d
          go_wp2_with fail
          go_ret
          exact ⟨rfl, B11.out⟩
      · have hno : 256 < la ∨ la ≠ lb := by omega
        clear hyes
        have hW := widen 0 (by decide)
        have hq := (W_spec 0 (by decide)).2.1
        have hr := W_lt 0
        generalize W 0 = o at *
        go_enter Try.func11, Try.ntmps11
        go_wp2_with fail
        refine (toF32_made a la ca zs _ Ha.out hna).mono ?_
        rintro e w1 ⟨rfl, m, b, s⟩
        have B1 := Lib.hid (b)
        have P_1 := Lib.hid m
        clear m b s
        go_wp2_with fail
        refine (toF32_made b lb cb ys _ (frow_keep Hb.out B1.out) hnb).mono ?_
        rintro e w2 ⟨rfl, m, b, s⟩
        have B2 := Lib.hid (B1.out.trans (b.mono B1.out.size))
        have P_2 := Lib.hid (P_1.out.below b)
        have Q_2 := Lib.hid m
        clear m b s
        go_wp2_with fail
        refine (specDot_no _ _ la lb la lb _ hno hna hnb).mono ?_
        rintro e _ ⟨rfl, rfl⟩
        go_wp2_with fail
        refine (toF32_made a la ca zs _ (frow_keep Ha.out B2.out) hna).mono ?_
        rintro e w3 ⟨rfl, m, b, s⟩
        have B3 := Lib.hid (B2.out.trans (b.mono B2.out.size))
        have X_3 := Lib.hid m
        clear m b s
        go_wp2_with fail
        refine (toF32_made b lb cb ys _ (frow_keep Hb.out B3.out) hnb).mono ?_
        rintro e w4 ⟨rfl, m, b, s⟩
        have B4 := Lib.hid (B3.out.trans (b.mono B3.out.size))
        have X_4 := Lib.hid (X_3.out.below b)
        have Y_4 := Lib.hid m
        clear m b s
        go_wp2_with fail
        refine (implDot_no _ _ la lb la lb _ hno hna hnb).mono ?_
        rintro e _ ⟨rfl, rfl⟩
        go_wp2_with fail
        refine (sameFloat_eq o hr hq _).mono ?_
        rintro e _ ⟨rfl, rfl⟩
        go_wp2_with fail
        refine (toF32_made a la ca zs _ (frow_keep Ha.out B4.out) hna).mono ?_
        rintro e w5 ⟨rfl, m, b, s⟩
        have B5 := Lib.hid (B4.out.trans (b.mono B4.out.size))
        have X_5 := Lib.hid (X_4.out.below b)
        have Y_5 := Lib.hid (Y_4.out.below b)
        have E_5 := Lib.hid m
        clear m b s
        go_wp2_with fail
        refine (eqF32_any _ _ la la la zs _ (made_row X_5.out hna HZa.out) (made_row E_5.out hna HZa.out) hna).mono ?_
        rintro e w6 ⟨rfl, d⟩
        have b := d.below
        have B6 := Lib.hid (B5.out.trans ((b _).mono B5.out.size))
        have X_6 := Lib.hid (X_5.out.below (b _))
        have Y_6 := Lib.hid (Y_5.out.below (b _))
        have E_6 := Lib.hid (E_5.out.below (b _))
        clear b d
        go_wp2_with fail
        refine (toF32_made b lb cb ys _ (frow_keep Hb.out B6.out) hnb).mono ?_
        rintro e w7 ⟨rfl, m, b, s⟩
        have B7 := Lib.hid (B6.out.trans (b.mono B6.out.size))
        have X_7 := Lib.hid (X_6.out.below b)
        have Y_7 := Lib.hid (Y_6.out.below b)
        have F_7 := Lib.hid m
        clear m b s
        go_wp2_with fail
        refine (eqF32_any _ _ lb lb lb ys _ (made_row Y_7.out hnb HZb.out) (made_row F_7.out hnb HZb.out) hnb).mono ?_
        rintro e w8 ⟨rfl, d⟩
        have b := d.below
        have B8 := Lib.hid (B7.out.trans ((b _).mono B7.out.size))
        have X_8 := Lib.hid (X_7.out.below (b _))
        have Y_8 := Lib.hid (Y_7.out.below (b _))
        have F_8 := Lib.hid (F_7.out.below (b _))
        clear b d
        go_wp2_with fail
        go_ret
        exact ⟨rfl, B8.out⟩
    · clear ha hb
      go_enter Try.func11, Try.ntmps11
      go_wp2
      go_ret
      exact ⟨rfl, Below.refl _ _⟩
  · clear ha hb
    go_enter Try.func11, Try.ntmps11
    go_wp2
    go_ret
    exact ⟨rfl, Below.refl _ _⟩
theorem fnExactDotNumbers_walk (a : Option Addr) (la ca : Nat) (zs : List Nat) (b : Option Addr) (lb cb : Nat) (ys : List Nat) (w : World) (ha : FRow w a la zs) (hb : FRow w b lb ys) :
    Calls Try.prog 11 #[.slice a la ca, .slice b lb cb] w fun e w' => e = .returned (.bool true) ∧ Below w.heap.size w w' := dotLaw_walk a b la ca lb cb zs ys w ha hb
end Go.Proofs.Ytmgmelbpggedkac
