/-
  Contracts of sums of float32 numbers in the program and in its model, of the laws' comparison of two slices, and the walk of the exact law of SumNumbers. Conditions: arguments fit their kind.
-/
import Derived.Test.YtmgmelbpggedkacSlW
import Derived.Test.YtmgmelbpggedkacRootW
namespace Flt
open Ieee
theorem write_num {k : Go.FloatKind} {d : Option Datum} {r : Nat} (h : d.map k.format.write = some r) (hd : ∀ s t, d ≠ some (.nan s t)) : nan k r = false := by
  cases d with
  | none => cases h
  | some d =>
    simp only [Option.map_some, Option.some.injEq] at h
    cases d with
    | nan s t => exact absurd rfl (hd s t)
    | infinity s =>
      rw [← h]
      exact nan_false (by show k.format.word s k.format.infRung % k.format.signWeight ≤ _; rw [(word_mod k.format s _ (infRung_lt _)).1]; exact Nat.le_refl _)
    | number s m e =>
      have hw : ∃ q, k.format.nearest s m e = k.format.word s q ∧ q ≤ k.format.infRung := by
        unfold Format.nearest
        split
        · exact ⟨0, rfl, Nat.zero_le _⟩
        · exact ⟨_, rfl, Nat.min_le_right _ _⟩
      obtain ⟨q, h1, h2⟩ := hw
      rw [← h]
      exact nan_false (by show k.format.nearest s m e % k.format.signWeight ≤ _; rw [h1, (word_mod k.format s _ (Nat.lt_of_le_of_lt h2 (infRung_lt _))).1]; exact h2)
theorem sum_num (a b : Datum) : ∀ s t, a.sum b ≠ some (.nan s t) := by
  intro s t
  cases a <;> cases b <;> simp [Datum.sum]
theorem product_num (a b : Datum) : ∀ s t, a.product b ≠ some (.nan s t) := by
  intro s t
  cases a <;> cases b <;> simp [Datum.product]
theorem add_some {k : Go.FloatKind} {x y r : Nat} (h : Go.floatBits .add k x y = some r) : nan k r = false := write_num (d := (k.format.read x).sum (k.format.read y)) h (sum_num _ _)
theorem mul_some {k : Go.FloatKind} {x y r : Nat} (h : Go.floatBits .mul k x y = some r) : nan k r = false := write_num (d := (k.format.read x).product (k.format.read y)) h (product_num _ _)
theorem add_nan {k : Go.FloatKind} {x y : Nat} (h : nan k x = true ∨ nan k y = true) : Go.floatBits .add k x y = none := by
  show k.format.add x y = none
  unfold Format.add
  rcases h with h | h
  · obtain ⟨s, t, ht⟩ := nan_read h; rw [ht]; cases k.format.read y <;> rfl
  · obtain ⟨s, t, ht⟩ := nan_read h; rw [ht]; cases k.format.read x <;> rfl
theorem mul_nan {k : Go.FloatKind} {x y : Nat} (h : nan k x = true ∨ nan k y = true) : Go.floatBits .mul k x y = none := by
  show k.format.mul x y = none
  unfold Format.mul
  rcases h with h | h
  · obtain ⟨s, t, ht⟩ := nan_read h; rw [ht]; cases k.format.read y <;> rfl
  · obtain ⟨s, t, ht⟩ := nan_read h; rw [ht]; cases k.format.read x <;> rfl
/-- one more, where both are numbers and the sum is one -/
def opO (op : Go.BinOp) (o p : Option Nat) : Option Nat := o.bind fun s => p.bind fun z => Go.floatBits op .f32 s z
def numO (z : Nat) : Option Nat := if nan .f32 z then none else some z
def sumO (zs : List Nat) : Option Nat := zs.foldl (fun o z => opO .add o (numO z)) (some 0)
theorem sumO_snoc (zs : List Nat) (z : Nat) : sumO (zs ++ [z]) = opO .add (sumO zs) (numO z) := by unfold sumO; rw [List.foldl_append]; rfl
end Flt
namespace Go.Proofs.Ytmgmelbpggedkac
open Go.RowKit Flt

theorem is_num {z : Nat} (h : z < 4294967296) : Is (numO z) z := by
  unfold numO
  rcases Bool.eq_false_or_eq_true (nan .f32 z) with hn | hn
  · rw [if_pos hn]; exact hn
  · rw [if_neg (by rw [hn]; decide)]; exact ⟨rfl, hn, h⟩
/-- an operation on what was told: it has a result, or it has none -/
theorem op_step (op : BinOp) (hop : op = .add ∨ op = .mul) {o p : Option Nat} {s z : Nat} (h : Is o s) (g : Is p z) :
    (opO op o p = none ∧ floatBits op .f32 s z = none) ∨ (∃ r, opO op o p = some r ∧ floatBits op .f32 s z = some r ∧ nan .f32 r = false ∧ r < 4294967296) := by
  have hnan : nan .f32 s = true ∨ nan .f32 z = true → floatBits op .f32 s z = none := by
    rcases hop with rfl | rfl
    · exact add_nan
    · exact mul_nan
  have hnum : ∀ r, floatBits op .f32 s z = some r → nan .f32 r = false ∧ r < 4294967296 := by
    rcases hop with rfl | rfl
    · exact fun r hr => ⟨add_some hr, FloatKind.f32.format.add_lt hr⟩
    · exact fun r hr => ⟨mul_some hr, FloatKind.f32.format.mul_lt hr⟩
  cases o with
  | none => exact .inl ⟨rfl, hnan (.inl h)⟩
  | some u =>
    cases p with
    | none => exact .inl ⟨rfl, hnan (.inr g)⟩
    | some v =>
      obtain ⟨rfl, _, _⟩ := h
      obtain ⟨rfl, _, _⟩ := g
      show (floatBits op .f32 s z = none ∧ _) ∨ _
      cases hb : floatBits op .f32 s z with
      | none => exact .inl ⟨rfl, rfl⟩
      | some r => exact .inr ⟨r, hb, rfl, hnum r hb⟩
theorem take_next (zs : List Nat) (k : Nat) (h : k < zs.length) : zs.take (k + 1) = zs.take k ++ [zs.getD k 0] := by
  rw [List.take_succ_eq_append_getElem h]; simp [List.getD, h]

set_option maxHeartbeats 800000 in
theorem specSumL_any (a : Option Addr) (len cap : Nat) (zs : List Nat) (w : World) (h : FRow w a len zs) (hn : len ≤ 256) :
    Calls Try.prog 55 #[.slice a len cap] w fun e w' => ∃ v, e = .returned (.float .f32 v) ∧ Is (sumO zs) v ∧ Drawn w w' := by
  have hz := Lib.hid h.1
  have hrow := Lib.hid h
  clear h
  go_enter Try.func55, Try.ntmps55
  go_wp2_with fail
  go_loopg [3, 4] len (fun n s i wr => ∃ (k v : Nat), s = .float .f32 v ∧ i = .int .i64 k ∧ Hid (k + n = len) ∧ k ≤ len ∧ Is (sumO (zs.take k)) v ∧ Drawn w wr)
  case atStart => exact ⟨0, 0, rfl, rfl, by show _ = _; omega, Nat.zero_le _, ⟨rfl, by decide, by decide⟩, Drawn.refl _⟩
  case round =>
    obtain ⟨k, v, rfl, rfl, hk, hkl, hI, hd⟩ := hrel
    have hk' := hk.out
    by_cases hlt : k < len
    · obtain ⟨b, off, rfl, hb, hc⟩ := hrow.out.2.2.2 k hlt
      have hc' : wr.cell? ⟨b, off + k, none⟩ = some (.float .f32 (zs.getD k 0)) := by rw [hd.cell]; exact hc
      have hzl : zs.getD k 0 < 4294967296 := hrow.out.2.2.1 _ (by
        have hkz : k < zs.length := by rw [hz.out]; exact hlt
        rw [show zs.getD k 0 = zs[k] from by simp [List.getD, hkz]]
        exact List.getElem_mem hkz)
      have hs := Lib.hid (take_next zs k (by rw [hz.out]; exact hlt))
      have HJ : Hid (k + 1 + (gk - 1) = len) := by show _ = _; omega
      have HG : Hid (gk - 1 < gk) := by show _ < _; omega
      have hgz := is_num hzl
      generalize zs.getD k 0 = z at *
      rcases op_step .add (.inl rfl) hI hgz with ⟨s1, s2⟩ | ⟨r, s1, s2, s3, s4⟩
      · have hr : ∀ w, (binOp .add 22 (.float .f32 v) (.float .f32 z)).run Try.prog w = .ok (.float .f32 (drawNan .f32 v z w)) w.drew := fun w => run_arith_nan w .add rfl 22 .f32 v z s2
        have HI : Hid (Is (sumO (zs.take (k + 1))) (drawNan .f32 v z wr)) := by
          show Is _ _
          rw [hs.out, sumO_snoc, s1]
          exact drawNan_nan .f32 v z wr
        clear hk' hc s1 s2 hzl
        go_wp2_with fail
        go_roundg (gk - 1)
        case measure => exact HG.out
        case rel => exact ⟨k + 1, _, rfl, by go_num, HJ, by omega, HI.out, hd.drew⟩
      · have hr : ∀ w, (binOp .add 22 (.float .f32 v) (.float .f32 z)).run Try.prog w = .ok (.float .f32 r) w := fun w => run_float_arith w .add 22 .f32 v z r s2
        have HI : Hid (Is (sumO (zs.take (k + 1))) r) := by
          show Is _ _
          rw [hs.out, sumO_snoc, s1]
          exact ⟨rfl, s3, s4⟩
        clear hk' hc s1 s2 s3 s4 hzl
        go_wp2_with fail
        go_roundg (gk - 1)
        case measure => exact HG.out
        case rel => exact ⟨k + 1, r, rfl, by go_num, HJ, by omega, HI.out, hd⟩
    · have hke : Hid (k = len) := by show _ = _; omega
      have HI : Hid (Is (sumO zs) v) := by
        show Is _ _
        have := hI
        rw [hke.out, ← hz.out, List.take_length] at this
        exact this
      clear hk'
      go_wp2_with fail
      go_ret
      exact ⟨v, rfl, HI.out, hd⟩

theorem few_any (a : Option Addr) (len cap : Nat) (w : World) (_hm : len ≤ 1048576) : Calls Try.prog 54 #[.slice a len cap] w fun e w' => e = .returned (.bool (decide ((len : Int) ≤ 256))) ∧ w = w' := by
  go_enter Try.func54, Try.ntmps54
  go_wp2_with fail
  go_ret
  exact ⟨rfl, rfl⟩
theorem specSum_yes (a : Option Addr) (len cap : Nat) (zs : List Nat) (w : World) (h : FRow w a len zs) (hn : len ≤ 256) :
    Calls Try.prog 28 #[.slice a len cap] w fun e w' => ∃ v, e = .returned (.tuple #[.float .f32 v, .bool true]) ∧ Is (sumO zs) v ∧ Drawn w w' := by
  have hd : Hid (decide ((len : Int) ≤ 256) = true) := decide_eq_true (by omega)
  have HH := Lib.hid h
  clear h
  go_enter Try.func28, Try.ntmps28
  go_wp2_with fail
  refine (few_any a len cap _ (by omega)).mono ?_
  rintro e w' ⟨rfl, rfl⟩
  rw [hd.out]
  go_wp2_with fail
  refine (specSumL_any a len cap zs _ HH.out hn).mono ?_
  rintro e w' ⟨v, rfl, hI, d⟩
  have HI := Lib.hid hI
  clear hI
  go_wp2_with fail
  go_ret2
  exact ⟨v, rfl, HI.out, d⟩
theorem specSum_no (a : Option Addr) (len cap : Nat) (w : World) (hn : 256 < len) (hm : len ≤ 1048576) :
    Calls Try.prog 28 #[.slice a len cap] w fun e w' => e = .returned (.tuple #[.float .f32 0, .bool false]) ∧ w = w' := by
  have hd : Hid (decide ((len : Int) ≤ 256) = false) := decide_eq_false (by omega)
  go_enter Try.func28, Try.ntmps28
  go_wp2_with fail
  refine (few_any a len cap _ hm).mono ?_
  rintro e w' ⟨rfl, rfl⟩
  rw [hd.out]
  go_wp2_with fail
  go_ret2
  exact ⟨rfl, rfl⟩

set_option maxHeartbeats 800000 in
theorem implSum_yes (a : Option Addr) (len cap : Nat) (zs : List Nat) (w : World) (h : FRow w a len zs) (hn : len ≤ 256) :
    Calls Try.prog 30 #[.slice a len cap] w fun e w' => ∃ v, e = .returned (.tuple #[.float .f32 v, .bool true]) ∧ Is (sumO zs) v ∧ Drawn w w' := by
  have hz := Lib.hid h.1
  have hrow := Lib.hid h
  clear h
  go_enter Try.func30, Try.ntmps30
  go_wp2_with fail
  go_loopg [4, 12] len (fun n s i wr => ∃ (k v : Nat), s = .float .f32 v ∧ i = .int .i64 k ∧ Hid (k + n = len) ∧ k ≤ len ∧ Is (sumO (zs.take k)) v ∧ Drawn w wr)
  case atStart => exact ⟨0, 0, rfl, rfl, by show _ = _; omega, Nat.zero_le _, ⟨rfl, by decide, by decide⟩, Drawn.refl _⟩
  case round =>
    obtain ⟨k, v, rfl, rfl, hk, hkl, hI, hd⟩ := hrel
    have hk' := hk.out
    by_cases hlt : k < len
    · obtain ⟨b, off, rfl, hb, hc⟩ := hrow.out.2.2.2 k hlt
      have hc' : wr.cell? ⟨b, off + k, none⟩ = some (.float .f32 (zs.getD k 0)) := by rw [hd.cell]; exact hc
      have hzl : zs.getD k 0 < 4294967296 := hrow.out.2.2.1 _ (by
        have hkz : k < zs.length := by rw [hz.out]; exact hlt
        rw [show zs.getD k 0 = zs[k] from by simp [List.getD, hkz]]
        exact List.getElem_mem hkz)
      have hs := Lib.hid (take_next zs k (by rw [hz.out]; exact hlt))
      have HJ : Hid (k + 1 + (gk - 1) = len) := by show _ = _; omega
      have HG : Hid (gk - 1 < gk) := by show _ < _; omega
      have hgz := is_num hzl
      generalize zs.getD k 0 = z at *
      rcases op_step .add (.inl rfl) hI hgz with ⟨s1, s2⟩ | ⟨r, s1, s2, s3, s4⟩
      · have hr : ∀ w, (binOp .add 22 (.float .f32 v) (.float .f32 z)).run Try.prog w = .ok (.float .f32 (drawNan .f32 v z w)) w.drew := fun w => run_arith_nan w .add rfl 22 .f32 v z s2
        have HI : Hid (Is (sumO (zs.take (k + 1))) (drawNan .f32 v z wr)) := by
          show Is _ _
          rw [hs.out, sumO_snoc, s1]
          exact drawNan_nan .f32 v z wr
        clear hk' hc s1 s2 hzl
        go_wp2_with fail
        go_roundg (gk - 1)
        case measure => exact HG.out
        case rel => exact ⟨k + 1, _, rfl, by go_num, HJ, by omega, HI.out, hd.drew⟩
      · have hr : ∀ w, (binOp .add 22 (.float .f32 v) (.float .f32 z)).run Try.prog w = .ok (.float .f32 r) w := fun w => run_float_arith w .add 22 .f32 v z r s2
        have HI : Hid (Is (sumO (zs.take (k + 1))) r) := by
          show Is _ _
          rw [hs.out, sumO_snoc, s1]
          exact ⟨rfl, s3, s4⟩
        clear hk' hc s1 s2 s3 s4 hzl
        go_wp2_with fail
        go_roundg (gk - 1)
        case measure => exact HG.out
        case rel => exact ⟨k + 1, r, rfl, by go_num, HJ, by omega, HI.out, hd⟩
    · have hke : Hid (k = len) := by show _ = _; omega
      have HI : Hid (Is (sumO zs) v) := by
        show Is _ _
        have := hI
        rw [hke.out, ← hz.out, List.take_length] at this
        exact this
      clear hk'
      go_wp2_with fail
      go_ret2
      exact ⟨v, rfl, HI.out, hd⟩

theorem implSum_no (a : Option Addr) (len cap : Nat) (w : World) (hn : 256 < len) (hm : len ≤ 1048576) :
    Calls Try.prog 30 #[.slice a len cap] w fun e w' => e = .returned (.tuple #[.float .f32 0, .bool false]) ∧ w = w' := by
  go_enter Try.func30, Try.ntmps30
  go_wp2_with fail
  go_ret2
  exact ⟨rfl, rfl⟩
/-- widened: the same number, or none -/
def Wide (z y : Nat) : Prop := y < 18446744073709551616 ∧ (if nan .f32 z then nan .f64 y = true else y = W z)
theorem wide_wid (z : Nat) (w : World) : Wide z (if nan .f32 z then convNan .f64 z w else W z) := by
  unfold Wide
  rcases Bool.eq_false_or_eq_true (nan .f32 z) with hn | hn
  · rw [if_pos hn, if_pos hn]; exact ⟨convNan_lt .f64 z w, convNan_nan .f64 z w⟩
  · rw [if_neg (by rw [hn]; decide), if_neg (by rw [hn]; decide)]; exact ⟨W_lt z, rfl⟩
theorem widen_run (z : Nat) (w : World) : (convert 22 25 (.float .f32 z)).run Try.prog w = .ok (.float .f64 (if nan .f32 z then convNan .f64 z w else W z)) (if nan .f32 z then w.drew else w) := by
  rcases Bool.eq_false_or_eq_true (nan .f32 z) with hn | hn
  · rw [if_pos hn, if_pos hn]; exact narrowed z hn w
  · rw [if_neg (by rw [hn]; decide), if_neg (by rw [hn]; decide)]; exact widen z hn w
theorem same_wide (z x y : Nat) (hx : Wide z x) (hy : Wide z y) (w : World) : Calls Try.prog 14 #[.float .f64 x, .float .f64 y] w fun e w' => e = .returned (.bool true) ∧ w = w' := by
  unfold Wide at hx hy
  rcases Bool.eq_false_or_eq_true (nan .f32 z) with hn | hn
  · rw [if_pos hn] at hx hy
    exact sameFloat_nan x y hx.2 hy.2 w
  · rw [if_neg (by rw [hn]; decide)] at hx hy
    obtain ⟨h1, rfl⟩ := hx
    obtain ⟨_, rfl⟩ := hy
    exact sameFloat_eq _ h1 (W_spec z hn).2.1 w

def eqV (s1 s2 : Value) (k : Nat) (p1 p2 : Addr) (z : Nat) : Nat → Value → Prop
  | 0, v => v = s1
  | 1, v => v = .int .i64 k
  | 2, v => v = .pointer (some p1)
  | 3, v => v = .float .f32 z
  | 4, v => ∃ y, v = .float .f64 y ∧ Wide z y
  | 5, v => v = s2
  | 6, v => v = .int .i64 k
  | 7, v => v = .pointer (some p2)
  | 8, v => v = .float .f32 z
  | 9, v => ∃ y, v = .float .f64 y ∧ Wide z y
  | 10, v => v = .bool true
  | 11, v => v = .bool false
  | _, _ => True

set_option maxHeartbeats 1600000 in
theorem eqF32_any (a b : Option Addr) (len c1 c2 : Nat) (zs : List Nat) (w : World) (h1 : FRow w a len zs) (h2 : FRow w b len zs) (hn : len ≤ 1048576) :
    Calls Try.prog 31 #[.slice a len c1, .slice b len c2] w fun e w' => e = .returned (.bool true) ∧ Drawn w w' := by
  have r1 := Lib.hid h1
  have r2 := Lib.hid h2
  clear h1 h2
  go_enter Try.func31, Try.ntmps31
  go_wp2_with fail
  go_loopg [5] len (fun n i wr => ∃ k : Nat, i = .int .i64 k ∧ Hid (k + n = len) ∧ k ≤ len ∧ Drawn w wr)
  case atStart => exact ⟨0, rfl, by show _ = _; omega, Nat.zero_le _, Drawn.refl _⟩
  case round =>
    obtain ⟨k, rfl, hk, hkl, hd⟩ := hrel
    have hk' := hk.out
    by_cases hlt : k < len
    · obtain ⟨g1, o1, rfl, _, e1⟩ := r1.out.2.2.2 k hlt
      obtain ⟨g2, o2, rfl, _, e2⟩ := r2.out.2.2.2 k hlt
      have HJ : Hid (k + 1 + (gk - 1) = len) := by show _ = _; omega
      have HG : Hid (gk - 1 < gk) := by show _ < _; omega
      generalize zs.getD k 0 = z at *
      clear hk'
      go_wp2_with fail
      refine wp_region_vals (C := fun w' => Drawn w w') (V := eqV (.slice (some ⟨g1, o1, none⟩) len c1) (.slice (some ⟨g2, o2, none⟩) len c2) k ⟨g1, o1 + k, none⟩ ⟨g2, o2 + k, none⟩ z) (by kernel_rfl) hd.drew (by kernel_rfl) ?_ ?_
      · intro i o ho A W hC hdep hbase
        clear hk HJ HG hd
        have m1 : W.cell? ⟨g1, o1 + k, none⟩ = some (.float .f32 z) := by rw [hC.cell]; exact e1
        have m2 : W.cell? ⟨g2, o2 + k, none⟩ = some (.float .f32 z) := by rw [hC.cell]; exact e2
        rcases i with _ | _ | _ | _ | _ | _ | _ | _ | _ | _ | _ | _ | i
        · obtain rfl := Option.some.inj ho
          have b0 : A.tmps.getD 0 undef = .slice (some ⟨g1, o1, none⟩) len c1 := hbase 0 (by kernel_rfl)
          refine stepK (.slice (some ⟨g1, o1, none⟩) len c1) W rfl hC fun K hK => ?_
          simp only [Array.getD_eq_getD_getElem?] at b0
          unfold Oper.wp
          go_simp
          exact hK
        · obtain rfl := Option.some.inj ho
          have b0 : A.tmps.getD 5 undef = .int .i64 k := hbase 5 (by kernel_rfl)
          refine stepK (.int .i64 k) W rfl hC fun K hK => ?_
          simp only [Array.getD_eq_getD_getElem?] at b0
          unfold Oper.wp
          go_simp
          exact hK
        · obtain rfl := Option.some.inj ho
          have b1 : A.tmps.getD 17 undef = .slice (some ⟨g1, o1, none⟩) len c1 := hdep ⟨0, .data⟩ (by simp) rfl 17 rfl
          have b2 : A.tmps.getD 18 undef = .int .i64 k := hdep ⟨1, .data⟩ (by simp) rfl 18 rfl
          refine stepK (.pointer (some ⟨g1, o1 + k, none⟩)) W rfl hC fun K hK => ?_
          simp only [Array.getD_eq_getD_getElem?] at b1 b2
          unfold Oper.wp
          go_simp
          exact hK
        · obtain rfl := Option.some.inj ho
          have b1 : A.tmps.getD 19 undef = .pointer (some ⟨g1, o1 + k, none⟩) := hdep ⟨2, .data⟩ (by simp) rfl 19 rfl
          refine stepK (.float .f32 z) W rfl hC fun K hK => ?_
          simp only [Array.getD_eq_getD_getElem?] at b1
          unfold Oper.wp
          go_simp
          exact hK
        · obtain rfl := Option.some.inj ho
          have b1 : A.tmps.getD 20 undef = .float .f32 z := hdep ⟨3, .data⟩ (by simp) rfl 20 rfl
          have hw := widen_run z W
          have hwd := wide_wid z W
          have hC' : Drawn w (if nan .f32 z then W.drew else W) := by split; exact hC.drew; exact hC
          refine stepK (.float .f64 (if nan .f32 z then convNan .f64 z W else Flt.W z)) (if nan .f32 z then W.drew else W) ⟨_, rfl, hwd⟩ hC' fun K hK => ?_
          generalize (if nan .f32 z then convNan .f64 z W else Flt.W z) = y at *
          generalize (if nan .f32 z then W.drew else W) = W' at *
          simp only [Array.getD_eq_getD_getElem?] at b1
          unfold Oper.wp
          go_simp
          exact hK
        · obtain rfl := Option.some.inj ho
          have b0 : A.tmps.getD 1 undef = .slice (some ⟨g2, o2, none⟩) len c2 := hbase 1 (by kernel_rfl)
          refine stepK (.slice (some ⟨g2, o2, none⟩) len c2) W rfl hC fun K hK => ?_
          simp only [Array.getD_eq_getD_getElem?] at b0
          unfold Oper.wp
          go_simp
          exact hK
        · obtain rfl := Option.some.inj ho
          have b0 : A.tmps.getD 5 undef = .int .i64 k := hbase 5 (by kernel_rfl)
          refine stepK (.int .i64 k) W rfl hC fun K hK => ?_
          simp only [Array.getD_eq_getD_getElem?] at b0
          unfold Oper.wp
          go_simp
          exact hK
        · obtain rfl := Option.some.inj ho
          have b1 : A.tmps.getD 22 undef = .slice (some ⟨g2, o2, none⟩) len c2 := hdep ⟨5, .data⟩ (by simp) rfl 22 rfl
          have b2 : A.tmps.getD 23 undef = .int .i64 k := hdep ⟨6, .data⟩ (by simp) rfl 23 rfl
          refine stepK (.pointer (some ⟨g2, o2 + k, none⟩)) W rfl hC fun K hK => ?_
          simp only [Array.getD_eq_getD_getElem?] at b1 b2
          unfold Oper.wp
          go_simp
          exact hK
        · obtain rfl := Option.some.inj ho
          have b1 : A.tmps.getD 24 undef = .pointer (some ⟨g2, o2 + k, none⟩) := hdep ⟨7, .data⟩ (by simp) rfl 24 rfl
          refine stepK (.float .f32 z) W rfl hC fun K hK => ?_
          simp only [Array.getD_eq_getD_getElem?] at b1
          unfold Oper.wp
          go_simp
          exact hK
        · obtain rfl := Option.some.inj ho
          have b1 : A.tmps.getD 25 undef = .float .f32 z := hdep ⟨8, .data⟩ (by simp) rfl 25 rfl
          have hw := widen_run z W
          have hwd := wide_wid z W
          have hC' : Drawn w (if nan .f32 z then W.drew else W) := by split; exact hC.drew; exact hC
          refine stepK (.float .f64 (if nan .f32 z then convNan .f64 z W else Flt.W z)) (if nan .f32 z then W.drew else W) ⟨_, rfl, hwd⟩ hC' fun K hK => ?_
          generalize (if nan .f32 z then convNan .f64 z W else Flt.W z) = y at *
          generalize (if nan .f32 z then W.drew else W) = W' at *
          simp only [Array.getD_eq_getD_getElem?] at b1
          unfold Oper.wp
          go_simp
          exact hK
        · obtain rfl := Option.some.inj ho
          obtain ⟨x, b1, hx⟩ := hdep ⟨4, .data⟩ (by simp) rfl 21 rfl
          obtain ⟨y, b2, hy⟩ := hdep ⟨9, .data⟩ (by simp) rfl 26 rfl
          refine stepK (.bool true) W rfl hC fun K hK => ?_
          simp only [Array.getD_eq_getD_getElem?] at b1 b2
          unfold Oper.wp
          go_simp
          refine (same_wide z x y hx hy _).mono ?_
          rintro e w' ⟨rfl, rfl⟩
          exact hK
        · obtain rfl := Option.some.inj ho
          have b1 : A.tmps.getD 27 undef = .bool true := hdep ⟨10, .data⟩ (by simp) rfl 27 rfl
          refine stepK (.bool false) W rfl hC fun K hK => ?_
          simp only [Array.getD_eq_getD_getElem?] at b1
          unfold Oper.wp
          go_simp
          exact hK
        · have := (Array.getElem?_eq_some_iff.1 ho).1
          simp at this
          omega
      · intro vals W hC hlen hV
        clear e1 e2
        match vals, hlen with
        | [v0, v1, v2, v3, v4, v5, v6, v7, v8, v9, v10, v11], _ =>
          obtain rfl : v0 = _ := hV 0 (by simp)
          obtain rfl : v1 = _ := hV 1 (by simp)
          obtain rfl : v2 = _ := hV 2 (by simp)
          obtain rfl : v3 = _ := hV 3 (by simp)
          obtain ⟨x, rfl, _⟩ : ∃ x, v4 = .float .f64 x ∧ Wide z x := hV 4 (by simp)
          obtain rfl : v5 = _ := hV 5 (by simp)
          obtain rfl : v6 = _ := hV 6 (by simp)
          obtain rfl : v7 = _ := hV 7 (by simp)
          obtain rfl : v8 = _ := hV 8 (by simp)
          obtain ⟨y, rfl, _⟩ : ∃ x, v9 = .float .f64 x ∧ Wide z x := hV 9 (by simp)
          obtain rfl : v10 = _ := hV 10 (by simp)
          obtain rfl : v11 = _ := hV 11 (by simp)
          clear hV
          simp only [puts, Act.put, List.zip_cons_cons, List.zip_nil_left, List.foldl_cons, List.foldl_nil, List.setIfInBounds_toArray, List.set_cons_zero, List.set_cons_succ]
          go_wp2_with fail
          go_roundg (gk - 1)
          case measure => exact HG.out
          case rel => exact ⟨k + 1, by go_num, HJ, by omega, hC⟩
    · have hke : Hid (k = len) := by show _ = _; omega
      clear hk'
      go_wp2_with fail
      go_ret
      exact ⟨rfl, hd⟩
set_option maxHeartbeats 800000 in
theorem sumLaw_walk (a : Option Addr) (len cap : Nat) (zs : List Nat) (w : World) (h : FRow w a len zs) :
    Calls Try.prog 10 #[.slice a len cap] w fun e w' => e = .returned (.bool true) ∧ Below w.heap.size w w' := by
  have hmax : len ≤ 9223372036854775807 := by have := h.2.1; unfold maxLen at this; exact this
  by_cases hn : len ≤ 1048576
  · have H := Lib.hid h
    have HZ := Lib.hid h.2.2.1
    have hx : ∀ x : Bool, (x != x) = false := by simp
    clear h
    by_cases h256 : len ≤ 256
    · go_enter Try.func10, Try.ntmps10
      go_wp2_with fail
      refine (toF32_made a len cap zs _ H.out hn).mono ?_
      rintro e w1 ⟨rfl, m1, b1, s1⟩
      have M1 := Lib.hid m1
      have B1 := Lib.hid b1
      clear m1 b1
      go_wp2_with fail
      refine (specSum_yes _ len len zs _ (made_row M1.out hn HZ.out) h256).mono ?_
      rintro e w2 ⟨u, rfl, hu, d2⟩
      have U := Lib.hid hu
      have B2 := Lib.hid (B1.out.trans ((d2.below _).mono (Nat.le_of_lt s1)))
      clear hu d2
      go_wp2_with fail
      refine (toF32_made a len cap zs _ (frow_keep H.out B2.out) hn).mono ?_
      rintro e w3 ⟨rfl, m3, b3, s3⟩
      have M3 := Lib.hid m3
      have B3 := Lib.hid (B2.out.trans (b3.mono B2.out.size))
      clear m3 b3
      go_wp2_with fail
      refine (implSum_yes _ len len zs _ (made_row M3.out hn HZ.out) h256).mono ?_
      rintro e w4 ⟨v, rfl, hv, d4⟩
      have B4 := Lib.hid (B3.out.trans (d4.below _))
      have M4 := Lib.hid (M3.out.below (d4.below _))
      have D4 := Lib.hid d4
      clear d4
      rcases U.out.two hv with ⟨rfl, hnu⟩ | ⟨hnu, hnv⟩
      · have hW := widen u hnu
        have hq := (W_spec u hnu).2.1
        have hr := W_lt u
        clear hnu hv U
        go_wp2_with fail
        refine (sameFloat_eq (W u) hr hq _).mono ?_
        rintro e w5 ⟨rfl, rfl⟩
        go_wp2_with fail
        refine (toF32_made a len cap zs _ (frow_keep H.out B4.out) hn).mono ?_
        rintro e w6 ⟨rfl, m6, b6, s6⟩
        have M6 := Lib.hid m6
        have B6 := Lib.hid (B4.out.trans (b6.mono B4.out.size))
        have R4 := Lib.hid (M4.out.below b6)
        clear m6 b6
        go_wp2_with fail
        refine (eqF32_any _ _ len len len zs _ (made_row R4.out hn HZ.out) (made_row M6.out hn HZ.out) hn).mono ?_
        rintro e w7 ⟨rfl, d7⟩
        have B7 := Lib.hid (B6.out.trans (d7.below _))
        clear d7
        go_wp2_with fail
        go_ret
        exact ⟨rfl, B7.out⟩
      · have hW := narrowed u hnu
        have hW' := narrowed v hnv
        have hx1 := fun w => convNan_nan .f64 u w
        have hz1 := fun w => convNan_nan .f64 v w
        clear hnu hnv hv U
        go_wp2_with fail
        refine (sameFloat_nan _ _ (hz1 _) (hx1 _) _).mono ?_
        rintro e w5 ⟨rfl, rfl⟩
        have dd : Drawn w4 w4.drew.drew := (Drawn.one _).trans (Drawn.one _)
        have B5 := Lib.hid (B4.out.trans (dd.below _))
        have M5 := Lib.hid (M4.out.below (dd.below _))
        generalize w4.drew.drew = w5 at *
        clear dd
        go_wp2_with fail
        refine (toF32_made a len cap zs _ (frow_keep H.out B5.out) hn).mono ?_
        rintro e w6 ⟨rfl, m6, b6, s6⟩
        have M6 := Lib.hid m6
        have B6 := Lib.hid (B5.out.trans (b6.mono B5.out.size))
        have R4 := Lib.hid (M5.out.below b6)
        clear m6 b6
        go_wp2_with fail
        refine (eqF32_any _ _ len len len zs _ (made_row R4.out hn HZ.out) (made_row M6.out hn HZ.out) hn).mono ?_
        rintro e w7 ⟨rfl, d7⟩
        have B7 := Lib.hid (B6.out.trans (d7.below _))
        clear d7
        go_wp2_with fail
        go_ret
        exact ⟨rfl, B7.out⟩
    · have hW := widen 0 (by decide)
      have hq := (W_spec 0 (by decide)).2.1
      have hr := W_lt 0
      generalize W 0 = o at *
      go_enter Try.func10, Try.ntmps10
      go_wp2_with fail
      refine (toF32_made a len cap zs _ H.out hn).mono ?_
      rintro e w1 ⟨rfl, m1, b1, s1⟩
      have B1 := Lib.hid b1
      clear m1 b1
      go_wp2_with fail
      refine (specSum_no _ len len _ (by omega) hn).mono ?_
      rintro e w2 ⟨rfl, rfl⟩
      go_wp2_with fail
      refine (toF32_made a len cap zs _ (frow_keep H.out B1.out) hn).mono ?_
      rintro e w3 ⟨rfl, m3, b3, s3⟩
      have M3 := Lib.hid m3
      have B3 := Lib.hid (B1.out.trans (b3.mono B1.out.size))
      clear m3 b3
      go_wp2_with fail
      refine (implSum_no _ len len _ (by omega) hn).mono ?_
      rintro e w4 ⟨rfl, rfl⟩
      go_wp2_with fail
      refine (sameFloat_eq o hr hq _).mono ?_
      rintro e w5 ⟨rfl, rfl⟩
      go_wp2_with fail
      refine (toF32_made a len cap zs _ (frow_keep H.out B3.out) hn).mono ?_
      rintro e w6 ⟨rfl, m6, b6, s6⟩
      have M6 := Lib.hid m6
      have B6 := Lib.hid (B3.out.trans (b6.mono B3.out.size))
      have R4 := Lib.hid (M3.out.below b6)
      clear m6 b6
      go_wp2_with fail
      refine (eqF32_any _ _ len len len zs _ (made_row R4.out hn HZ.out) (made_row M6.out hn HZ.out) hn).mono ?_
      rintro e w7 ⟨rfl, d7⟩
      have B7 := Lib.hid (B6.out.trans (d7.below _))
      clear d7
      go_wp2_with fail
      go_ret
      exact ⟨rfl, B7.out⟩
  · clear h
    go_enter Try.func10, Try.ntmps10
    go_wp2
    go_ret
    exact ⟨rfl, Below.refl _ _⟩
theorem fnExactSumNumbers_walk (a : Option Addr) (len cap : Nat) (zs : List Nat) (w : World) (h : FRow w a len zs) :
    Calls Try.prog 10 #[.slice a len cap] w fun e w' => e = .returned (.bool true) ∧ Below w.heap.size w w' := sumLaw_walk a len cap zs w h
end Go.Proofs.Ytmgmelbpggedkac
