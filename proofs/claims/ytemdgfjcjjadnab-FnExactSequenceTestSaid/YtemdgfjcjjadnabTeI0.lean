/-
  How a test of parts ends: where a sum is, and what a test goes by, in the program. Conditions: numbers are words.
-/
import Derived.Test.YtemdgfjcjjadnabTeS
import Derived.Test.YtemdgfjcjjadnabBlk
namespace Go.Proofs.Ytemdgfjcjjadnab
open Go.RowKit Flt Dec Cm We F32 Sq Te
/-- how a test has ended: low, high, or not -/
def enV (l h : Bool) : Value := if l then .iface 92 (.agg #[]) else if h then .iface 93 (.agg #[]) else .iface 88 (.agg #[])
set_option maxHeartbeats 1600000 in
theorem endAt_any (u d x y z : Nat) (w : World) (o p q : Option Nat) (ho : F32.Is o z) (hp : F32.Is p x) (hq : F32.Is q y) :
    Calls Try.prog 67 #[.agg #[.float .f32 u, .float .f32 d, .float .f32 x, .float .f32 y], .float .f32 z] w fun e w' => e = .returned (enV (leO o p) (geO o q)) ∧ Below w.heap.size w w' := by
  have c1 := cmp_is .lt ho hp
  have c2 := cmp_is .eq ho hp
  have c3 := cmp_is .gt ho hq
  have c4 := cmp_is .eq ho hq
  have hq1 : ((FloatKind.f32.format.order z x == some .lt) || (FloatKind.f32.format.order z x == some .eq)) = leO o p := by rw [c1, c2]; rfl
  have hq2 : ((FloatKind.f32.format.order z y == some .gt) || (FloatKind.f32.format.order z y == some .eq)) = geO o q := by rw [c3, c4]; rfl
  clear c1 c2 c3 c4
  cases g1 : leO o p with
  | true =>
    have HV : Hid (enV true (geO o q) = .iface 92 (.agg #[])) := Lib.hid rfl
    rw [g1] at hq1
    rw [HV.out]
    clear g1 hq2 ho hp hq
    go_enter Try.func67, Try.ntmps67
    go_wp2_with fail
    go_ret
    exact ⟨rfl, (Below.refl _ _).alloc (Nat.le_refl _) _⟩
  | false =>
    rw [g1] at hq1
    cases g2 : geO o q with
    | true =>
      have HV : Hid (enV false true = .iface 93 (.agg #[])) := Lib.hid rfl
      rw [g2] at hq2
      rw [HV.out]
      clear g1 g2 ho hp hq
      go_enter Try.func67, Try.ntmps67
      go_wp2_with fail
      go_ret
      exact ⟨rfl, (Below.refl _ _).alloc (Nat.le_refl _) _⟩
    | false =>
      have HV : Hid (enV false false = .iface 88 (.agg #[])) := Lib.hid rfl
      rw [g2] at hq2
      rw [HV.out]
      clear g1 g2 ho hp hq
      go_enter Try.func67, Try.ntmps67
      go_wp2_with fail
      go_ret
      exact ⟨rfl, (Below.refl _ _).alloc (Nat.le_refl _) _⟩
theorem told_no (w : World) : Calls Try.prog 125 #[.agg #[]] w fun e w' => e = .returned (.int .i64 0) ∧ Below w.heap.size w w' := by
  go_enter Try.func125, Try.ntmps125
  go_wp2_with fail
  go_ret
  exact ⟨rfl, (Below.refl _ _).alloc (Nat.le_refl _) _⟩
theorem told_low (w : World) : Calls Try.prog 126 #[.agg #[]] w fun e w' => e = .returned (.int .i64 (-1)) ∧ Below w.heap.size w w' := by
  go_enter Try.func126, Try.ntmps126
  go_wp2_with fail
  go_ret
  exact ⟨rfl, (Below.refl _ _).alloc (Nat.le_refl _) _⟩
theorem told_high (w : World) : Calls Try.prog 127 #[.agg #[]] w fun e w' => e = .returned (.int .i64 1) ∧ Below w.heap.size w w' := by
  go_enter Try.func127, Try.ntmps127
  go_wp2_with fail
  go_ret
  exact ⟨rfl, (Below.refl _ _).alloc (Nat.le_refl _) _⟩
theorem blk_four {w : World} {g : Nat} {a b c d : Value} {t : TypeId} (h : Blk.Blk w g [a, b, c, d] t) : (w.cell? ⟨g, 0, none⟩ = some a ∧ w.cell? ⟨g, 1, none⟩ = some b ∧ w.cell? ⟨g, 2, none⟩ = some c ∧ w.cell? ⟨g, 3, none⟩ = some d) ∧ (w.frozen? ⟨g, 0, none⟩ = false ∧ w.frozen? ⟨g, 1, none⟩ = false ∧ w.frozen? ⟨g, 2, none⟩ = false ∧ w.frozen? ⟨g, 3, none⟩ = false) :=
  ⟨⟨h.cell 0, h.cell 1, h.cell 2, h.cell 3⟩, h.frozen 0, h.frozen 1, h.frozen 2, h.frozen 3⟩
theorem conv_lt32 {x v : Nat} (h : floatToFloatBits .f64 x .f32 = some v) : v < 4294967296 := by
  unfold floatToFloatBits at h
  rw [if_neg (by decide)] at h
  split at h
  · cases h
  · injection h with h; subst h; exact Ieee.Format.write_lt Ieee.single _
  · split at h
    · cases h
    · injection h with h; subst h; exact Ieee.Format.write_lt Ieee.single _
theorem logOut_lt {a v : Nat} (ha : a < 4294967296) (h : logOut a = some v) : v < 4294967296 := by
  unfold logOut at h
  split at h
  · cases h
  · split at h
    · injection h with h; subst h; decide
    · split at h
      · cases h
      · split at h
        · injection h with h; subst h; exact ha
        · exact conv_lt32 h
theorem lgq_lt {o p : Option Nat} {v : Nat} (h : lgO (F32.opO .quo o p) = some v) : v < 4294967296 := by
  unfold lgO at h
  obtain ⟨x, hx, hv⟩ := Option.bind_eq_some_iff.1 h
  cases o with
  | none => cases hx
  | some s => cases p with
    | none => cases hx
    | some t => exact logOut_lt (F32.op_lt (.inr (.inr (.inr rfl))) hx) hv
theorem is_back {o : Option Nat} (h : finO o = true) (hl : ∀ v, o = some v → v < 4294967296) : F32.Is o (o.getD 0) := by
  cases o with
  | none => cases h
  | some v => exact ⟨rfl, fin_num h, hl v rfl⟩
theorem blk_set4 {w : World} {g : Nat} {a b c d : Value} {t : TypeId} (h : Blk.Blk w g [a, b, c, d] t) (a' b' c' d' : Value) : Blk.Blk ((((w.setCell ⟨g, 0, none⟩ a').setCell ⟨g, 1, none⟩ b').setCell ⟨g, 2, none⟩ c').setCell ⟨g, 3, none⟩ d') g [a', b', c', d'] t :=
  (((h.set 0 a').set 1 b').set 2 c').set 3 d'
theorem below_set4 {B : Nat} {w w' : World} (h : Below B w w') {g : Nat} (hg : B ≤ g) (a b c d : Value) : Below B w ((((w'.setCell ⟨g, 0, none⟩ a).setCell ⟨g, 1, none⟩ b).setCell ⟨g, 2, none⟩ c).setCell ⟨g, 3, none⟩ d) :=
  (((h.setCell hg a).setCell hg b).setCell hg c).setCell hg d
set_option maxRecDepth 20000 in
set_option maxHeartbeats 3200000 in
theorem seqOf_no (lo hi al be : Nat) (w : World) (hal : al < 4294967296) (hbe : be < 4294967296) (hb : (st0 lo hi && sqB al be) = false) :
    Calls Try.prog 66 #[.float .f32 lo, .float .f32 hi, .float .f32 al, .float .f32 be] w fun e w' => e = .returned (.tuple #[.agg #[.float .f32 0, .float .f32 0, .float .f32 0, .float .f32 0], .bool false]) ∧ Below w.heap.size w w' := by
  go_enter Try.func66, Try.ntmps66
  go_wp2_with fail
  obtain ⟨w1, hw1⟩ : ∃ W, W = w.alloc (.cells #[.float .f32 0, .float .f32 0, .float .f32 0, .float .f32 0] 84) := ⟨_, rfl⟩
  have hk := Blk.Blk.new w #[.float .f32 0, .float .f32 0, .float .f32 0, .float .f32 0] 84
  have B1 : Hid (Below w.heap.size w w1) := by show Below _ _ _; rw [hw1]; exact (Below.refl _ _).alloc (Nat.le_refl _) _
  rw [← hw1] at hk ⊢
  clear hw1
  refine (iSequenceBars_any al be _ hal hbe).mono ?_
  rintro e w2 ⟨rfl, b2⟩
  have hk2 := hk.keep b2
  have HK := Lib.hid hk2
  have B2 := Lib.hid (B1.out.trans (b2.mono B1.out.size))
  obtain ⟨⟨k0, k1, k2, k3⟩, f0, f1, f2, f3⟩ := blk_four hk2
  clear b2 hk hk2
  cases h1 : sqB al be with
  | false =>
    clear hb
    go_wp2_with fail
    have HK5 := Lib.hid (blk_set4 HK.out (.float .f32 0) (.float .f32 0) (.float .f32 0) (.float .f32 0))
    have B5 := Lib.hid (below_set4 B2.out (Nat.le_refl _) (.float .f32 0) (.float .f32 0) (.float .f32 0) (.float .f32 0))
    clear k0 k1 k2 k3 f0 f1 f2 f3
    generalize ((((w2.setCell ⟨w.heap.size, 0, none⟩ (.float .f32 0)).setCell ⟨w.heap.size, 1, none⟩ (.float .f32 0)).setCell ⟨w.heap.size, 2, none⟩ (.float .f32 0)).setCell ⟨w.heap.size, 3, none⟩ (.float .f32 0)) = w5 at *
    obtain ⟨⟨y0, y1, y2, y3⟩, _⟩ := blk_four HK5.out
    exact bodyPost_ret (v := .tuple #[.agg #[.float .f32 0, .float .f32 0, .float .f32 0, .float .f32 0], .bool false]) (by simp [results, Try.results66, go_sem, y0, y1, y2, y3]) rfl ⟨rfl, B5.out⟩
  | true =>
    rw [h1, Bool.and_true] at hb
    unfold st0 at hb
    cases h2 : gt0 lo with
    | false =>
      unfold gt0 at h2
      clear hb
      go_wp2_with fail
      have HK5 := Lib.hid (blk_set4 HK.out (.float .f32 0) (.float .f32 0) (.float .f32 0) (.float .f32 0))
      have B5 := Lib.hid (below_set4 B2.out (Nat.le_refl _) (.float .f32 0) (.float .f32 0) (.float .f32 0) (.float .f32 0))
      clear k0 k1 k2 k3 f0 f1 f2 f3
      generalize ((((w2.setCell ⟨w.heap.size, 0, none⟩ (.float .f32 0)).setCell ⟨w.heap.size, 1, none⟩ (.float .f32 0)).setCell ⟨w.heap.size, 2, none⟩ (.float .f32 0)).setCell ⟨w.heap.size, 3, none⟩ (.float .f32 0)) = w5 at *
      obtain ⟨⟨y0, y1, y2, y3⟩, _⟩ := blk_four HK5.out
      exact bodyPost_ret (v := .tuple #[.agg #[.float .f32 0, .float .f32 0, .float .f32 0, .float .f32 0], .bool false]) (by simp [results, Try.results66, go_sem, y0, y1, y2, y3]) rfl ⟨rfl, B5.out⟩
    | true =>
      rw [h2, Bool.true_and] at hb
      unfold gt0 at h2
      cases h3 : (FloatKind.f32.format.order lo hi == some .lt) with
      | false =>
        clear hb
        go_wp2_with fail
        have HK5 := Lib.hid (blk_set4 HK.out (.float .f32 0) (.float .f32 0) (.float .f32 0) (.float .f32 0))
        have B5 := Lib.hid (below_set4 B2.out (Nat.le_refl _) (.float .f32 0) (.float .f32 0) (.float .f32 0) (.float .f32 0))
        clear k0 k1 k2 k3 f0 f1 f2 f3
        generalize ((((w2.setCell ⟨w.heap.size, 0, none⟩ (.float .f32 0)).setCell ⟨w.heap.size, 1, none⟩ (.float .f32 0)).setCell ⟨w.heap.size, 2, none⟩ (.float .f32 0)).setCell ⟨w.heap.size, 3, none⟩ (.float .f32 0)) = w5 at *
        obtain ⟨⟨y0, y1, y2, y3⟩, _⟩ := blk_four HK5.out
        exact bodyPost_ret (v := .tuple #[.agg #[.float .f32 0, .float .f32 0, .float .f32 0, .float .f32 0], .bool false]) (by simp [results, Try.results66, go_sem, y0, y1, y2, y3]) rfl ⟨rfl, B5.out⟩
      | true =>
        rw [h3, Bool.true_and] at hb
        go_wp2_with fail
        have HK5 := Lib.hid (blk_set4 HK.out (.float .f32 0) (.float .f32 0) (.float .f32 0) (.float .f32 0))
        have B5 := Lib.hid (below_set4 B2.out (Nat.le_refl _) (.float .f32 0) (.float .f32 0) (.float .f32 0) (.float .f32 0))
        clear k0 k1 k2 k3 f0 f1 f2 f3
        generalize ((((w2.setCell ⟨w.heap.size, 0, none⟩ (.float .f32 0)).setCell ⟨w.heap.size, 1, none⟩ (.float .f32 0)).setCell ⟨w.heap.size, 2, none⟩ (.float .f32 0)).setCell ⟨w.heap.size, 3, none⟩ (.float .f32 0)) = w5 at *
        obtain ⟨⟨y0, y1, y2, y3⟩, _⟩ := blk_four HK5.out
        exact bodyPost_ret (v := .tuple #[.agg #[.float .f32 0, .float .f32 0, .float .f32 0, .float .f32 0], .bool false]) (by simp [results, Try.results66, go_sem, y0, y1, y2, y3]) rfl ⟨rfl, B5.out⟩
set_option maxRecDepth 20000 in
set_option maxHeartbeats 3200000 in
theorem seqOf_yes (lo hi al be : Nat) (w : World) (hlo : lo < 4294967296) (hhi : hi < 4294967296) (hal : al < 4294967296) (hbe : be < 4294967296) (hb : (st0 lo hi && sqB al be) = true) :
    Calls Try.prog 66 #[.float .f32 lo, .float .f32 hi, .float .f32 al, .float .f32 be] w fun e w' => (∃ u d x y : Nat, e = .returned (.tuple #[.agg #[.float .f32 u, .float .f32 d, .float .f32 x, .float .f32 y], .bool true]) ∧ F32.Is (teU lo hi) u ∧ F32.Is (teD lo hi) d ∧ F32.Is (sqL al be) x ∧ F32.Is (sqH al be) y) ∧ Below w.heap.size w w' := by
  rw [Bool.and_eq_true] at hb
  have HSN := Lib.hid (st0_num hb.1)
  have HLO : Hid (F32.Is (some lo) lo) := ⟨rfl, HSN.out.1, hlo⟩
  have HHI : Hid (F32.Is (some hi) hi) := ⟨rfl, HSN.out.2, hhi⟩
  have HP := Lib.hid (sqB_parts hb.2)
  have HX : Hid (F32.Is (sqL al be) (sqV al be (sqL al be))) := by show F32.Is _ _; rw [sq_yes hb.2]; exact is_back HP.out.2.1 fun _ g => lgq_lt g
  have HY : Hid (F32.Is (sqH al be) (sqV al be (sqH al be))) := by show F32.Is _ _; rw [sq_yes hb.2]; exact is_back HP.out.2.2 fun _ g => lgq_lt g
  have h2 := hb.2
  have hs := hb.1
  unfold st0 at hs
  simp only [Bool.and_eq_true] at hs
  obtain ⟨h3, h4, h5⟩ := hs
  unfold gt0 at h3
  clear hb
  go_enter Try.func66, Try.ntmps66
  go_wp2_with fail
  obtain ⟨w1, hw1⟩ : ∃ W, W = w.alloc (.cells #[.float .f32 0, .float .f32 0, .float .f32 0, .float .f32 0] 84) := ⟨_, rfl⟩
  have hk := Blk.Blk.new w #[.float .f32 0, .float .f32 0, .float .f32 0, .float .f32 0] 84
  have B1 : Hid (Below w.heap.size w w1) := by show Below _ _ _; rw [hw1]; exact (Below.refl _ _).alloc (Nat.le_refl _) _
  rw [← hw1] at hk ⊢
  clear hw1
  refine (iSequenceBars_any al be _ hal hbe).mono ?_
  generalize sqV al be (sqL al be) = x at *
  generalize sqV al be (sqH al be) = y at *
  rintro e w2 ⟨rfl, b2⟩
  have hk2 := hk.keep b2
  have HK := Lib.hid hk2
  have B2 := Lib.hid (B1.out.trans (b2.mono B1.out.size))
  obtain ⟨⟨k0, k1, k2, k3⟩, f0, f1, f2, f3⟩ := blk_four hk2
  clear b2 hk hk2
  obtain ⟨xb, vb, rb, jb, lb, eb⟩ := F32.arith_ex (P := Try.prog) (op := .quo) (.inr (.inr (.inr rfl))) 24 HHI.out HLO.out w2
  have DA := Lib.hid eb
  have JB := Lib.hid jb
  have LB := Lib.hid lb
  have HKA := Lib.hid (HK.out.keep (DA.out.below _))
  have BA := Lib.hid (B2.out.trans (DA.out.below _))
  clear jb lb eb k0 k1 k2 k3 f0 f1 f2 f3 DA
  go_wp2_with fail
  refine (implLogL_any xb LB.out _).mono ?_
  rintro e w4 ⟨u, rfl, hu, lu, d4⟩
  have HU : Hid (F32.Is (teU lo hi) u) := lg_is LB.out JB.out hu
  obtain ⟨xc, vc, rc, jc, lc, ec⟩ := F32.arith_ex (P := Try.prog) (op := .sub) (.inr (.inl rfl)) 24 one_is HHI.out w4
  obtain ⟨xd, vd, rd, jd, ld, ed⟩ := F32.arith_ex (P := Try.prog) (op := .sub) (.inr (.inl rfl)) 24 one_is HLO.out vc
  obtain ⟨xf, vf, rf, jf, lf, ef⟩ := F32.arith_ex (P := Try.prog) (op := .quo) (.inr (.inr (.inr rfl))) 24 jc jd vd
  have DC := Lib.hid ((ec.trans ed).trans ef)
  have JF := Lib.hid jf
  have LF := Lib.hid lf
  have D5 := Lib.hid (d4.trans DC.out)
  clear hu lu d4 rb
  clear jc lc ec jd ld ed jf lf ef
  clear DC
  go_wp2_with fail
  refine (implLogL_any xf LF.out _).mono ?_
  rintro e w6 ⟨dn, rfl, hd, ld, d6⟩
  have HD : Hid (F32.Is (teD lo hi) dn) := lg_is LF.out JF.out hd
  have D6 := Lib.hid (D5.out.trans d6)
  have HK6 := Lib.hid (HKA.out.keep (D6.out.below _))
  have B6 := Lib.hid (BA.out.trans (D6.out.below _))
  obtain ⟨⟨k0, k1, k2, k3⟩, f0, f1, f2, f3⟩ := blk_four HK6.out
  clear hd ld d6 rc rd rf D5 D6
  go_wp2_with fail
  have HK7 := Lib.hid (blk_set4 HK6.out (.float .f32 u) (.float .f32 dn) (.float .f32 x) (.float .f32 y))
  have B7 := Lib.hid (below_set4 B6.out (Nat.le_refl _) (.float .f32 u) (.float .f32 dn) (.float .f32 x) (.float .f32 y))
  clear k0 k1 k2 k3 f0 f1 f2 f3
  generalize ((((w6.setCell ⟨w.heap.size, 0, none⟩ (.float .f32 u)).setCell ⟨w.heap.size, 1, none⟩ (.float .f32 dn)).setCell ⟨w.heap.size, 2, none⟩ (.float .f32 x)).setCell ⟨w.heap.size, 3, none⟩ (.float .f32 y)) = w7 at *
  obtain ⟨⟨y0, y1, y2, y3⟩, _⟩ := blk_four HK7.out
  exact bodyPost_ret (v := .tuple #[.agg #[.float .f32 u, .float .f32 dn, .float .f32 x, .float .f32 y], .bool true]) (by simp [results, Try.results66, go_sem, y0, y1, y2, y3]) rfl ⟨⟨u, dn, x, y, rfl, HU.out, HD.out, HX.out, HY.out⟩, B7.out⟩
end Go.Proofs.Ytemdgfjcjjadnab
