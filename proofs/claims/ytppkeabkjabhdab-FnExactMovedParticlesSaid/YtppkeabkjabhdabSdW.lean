/-
  Draws from a seed that lies in a block, in both; steps that are told with it. Conditions: the seed is one.
-/
import Derived.Test.YtppkeabkjabhdabSed
import Derived.Test.YtppkeabkjabhdabAsc
import Derived.Test.YtppkeabkjabhdabBlk
import Derived.Test.YtppkeabkjabhdabHld
import Derived.Test.YtppkeabkjabhdabCrW
import Derived.Test.YtppkeabkjabhdabRgt
import Derived.Deep.RegionHeld3
namespace We
open Go Flt Dec F32 Cm Liv
theorem only_trans {g : Nat} {a b c : World} (h : Only g a b) (k : Only g b c) : Only g a c := ⟨h.1.trans k.1, fun j hj => (k.2 j hj).trans (h.2 j hj)⟩
theorem only_drawn {g : Nat} {a b c : World} (h : Only g a b) (d : Drawn b c) : Only g a c := by obtain ⟨n, rfl⟩ := d; exact ⟨below_drewN h.1 n, h.2⟩
theorem drawn_only {g : Nat} {a b : World} (d : Drawn a b) : Only g a b := only_drawn (Only.refl g a) d
theorem blk_drawn {w w' : World} {g : Nat} {cs : List Value} {t : TypeId} (h : Blk.Blk w g cs t) (d : Drawn w w') : Blk.Blk w' g cs t := by obtain ⟨n, rfl⟩ := d; exact h
theorem blk_only {w w' : World} {g k : Nat} {cs : List Value} {t : TypeId} (h : Blk.Blk w k cs t) (o : Only g w w') (hk : k ≠ g) : Blk.Blk w' k cs t := by
  unfold Blk.Blk; rw [o.2 k hk]; exact h
theorem owns_only {w w' : World} {g B : Nat} {e : TypeId} {sz : Nat} {v : Value} {n : Nat} {xs : List Value} (h : w.ownsRow B e sz v n xs) (o : Only g w w') (hg : g < B) : w'.ownsRow B e sz v n xs := by
  obtain ⟨h1, h2 | ⟨k, cap, cur, r1, r2, r3, r4⟩⟩ := h
  · exact ⟨h1, .inl h2⟩
  · exact ⟨h1, .inr ⟨k, cap, cur, r1, r2, by rw [o.2 k (by omega)]; exact r3, r4⟩⟩
theorem fhd_only {w w' : World} {e : TypeId} {g k n : Nat} {zs : List Nat} (h : Hld.FHd e w k n zs) (o : Only g w w') (hk : k ≠ g) : Hld.FHd e w' k n zs := by
  obtain ⟨⟨cur, h1, h2⟩, h3, h4⟩ := h
  exact ⟨⟨cur, by rw [o.2 k hk]; exact h1, h2⟩, h3, fun j hj => by rw [o.cell hk]; exact h4 j hj⟩
theorem only_below {g B : Nat} {w w' : World} (o : Only g w w') (h : B ≤ g) : Go.RowKit.Below B w w' := o.1.mono h
theorem blk_grown {w w' : World} {g : Nat} {cs : List Value} {t : TypeId} {row : Option Nat} (h : Blk.Blk w g cs t) (hg : w.grownBy w' row) (hne : row ≠ some g) : Blk.Blk w' g cs t := by
  unfold Blk.Blk
  rw [hg.block g h.lt (fun e => hne e.symm)]; exact h
def drwV (g s ns : Nat) : Nat → Value → Prop
  | 0, v => v = .pointer (some ⟨g, 0, none⟩)
  | 1, v => v = .pointer (some ⟨g, 0, none⟩)
  | 2, v => v = .pointer (some ⟨g, 0, none⟩)
  | 3, v => v = .int .i64 (s : Int)
  | 4, v => v = .int .i64 (ns : Int)
  | 5, v => v = .pointer (some ⟨g, 0, none⟩)
  | _, _ => True
def isSd (s : Int) : Bool := decide (0 ≤ s ∧ s ≤ 4294967295)
end We
namespace Go.Proofs.Ytppkeabkjabhdab
open Go.RowKit Flt Dec Cm We Cr Liv Hld
theorem sSeed_any (s : Int) (w : World) : Calls Try.prog 31 #[.int .i64 s] w fun e w' => e = .returned (.bool (isSd s)) ∧ w = w' := by
  cases hq : isSd s
  all_goals
    have HQ : Hid (decide (0 ≤ s ∧ s ≤ 4294967295) = _) := Lib.hid hq
    clear hq
    go_enter Try.func31, Try.ntmps31
    go_wp2_with fail
    refine (c_In _ _ _ _).mono ?_
    rintro e w1 ⟨rfl, rfl⟩
    rw [HQ.out]
    go_wp2_with fail
    go_ret
    exact ⟨rfl, rfl⟩
theorem iSeed_any (s : Int) (w : World) : Calls Try.prog 35 #[.int .i64 s] w fun e w' => e = .returned (.bool (isSd s)) ∧ w = w' := by
  by_cases h1 : s ≥ 0
  · by_cases h2 : s ≤ 4294967295
    · have HE : Hid (isSd s = true) := Lib.hid (decide_eq_true ⟨h1, h2⟩)
      go_enter Try.func35, Try.ntmps35
      go_wp2_with fail
      go_ret
      exact ⟨by rw [HE.out] <;> rfl, rfl⟩
    · have HE : Hid (isSd s = false) := Lib.hid (decide_eq_false fun h => h2 h.2)
      go_enter Try.func35, Try.ntmps35
      go_wp2_with fail
      go_ret
      exact ⟨by rw [HE.out] <;> rfl, rfl⟩
  · have HE : Hid (isSd s = false) := Lib.hid (decide_eq_false fun h => h1 h.1)
    go_enter Try.func35, Try.ntmps35
    go_wp2_with fail
    go_ret
    exact ⟨by rw [HE.out] <;> rfl, rfl⟩
set_option maxHeartbeats 1600000 in
theorem sDraw_any (g s : Nat) (w : World) (hs : s < 4294967296) (hb : Blk.Blk w g [.int .i64 (s : Int)] 2) :
    Calls Try.prog 33 #[.pointer (some ⟨g, 0, none⟩)] w fun e w' => (∃ x, e = .returned (.float .f32 x) ∧ F32.Is (drO (nx s)) x ∧ x < 4294967296) ∧ Blk.Blk w' g [.int .i64 ((nx s : Nat) : Int)] 2 ∧ Only g w w' := by
  have hc0 := hb.cell 0
  have hf0 := hb.frozen 0
  have hlt := hb.lt
  have hn := nx_int s
  have hnl := nx_lt s
  have hd := div_int (nx s)
  have hdl : nx s / 256 < 16777216 := by omega
  have HB2 := Lib.hid (hb.set 0 (.int .i64 ((nx s : Nat) : Int)))
  have HO2 := Lib.hid ((Only.refl g w).setCell 0 (.int .i64 ((nx s : Nat) : Int)))
  have hc2 := HB2.out.cell 0
  have HW := Lib.hid (whole24 (nx s / 256) hdl)
  have HDR : Hid (drO (nx s) = F32.opO .quo (some (Go.floatOfInt .f32 ((nx s / 256 : Nat) : Int))) (some 1266679808)) := Lib.hid rfl
  obtain ⟨x1, v1, r1, j1, l1, e1⟩ := F32.arith_ex (P := Try.prog) (op := .quo) (.inr (.inr (.inr rfl))) 22 HW.out whole_is24 (w.setCell ⟨g, 0, none⟩ (.int .i64 ((nx s : Nat) : Int)))
  have HX : Hid (F32.Is (drO (nx s)) x1 ∧ x1 < 4294967296) := by show _ ∧ _; rw [HDR.out]; exact ⟨j1, l1⟩
  have HBV := Lib.hid (blk_drawn HB2.out e1)
  have HOV := Lib.hid (only_drawn HO2.out e1)
  clear j1 l1 e1 hb
  generalize nx s / 256 = q at *
  generalize nx s = ns at *
  go_enter Try.func33, Try.ntmps33
  go_wp2_with fail
  go_ret
  exact ⟨⟨x1, rfl, HX.out.1, HX.out.2⟩, HBV.out, HOV.out⟩
set_option maxHeartbeats 1600000 in
theorem sNormal_any (g s : Nat) (w : World) (hs : s < 4294967296) (hb : Blk.Blk w g [.int .i64 (s : Int)] 2) :
    Calls Try.prog 40 #[.pointer (some ⟨g, 0, none⟩)] w fun e w' => (∃ x, e = .returned (.float .f32 x) ∧ F32.Is (nmO s) x ∧ x < 4294967296) ∧ Blk.Blk w' g [.int .i64 ((nxk s 4 : Nat) : Int)] 2 ∧ Only g w w' := by
  have HB := Lib.hid hb
  clear hb
  go_enter Try.func40, Try.ntmps40
  go_wp2_with fail
  go_loopg [3, 4] 4 (fun n a i wr => ∃ k x : Nat, a = .float .f32 x ∧ i = .int .i64 (k : Int) ∧ Hid (k + n = 4) ∧ k ≤ 4 ∧ Hid (F32.Is (nsO s k) x) ∧ Hid (Blk.Blk wr g [.int .i64 ((nxk s k : Nat) : Int)] 2) ∧ Hid (Only g w wr))
  case atStart => exact ⟨0, 0, rfl, rfl, rfl, Nat.zero_le _, zero_is, HB.out, Only.refl _ _⟩
  case round =>
    obtain ⟨k, x, rfl, rfl, hk, hkl, hX, hS, hO⟩ := hrel
    by_cases hlt : k < 4
    · have HJ : Hid (k + 1 + (gk - 1) = 4) := by have := hk.out; show _ = _; omega
      have HG : Hid (gk - 1 < gk) := by have := hk.out; show _ < _; omega
      have hz : (k : Int) < 4 := by omega
      go_wp2_with fail
      refine (sDraw_any g (nxk s k) _ (nxk_lt hs k) hS.out).mono ?_
      rintro e w1 ⟨⟨y, rfl, i1, li⟩, hb1, ho1⟩
      obtain ⟨x1, v1, r1, j1, l1, e1⟩ := F32.arith_ex (P := Try.prog) (op := .sub) (.inr (.inl rfl)) 22 i1 half_is w1
      obtain ⟨x2, v2, r2, j2, l2, e2⟩ := F32.arith_ex (P := Try.prog) (op := .add) (.inl rfl) 22 hX.out j1 v1
      have DD := Lib.hid (e1.trans e2)
      have J : Hid (F32.Is (nsO s (k + 1)) x2) := j2
      have S1 : Hid (Blk.Blk v2 g [.int .i64 ((nxk s (k + 1) : Nat) : Int)] 2) := blk_drawn hb1 DD.out
      have O1 := Lib.hid (only_drawn (only_trans hO.out ho1) DD.out)
      clear j1 l1 e1 j2 l2 e2
      clear i1 li hb1 ho1 hX hS hO DD
      go_wp2_with fail
      go_roundg (gk - 1)
      case measure => exact HG.out
      case rel => exact ⟨k + 1, x2, rfl, by go_num, HJ, by omega, J.out, S1.out, O1.out⟩
    · obtain rfl : k = 4 := by omega
      generalize wr = w3 at *
      obtain ⟨x1, v1, r1, j1, l1, e1⟩ := F32.arith_ex (P := Try.prog) (op := .mul) (.inr (.inr (.inl rfl))) 22 hX.out root_is w3
      have DD := Lib.hid e1
      have J : Hid (F32.Is (nmO s) x1 ∧ x1 < 4294967296) := ⟨j1, l1⟩
      have S1 := Lib.hid (blk_drawn hS.out DD.out)
      have O1 := Lib.hid (only_drawn hO.out DD.out)
      clear j1 l1 e1
      clear hX hS hO DD hlt hk
      go_wp2_with fail
      go_ret
      exact ⟨⟨x1, rfl, J.out.1, J.out.2⟩, S1.out, O1.out⟩
theorem next_any5 (s : Nat) (w : World) (hs : s < 4294967296) : Calls Try.prog 62 #[.int .i64 (s : Int)] w fun e w' => e = .returned (.int .i64 ((nx s : Nat) : Int)) ∧ w = w' := by
  have hn := nx_int2 s
  have hnl := nx_lt s
  generalize nx s = ns at *
  go_enter Try.func62, Try.ntmps62
  go_wp2_with fail
  go_ret
  exact ⟨rfl, rfl⟩
set_option maxHeartbeats 1600000 in
theorem iDraw_any (g b s : Nat) (w : World) (hs : s < 4294967296) (hb : Blk.Blk w g [.int .i64 (s : Int)] 2) (hp : Blk.Blk w b [.pointer (some ⟨g, 0, none⟩)] 52) (hne : b ≠ g) :
    Calls Try.prog 61 #[.pointer (some ⟨b, 0, none⟩)] w fun e w' => (∃ x, e = .returned (.float .f32 x) ∧ F32.Is (drO (nx s)) x ∧ x < 4294967296) ∧ Blk.Blk w' g [.int .i64 ((nx s : Nat) : Int)] 2 ∧ Only g w w' := by
  have hnl := nx_lt s
  have HDM := Lib.hid (drO_mul hnl)
  have hd := div_int (nx s)
  have hdl : nx s / 256 < 16777216 := by omega
  have HW := Lib.hid (whole24 (nx s / 256) hdl)
  have HNX : Hid (∀ w, Calls Try.prog 62 #[.int .i64 (s : Int)] w fun e w' => e = .returned (.int .i64 ((nx s : Nat) : Int)) ∧ w = w') := Lib.hid fun w => next_any5 s w hs
  have HBB := Lib.hid hb
  have HPP := Lib.hid hp
  have hc0 : w.cell? ⟨g, 0, none⟩ = some (.int .i64 (s : Int)) := hb.cell 0
  have hcb : w.cell? ⟨b, 0, none⟩ = some (.pointer (some ⟨g, 0, none⟩)) := hp.cell 0
  generalize nx s / 256 = q at *
  generalize nx s = ns at *
  clear hb hp
  go_enter Try.func61, Try.ntmps61
  go_wp2_with fail
  have hDd : Drawn w w.drew := Drawn.one w
  refine wp_region_head 6 6 (C := fun _ w' => Drawn w w') (V := drwV g s ns) (by kernel_rfl) hDd (by kernel_rfl) ?_ ?_
  · intro i o hin ho A W bb hbb hC hdep hbase
    have m0 : W.cell? ⟨b, 0, none⟩ = some (.pointer (some ⟨g, 0, none⟩)) := by rw [hC.cell]; exact hcb
    have m1 : W.cell? ⟨g, 0, none⟩ = some (.int .i64 (s : Int)) := by rw [hC.cell]; exact hc0
    rcases i with _ | _ | _ | _ | _ | _ | i
    · obtain rfl := Option.some.inj ho
      have b0 : A.tmps.getD 0 undef = .pointer (some ⟨b, 0, none⟩) := hbase 0 (by kernel_rfl)
      refine stepH (b := bb) (C := fun _ w' => Drawn w w') (.pointer (some ⟨g, 0, none⟩)) W rfl hC fun K hK => ?_
      simp only [Array.getD_eq_getD_getElem?] at b0
      unfold Oper.wp
      go_simp
      exact hK
    · obtain rfl := Option.some.inj ho
      have b0 : A.tmps.getD 0 undef = .pointer (some ⟨b, 0, none⟩) := hbase 0 (by kernel_rfl)
      refine stepH (b := bb) (C := fun _ w' => Drawn w w') (.pointer (some ⟨g, 0, none⟩)) W rfl hC fun K hK => ?_
      simp only [Array.getD_eq_getD_getElem?] at b0
      unfold Oper.wp
      go_simp
      exact hK
    · obtain rfl := Option.some.inj ho
      have b0 : A.tmps.getD 3 undef = .pointer (some ⟨g, 0, none⟩) := hdep ⟨1, .data⟩ (by simp) rfl 3 rfl
      refine stepH (b := bb) (C := fun _ w' => Drawn w w') (.pointer (some ⟨g, 0, none⟩)) W rfl hC fun K hK => ?_
      simp only [Array.getD_eq_getD_getElem?] at b0
      unfold Oper.wp
      go_simp
      exact hK
    · obtain rfl := Option.some.inj ho
      have b0 : A.tmps.getD 4 undef = .pointer (some ⟨g, 0, none⟩) := hdep ⟨2, .data⟩ (by simp) rfl 4 rfl
      refine stepH (b := bb) (C := fun _ w' => Drawn w w') (.int .i64 (s : Int)) W rfl hC fun K hK => ?_
      simp only [Array.getD_eq_getD_getElem?] at b0
      unfold Oper.wp
      go_simp
      exact hK
    · obtain rfl := Option.some.inj ho
      have b0 : A.tmps.getD 5 undef = .int .i64 (s : Int) := hdep ⟨3, .data⟩ (by simp) rfl 5 rfl
      simp only [Array.getD_eq_getD_getElem?] at b0
      unfold Oper.wp
      go_simp
      refine (HNX.out _).mono ?_
      rintro e w9 ⟨rfl, rfl⟩
      exact ⟨_, rfl, hC, rfl⟩
    · obtain rfl := Option.some.inj ho
      have b0 : A.tmps.getD 2 undef = .pointer (some ⟨g, 0, none⟩) := hdep ⟨0, .data⟩ (by simp) rfl 2 rfl
      refine stepH (b := bb) (C := fun _ w' => Drawn w w') (.pointer (some ⟨g, 0, none⟩)) W rfl hC fun K hK => ?_
      simp only [Array.getD_eq_getD_getElem?] at b0
      unfold Oper.wp
      go_simp
      exact hK
    · exact absurd hin (by omega)
  · intro vals W hC hlen hV
    match vals, hlen with
    | [v0, v1, v2, v3, v4, v5], _ =>
      obtain rfl : v0 = _ := hV 0 (by simp)
      obtain rfl : v1 = _ := hV 1 (by simp)
      obtain rfl : v2 = _ := hV 2 (by simp)
      obtain rfl : v3 = _ := hV 3 (by simp)
      obtain rfl : v4 = _ := hV 4 (by simp)
      obtain rfl : v5 = _ := hV 5 (by simp)
      clear hV hlen
      simp only [puts, Act.put, List.zip_cons_cons, List.zip_nil_right, List.take_succ_cons, List.take_zero, List.drop_succ_cons, List.drop_zero, List.foldl_cons, List.foldl_nil, List.setIfInBounds_toArray, List.set_cons_zero, List.set_cons_succ]
      have DW := Lib.hid hC
      have HS := Lib.hid (blk_drawn HBB.out hC)
      have HPB := Lib.hid (blk_drawn HPP.out hC)
      have hcg := HS.out.cell 0
      have hfg := HS.out.frozen 0
      have HB2 := Lib.hid (HS.out.set 0 (.int .i64 (ns : Int)))
      have HP2 := Lib.hid (HPB.out.other 0 (.int .i64 (ns : Int)) hne)
      have HO2 := Lib.hid ((drawn_only (g := g) hC).setCell 0 (.int .i64 (ns : Int)))
      have hc2 := HB2.out.cell 0
      have hp2 := HP2.out.cell 0
      obtain ⟨x1, v1, r1, j1, l1, e1⟩ := F32.arith_ex (P := Try.prog) (op := .mul) (.inr (.inr (.inl rfl))) 22 HW.out part_is (W.setCell ⟨g, 0, none⟩ (.int .i64 (ns : Int)))
      have DD := Lib.hid e1
      have HX : Hid (F32.Is (drO ns) x1 ∧ x1 < 4294967296) := by show _ ∧ _; rw [HDM.out]; exact ⟨j1, l1⟩
      have HBV := Lib.hid (blk_drawn HB2.out DD.out)
      have HOV := Lib.hid (only_drawn HO2.out DD.out)
      clear j1 l1 e1
      clear hC DD hc0 hcb
      go_wp2_with fail
      go_ret
      exact ⟨⟨x1, rfl, HX.out.1, HX.out.2⟩, HBV.out, HOV.out⟩
end Go.Proofs.Ytppkeabkjabhdab
