/-
  Reading the text of complex numbers: contracts of the program's function and of its model, and the walk of the exact law of ReadComplex. Conditions: arguments fit their kind; the library's variable holds a number of its kind.
-/
import Derived.Test.YtfmicahibmpjmaaDoorHexR
import Derived.Test.YtfmicahibmpjmaaDoorCutW
import Derived.Test.YtfmicahibmpjmaaDoorCxW
import Derived.Test.YtfmicahibmpjmaaDoorShelf
import Derived.Maps.AppendAt
namespace Dec
open Go Flt
def cv (zs : List (Nat × Nat)) : List Value := zs.map fun z => .complex .f32 z.1 z.2
def cnum (b : ByteArray) : Option (Nat × Nat) := if b.size = 16 then (rnum (b.extract 0 8).data.toList).bind fun x => (rnum (b.extract 8 b.size).data.toList).map fun y => (x, y) else none
def cn (b : ByteArray) : Nat × Nat := (cnum b).getD (0, 0)
def rcR (b : ByteArray) : Value := .tuple #[.complex .f32 (cn b).1 (cn b).2, .bool (cnum b).isSome]
theorem rcR_no {b : ByteArray} (h : cnum b = none) : rcR b = .tuple #[.complex .f32 0 0, .bool false] := by unfold rcR cn; rw [h]; rfl
theorem rcR_yes {b : ByteArray} {x y : Nat} (h : cnum b = some (x, y)) : rcR b = .tuple #[.complex .f32 x y, .bool true] := by unfold rcR cn; rw [h]; rfl
theorem cnum_len {b : ByteArray} (h : b.size ≠ 16) : cnum b = none := by unfold cnum; rw [if_neg h]
theorem cnum_a {b : ByteArray} (h : rnum (b.extract 0 8).data.toList = none) : cnum b = none := by unfold cnum; rw [h]; split <;> rfl
theorem cnum_b {b : ByteArray} (h : rnum (b.extract 8 b.size).data.toList = none) : cnum b = none := by
  unfold cnum
  rw [h]
  split
  · cases rnum (b.extract 0 8).data.toList <;> rfl
  · rfl
theorem cnum_at {b : ByteArray} {x y : Nat} (h0 : b.size = 16) (h1 : rnum (b.extract 0 8).data.toList = some x) (h2 : rnum (b.extract 8 b.size).data.toList = some y) : cnum b = some (x, y) := by unfold cnum; rw [if_pos h0, h1, h2]; rfl
theorem cnum_lt {b : ByteArray} {z : Nat × Nat} (h : cnum b = some z) : z.1 < 4294967296 ∧ z.2 < 4294967296 := by
  unfold cnum at h
  split at h
  · cases h1 : rnum (b.extract 0 8).data.toList with
    | none => rw [h1] at h; cases h
    | some x =>
      cases h2 : rnum (b.extract 8 b.size).data.toList with
      | none => rw [h1, h2] at h; cases h
      | some y =>
        rw [h1, h2] at h
        have : (x, y) = z := by simpa using h
        subst this
        exact ⟨rnum_lt h1, rnum_lt h2⟩
  · cases h
def allC (P : List ByteArray) : Bool := P.all fun b => (cnum b).isSome
def crOK (s : ByteArray) : Bool := decide (s = noneB) || (decide ((cutB 44 s).length ≤ 256) && allC (cutB 44 s))
def crZ (s : ByteArray) : List (Nat × Nat) := if s = noneB then [] else if crOK s = true then (cutB 44 s).map cn else []
theorem crZ_none : crZ noneB = [] := by unfold crZ; rw [if_pos rfl]
theorem crOK_none : crOK noneB = true := by unfold crOK; rw [decide_eq_true rfl]; rfl
theorem crOK_ne {s : ByteArray} (h : s ≠ noneB) : crOK s = (decide ((cutB 44 s).length ≤ 256) && allC (cutB 44 s)) := by unfold crOK; rw [decide_eq_false h]; rfl
theorem crZ_no {s : ByteArray} (h : s ≠ noneB) (h2 : crOK s = false) : crZ s = [] := by unfold crZ; rw [if_neg h, h2]; rfl
theorem crZ_yes {s : ByteArray} (h : s ≠ noneB) (h2 : crOK s = true) : crZ s = (cutB 44 s).map cn := by unfold crZ; rw [if_neg h, if_pos h2]
theorem allC_take (P : List ByteArray) (k : Nat) (h : k < P.length) (h1 : allC (P.take k) = true) {n : Nat × Nat} (h2 : cnum P[k] = some n) : allC (P.take (k + 1)) = true := by
  rw [List.take_succ_eq_append_getElem h]
  unfold allC at *
  rw [List.all_append, h1]
  simp [h2]
theorem allC_no (P : List ByteArray) (k : Nat) (h : k < P.length) (h2 : cnum P[k] = none) : allC P = false := by
  unfold allC
  rw [List.all_eq_false]
  exact ⟨P[k], List.getElem_mem h, by simp [h2]⟩
theorem cn_bd (b : ByteArray) : (cn b).1 < 4294967296 ∧ (cn b).2 < 4294967296 := by
  unfold cn
  cases h : cnum b with
  | none => decide
  | some n => exact cnum_lt h
theorem cns_bd (P : List ByteArray) : ∀ z ∈ P.map cn, z.1 < 4294967296 ∧ z.2 < 4294967296 := by
  intro z hz
  obtain ⟨b, _, rfl⟩ := List.mem_map.1 hz
  exact cn_bd b
theorem cns_take (P : List ByteArray) (k : Nat) (h : k < P.length) : cv ((P.map cn).take (k + 1)) = cv ((P.map cn).take k) ++ [.complex .f32 (cn P[k]).1 (cn P[k]).2] := by
  rw [List.take_succ_eq_append_getElem (by simpa using h)]
  simp [cv]
theorem crow_nil (w : World) (a : Option Addr) : CRow w a 0 [] := ⟨rfl, Nat.zero_le _, by simp, fun i hi => absurd hi (Nat.not_lt_zero _)⟩
theorem crow_of_owned {w : World} {B t : Nat} {v : Value} {Z : List (Nat × Nat)} (h : w.ownsRow B t 1 v Z.length (cv Z)) (hn : Z.length ≤ 1048576) (hz : ∀ z ∈ Z, z.1 < 4294967296 ∧ z.2 < 4294967296) : ∃ a c, v = .slice a Z.length c ∧ CRow w a Z.length Z := by
  obtain ⟨h1, ⟨rfl, h2⟩ | ⟨g, cap, cur, rfl, hg, hc, hcap, _, hcs, hcur⟩⟩ := h
  · have hZ : Z = [] := List.eq_nil_of_length_eq_zero h2
    subst hZ
    exact ⟨none, 0, rfl, crow_nil w none⟩
  · have hlt : g < w.heap.size := by
      refine Nat.lt_of_not_le fun hle => ?_
      rw [Array.getElem?_eq_none hle] at hc; cases hc
    refine ⟨some ⟨g, 0, none⟩, cap, rfl, rfl, by unfold maxLen; omega, hz, fun j hj => ⟨g, 0, rfl, hlt, ?_⟩⟩
    have hu : (cur.toList.take (Z.length * 1))[j]? = some (.complex .f32 (Z.getD j (0, 0)).1 (Z.getD j (0, 0)).2) := by
      rw [hcur]; simp [cv, List.getElem?_eq_getElem hj, List.getD]
    rw [List.getElem?_take_of_lt (by omega)] at hu
    unfold World.cell?
    simp only [hc]
    simpa using hu
theorem cv_get (zs : List (Nat × Nat)) (k : Nat) (h : k < zs.length) (d : Value) : (cv zs).getD k d = .complex .f32 (zs.getD k (0, 0)).1 (zs.getD k (0, 0)).2 := by simp [cv, List.getD, h]
theorem cmade_row {t : TypeId} {w : World} {g n : Nat} {zs : List (Nat × Nat)} (h : Flt.Filled w g t (cv zs) (.complex .f32 0 0) n n) (hl : zs.length = n) (hm : n ≤ 1048576) (hz : ∀ z ∈ zs, z.1 < 4294967296 ∧ z.2 < 4294967296) : CRow w (some ⟨g, 0, none⟩) n zs := by
  refine ⟨hl, by unfold maxLen; omega, hz, fun i hi => ⟨g, 0, rfl, h.lt, ?_⟩⟩
  have := Flt.Filled.cell h (by simp [cv]; exact hl) (Nat.le_refl n) hi
  rw [if_pos hi, cv_get zs i (by omega)] at this
  rw [Nat.zero_add]; exact this
theorem half_a {b : ByteArray} (h : b.size = 16) : (b.extract 0 8).size = 8 := by simp; omega
theorem half_b {b : ByteArray} (h : b.size = 16) : (b.extract 8 b.size).size = 8 := by simp; omega
end Dec
namespace Go.Proofs.YtfmicahibmpjmaaDoor
open Go.RowKit Dec Flt
set_option maxRecDepth 20000 in
set_option maxHeartbeats 1600000 in
theorem readCx_any (b : ByteArray) (w : World) : Calls Tryd.prog 66 #[.string b] w fun e w' => e = .returned (rcR b) ∧ Below w.heap.size w w' := by
  by_cases h16 : b.size = 16
  · have HA := Lib.hid (fun w => readNum_any (b.extract 0 8) (by rw [half_a h16]; decide) w)
    have HB := Lib.hid (fun w => readNum_any (b.extract 8 b.size) (by rw [half_b h16]; decide) w)
    have hq : ((b.size : Int) != 16) = false := by simp; omega
    have h8 : 8 ≤ b.size := by omega
    have HN1 := Lib.hid (fun h => rcR_no (cnum_a (b := b) h))
    have HN2 := Lib.hid (fun h => rcR_no (cnum_b (b := b) h))
    have HY := Lib.hid (fun x y h1 h2 => rcR_yes (cnum_at (b := b) (x := x) (y := y) h16 h1 h2))
    clear h16
    cases ha : rnum (b.extract 0 8).data.toList with
    | none =>
      have HR := Lib.hid (HN1.out ha)
      have HVA := Lib.hid (rnR_no ha)
      clear ha
      cases hb : rnum (b.extract 8 b.size).data.toList with
      | none =>
        have HVB := Lib.hid (rnR_no hb)
        clear hb
        go_enter Tryd.func66, Tryd.ntmps66
        go_wp2_with fail
        refine (HA.out _).mono ?_
        rintro e w1 ⟨rfl, b1⟩
        rw [HVA.out]
        have B1 := Lib.hid b1
        clear b1
        go_wp2_with fail
        refine (HB.out _).mono ?_
        rintro e w2 ⟨rfl, b2⟩
        rw [HVB.out]
        have B2 := Lib.hid (B1.out.trans (b2.mono B1.out.size))
        clear b2
        go_wp2_with fail
        go_ret2
        exact ⟨by rw [HR.out] <;> rfl, B2.out⟩
      | some y =>
        have HVB := Lib.hid (rnR_yes hb)
        clear hb
        go_enter Tryd.func66, Tryd.ntmps66
        go_wp2_with fail
        refine (HA.out _).mono ?_
        rintro e w1 ⟨rfl, b1⟩
        rw [HVA.out]
        have B1 := Lib.hid b1
        clear b1
        go_wp2_with fail
        refine (HB.out _).mono ?_
        rintro e w2 ⟨rfl, b2⟩
        rw [HVB.out]
        have B2 := Lib.hid (B1.out.trans (b2.mono B1.out.size))
        clear b2
        go_wp2_with fail
        go_ret2
        exact ⟨by rw [HR.out] <;> rfl, B2.out⟩
    | some x =>
      have HVA := Lib.hid (rnR_yes ha)
      cases hb : rnum (b.extract 8 b.size).data.toList with
      | none =>
        have HR := Lib.hid (HN2.out hb)
        have HVB := Lib.hid (rnR_no hb)
        clear ha hb
        go_enter Tryd.func66, Tryd.ntmps66
        go_wp2_with fail
        refine (HA.out _).mono ?_
        rintro e w1 ⟨rfl, b1⟩
        rw [HVA.out]
        have B1 := Lib.hid b1
        clear b1
        go_wp2_with fail
        refine (HB.out _).mono ?_
        rintro e w2 ⟨rfl, b2⟩
        rw [HVB.out]
        have B2 := Lib.hid (B1.out.trans (b2.mono B1.out.size))
        clear b2
        go_wp2_with fail
        go_ret2
        exact ⟨by rw [HR.out] <;> rfl, B2.out⟩
      | some y =>
        have HR := Lib.hid (HY.out x y ha hb)
        have HVB := Lib.hid (rnR_yes hb)
        clear ha hb
        go_enter Tryd.func66, Tryd.ntmps66
        go_wp2_with fail
        refine (HA.out _).mono ?_
        rintro e w1 ⟨rfl, b1⟩
        rw [HVA.out]
        have B1 := Lib.hid b1
        clear b1
        go_wp2_with fail
        refine (HB.out _).mono ?_
        rintro e w2 ⟨rfl, b2⟩
        rw [HVB.out]
        have B2 := Lib.hid (B1.out.trans (b2.mono B1.out.size))
        clear b2
        go_wp2_with fail
        go_ret2
        exact ⟨by rw [HR.out] <;> rfl, B2.out⟩
  · have HR := Lib.hid (rcR_no (cnum_len h16))
    have hq : ((b.size : Int) != 16) = true := by simp; omega
    clear h16
    go_enter Tryd.func66, Tryd.ntmps66
    go_wp2_with fail
    go_ret2
    exact ⟨by rw [HR.out] <;> rfl, Below.refl _ _⟩
set_option maxRecDepth 20000 in
set_option maxHeartbeats 1600000 in
theorem readTextC_any (s : ByteArray) (hs : s.size ≤ 1048576) (w : World) (hm : MaxAt w) :
    Calls Tryd.prog 65 #[.string s, .int .i64 256, .func (.func 66) #[] #[]] w fun e w' => ∃ a c, e = .returned (.tuple #[.slice a (crZ s).length c, .bool (crOK s)]) ∧ CRow w' a (crZ s).length (crZ s) ∧ Own w' w.heap.size a (crZ s).length 42 ∧ Below w.heap.size w w' := by
  by_cases hno : s = noneB
  · subst hno
    rw [crZ_none, crOK_none]
    have hx : (noneB.toList == noneB.toList) = true := by simp
    clear hs hm
    go_enter Tryd.func65, Tryd.ntmps65
    go_wp2_with fail
    go_ret2
    exact ⟨_, _, rfl, crow_nil _ _, .inl rfl, Below.refl _ _⟩
  · have hne := none_ne hno
    have HC := Lib.hid (fun w => cntComma s w)
    have HSP := Lib.hid (fun w => splitComma s hs w)
    have HM := Lib.hid hm
    clear hm
    obtain ⟨P, hP⟩ : ∃ P, cutB 44 s = P := ⟨_, rfl⟩
    have HPS : Hid (∀ j (h : j < P.length), P[j].size ≤ 1048576) := by
      intro j h; subst hP; exact Nat.le_trans (cutB_size 44 s j h) hs
    have HOK := Lib.hid (crOK_ne hno)
    have HZN := Lib.hid (fun h2 => crZ_no hno h2)
    have HZY := Lib.hid (fun h2 => crZ_yes hno h2)
    rw [hP] at HOK HZY HC HSP
    have hpl : 1 ≤ P.length := by rw [← hP, cutB_len]; omega
    have hpm : P.length ≤ 1048577 := by
      rw [← hP, cutB_len]
      have : s.data.toList.count 44 ≤ s.data.toList.length := List.count_le_length
      have h2 : s.data.toList.length = s.size := by simp
      omega
    have hcst : (((P.length - 1 : Nat)) : Int) = (P.length : Int) - 1 := by omega
    rw [hcst] at HC
    clear hno hP hcst
    by_cases hbig : P.length ≤ 256
    · have hnb : ¬ (256 : Int) ≤ (P.length : Int) - 1 := by omega
      have hnw := Tryd.func66
      obtain ⟨n, hn⟩ : ∃ n, P.length = n := ⟨_, rfl⟩
      have hmk : ∀ w, (Instr.makeSlice 45 (.int .i64 (n : Int)) (.int .i64 (n : Int))).run Tryd.prog w = .ok (.slice (some ⟨w.heap.size, 0, none⟩) n n) (w.alloc (.cells (fillC (cv (P.map cn)) (.complex .f32 0 0) 0 n) 42)) := by
        intro w
        obtain ⟨i, hi, hz0, hz1, hz2⟩ := info_parts (show (Tryd.prog.info? 42).map (fun i => (i.zero, i.size, i.bytes)) = some (some (.complex .f32 0 0), 1, 8) by kernel_rfl)
        have := run_make (P := Tryd.prog) w 45 42 i (.complex .f32 0 0) Tryd.underlying45 hi hz0 .i64 .i64 n n (by omega) (Int.le_refl _) (by rw [hz2]; omega) (by omega)
        rw [this, hz1, Int.toNat_natCast, fillC_made _ _ _ rfl]
      have hvl := Lib.hid (show (cv (P.map cn)).length = n by simp [cv, hn])
      have hMade := fun w => Lib.hid (Filled.made w 42 (cv (P.map cn)) (.complex .f32 0 0) n)
      have hvg : Hid (∀ k (h : k < P.length), (cv (P.map cn)).getD k (.complex .f32 0 0) = .complex .f32 (cn P[k]).1 (cn P[k]).2) := by
        intro k hk
        simp [cv, List.getD, hk]
      have HN := Lib.hid hn
      have hn1 : n ≤ 256 := by omega
      have hn2 : 1 ≤ n := by omega
      have hcn : (P.length : Int) = n := by rw [hn]
      rw [hn] at HC HSP
      rw [hcn] at hnb
      have HOK2 : Hid (crOK s = allC P) := by show _ = _; rw [HOK.out, decide_eq_true hbig, Bool.true_and]
      clear hpl hpm hbig HOK hn hcn
      go_enter Tryd.func65, Tryd.ntmps65
      generalize hvs : cv (P.map cn) = vs at *
      go_wp2_with fail
      refine (HC.out _).mono ?_
      rintro e w0 ⟨rfl, rfl⟩
      go_wp2_with fail
      refine (HSP.out _ HM.out).mono ?_
      rintro e w1 ⟨rfl, hS, hsz, b1⟩
      have HS := Lib.hid hS
      have B1 := Lib.hid b1
      have HSZ := Lib.hid hsz
      clear hS b1 hsz
      go_wp2_with fail
      go_loopg [27] n (fun m i wr => ∃ k : Nat, i = .int .i64 k ∧ Hid (k + m = n) ∧ k ≤ n ∧ Hid (Filled wr w1.heap.size 42 vs (.complex .f32 0 0) k n) ∧ Hid (Below w1.heap.size w1 wr) ∧ Hid (allC (P.take k) = true))
      case atStart => exact ⟨0, rfl, by show _ = _; omega, Nat.zero_le _, (hMade w1).out, (Below.refl _ _).alloc (Nat.le_refl _) _, rfl⟩
      case round =>
        obtain ⟨k, rfl, hk, hkl, hF, hd, hA⟩ := hrel
        by_cases hlt : k < n
        · have hkP : k < P.length := by rw [HN.out]; exact hlt
          have hc := (HS.out.keep hd.out).2 k hkP
          have hbs := HPS.out k hkP
          have hv := hvg.out k hkP
          have HV2 := Lib.hid hv
          have BW := Lib.hid (B1.out.trans (hd.out.mono B1.out.size))
          have HJ : Hid (k + 1 + (gk - 1) = n) := by have := hk.out; show _ = _; omega
          have HG : Hid (gk - 1 < gk) := by have := hk.out; show _ < _; omega
          have HRD := Lib.hid (readCx_any P[k] wr)
          cases hgd : cnum P[k] with
          | some z =>
            obtain ⟨zx, zy⟩ := z
            have HA2 := Lib.hid (allC_take P k hkP hA.out hgd)
            have HVV := Lib.hid (rcR_yes hgd)
            have hrk : cn P[k] = (zx, zy) := by unfold cn; rw [hgd]; rfl
            rw [hrk] at HV2
            clear hrk hgd hA hv
            generalize P[k] = b at *
            go_wp2_with fail
            refine HRD.out.mono ?_
            rintro e w2 ⟨rfl, b2⟩
            rw [HVV.out]
            have B2 := Lib.hid (hd.out.trans (b2.mono hd.out.size))
            have hcell := (hF.out.keep b2).cell hvl.out (by omega) hlt
            rw [if_neg (Nat.lt_irrefl k)] at hcell
            have hfr := (hF.out.keep b2).frozen k
            have hset := Lib.hid ((hF.out.keep b2).set hvl.out hlt)
            rw [HV2.out] at hset
            have HB2 : Hid (Below w1.heap.size w1 (w2.setCell ⟨w1.heap.size, k, none⟩ (.complex .f32 zx zy))) := Lib.hid (B2.out.setCell (Nat.le_refl _) _)
            clear b2 hF hd BW HRD HVV hc B2
            go_wp2_with fail
            go_roundg (gk - 1)
            case measure => exact HG.out
            case rel => exact ⟨k + 1, by go_num, HJ, by omega, hset.out, HB2.out, HA2.out⟩
          | none =>
            have hno : crOK s = false := by rw [HOK2.out, allC_no P k hkP hgd]
            have HNO := Lib.hid hno
            have HZ := Lib.hid (HZN.out hno)
            have HVV := Lib.hid (rcR_no hgd)
            clear hgd hno hA hv HV2
            generalize P[k] = b at *
            go_wp2_with fail
            refine HRD.out.mono ?_
            rintro e w2 ⟨rfl, b2⟩
            rw [HVV.out]
            have HD2 := Lib.hid (BW.out.trans (b2.mono BW.out.size))
            clear b2 hF hd BW HRD HVV hc
            go_wp2_with fail
            go_ret2
            refine ⟨none, 0, ?_, ?_, ?_, HD2.out⟩
            · rw [HZ.out, HNO.out] <;> rfl
            · rw [HZ.out]; exact crow_nil _ _
            · rw [HZ.out]; exact .inl rfl
        · obtain rfl : k = n := by have := hk.out; omega
          have h1 := hA.out
          rw [← HN.out, List.take_length] at h1
          have hok : crOK s = true := by rw [HOK2.out, h1]
          have hZ := HZY.out hok
          have hzl : (crZ s).length = k := by rw [hZ]; simp [HN.out]
          have HR : Hid (CRow wr (some ⟨w1.heap.size, 0, none⟩) k (crZ s)) := by
            refine cmade_row (t := 42) ?_ hzl (by omega) (by rw [hZ]; exact cns_bd P)
            show Filled wr w1.heap.size 42 (cv (crZ s)) (.complex .f32 0 0) k k
            rw [hZ, hvs]; exact hF.out
          have HW : Hid (Own wr w.heap.size (some ⟨w1.heap.size, 0, none⟩) k 42) := .inr ⟨_, rfl, by have := HSZ.out; omega, Slots.of_filled hF.out hvl.out (Nat.le_refl _)⟩
          have HZL := Lib.hid hzl
          have HK := Lib.hid hok
          have BW := Lib.hid (B1.out.trans (hd.out.mono B1.out.size))
          clear hzl hok hZ h1 hF hd hA hlt
          go_wp2_with fail
          go_ret2
          refine ⟨some ⟨w1.heap.size, 0, none⟩, k, ?_, ?_, ?_, BW.out⟩
          · rw [HZL.out, HK.out] <;> rfl
          · rw [HZL.out]; exact HR.out
          · rw [HZL.out]; exact HW.out
    · have hno : crOK s = false := by rw [HOK.out, decide_eq_false hbig, Bool.false_and]
      have HNO := Lib.hid hno
      have HZ := Lib.hid (HZN.out hno)
      have hnb : (256 : Int) ≤ (P.length : Int) - 1 := by omega
      clear hno hbig
      go_enter Tryd.func65, Tryd.ntmps65
      go_wp2_with fail
      refine (HC.out _).mono ?_
      rintro e w0 ⟨rfl, rfl⟩
      go_wp2_with fail
      go_ret2
      refine ⟨none, 0, ?_, ?_, ?_, Below.refl _ _⟩
      · rw [HZ.out, HNO.out] <;> rfl
      · rw [HZ.out]; exact crow_nil _ _
      · rw [HZ.out]; exact .inl rfl
theorem implReadComplex_any (s : ByteArray) (hs : s.size ≤ 1048576) (w : World) (hm : MaxAt w) :
    Calls Tryd.prog 31 #[.string s] w fun e w' => ∃ a c, e = .returned (.tuple #[.slice a (crZ s).length c, .bool (crOK s)]) ∧ CRow w' a (crZ s).length (crZ s) ∧ Own w' w.heap.size a (crZ s).length 42 ∧ Below w.heap.size w w' := by
  have HL := Lib.hid (readTextC_any s hs w hm)
  generalize crZ s = Z at *
  generalize crOK s = q at *
  clear hm
  go_enter Tryd.func31, Tryd.ntmps31
  go_wp2_with fail
  refine HL.out.mono ?_
  rintro e w1 ⟨a, c, rfl, hI, hO, b⟩
  have HI := Lib.hid hI
  have HO := Lib.hid hO
  have B := Lib.hid b
  clear b hI hO
  go_wp2_with fail
  go_ret2
  exact ⟨a, c, rfl, HI.out, HO.out, B.out⟩
end Go.Proofs.YtfmicahibmpjmaaDoor
