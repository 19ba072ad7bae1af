/-
  Reading the text of complex numbers: contracts of the program's function and of its model, and the walk of the exact law of ReadComplex. Conditions: arguments fit their kind; the library's variable holds a number of its kind.
-/
import Derived.Test.YtfmicahibmpjmacDoorHexR
import Derived.Test.YtfmicahibmpjmacDoorCutW
import Derived.Test.YtfmicahibmpjmacDoorCxW
import Derived.Test.YtfmicahibmpjmacDoorShelf
import Derived.Maps.AppendAt
namespace Dec
open Go Flt
def cv (zs : List (Nat × Nat)) : List Value := zs.map fun z => .complex .f32 z.1 z.2
def cnum (b : ByteArray) : Option (Nat × Nat) := if b.size = 16 then (rnum (b.extract 0 8).data.toList).bind fun x => (rnum (b.extract 8 b.size).data.toList).map fun y => (x, y) else none
def cn (b : ByteArray) : Nat × Nat := (cnum b).getD (0, 0)
def rcR (b : ByteArray) : Value := .tuple #[.complex .f32 (cn b).1 (cn b).2, .bool (cnum b).isSome]
theorem rcR_no {b : ByteArray} (h : cnum b = none) : rcR b = .tuple #[.complex .f32 0 0, .bool false] := by unfold rcR cn; rw [h]; rfl
theorem rcR_yes {b : ByteArray} {x y : Nat} (h : cnum b = some (x, y)) : rcR b = .tuple #[.complex .f32 x y, .bool true] := by unfold rcR cn; rw [h]; rfl
theorem cnum_len {b : ByteArray} (h : b.size ≠ 16) : cnum b = none := by unfold cnum; rw [if_neg h]
theorem cnum_a {b : ByteArray} (h : rnum (b.extract 0 8).data.toList = none) : cnum b = none := by unfold cnum; rw [h]; split <;> rfl
theorem cnum_b {b : ByteArray} (h : rnum (b.extract 8 b.size).data.toList = none) : cnum b = none := by
  unfold cnum
  rw [h]
  split
  · cases rnum (b.extract 0 8).data.toList <;> rfl
  · rfl
theorem cnum_at {b : ByteArray} {x y : Nat} (h0 : b.size = 16) (h1 : rnum (b.extract 0 8).data.toList = some x) (h2 : rnum (b.extract 8 b.size).data.toList = some y) : cnum b = some (x, y) := by unfold cnum; rw [if_pos h0, h1, h2]; rfl
theorem cnum_lt {b : ByteArray} {z : Nat × Nat} (h : cnum b = some z) : z.1 < 4294967296 ∧ z.2 < 4294967296 := by
  unfold cnum at h
  split at h
  · cases h1 : rnum (b.extract 0 8).data.toList with
    | none => rw [h1] at h; cases h
    | some x =>
      cases h2 : rnum (b.extract 8 b.size).data.toList with
      | none => rw [h1, h2] at h; cases h
      | some y =>
        rw [h1, h2] at h
        have : (x, y) = z := by simpa using h
        subst this
        exact ⟨rnum_lt h1, rnum_lt h2⟩
  · cases h
def allC (P : List ByteArray) : Bool := P.all fun b => (cnum b).isSome
def crOK (s : ByteArray) : Bool := decide (s = noneB) || (decide ((cutB 44 s).length ≤ 256) && allC (cutB 44 s))
def crZ (s : ByteArray) : List (Nat × Nat) := if s = noneB then [] else if crOK s = true then (cutB 44 s).map cn else []
theorem crZ_none : crZ noneB = [] := by unfold crZ; rw [if_pos rfl]
theorem crOK_none : crOK noneB = true := by unfold crOK; rw [decide_eq_true rfl]; rfl
theorem crOK_ne {s : ByteArray} (h : s ≠ noneB) : crOK s = (decide ((cutB 44 s).length ≤ 256) && allC (cutB 44 s)) := by unfold crOK; rw [decide_eq_false h]; rfl
theorem crZ_no {s : ByteArray} (h : s ≠ noneB) (h2 : crOK s = false) : crZ s = [] := by unfold crZ; rw [if_neg h, h2]; rfl
theorem crZ_yes {s : ByteArray} (h : s ≠ noneB) (h2 : crOK s = true) : crZ s = (cutB 44 s).map cn := by unfold crZ; rw [if_neg h, if_pos h2]
theorem allC_take (P : List ByteArray) (k : Nat) (h : k < P.length) (h1 : allC (P.take k) = true) {n : Nat × Nat} (h2 : cnum P[k] = some n) : allC (P.take (k + 1)) = true := by
  rw [List.take_succ_eq_append_getElem h]
  unfold allC at *
  rw [List.all_append, h1]
  simp [h2]
theorem allC_no (P : List ByteArray) (k : Nat) (h : k < P.length) (h2 : cnum P[k] = none) : allC P = false := by
  unfold allC
  rw [List.all_eq_false]
  exact ⟨P[k], List.getElem_mem h, by simp [h2]⟩
theorem cn_bd (b : ByteArray) : (cn b).1 < 4294967296 ∧ (cn b).2 < 4294967296 := by
  unfold cn
  cases h : cnum b with
  | none => decide
  | some n => exact cnum_lt h
theorem cns_bd (P : List ByteArray) : ∀ z ∈ P.map cn, z.1 < 4294967296 ∧ z.2 < 4294967296 := by
  intro z hz
  obtain ⟨b, _, rfl⟩ := List.mem_map.1 hz
  exact cn_bd b
theorem cns_take (P : List ByteArray) (k : Nat) (h : k < P.length) : cv ((P.map cn).take (k + 1)) = cv ((P.map cn).take k) ++ [.complex .f32 (cn P[k]).1 (cn P[k]).2] := by
  rw [List.take_succ_eq_append_getElem (by simpa using h)]
  simp [cv]
theorem crow_nil (w : World) (a : Option Addr) : CRow w a 0 [] := ⟨rfl, Nat.zero_le _, by simp, fun i hi => absurd hi (Nat.not_lt_zero _)⟩
theorem crow_of_owned {w : World} {B t : Nat} {v : Value} {Z : List (Nat × Nat)} (h : w.ownsRow B t 1 v Z.length (cv Z)) (hn : Z.length ≤ 1048576) (hz : ∀ z ∈ Z, z.1 < 4294967296 ∧ z.2 < 4294967296) : ∃ a c, v = .slice a Z.length c ∧ CRow w a Z.length Z := by
  obtain ⟨h1, ⟨rfl, h2⟩ | ⟨g, cap, cur, rfl, hg, hc, hcap, _, hcs, hcur⟩⟩ := h
  · have hZ : Z = [] := List.eq_nil_of_length_eq_zero h2
    subst hZ
    exact ⟨none, 0, rfl, crow_nil w none⟩
  · have hlt : g < w.heap.size := by
      refine Nat.lt_of_not_le fun hle => ?_
      rw [Array.getElem?_eq_none hle] at hc; cases hc
    refine ⟨some ⟨g, 0, none⟩, cap, rfl, rfl, by unfold maxLen; omega, hz, fun j hj => ⟨g, 0, rfl, hlt, ?_⟩⟩
    have hu : (cur.toList.take (Z.length * 1))[j]? = some (.complex .f32 (Z.getD j (0, 0)).1 (Z.getD j (0, 0)).2) := by
      rw [hcur]; simp [cv, List.getElem?_eq_getElem hj, List.getD]
    rw [List.getElem?_take_of_lt (by omega)] at hu
    unfold World.cell?
    simp only [hc]
    simpa using hu
theorem cv_get (zs : List (Nat × Nat)) (k : Nat) (h : k < zs.length) (d : Value) : (cv zs).getD k d = .complex .f32 (zs.getD k (0, 0)).1 (zs.getD k (0, 0)).2 := by simp [cv, List.getD, h]
theorem cmade_row {t : TypeId} {w : World} {g n : Nat} {zs : List (Nat × Nat)} (h : Flt.Filled w g t (cv zs) (.complex .f32 0 0) n n) (hl : zs.length = n) (hm : n ≤ 1048576) (hz : ∀ z ∈ zs, z.1 < 4294967296 ∧ z.2 < 4294967296) : CRow w (some ⟨g, 0, none⟩) n zs := by
  refine ⟨hl, by unfold maxLen; omega, hz, fun i hi => ⟨g, 0, rfl, h.lt, ?_⟩⟩
  have := Flt.Filled.cell h (by simp [cv]; exact hl) (Nat.le_refl n) hi
  rw [if_pos hi, cv_get zs i (by omega)] at this
  rw [Nat.zero_add]; exact this
theorem half_a {b : ByteArray} (h : b.size = 16) : (b.extract 0 8).size = 8 := by simp; omega
theorem half_b {b : ByteArray} (h : b.size = 16) : (b.extract 8 b.size).size = 8 := by simp; omega
end Dec
namespace Go.Proofs.YtfmicahibmpjmacDoor
open Go.RowKit Dec Flt
set_option maxRecDepth 20000 in
set_option maxHeartbeats 1600000 in
theorem l01Digits_any (b : ByteArray) (h8 : b.size = 8) (w : World) :
    Calls Tryd.prog 40 #[.string b] w fun e w' => e = .returned (rnR b.data.toList) ∧ w = w' := by
  have hlb : b.data.toList.length = b.size := by simp
  have HL := Lib.hid hlb
  have HX := Lib.hid (fun (h : hexF b.data.toList = none) => rnR_no (rnum_hex h))
  have HY := Lib.hid (fun n (h : hexF b.data.toList = some n) => rnum_at (l := b.data.toList) (by omega) h)
  clear hlb
  go_enter Tryd.func40, Tryd.ntmps40
  go_wp2_with fail
  go_loopg [4, 5] 8 (fun m nv kv wi => ∃ j n : Nat, nv = .int .i64 n ∧ kv = .int .i64 j ∧ w = wi ∧ Hid (j + m = 8) ∧ j ≤ 8 ∧ n < 4294967296 ∧ Hid (hexF (b.data.toList.take j) = some n))
  case atStart => exact ⟨0, 0, rfl, rfl, rfl, rfl, Nat.zero_le _, by decide, rfl⟩
  case round =>
    obtain ⟨j, n, rfl, rfl, rfl, hj, hjl, hn, hH⟩ := hrel
    by_cases hj8 : j < 8
    · have hlt8 : j < b.size := by omega
      have HJ2 : Hid (j + 1 + (gk - 1) = 8) := by have := hj.out; show _ = _; omega
      have HG2 : Hid (gk - 1 < gk) := by have := hj.out; show _ < _; omega
      have hp8 : j + 1 ≤ 8 := by omega
      have hlen8 : (b.data.toList.take (j + 1)).length ≤ 8 := by rw [List.length_take]; omega
      by_cases hd1 : 48 ≤ b[j].toNat ∧ b[j].toNat ≤ 57
      · obtain ⟨d1, d2⟩ := hd1
        have HS2 := Lib.hid (hex_step hlt8 hH.out (hx_dec d1 d2))
        have HB2 := Lib.hid (hexF_lt HS2.out hlen8)
        have h97 : b[j].toNat < 97 := by omega
        clear hlen8 hH
        go_wp2_with fail
        go_roundg (gk - 1)
        case measure => exact HG2.out
        case rel => exact ⟨j + 1, _, by go_num, by go_num, rfl, HJ2, hp8, HB2.out, HS2.out⟩
      · by_cases hd2 : 97 ≤ b[j].toNat ∧ b[j].toNat ≤ 102
        · obtain ⟨d1, d2⟩ := hd2
          have HS2 := Lib.hid (hex_step hlt8 hH.out (hx_let d1 d2))
          have HB2 := Lib.hid (hexF_lt HS2.out hlen8)
          have h57 : 57 < b[j].toNat := by omega
          have h48 : 48 ≤ b[j].toNat := by omega
          clear hlen8 hH hd1
          go_wp2_with fail
          go_roundg (gk - 1)
          case measure => exact HG2.out
          case rel => exact ⟨j + 1, _, by go_num, by go_num, rfl, HJ2, hp8, HB2.out, HS2.out⟩
        · have HR := Lib.hid (HX.out (hex_stop hlt8 (hx_no (by omega) (by omega))))
          have h3 : b[j].toNat < 48 ∨ (48 ≤ b[j].toNat ∧ 57 < b[j].toNat ∧ b[j].toNat < 97) ∨ (48 ≤ b[j].toNat ∧ 57 < b[j].toNat ∧ 97 ≤ b[j].toNat ∧ 102 < b[j].toNat) := by omega
          clear hlen8 hH hd1 hd2
          rcases h3 with g1 | ⟨g0, g1, g2⟩ | ⟨g0, g1, g2, g3⟩
          · have g4 : b[j].toNat < 97 := by omega
            go_wp2_with fail
            go_ret2
            exact ⟨by rw [HR.out] <;> rfl, rfl⟩
          · go_wp2_with fail
            go_ret2
            exact ⟨by rw [HR.out] <;> rfl, rfl⟩
          · go_wp2_with fail
            go_ret2
            exact ⟨by rw [HR.out] <;> rfl, rfl⟩
    · obtain rfl : j = 8 := by omega
      have h1 := hH.out
      rw [List.take_of_length_le (by rw [HL.out]; omega)] at h1
      have hr := HY.out n h1
      by_cases hb : bitsC n = (n : Int)
      · rw [if_pos hb] at hr
        have HR := Lib.hid (rnR_yes hr)
        have HBB := Lib.hid hb
        clear hr hb h1 hH hj8
        go_wp2_with fail
        refine (l01From_any n hn _).mono ?_
        rintro e w1x ⟨rfl, rfl⟩
        go_wp2_with fail
        refine (l01Bits_any n _ hn).mono ?_
        rintro e w1x ⟨rfl, rfl⟩
        rw [HBB.out]
        go_wp2_with fail
        go_ret2
        exact ⟨by rw [HR.out] <;> rfl, rfl⟩
      · rw [if_neg hb] at hr
        have HR := Lib.hid (rnR_no hr)
        clear hr h1 hH hj8
        go_wp2_with fail
        refine (l01From_any n hn _).mono ?_
        rintro e w1x ⟨rfl, rfl⟩
        go_wp2_with fail
        refine (l01Bits_any n _ hn).mono ?_
        rintro e w1x ⟨rfl, rfl⟩
        generalize bitsC n = bn at *
        go_wp2_with fail
        go_ret2
        exact ⟨by rw [HR.out] <;> rfl, rfl⟩
set_option maxRecDepth 20000 in
set_option maxHeartbeats 1600000 in
theorem readCx_any (b : ByteArray) (w : World) : Calls Tryd.prog 27 #[.string b] w fun e w' => e = .returned (rcR b) ∧ Below w.heap.size w w' := by
  by_cases h16 : b.size = 16
  · have HA := Lib.hid (fun w => readNum_any (b.extract 0 8) (by rw [half_a h16]; decide) w)
    have HB := Lib.hid (fun w => readNum_any (b.extract 8 b.size) (by rw [half_b h16]; decide) w)
    have hq : ((b.size : Int) != 16) = false := by simp; omega
    have h8 : 8 ≤ b.size := by omega
    have HN1 := Lib.hid (fun h => rcR_no (cnum_a (b := b) h))
    have HN2 := Lib.hid (fun h => rcR_no (cnum_b (b := b) h))
    have HY := Lib.hid (fun x y h1 h2 => rcR_yes (cnum_at (b := b) (x := x) (y := y) h16 h1 h2))
    clear h16
    cases ha : rnum (b.extract 0 8).data.toList with
    | none =>
      have HR := Lib.hid (HN1.out ha)
      have HVA := Lib.hid (rnR_no ha)
      clear ha
      cases hb : rnum (b.extract 8 b.size).data.toList with
      | none =>
        have HVB := Lib.hid (rnR_no hb)
        clear hb
        go_enter Tryd.func27, Tryd.ntmps27
        go_wp2_with fail
        refine (HA.out _).mono ?_
        rintro e w1 ⟨rfl, b1⟩
        rw [HVA.out]
        have B1 := Lib.hid b1
        clear b1
        go_wp2_with fail
        refine (HB.out _).mono ?_
        rintro e w2 ⟨rfl, b2⟩
        rw [HVB.out]
        have B2 := Lib.hid (B1.out.trans (b2.mono B1.out.size))
        clear b2
        go_wp2_with fail
        go_ret2
        exact ⟨by rw [HR.out] <;> rfl, B2.out⟩
      | some y =>
        have HVB := Lib.hid (rnR_yes hb)
        clear hb
        go_enter Tryd.func27, Tryd.ntmps27
        go_wp2_with fail
        refine (HA.out _).mono ?_
        rintro e w1 ⟨rfl, b1⟩
        rw [HVA.out]
        have B1 := Lib.hid b1
        clear b1
        go_wp2_with fail
        refine (HB.out _).mono ?_
        rintro e w2 ⟨rfl, b2⟩
        rw [HVB.out]
        have B2 := Lib.hid (B1.out.trans (b2.mono B1.out.size))
        clear b2
        go_wp2_with fail
        go_ret2
        exact ⟨by rw [HR.out] <;> rfl, B2.out⟩
    | some x =>
      have HVA := Lib.hid (rnR_yes ha)
      cases hb : rnum (b.extract 8 b.size).data.toList with
      | none =>
        have HR := Lib.hid (HN2.out hb)
        have HVB := Lib.hid (rnR_no hb)
        clear ha hb
        go_enter Tryd.func27, Tryd.ntmps27
        go_wp2_with fail
        refine (HA.out _).mono ?_
        rintro e w1 ⟨rfl, b1⟩
        rw [HVA.out]
        have B1 := Lib.hid b1
        clear b1
        go_wp2_with fail
        refine (HB.out _).mono ?_
        rintro e w2 ⟨rfl, b2⟩
        rw [HVB.out]
        have B2 := Lib.hid (B1.out.trans (b2.mono B1.out.size))
        clear b2
        go_wp2_with fail
        go_ret2
        exact ⟨by rw [HR.out] <;> rfl, B2.out⟩
      | some y =>
        have HR := Lib.hid (HY.out x y ha hb)
        have HVB := Lib.hid (rnR_yes hb)
        clear ha hb
        go_enter Tryd.func27, Tryd.ntmps27
        go_wp2_with fail
        refine (HA.out _).mono ?_
        rintro e w1 ⟨rfl, b1⟩
        rw [HVA.out]
        have B1 := Lib.hid b1
        clear b1
        go_wp2_with fail
        refine (HB.out _).mono ?_
        rintro e w2 ⟨rfl, b2⟩
        rw [HVB.out]
        have B2 := Lib.hid (B1.out.trans (b2.mono B1.out.size))
        clear b2
        go_wp2_with fail
        go_ret2
        exact ⟨by rw [HR.out] <;> rfl, B2.out⟩
  · have HR := Lib.hid (rcR_no (cnum_len h16))
    have hq : ((b.size : Int) != 16) = true := by simp; omega
    clear h16
    go_enter Tryd.func27, Tryd.ntmps27
    go_wp2_with fail
    go_ret2
    exact ⟨by rw [HR.out] <;> rfl, Below.refl _ _⟩
set_option maxRecDepth 20000 in
set_option maxHeartbeats 1600000 in
theorem l01CRead_any (s : ByteArray) (hs : s.size ≤ 1048576) (w : World) :
    Calls Tryd.prog 25 #[.string s] w fun e w' => ∃ a c, e = .returned (.tuple #[.slice a (crZ s).length c, .bool (crOK s)]) ∧ CRow w' a (crZ s).length (crZ s) ∧ Below w.heap.size w w' := by
  by_cases hno : s = noneB
  · subst hno
    rw [crZ_none, crOK_none]
    have hx : (noneB.toList == noneB.toList) = true := by simp
    clear hs
    go_enter Tryd.func25, Tryd.ntmps25
    go_wp2_with fail
    go_ret2
    exact ⟨_, _, rfl, crow_nil _ _, (Below.refl _ _).alloc (Nat.le_refl _) _⟩
  · have hne := none_ne hno
    obtain ⟨P, hP⟩ : ∃ P, cutB 44 s = P := ⟨_, rfl⟩
    have HPS : Hid (∀ j (h : j < P.length), P[j].size ≤ 1048576) := by
      intro j h; subst hP; exact Nat.le_trans (cutB_size 44 s j h) hs
    have HOK := Lib.hid (crOK_ne hno)
    have HZN := Lib.hid (fun h2 => crZ_no hno h2)
    have HZY := Lib.hid (fun h2 => crZ_yes hno h2)
    have HCUT := Lib.hid (fun w => l01Cut_any s 44 hs w)
    rw [hP] at HOK HZY HCUT
    have hpl : 1 ≤ P.length := by rw [← hP, cutB_len]; omega
    have hpm : P.length ≤ 1048577 := by
      rw [← hP, cutB_len]
      have : s.data.toList.count 44 ≤ s.data.toList.length := List.count_le_length
      have h2 : s.data.toList.length = s.size := by simp
      omega
    obtain ⟨i0, hi, hz0, hz1, hz2⟩ := info_parts (show (Tryd.prog.info? 42).map (fun i => (i.zero, i.size, i.bytes)) = some (some (.complex .f32 0 0), 1, 8) by kernel_rfl)
    clear hno hP
    by_cases hbig : P.length ≤ 256
    · have hnb : ¬ (256 : Int) < (P.length : Int) := by omega
      go_enter Tryd.func25, Tryd.ntmps25
      go_wp2_with fail
      refine (HCUT.out _).mono ?_
      rintro e w1 ⟨g, kc, rfl, hS, hg, b1⟩
      have HS := Lib.hid hS
      have HB1 := Lib.hid (((Below.refl w.heap.size w).alloc (Nat.le_refl _) _).trans (b1.mono (by simp)))
      have HO1 := Lib.hid (owned_keep (World.ownsRow_made w (e := 42) #[] 0 (Nat.le_refl w.heap.size) (Nat.zero_le _) rfl) b1)
      have hgn : w.heap.size ≠ g := by simp at hg; omega
      clear hS b1 hg
      go_wp2_with fail
      go_loopg [4, 6] P.length (fun n v ix wr => ∃ k : Nat, ix = .int .i64 k ∧ Hid (k + n = P.length) ∧ k ≤ P.length ∧ Hid (wr.ownsRow w.heap.size 42 1 v k (cv ((P.map cn).take k))) ∧ Hid (∃ o, v.ownBlock = some o ∧ o ≠ g) ∧ Hid (Ss wr g P) ∧ Hid (Below w.heap.size w wr) ∧ Hid (allC (P.take k) = true))
      case atStart => exact ⟨0, rfl, by show _ = _; omega, Nat.zero_le _, HO1.out, ⟨_, rfl, hgn⟩, HS.out, HB1.out, rfl⟩
      case round =>
        obtain ⟨k, rfl, hk, hkl, hO, hQ, hS, hd, hA⟩ := hrel
        by_cases hlt : k < P.length
        · have hc := hS.out.2 k hlt
          obtain ⟨go, hgo⟩ : ∃ x, gk - 1 = x := ⟨_, rfl⟩
          have HJ : Hid (k + 1 + go = P.length) := by have := hk.out; show _ = _; omega
          have HG : Hid (go < gk) := by have := hk.out; show _ < _; omega
          have HNP := Lib.hid (allC_no P k hlt)
          have HAP := Lib.hid (fun n (h : cnum P[k] = some n) => allC_take P k hlt hA.out h)
          have HT0 := Lib.hid (cns_take P k hlt)
          have HRN : Hid (∀ n, cnum P[k] = some n → cn P[k] = n) := by
            intro n h
            unfold cn
            rw [h]; rfl
          clear hgo hA hk
          obtain ⟨b, hbP⟩ : ∃ b, P[k] = b := ⟨_, rfl⟩
          rw [hbP] at hc HNP HAP HT0 HRN
          clear hbP
          by_cases h16 : b.size = 16
          · have HDA := Lib.hid (fun w => l01Digits_any (b.extract 0 8) (half_a h16) w)
            have HDB := Lib.hid (fun w => l01Digits_any (b.extract 8 b.size) (half_b h16) w)
            have hq : ((b.size : Int) != 16) = false := by simp; omega
            have h8 : 8 ≤ b.size := by omega
            have HN1 := Lib.hid (fun h => HNP.out (cnum_a (b := b) h))
            have HN2 := Lib.hid (fun h => HNP.out (cnum_b (b := b) h))
            have HY := Lib.hid (fun x y h1 h2 => cnum_at (b := b) (x := x) (y := y) h16 h1 h2)
            clear h16
            cases ha : rnum (b.extract 0 8).data.toList with
            | none =>
              have hno : crOK s = false := by rw [HOK.out, HN1.out ha, Bool.and_false]
              have HVA := Lib.hid (rnR_no ha)
              clear ha HY HN1 HN2
              cases hb : rnum (b.extract 8 b.size).data.toList with
              | none =>
                have HVB := Lib.hid (rnR_no hb)
                clear hb
                have HNO := Lib.hid hno
                have HZ := Lib.hid (HZN.out hno)
                clear hno hO hQ HAP HT0 HRN HNP
                go_wp2_with fail
                refine (HDA.out _).mono ?_
                rintro e w1x ⟨rfl, rfl⟩
                rw [HVA.out]
                go_wp2_with fail
                refine (HDB.out _).mono ?_
                rintro e w1x ⟨rfl, rfl⟩
                rw [HVB.out]
                go_wp2_with fail
                go_ret2
                first | refine ⟨none, 0, ?_, ?_, hd.out⟩ | refine ⟨none, ⟨0, ?_⟩, ?_, hd.out⟩
                · rw [HZ.out, HNO.out] <;> rfl
                · rw [HZ.out]; exact crow_nil _ _
              | some y =>
                have HVB := Lib.hid (rnR_yes hb)
                clear hb
                have HNO := Lib.hid hno
                have HZ := Lib.hid (HZN.out hno)
                clear hno hO hQ HAP HT0 HRN HNP
                go_wp2_with fail
                refine (HDA.out _).mono ?_
                rintro e w1x ⟨rfl, rfl⟩
                rw [HVA.out]
                go_wp2_with fail
                refine (HDB.out _).mono ?_
                rintro e w1x ⟨rfl, rfl⟩
                rw [HVB.out]
                go_wp2_with fail
                go_ret2
                first | refine ⟨none, 0, ?_, ?_, hd.out⟩ | refine ⟨none, ⟨0, ?_⟩, ?_, hd.out⟩
                · rw [HZ.out, HNO.out] <;> rfl
                · rw [HZ.out]; exact crow_nil _ _
            | some x =>
              have HVA := Lib.hid (rnR_yes ha)
              cases hb : rnum (b.extract 8 b.size).data.toList with
              | none =>
                have hno : crOK s = false := by rw [HOK.out, HN2.out hb, Bool.and_false]
                have HVB := Lib.hid (rnR_no hb)
                clear ha hb HY HN1 HN2
                have HNO := Lib.hid hno
                have HZ := Lib.hid (HZN.out hno)
                clear hno hO hQ HAP HT0 HRN HNP
                go_wp2_with fail
                refine (HDA.out _).mono ?_
                rintro e w1x ⟨rfl, rfl⟩
                rw [HVA.out]
                go_wp2_with fail
                refine (HDB.out _).mono ?_
                rintro e w1x ⟨rfl, rfl⟩
                rw [HVB.out]
                go_wp2_with fail
                go_ret2
                first | refine ⟨none, 0, ?_, ?_, hd.out⟩ | refine ⟨none, ⟨0, ?_⟩, ?_, hd.out⟩
                · rw [HZ.out, HNO.out] <;> rfl
                · rw [HZ.out]; exact crow_nil _ _
              | some y =>
                have hr := HY.out x y ha hb
                have HVB := Lib.hid (rnR_yes hb)
                have HA2 := Lib.hid (HAP.out _ hr)
                have hT := HT0.out
                rw [HRN.out _ hr] at hT
                have HT := Lib.hid hT
                clear ha hb hr hT HAP HT0 HRN HY HN1 HN2 HNP
                have hHp := hd.out.size
                go_wp2_with fail
                refine (HDA.out _).mono ?_
                rintro e w1x ⟨rfl, rfl⟩
                rw [HVA.out]
                go_wp2_with fail
                refine (HDB.out _).mono ?_
                rintro e w1x ⟨rfl, rfl⟩
                rw [HVB.out]
                go_wp2_with (at_builtin; go_must (refine wpList_append_own_at _ rfl _ _ 22 rfl w.heap.size 42 i0 (.complex .f32 0 0) 1 8 Tryd.underlying22 hi hz0 hz1 hz2 rfl (by decide) _ _ _ rfl (hO.out.alloc _) ⟨wr.heap.size, 0, none⟩ 1 1 [.complex .f32 x y] rfl (by simp) (cell_one_new _ _ _) (by intro u hu; simp at hu; subst hu; rfl) (by unfold maxLen; omega) (by omega) (by simp; omega) ?_))
                intro v' w3 hown' hgrow _ hat
                rw [← HT.out] at hown'
                have HO3 := Lib.hid hown'
                obtain ⟨o, ho1, ho2⟩ := hQ.out
                have hS3 : Ss (wr.alloc (.cells #[.complex .f32 x y] 42)) g P := hS.out.keep ((Below.refl _ _).alloc (Nat.le_refl _) _)
                have HS4 := Lib.hid (hS3.grown hgrow (by rw [ho1]; intro e; exact ho2 (Option.some.inj e).symm))
                have HQ3 : Hid (∃ o, v'.ownBlock = some o ∧ o ≠ g) := by
                  rcases hat with h | h
                  · exact ⟨o, by rw [h]; exact ho1, ho2⟩
                  · have h5 := hS3.1
                    have h6 : (wr.alloc (.cells #[.complex .f32 x y] 42)).heap.size = wr.heap.size + 1 := by simp
                    rw [h6] at h5
                    exact ⟨_, h, (Nat.ne_of_lt h5).symm⟩
                have HB3 := Lib.hid ((hd.out.alloc hd.out.size _).grown hgrow (by simp; omega) (fun j hj => (hO.out.lt j hj).1))
                clear hown' hgrow hat hS3 hO hS hd hQ ho1 ho2 HT
                go_wp2_with fail
                go_roundg go
                case measure => exact HG.out
                case rel => exact ⟨k + 1, by go_num, HJ, by omega, HO3.out, HQ3.out, HS4.out, HB3.out, HA2.out⟩
          · have hno : crOK s = false := by rw [HOK.out, HNP.out (cnum_len h16), Bool.and_false]
            have HNO := Lib.hid hno
            have HZ := Lib.hid (HZN.out hno)
            have hq : ((b.size : Int) != 16) = true := by simp; omega
            clear hno hO hQ HAP HT0 HRN HNP h16
            go_wp2_with fail
            go_ret2
            first | refine ⟨none, 0, ?_, ?_, hd.out⟩ | refine ⟨none, ⟨0, ?_⟩, ?_, hd.out⟩
            · rw [HZ.out, HNO.out] <;> rfl
            · rw [HZ.out]; exact crow_nil _ _
        · obtain rfl : k = P.length := by have := hk.out; omega
          have h1 := hA.out
          rw [List.take_length] at h1
          have hok : crOK s = true := by rw [HOK.out, h1, decide_eq_true hbig]; rfl
          have hO2 := hO.out
          have e1 : (P.map cn).take P.length = P.map cn := List.take_of_length_le (by simp)
          have e2 : P.length = (P.map cn).length := by simp
          rw [e1, e2] at hO2
          obtain ⟨a, c, rfl, hI⟩ := crow_of_owned hO2 (by simp; omega) (cns_bd P)
          have HI := Lib.hid hI
          have HY := Lib.hid (HZY.out hok)
          have HK := Lib.hid hok
          clear hI hO2 e1 e2 hO hQ hA h1 hok hlt
          go_wp2_with fail
          go_ret2
          refine ⟨a, c, ?_, ?_, hd.out⟩
          · rw [HY.out, HK.out] <;> rfl
          · rw [HY.out]; exact HI.out
    · have hno : crOK s = false := by rw [HOK.out, decide_eq_false hbig, Bool.false_and]
      have HNO := Lib.hid hno
      have HZ := Lib.hid (HZN.out hno)
      have hnb : (256 : Int) < (P.length : Int) := by omega
      clear hno hbig
      go_enter Tryd.func25, Tryd.ntmps25
      go_wp2_with fail
      refine (HCUT.out _).mono ?_
      rintro e w1 ⟨g, kc, rfl, hS, hg, b1⟩
      have HB1 := Lib.hid (((Below.refl w.heap.size w).alloc (Nat.le_refl _) _).trans (b1.mono (by simp)))
      clear hS b1 hg
      go_wp2_with fail
      go_ret2
      refine ⟨none, 0, ?_, ?_, HB1.out⟩
      · rw [HZ.out, HNO.out] <;> rfl
      · rw [HZ.out]; exact crow_nil _ _
theorem specReadComplex_any (s : ByteArray) (hs : s.size ≤ 1048576) (w : World) :
    Calls Tryd.prog 8 #[.string s] w fun e w' => ∃ a c, e = .returned (.tuple #[.slice a (crZ s).length c, .bool (crOK s)]) ∧ CRow w' a (crZ s).length (crZ s) ∧ Below w.heap.size w w' := by
  have HL := Lib.hid (l01CRead_any s hs w)
  generalize crZ s = Z at *
  generalize crOK s = q at *
  go_enter Tryd.func8, Tryd.ntmps8
  go_wp2_with fail
  refine HL.out.mono ?_
  rintro e w1 ⟨a, c, rfl, hI, b⟩
  have HI := Lib.hid hI
  have B := Lib.hid b
  clear b hI
  go_wp2_with fail
  go_ret2
  exact ⟨a, c, rfl, HI.out, B.out⟩
set_option maxRecDepth 20000 in
set_option maxHeartbeats 1600000 in
theorem readTextC_any (s : ByteArray) (hs : s.size ≤ 1048576) (w : World) (hm : MaxAt w) :
    Calls Tryd.prog 26 #[.string s, .int .i64 256, .func (.func 27) #[] #[]] w fun e w' => ∃ a c, e = .returned (.tuple #[.slice a (crZ s).length c, .bool (crOK s)]) ∧ CRow w' a (crZ s).length (crZ s) ∧ Own w' w.heap.size a (crZ s).length 42 ∧ Below w.heap.size w w' := by
  by_cases hno : s = noneB
  · subst hno
    rw [crZ_none, crOK_none]
    have hx : (noneB.toList == noneB.toList) = true := by simp
    clear hs hm
    go_enter Tryd.func26, Tryd.ntmps26
    go_wp2_with fail
    go_ret2
    exact ⟨_, _, rfl, crow_nil _ _, .inl rfl, Below.refl _ _⟩
  · have hne := none_ne hno
    have HC := Lib.hid (fun w => cntComma s w)
    have HSP := Lib.hid (fun w => splitComma s hs w)
    have HM := Lib.hid hm
    clear hm
    obtain ⟨P, hP⟩ : ∃ P, cutB 44 s = P := ⟨_, rfl⟩
    have HPS : Hid (∀ j (h : j < P.length), P[j].size ≤ 1048576) := by
      intro j h; subst hP; exact Nat.le_trans (cutB_size 44 s j h) hs
    have HOK := Lib.hid (crOK_ne hno)
    have HZN := Lib.hid (fun h2 => crZ_no hno h2)
    have HZY := Lib.hid (fun h2 => crZ_yes hno h2)
    rw [hP] at HOK HZY HC HSP
    have hpl : 1 ≤ P.length := by rw [← hP, cutB_len]; omega
    have hpm : P.length ≤ 1048577 := by
      rw [← hP, cutB_len]
      have : s.data.toList.count 44 ≤ s.data.toList.length := List.count_le_length
      have h2 : s.data.toList.length = s.size := by simp
      omega
    have hcst : (((P.length - 1 : Nat)) : Int) = (P.length : Int) - 1 := by omega
    rw [hcst] at HC
    clear hno hP hcst
    by_cases hbig : P.length ≤ 256
    · have hnb : ¬ (256 : Int) ≤ (P.length : Int) - 1 := by omega
      have hnw := Tryd.func27
      obtain ⟨n, hn⟩ : ∃ n, P.length = n := ⟨_, rfl⟩
      have hmk : ∀ w, (Instr.makeSlice 22 (.int .i64 (n : Int)) (.int .i64 (n : Int))).run Tryd.prog w = .ok (.slice (some ⟨w.heap.size, 0, none⟩) n n) (w.alloc (.cells (fillC (cv (P.map cn)) (.complex .f32 0 0) 0 n) 42)) := by
        intro w
        obtain ⟨i, hi, hz0, hz1, hz2⟩ := info_parts (show (Tryd.prog.info? 42).map (fun i => (i.zero, i.size, i.bytes)) = some (some (.complex .f32 0 0), 1, 8) by kernel_rfl)
        have := run_make (P := Tryd.prog) w 22 42 i (.complex .f32 0 0) Tryd.underlying22 hi hz0 .i64 .i64 n n (by omega) (Int.le_refl _) (by rw [hz2]; omega) (by omega)
        rw [this, hz1, Int.toNat_natCast, fillC_made _ _ _ rfl]
      have hvl := Lib.hid (show (cv (P.map cn)).length = n by simp [cv, hn])
      have hMade := fun w => Lib.hid (Filled.made w 42 (cv (P.map cn)) (.complex .f32 0 0) n)
      have hvg : Hid (∀ k (h : k < P.length), (cv (P.map cn)).getD k (.complex .f32 0 0) = .complex .f32 (cn P[k]).1 (cn P[k]).2) := by
        intro k hk
        simp [cv, List.getD, hk]
      have HN := Lib.hid hn
      have hn1 : n ≤ 256 := by omega
      have hn2 : 1 ≤ n := by omega
      have hcn : (P.length : Int) = n := by rw [hn]
      rw [hn] at HC HSP
      rw [hcn] at hnb
      have HOK2 : Hid (crOK s = allC P) := by show _ = _; rw [HOK.out, decide_eq_true hbig, Bool.true_and]
      clear hpl hpm hbig HOK hn hcn
      go_enter Tryd.func26, Tryd.ntmps26
      generalize hvs : cv (P.map cn) = vs at *
      go_wp2_with fail
      refine (HC.out _).mono ?_
      rintro e w0 ⟨rfl, rfl⟩
      go_wp2_with fail
      refine (HSP.out _ HM.out).mono ?_
      rintro e w1 ⟨rfl, hS, hsz, b1⟩
      have HS := Lib.hid hS
      have B1 := Lib.hid b1
      have HSZ := Lib.hid hsz
      clear hS b1 hsz
      go_wp2_with fail
      go_loopg [27] n (fun m i wr => ∃ k : Nat, i = .int .i64 k ∧ Hid (k + m = n) ∧ k ≤ n ∧ Hid (Filled wr w1.heap.size 42 vs (.complex .f32 0 0) k n) ∧ Hid (Below w1.heap.size w1 wr) ∧ Hid (allC (P.take k) = true))
      case atStart => exact ⟨0, rfl, by show _ = _; omega, Nat.zero_le _, (hMade w1).out, (Below.refl _ _).alloc (Nat.le_refl _) _, rfl⟩
      case round =>
        obtain ⟨k, rfl, hk, hkl, hF, hd, hA⟩ := hrel
        by_cases hlt : k < n
        · have hkP : k < P.length := by rw [HN.out]; exact hlt
          have hc := (HS.out.keep hd.out).2 k hkP
          have hbs := HPS.out k hkP
          have hv := hvg.out k hkP
          have HV2 := Lib.hid hv
          have BW := Lib.hid (B1.out.trans (hd.out.mono B1.out.size))
          have HJ : Hid (k + 1 + (gk - 1) = n) := by have := hk.out; show _ = _; omega
          have HG : Hid (gk - 1 < gk) := by have := hk.out; show _ < _; omega
          have HRD := Lib.hid (readCx_any P[k] wr)
          cases hgd : cnum P[k] with
          | some z =>
            obtain ⟨zx, zy⟩ := z
            have HA2 := Lib.hid (allC_take P k hkP hA.out hgd)
            have HVV := Lib.hid (rcR_yes hgd)
            have hrk : cn P[k] = (zx, zy) := by unfold cn; rw [hgd]; rfl
            rw [hrk] at HV2
            clear hrk hgd hA hv
            generalize P[k] = b at *
            go_wp2_with fail
            refine HRD.out.mono ?_
            rintro e w2 ⟨rfl, b2⟩
            rw [HVV.out]
            have B2 := Lib.hid (hd.out.trans (b2.mono hd.out.size))
            have hcell := (hF.out.keep b2).cell hvl.out (by omega) hlt
            rw [if_neg (Nat.lt_irrefl k)] at hcell
            have hfr := (hF.out.keep b2).frozen k
            have hset := Lib.hid ((hF.out.keep b2).set hvl.out hlt)
            rw [HV2.out] at hset
            have HB2 : Hid (Below w1.heap.size w1 (w2.setCell ⟨w1.heap.size, k, none⟩ (.complex .f32 zx zy))) := Lib.hid (B2.out.setCell (Nat.le_refl _) _)
            clear b2 hF hd BW HRD HVV hc B2
            go_wp2_with fail
            go_roundg (gk - 1)
            case measure => exact HG.out
            case rel => exact ⟨k + 1, by go_num, HJ, by omega, hset.out, HB2.out, HA2.out⟩
          | none =>
            have hno : crOK s = false := by rw [HOK2.out, allC_no P k hkP hgd]
            have HNO := Lib.hid hno
            have HZ := Lib.hid (HZN.out hno)
            have HVV := Lib.hid (rcR_no hgd)
            clear hgd hno hA hv HV2
            generalize P[k] = b at *
            go_wp2_with fail
            refine HRD.out.mono ?_
            rintro e w2 ⟨rfl, b2⟩
            rw [HVV.out]
            have HD2 := Lib.hid (BW.out.trans (b2.mono BW.out.size))
            clear b2 hF hd BW HRD HVV hc
            go_wp2_with fail
            go_ret2
            refine ⟨none, 0, ?_, ?_, ?_, HD2.out⟩
            · rw [HZ.out, HNO.out] <;> rfl
            · rw [HZ.out]; exact crow_nil _ _
            · rw [HZ.out]; exact .inl rfl
        · obtain rfl : k = n := by have := hk.out; omega
          have h1 := hA.out
          rw [← HN.out, List.take_length] at h1
          have hok : crOK s = true := by rw [HOK2.out, h1]
          have hZ := HZY.out hok
          have hzl : (crZ s).length = k := by rw [hZ]; simp [HN.out]
          have HR : Hid (CRow wr (some ⟨w1.heap.size, 0, none⟩) k (crZ s)) := by
            refine cmade_row (t := 42) ?_ hzl (by omega) (by rw [hZ]; exact cns_bd P)
            show Filled wr w1.heap.size 42 (cv (crZ s)) (.complex .f32 0 0) k k
            rw [hZ, hvs]; exact hF.out
          have HW : Hid (Own wr w.heap.size (some ⟨w1.heap.size, 0, none⟩) k 42) := .inr ⟨_, rfl, by have := HSZ.out; omega, Slots.of_filled hF.out hvl.out (Nat.le_refl _)⟩
          have HZL := Lib.hid hzl
          have HK := Lib.hid hok
          have BW := Lib.hid (B1.out.trans (hd.out.mono B1.out.size))
          clear hzl hok hZ h1 hF hd hA hlt
          go_wp2_with fail
          go_ret2
          refine ⟨some ⟨w1.heap.size, 0, none⟩, k, ?_, ?_, ?_, BW.out⟩
          · rw [HZL.out, HK.out] <;> rfl
          · rw [HZL.out]; exact HR.out
          · rw [HZL.out]; exact HW.out
    · have hno : crOK s = false := by rw [HOK.out, decide_eq_false hbig, Bool.false_and]
      have HNO := Lib.hid hno
      have HZ := Lib.hid (HZN.out hno)
      have hnb : (256 : Int) ≤ (P.length : Int) - 1 := by omega
      clear hno hbig
      go_enter Tryd.func26, Tryd.ntmps26
      go_wp2_with fail
      refine (HC.out _).mono ?_
      rintro e w0 ⟨rfl, rfl⟩
      go_wp2_with fail
      go_ret2
      refine ⟨none, 0, ?_, ?_, ?_, Below.refl _ _⟩
      · rw [HZ.out, HNO.out] <;> rfl
      · rw [HZ.out]; exact crow_nil _ _
      · rw [HZ.out]; exact .inl rfl
theorem implReadComplex_any (s : ByteArray) (hs : s.size ≤ 1048576) (w : World) (hm : MaxAt w) :
    Calls Tryd.prog 9 #[.string s] w fun e w' => ∃ a c, e = .returned (.tuple #[.slice a (crZ s).length c, .bool (crOK s)]) ∧ CRow w' a (crZ s).length (crZ s) ∧ Own w' w.heap.size a (crZ s).length 42 ∧ Below w.heap.size w w' := by
  have HL := Lib.hid (readTextC_any s hs w hm)
  generalize crZ s = Z at *
  generalize crOK s = q at *
  clear hm
  go_enter Tryd.func9, Tryd.ntmps9
  go_wp2_with fail
  refine HL.out.mono ?_
  rintro e w1 ⟨a, c, rfl, hI, hO, b⟩
  have HI := Lib.hid hI
  have HO := Lib.hid hO
  have B := Lib.hid b
  clear b hI hO
  go_wp2_with fail
  go_ret2
  exact ⟨a, c, rfl, HI.out, HO.out, B.out⟩
def fnExactReadComplex_wants (w : World) : Prop := MaxAt w
theorem readComplex_wants_keep {w w' : World} (h : fnExactReadComplex_wants w) (hb : Below w.heap.size w w') : fnExactReadComplex_wants w' := MaxAt.keep h hb
set_option maxRecDepth 20000 in
set_option maxHeartbeats 1600000 in
theorem fnExactReadComplex_walk (s : ByteArray) (_ws : s.size ≤ maxLen) (w : World) (ht : fnExactReadComplex_wants w) :
    Calls Tryd.prog 3 #[.string s] w fun e w' => e = .returned (.bool true) ∧ Below w.heap.size w w' := by
  have HT := Lib.hid ht
  clear ht
  by_cases hs : s.size ≤ 1048576
  · have HSP := Lib.hid (fun w => specReadComplex_any s hs w)
    have HIM := Lib.hid (fun w (h : fnExactReadComplex_wants w) => implReadComplex_any s hs w h)
    have hl : (crZ s).length ≤ 256 := by
      unfold crZ
      split
      · simp
      · split
        · rename_i h1 h2
          rw [crOK_ne h1, Bool.and_eq_true, decide_eq_true_eq] at h2
          simpa using h2.1
        · simp
    generalize crZ s = Z at *
    generalize crOK s = q at *
    obtain ⟨n, hn⟩ : ∃ n, Z.length = n := ⟨_, rfl⟩
    rw [hn] at HSP HIM hl
    have hx : (q != q) = false := by simp
    have hn1 : n ≤ 1048576 := by omega
    clear hn
    go_enter Tryd.func3, Tryd.ntmps3
    go_wp2_with fail
    refine (HSP.out _).mono ?_
    rintro e w1 ⟨a0, c0, rfl, hI0, b1⟩
    have I0 := Lib.hid hI0
    have B1 := Lib.hid b1
    have T1 := Lib.hid (readComplex_wants_keep HT.out b1)
    clear hI0 b1
    go_wp2_with fail
    refine (HIM.out _ T1.out).mono ?_
    rintro e w2 ⟨a1, c1, rfl, hI1, hO1, b2⟩
    have I0b := Lib.hid (I0.out.keep b2)
    have I1 := Lib.hid hI1
    have O1 := Lib.hid hO1
    have B2 := Lib.hid b2
    clear hI1 hO1 b2
    go_wp2_with fail
    refine (eqCx_any a1 a0 n c1 c0 Z _ I1.out I0b.out hn1).mono ?_
    rintro e w3 ⟨rfl, b3d⟩
    have b3 := b3d.below w2.heap.size
    have O1c := Lib.hid (O1.out.keep b3)
    have B3 := Lib.hid (B2.out.trans (b3.mono B2.out.size))
    clear b3 b3d I0b O1 I1 B2
    go_wp2_with fail
    refine (markCx_any w1.heap.size a1 n c1 _ O1c.out (by omega)).mono ?_
    rintro e w4 ⟨rfl, hM, b4⟩
    have M4 := Lib.hid hM
    have B4 := Lib.hid (B3.out.trans b4)
    clear b4 hM B3 O1c
    go_wp2_with fail
    refine (heldCx_any a1 n c1 _ M4.out (by omega)).mono ?_
    rintro e w5 ⟨rfl, b5⟩
    have M5 := Lib.hid (M4.out.keep b5)
    have B5 := Lib.hid (B4.out.trans (b5.mono B4.out.size))
    have T5 := Lib.hid (readComplex_wants_keep T1.out B5.out)
    clear b5 M4 B4
    go_wp2_with fail
    refine (HIM.out _ T5.out).mono ?_
    rintro e w6 ⟨a2, c2, rfl, hI2, hO2, b6⟩
    have I2 := Lib.hid hI2
    have M6 := Lib.hid (M5.out.keep b6)
    have B6 := Lib.hid (B5.out.trans (b6.mono B5.out.size))
    have I06 := Lib.hid (I0.out.keep B6.out)
    clear hI2 hO2 b6 M5 B5 T5
    go_wp2_with fail
    refine (eqCx_any a2 a0 n c2 c0 Z _ I2.out I06.out hn1).mono ?_
    rintro e w7 ⟨rfl, b7d⟩
    have b7 := b7d.below w6.heap.size
    have M7 := Lib.hid (M6.out.keep b7)
    have B7 := Lib.hid (B6.out.trans (b7.mono B6.out.size))
    clear b7 b7d M6 B6 I2 I06
    go_wp2_with fail
    refine (heldCx_any a1 n c1 _ M7.out (by omega)).mono ?_
    rintro e w8 ⟨rfl, b8⟩
    have B8 := Lib.hid (B1.out.trans ((B7.out.trans (b8.mono B7.out.size)).mono B1.out.size))
    clear b8 M7 B7
    go_wp2_with fail
    go_ret
    exact ⟨rfl, B8.out⟩
  · clear HT
    go_enter Tryd.func3, Tryd.ntmps3
    go_wp2
    go_ret
    exact ⟨rfl, Below.refl _ _⟩
end Go.Proofs.YtfmicahibmpjmacDoor
