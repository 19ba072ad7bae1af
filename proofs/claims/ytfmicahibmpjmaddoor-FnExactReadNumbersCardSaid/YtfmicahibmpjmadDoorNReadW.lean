/-
  Reading the text of float32 numbers: contracts of the program's function and of its model, and the walk of the exact law of ReadNumbers. Conditions: arguments fit their kind; the library's variable holds a number of its kind.
-/
import Derived.Test.YtfmicahibmpjmadDoorHexR
import Derived.Test.YtfmicahibmpjmadDoorCutW
import Derived.Test.YtfmicahibmpjmadDoorMarkFW
import Derived.Test.YtfmicahibmpjmadDoorShelf
import Derived.Maps.AppendAt
namespace Dec
open Go Flt
def fv (zs : List Nat) : List Value := zs.map (Value.float .f32)
def rn (b : ByteArray) : Nat := (rnum b.data.toList).getD 0
def allN (P : List ByteArray) : Bool := P.all fun b => (rnum b.data.toList).isSome
def nrOK (s : ByteArray) : Bool := decide (s = noneB) || (decide ((cutB 44 s).length ≤ 256) && allN (cutB 44 s))
def nrZ (s : ByteArray) : List Nat := if s = noneB then [] else if nrOK s = true then (cutB 44 s).map rn else []
theorem nrZ_none : nrZ noneB = [] := by unfold nrZ; rw [if_pos rfl]
theorem nrOK_none : nrOK noneB = true := by unfold nrOK; rw [decide_eq_true rfl]; rfl
theorem nrOK_ne {s : ByteArray} (h : s ≠ noneB) : nrOK s = (decide ((cutB 44 s).length ≤ 256) && allN (cutB 44 s)) := by unfold nrOK; rw [decide_eq_false h]; rfl
theorem nrZ_no {s : ByteArray} (h : s ≠ noneB) (h2 : nrOK s = false) : nrZ s = [] := by unfold nrZ; rw [if_neg h, h2]; rfl
theorem nrZ_yes {s : ByteArray} (h : s ≠ noneB) (h2 : nrOK s = true) : nrZ s = (cutB 44 s).map rn := by unfold nrZ; rw [if_neg h, if_pos h2]
theorem allN_take (P : List ByteArray) (k : Nat) (h : k < P.length) (h1 : allN (P.take k) = true) {n : Nat} (h2 : rnum P[k].data.toList = some n) : allN (P.take (k + 1)) = true := by
  rw [List.take_succ_eq_append_getElem h]
  unfold allN at *
  rw [List.all_append, h1]
  simp [h2]
theorem allN_no (P : List ByteArray) (k : Nat) (h : k < P.length) (h2 : rnum P[k].data.toList = none) : allN P = false := by
  unfold allN
  rw [List.all_eq_false]
  exact ⟨P[k], List.getElem_mem h, by simp [h2]⟩
theorem rn_bd (b : ByteArray) : rn b < 4294967296 := by
  unfold rn
  cases h : rnum b.data.toList with
  | none => decide
  | some n => exact rnum_lt h
theorem rns_bd (P : List ByteArray) : ∀ z ∈ P.map rn, z < 4294967296 := by
  intro z hz
  obtain ⟨b, _, rfl⟩ := List.mem_map.1 hz
  exact rn_bd b
theorem rns_take (P : List ByteArray) (k : Nat) (h : k < P.length) : fv ((P.map rn).take (k + 1)) = fv ((P.map rn).take k) ++ [.float .f32 (rn P[k])] := by
  rw [List.take_succ_eq_append_getElem (by simpa using h)]
  simp [fv]
theorem frow_nil (w : World) (a : Option Addr) : FRow w a 0 [] := ⟨rfl, Nat.zero_le _, by simp, fun i hi => absurd hi (Nat.not_lt_zero _)⟩
theorem frow_of_owned {w : World} {B t : Nat} {v : Value} {Z : List Nat} (h : w.ownsRow B t 1 v Z.length (fv Z)) (hn : Z.length ≤ 1048576) (hz : ∀ z ∈ Z, z < 4294967296) : ∃ a c, v = .slice a Z.length c ∧ FRow w a Z.length Z := by
  obtain ⟨h1, ⟨rfl, h2⟩ | ⟨g, cap, cur, rfl, hg, hc, hcap, _, hcs, hcur⟩⟩ := h
  · have hZ : Z = [] := List.eq_nil_of_length_eq_zero h2
    subst hZ
    exact ⟨none, 0, rfl, frow_nil w none⟩
  · have hlt : g < w.heap.size := by
      refine Nat.lt_of_not_le fun hle => ?_
      rw [Array.getElem?_eq_none hle] at hc; cases hc
    refine ⟨some ⟨g, 0, none⟩, cap, rfl, rfl, by unfold maxLen; omega, hz, fun j hj => ⟨g, 0, rfl, hlt, ?_⟩⟩
    have hu : (cur.toList.take (Z.length * 1))[j]? = some (.float .f32 (Z.getD j 0)) := by
      rw [hcur]; simp [fv, List.getElem?_eq_getElem hj, List.getD]
    rw [List.getElem?_take_of_lt (by omega)] at hu
    unfold World.cell?
    simp only [hc]
    simpa using hu
theorem fv_get (zs : List Nat) (k : Nat) (h : k < zs.length) (d : Value) : (fv zs).getD k d = .float .f32 (zs.getD k 0) := by simp [fv, List.getD, h]
theorem fmade_row {t : TypeId} {w : World} {g n : Nat} {zs : List Nat} (h : Flt.Filled w g t (fv zs) (.float .f32 0) n n) (hl : zs.length = n) (hm : n ≤ 1048576) (hz : ∀ z ∈ zs, z < 4294967296) : FRow w (some ⟨g, 0, none⟩) n zs := by
  refine ⟨hl, by unfold maxLen; omega, hz, fun i hi => ⟨g, 0, rfl, h.lt, ?_⟩⟩
  have := Flt.Filled.cell h (by simp [fv]; exact hl) (Nat.le_refl n) hi
  rw [if_pos hi, fv_get zs i (by omega)] at this
  rw [Nat.zero_add]; exact this
end Dec
namespace Go.Proofs.YtfmicahibmpjmadDoor
open Go.RowKit Dec Flt
set_option maxRecDepth 20000 in
set_option maxHeartbeats 1600000 in
theorem l01NRead_any (s : ByteArray) (hs : s.size ≤ 1048576) (w : World) :
    Calls Tryd.prog 9 #[.string s] w fun e w' => ∃ a c, e = .returned (.tuple #[.slice a (nrZ s).length c, .bool (nrOK s)]) ∧ FRow w' a (nrZ s).length (nrZ s) ∧ Below w.heap.size w w' := by
  by_cases hno : s = noneB
  · subst hno
    rw [nrZ_none, nrOK_none]
    have hx : (noneB.toList == noneB.toList) = true := by simp
    clear hs
    go_enter Tryd.func9, Tryd.ntmps9
    go_wp2_with fail
    go_ret2
    exact ⟨_, _, rfl, frow_nil _ _, (Below.refl _ _).alloc (Nat.le_refl _) _⟩
  · have hne := none_ne hno
    obtain ⟨P, hP⟩ : ∃ P, cutB 44 s = P := ⟨_, rfl⟩
    have HPS : Hid (∀ j (h : j < P.length), P[j].size ≤ 1048576) := by
      intro j h; subst hP; exact Nat.le_trans (cutB_size 44 s j h) hs
    have HOK := Lib.hid (nrOK_ne hno)
    have HZN := Lib.hid (fun h2 => nrZ_no hno h2)
    have HZY := Lib.hid (fun h2 => nrZ_yes hno h2)
    have HCUT := Lib.hid (fun w => l01Cut_any s 44 hs w)
    rw [hP] at HOK HZY HCUT
    have hpl : 1 ≤ P.length := by rw [← hP, cutB_len]; omega
    have hpm : P.length ≤ 1048577 := by
      rw [← hP, cutB_len]
      have : s.data.toList.count 44 ≤ s.data.toList.length := List.count_le_length
      have h2 : s.data.toList.length = s.size := by simp
      omega
    obtain ⟨i0, hi, hz0, hz1, hz2⟩ := info_parts (show (Tryd.prog.info? 29).map (fun i => (i.zero, i.size, i.bytes)) = some (some (.float .f32 0), 1, 4) by kernel_rfl)
    clear hno hP
    by_cases hbig : P.length ≤ 256
    · have hnb : ¬ (256 : Int) < (P.length : Int) := by omega
      go_enter Tryd.func9, Tryd.ntmps9
      go_wp2_with fail
      refine (HCUT.out _).mono ?_
      rintro e w1 ⟨g, kc, rfl, hS, hg, b1⟩
      have HS := Lib.hid hS
      have HB1 := Lib.hid (((Below.refl w.heap.size w).alloc (Nat.le_refl _) _).trans (b1.mono (by simp)))
      have HO1 := Lib.hid (owned_keep (World.ownsRow_made w (e := 29) #[] 0 (Nat.le_refl w.heap.size) (Nat.zero_le _) rfl) b1)
      have hgn : w.heap.size ≠ g := by simp at hg; omega
      clear hS b1 hg
      go_wp2_with fail
      go_loopg [4, 6] P.length (fun n v ix wr => ∃ k : Nat, ix = .int .i64 k ∧ Hid (k + n = P.length) ∧ k ≤ P.length ∧ Hid (wr.ownsRow w.heap.size 29 1 v k (fv ((P.map rn).take k))) ∧ Hid (∃ o, v.ownBlock = some o ∧ o ≠ g) ∧ Hid (Ss wr g P) ∧ Hid (Below w.heap.size w wr) ∧ Hid (allN (P.take k) = true))
      case atStart => exact ⟨0, rfl, by show _ = _; omega, Nat.zero_le _, HO1.out, ⟨_, rfl, hgn⟩, HS.out, HB1.out, rfl⟩
      case round =>
        obtain ⟨k, rfl, hk, hkl, hO, hQ, hS, hd, hA⟩ := hrel
        by_cases hlt : k < P.length
        · have hc := hS.out.2 k hlt
          obtain ⟨go, hgo⟩ : ∃ x, gk - 1 = x := ⟨_, rfl⟩
          have HJ : Hid (k + 1 + go = P.length) := by have := hk.out; show _ = _; omega
          have HG : Hid (go < gk) := by have := hk.out; show _ < _; omega
          have HNP := Lib.hid (allN_no P k hlt)
          have HAP := Lib.hid (fun n (h : rnum P[k].data.toList = some n) => allN_take P k hlt hA.out h)
          have HT0 := Lib.hid (rns_take P k hlt)
          have HRN : Hid (∀ n, rnum P[k].data.toList = some n → rn P[k] = n) := by
            intro n h
            unfold rn
            rw [h]; rfl
          clear hgo hA hk
          obtain ⟨b, hbP⟩ : ∃ b, P[k] = b := ⟨_, rfl⟩
          rw [hbP] at hc HNP HAP HT0 HRN
          clear hbP
          have hlb : b.data.toList.length = b.size := by simp
          by_cases h8 : b.size = 8
          · have HL := Lib.hid hlb
            have HX := Lib.hid (fun (h : hexF b.data.toList = none) => rnum_hex h)
            have HY := Lib.hid (fun n (h : hexF b.data.toList = some n) => rnum_at (l := b.data.toList) (by omega) h)
            have hq8 : ((b.size : Int) != 8) = false := by simp; omega
            clear hlb
            go_wp2_with fail
            go_loopg [7, 8] 8 (fun m nv kv wi => ∃ j n : Nat, nv = .int .i64 n ∧ kv = .int .i64 j ∧ wr = wi ∧ Hid (j + m = 8) ∧ j ≤ 8 ∧ n < 4294967296 ∧ Hid (hexF (b.data.toList.take j) = some n))
            case atStart => exact ⟨0, 0, rfl, rfl, rfl, rfl, Nat.zero_le _, by decide, rfl⟩
            case round =>
              obtain ⟨j, n, rfl, rfl, rfl, hj, hjl, hn, hH⟩ := hrel
              by_cases hj8 : j < 8
              · have hlt8 : j < b.size := by omega
                have HJ2 : Hid (j + 1 + (gk - 1) = 8) := by have := hj.out; show _ = _; omega
                have HG2 : Hid (gk - 1 < gk) := by have := hj.out; show _ < _; omega
                have hp8 : j + 1 ≤ 8 := by omega
                have hlen8 : (b.data.toList.take (j + 1)).length ≤ 8 := by rw [List.length_take]; omega
                by_cases hd1 : 48 ≤ b[j].toNat ∧ b[j].toNat ≤ 57
                · obtain ⟨d1, d2⟩ := hd1
                  have HS2 := Lib.hid (hex_step hlt8 hH.out (hx_dec d1 d2))
                  have HB2 := Lib.hid (hexF_lt HS2.out hlen8)
                  have h97 : b[j].toNat < 97 := by omega
                  clear hlen8 hH
                  go_wp2_with fail
                  go_roundg (gk - 1)
                  case measure => exact HG2.out
                  case rel => exact ⟨j + 1, _, by go_num, by go_num, rfl, HJ2, hp8, HB2.out, HS2.out⟩
                · by_cases hd2 : 97 ≤ b[j].toNat ∧ b[j].toNat ≤ 102
                  · obtain ⟨d1, d2⟩ := hd2
                    have HS2 := Lib.hid (hex_step hlt8 hH.out (hx_let d1 d2))
                    have HB2 := Lib.hid (hexF_lt HS2.out hlen8)
                    have h57 : 57 < b[j].toNat := by omega
                    have h48 : 48 ≤ b[j].toNat := by omega
                    clear hlen8 hH hd1
                    go_wp2_with fail
                    go_roundg (gk - 1)
                    case measure => exact HG2.out
                    case rel => exact ⟨j + 1, _, by go_num, by go_num, rfl, HJ2, hp8, HB2.out, HS2.out⟩
                  · have hno : nrOK s = false := by rw [HOK.out, HNP.out (HX.out (hex_stop hlt8 (hx_no (by omega) (by omega)))), Bool.and_false]
                    have HNO := Lib.hid hno
                    have HZ := Lib.hid (HZN.out hno)
                    have h3 : b[j].toNat < 48 ∨ (48 ≤ b[j].toNat ∧ 57 < b[j].toNat ∧ b[j].toNat < 97) ∨ (48 ≤ b[j].toNat ∧ 57 < b[j].toNat ∧ 97 ≤ b[j].toNat ∧ 102 < b[j].toNat) := by omega
                    clear hno hO hQ hlen8 hH hd1 hd2
                    rcases h3 with g1 | ⟨g0, g1, g2⟩ | ⟨g0, g1, g2, g3⟩
                    · have g4 : b[j].toNat < 97 := by omega
                      go_wp2_with fail
                      go_ret2
                      first | refine ⟨none, 0, ?_, ?_, hd.out⟩ | refine ⟨none, ⟨0, ?_⟩, ?_, hd.out⟩
                      · rw [HZ.out, HNO.out] <;> rfl
                      · rw [HZ.out]; exact frow_nil _ _
                    · go_wp2_with fail
                      go_ret2
                      first | refine ⟨none, 0, ?_, ?_, hd.out⟩ | refine ⟨none, ⟨0, ?_⟩, ?_, hd.out⟩
                      · rw [HZ.out, HNO.out] <;> rfl
                      · rw [HZ.out]; exact frow_nil _ _
                    · go_wp2_with fail
                      go_ret2
                      first | refine ⟨none, 0, ?_, ?_, hd.out⟩ | refine ⟨none, ⟨0, ?_⟩, ?_, hd.out⟩
                      · rw [HZ.out, HNO.out] <;> rfl
                      · rw [HZ.out]; exact frow_nil _ _
              · obtain rfl : j = 8 := by omega
                have h1 := hH.out
                rw [List.take_of_length_le (by rw [HL.out]; omega)] at h1
                have hr := HY.out n h1
                by_cases hb : bitsC n = (n : Int)
                · rw [if_pos hb] at hr
                  have HA2 := Lib.hid (HAP.out n hr)
                  have hT := HT0.out
                  rw [HRN.out n hr] at hT
                  have HT := Lib.hid hT
                  have HBB := Lib.hid hb
                  have hHp := hd.out.size
                  clear hr hb h1 hH hT HAP HT0 HRN HY HX HNP hj8
                  go_wp2_with fail
                  refine (l01From_any n hn _).mono ?_
                  rintro e w1x ⟨rfl, rfl⟩
                  go_wp2_with fail
                  refine (l01Bits_any n _ hn).mono ?_
                  rintro e w1x ⟨rfl, rfl⟩
                  rw [HBB.out]
                  go_wp2_with (at_builtin; go_must (refine wpList_append_own_at _ rfl _ _ 22 rfl w.heap.size 29 i0 (.float .f32 0) 1 4 Tryd.underlying22 hi hz0 hz1 hz2 rfl (by decide) _ _ _ rfl (hO.out.alloc _) ⟨wr.heap.size, 0, none⟩ 1 1 [.float .f32 n] rfl (by simp) (cell_one_new _ _ _) (by intro u hu; simp at hu; subst hu; rfl) (by unfold maxLen; omega) (by omega) (by simp; omega) ?_))
                  intro v' w3 hown' hgrow _ hat
                  rw [← HT.out] at hown'
                  have HO3 := Lib.hid hown'
                  obtain ⟨o, ho1, ho2⟩ := hQ.out
                  have hS3 : Ss (wr.alloc (.cells #[.float .f32 n] 29)) g P := hS.out.keep ((Below.refl _ _).alloc (Nat.le_refl _) _)
                  have HS4 := Lib.hid (hS3.grown hgrow (by rw [ho1]; intro e; exact ho2 (Option.some.inj e).symm))
                  have HQ3 : Hid (∃ o, v'.ownBlock = some o ∧ o ≠ g) := by
                    rcases hat with h | h
                    · exact ⟨o, by rw [h]; exact ho1, ho2⟩
                    · have h5 := hS3.1
                      have h6 : (wr.alloc (.cells #[.float .f32 n] 29)).heap.size = wr.heap.size + 1 := by simp
                      rw [h6] at h5
                      exact ⟨_, h, (Nat.ne_of_lt h5).symm⟩
                  have HB3 := Lib.hid ((hd.out.alloc hd.out.size _).grown hgrow (by simp; omega) (fun j hj => (hO.out.lt j hj).1))
                  clear hown' hgrow hat hS3 hO hS hd hQ ho1 ho2 HT
                  go_wp2_with fail
                  go_roundg go
                  case measure => exact HG.out
                  case rel => exact ⟨k + 1, by go_num, HJ, by omega, HO3.out, HQ3.out, HS4.out, HB3.out, HA2.out⟩
                · rw [if_neg hb] at hr
                  have hno : nrOK s = false := by rw [HOK.out, HNP.out hr, Bool.and_false]
                  have HNO := Lib.hid hno
                  have HZ := Lib.hid (HZN.out hno)
                  clear hno hr h1 hH HAP HT0 HRN HY HX HNP hO hQ hj8
                  go_wp2_with fail
                  refine (l01From_any n hn _).mono ?_
                  rintro e w1x ⟨rfl, rfl⟩
                  go_wp2_with fail
                  refine (l01Bits_any n _ hn).mono ?_
                  rintro e w1x ⟨rfl, rfl⟩
                  generalize bitsC n = bn at *
                  go_wp2_with fail
                  go_ret2
                  first | refine ⟨none, 0, ?_, ?_, hd.out⟩ | refine ⟨none, ⟨0, ?_⟩, ?_, hd.out⟩
                  · rw [HZ.out, HNO.out] <;> rfl
                  · rw [HZ.out]; exact frow_nil _ _
          · have hno : nrOK s = false := by rw [HOK.out, HNP.out (rnum_len (by omega)), Bool.and_false]
            have HNO := Lib.hid hno
            have HZ := Lib.hid (HZN.out hno)
            have hq8 : ((b.size : Int) != 8) = true := by simp; omega
            clear hno hO hQ HAP HT0 HRN HNP hlb
            go_wp2_with fail
            go_ret2
            first | refine ⟨none, 0, ?_, ?_, hd.out⟩ | refine ⟨none, ⟨0, ?_⟩, ?_, hd.out⟩
            · rw [HZ.out, HNO.out] <;> rfl
            · rw [HZ.out]; exact frow_nil _ _
        · obtain rfl : k = P.length := by have := hk.out; omega
          have h1 := hA.out
          rw [List.take_length] at h1
          have hok : nrOK s = true := by rw [HOK.out, h1, decide_eq_true hbig]; rfl
          have hO2 := hO.out
          have e1 : (P.map rn).take P.length = P.map rn := List.take_of_length_le (by simp)
          have e2 : P.length = (P.map rn).length := by simp
          rw [e1, e2] at hO2
          obtain ⟨a, c, rfl, hI⟩ := frow_of_owned hO2 (by simp; omega) (rns_bd P)
          have HI := Lib.hid hI
          have HY := Lib.hid (HZY.out hok)
          have HK := Lib.hid hok
          clear hI hO2 e1 e2 hO hQ hA h1 hok hlt
          go_wp2_with fail
          go_ret2
          refine ⟨a, c, ?_, ?_, hd.out⟩
          · rw [HY.out, HK.out] <;> rfl
          · rw [HY.out]; exact HI.out
    · have hno : nrOK s = false := by rw [HOK.out, decide_eq_false hbig, Bool.false_and]
      have HNO := Lib.hid hno
      have HZ := Lib.hid (HZN.out hno)
      have hnb : (256 : Int) < (P.length : Int) := by omega
      clear hno hbig
      go_enter Tryd.func9, Tryd.ntmps9
      go_wp2_with fail
      refine (HCUT.out _).mono ?_
      rintro e w1 ⟨g, kc, rfl, hS, hg, b1⟩
      have HB1 := Lib.hid (((Below.refl w.heap.size w).alloc (Nat.le_refl _) _).trans (b1.mono (by simp)))
      clear hS b1 hg
      go_wp2_with fail
      go_ret2
      refine ⟨none, 0, ?_, ?_, HB1.out⟩
      · rw [HZ.out, HNO.out] <;> rfl
      · rw [HZ.out]; exact frow_nil _ _
theorem specReadNumbers_any (s : ByteArray) (hs : s.size ≤ 1048576) (w : World) :
    Calls Tryd.prog 4 #[.string s] w fun e w' => ∃ a c, e = .returned (.tuple #[.slice a (nrZ s).length c, .bool (nrOK s)]) ∧ FRow w' a (nrZ s).length (nrZ s) ∧ Below w.heap.size w w' := by
  have HL := Lib.hid (l01NRead_any s hs w)
  generalize nrZ s = Z at *
  generalize nrOK s = q at *
  go_enter Tryd.func4, Tryd.ntmps4
  go_wp2_with fail
  refine HL.out.mono ?_
  rintro e w1 ⟨a, c, rfl, hI, b⟩
  have HI := Lib.hid hI
  have B := Lib.hid b
  clear b hI
  go_wp2_with fail
  go_ret2
  exact ⟨a, c, rfl, HI.out, B.out⟩
set_option maxRecDepth 20000 in
set_option maxHeartbeats 1600000 in
theorem readTextF_any (s : ByteArray) (hs : s.size ≤ 1048576) (w : World) (hm : MaxAt w) :
    Calls Tryd.prog 10 #[.string s, .int .i64 256, .func (.func 11) #[] #[]] w fun e w' => ∃ a c, e = .returned (.tuple #[.slice a (nrZ s).length c, .bool (nrOK s)]) ∧ FRow w' a (nrZ s).length (nrZ s) ∧ Own w' w.heap.size a (nrZ s).length 29 ∧ Below w.heap.size w w' := by
  by_cases hno : s = noneB
  · subst hno
    rw [nrZ_none, nrOK_none]
    have hx : (noneB.toList == noneB.toList) = true := by simp
    clear hs hm
    go_enter Tryd.func10, Tryd.ntmps10
    go_wp2_with fail
    go_ret2
    exact ⟨_, _, rfl, frow_nil _ _, .inl rfl, Below.refl _ _⟩
  · have hne := none_ne hno
    have HC := Lib.hid (fun w => cntComma s w)
    have HSP := Lib.hid (fun w => splitComma s hs w)
    have HM := Lib.hid hm
    clear hm
    obtain ⟨P, hP⟩ : ∃ P, cutB 44 s = P := ⟨_, rfl⟩
    have HPS : Hid (∀ j (h : j < P.length), P[j].size ≤ 1048576) := by
      intro j h; subst hP; exact Nat.le_trans (cutB_size 44 s j h) hs
    have HOK := Lib.hid (nrOK_ne hno)
    have HZN := Lib.hid (fun h2 => nrZ_no hno h2)
    have HZY := Lib.hid (fun h2 => nrZ_yes hno h2)
    rw [hP] at HOK HZY HC HSP
    have hpl : 1 ≤ P.length := by rw [← hP, cutB_len]; omega
    have hpm : P.length ≤ 1048577 := by
      rw [← hP, cutB_len]
      have : s.data.toList.count 44 ≤ s.data.toList.length := List.count_le_length
      have h2 : s.data.toList.length = s.size := by simp
      omega
    have hcst : (((P.length - 1 : Nat)) : Int) = (P.length : Int) - 1 := by omega
    rw [hcst] at HC
    clear hno hP hcst
    by_cases hbig : P.length ≤ 256
    · have hnb : ¬ (256 : Int) ≤ (P.length : Int) - 1 := by omega
      have hnw := Tryd.func11
      obtain ⟨n, hn⟩ : ∃ n, P.length = n := ⟨_, rfl⟩
      have hmk : ∀ w, (Instr.makeSlice 22 (.int .i64 (n : Int)) (.int .i64 (n : Int))).run Tryd.prog w = .ok (.slice (some ⟨w.heap.size, 0, none⟩) n n) (w.alloc (.cells (fillC (fv (P.map rn)) (.float .f32 0) 0 n) 29)) := by
        intro w
        obtain ⟨i, hi, hz0, hz1, hz2⟩ := info_parts (show (Tryd.prog.info? 29).map (fun i => (i.zero, i.size, i.bytes)) = some (some (.float .f32 0), 1, 4) by kernel_rfl)
        have := run_make (P := Tryd.prog) w 22 29 i (.float .f32 0) Tryd.underlying22 hi hz0 .i64 .i64 n n (by omega) (Int.le_refl _) (by rw [hz2]; omega) (by omega)
        rw [this, hz1, Int.toNat_natCast, fillC_made _ _ _ rfl]
      have hvl := Lib.hid (show (fv (P.map rn)).length = n by simp [fv, hn])
      have hMade := fun w => Lib.hid (Filled.made w 29 (fv (P.map rn)) (.float .f32 0) n)
      have hvg : Hid (∀ k (h : k < P.length), (fv (P.map rn)).getD k (.float .f32 0) = .float .f32 (rn P[k])) := by
        intro k hk
        simp [fv, List.getD, hk]
      have HN := Lib.hid hn
      have hn1 : n ≤ 256 := by omega
      have hn2 : 1 ≤ n := by omega
      have hcn : (P.length : Int) = n := by rw [hn]
      rw [hn] at HC HSP
      rw [hcn] at hnb
      have HOK2 : Hid (nrOK s = allN P) := by show _ = _; rw [HOK.out, decide_eq_true hbig, Bool.true_and]
      clear hpl hpm hbig HOK hn hcn
      go_enter Tryd.func10, Tryd.ntmps10
      generalize hvs : fv (P.map rn) = vs at *
      go_wp2_with fail
      refine (HC.out _).mono ?_
      rintro e w0 ⟨rfl, rfl⟩
      go_wp2_with fail
      refine (HSP.out _ HM.out).mono ?_
      rintro e w1 ⟨rfl, hS, hsz, b1⟩
      have HS := Lib.hid hS
      have B1 := Lib.hid b1
      have HSZ := Lib.hid hsz
      clear hS b1 hsz
      go_wp2_with fail
      go_loopg [27] n (fun m i wr => ∃ k : Nat, i = .int .i64 k ∧ Hid (k + m = n) ∧ k ≤ n ∧ Hid (Filled wr w1.heap.size 29 vs (.float .f32 0) k n) ∧ Hid (Below w1.heap.size w1 wr) ∧ Hid (allN (P.take k) = true))
      case atStart => exact ⟨0, rfl, by show _ = _; omega, Nat.zero_le _, (hMade w1).out, (Below.refl _ _).alloc (Nat.le_refl _) _, rfl⟩
      case round =>
        obtain ⟨k, rfl, hk, hkl, hF, hd, hA⟩ := hrel
        by_cases hlt : k < n
        · have hkP : k < P.length := by rw [HN.out]; exact hlt
          have hc := (HS.out.keep hd.out).2 k hkP
          have hbs := HPS.out k hkP
          have hv := hvg.out k hkP
          have HV2 := Lib.hid hv
          have BW := Lib.hid (B1.out.trans (hd.out.mono B1.out.size))
          have HJ : Hid (k + 1 + (gk - 1) = n) := by have := hk.out; show _ = _; omega
          have HG : Hid (gk - 1 < gk) := by have := hk.out; show _ < _; omega
          have HRD := Lib.hid (readNum_any P[k] hbs wr)
          cases hgd : rnum P[k].data.toList with
          | some z =>
            have HA2 := Lib.hid (allN_take P k hkP hA.out hgd)
            have HVV := Lib.hid (rnR_yes hgd)
            have hrk : rn P[k] = z := by unfold rn; rw [hgd]; rfl
            rw [hrk] at HV2
            clear hrk hgd hA hv
            generalize P[k] = b at *
            go_wp2_with fail
            refine HRD.out.mono ?_
            rintro e w2 ⟨rfl, b2⟩
            rw [HVV.out]
            have B2 := Lib.hid (hd.out.trans (b2.mono hd.out.size))
            have hcell := (hF.out.keep b2).cell hvl.out (by omega) hlt
            rw [if_neg (Nat.lt_irrefl k)] at hcell
            have hfr := (hF.out.keep b2).frozen k
            have hset := Lib.hid ((hF.out.keep b2).set hvl.out hlt)
            rw [HV2.out] at hset
            have HB2 : Hid (Below w1.heap.size w1 (w2.setCell ⟨w1.heap.size, k, none⟩ (.float .f32 z))) := Lib.hid (B2.out.setCell (Nat.le_refl _) _)
            clear b2 hF hd BW HRD HVV hc B2
            go_wp2_with fail
            go_roundg (gk - 1)
            case measure => exact HG.out
            case rel => exact ⟨k + 1, by go_num, HJ, by omega, hset.out, HB2.out, HA2.out⟩
          | none =>
            have hno : nrOK s = false := by rw [HOK2.out, allN_no P k hkP hgd]
            have HNO := Lib.hid hno
            have HZ := Lib.hid (HZN.out hno)
            have HVV := Lib.hid (rnR_no hgd)
            clear hgd hno hA hv HV2
            generalize P[k] = b at *
            go_wp2_with fail
            refine HRD.out.mono ?_
            rintro e w2 ⟨rfl, b2⟩
            rw [HVV.out]
            have HD2 := Lib.hid (BW.out.trans (b2.mono BW.out.size))
            clear b2 hF hd BW HRD HVV hc
            go_wp2_with fail
            go_ret2
            refine ⟨none, 0, ?_, ?_, ?_, HD2.out⟩
            · rw [HZ.out, HNO.out] <;> rfl
            · rw [HZ.out]; exact frow_nil _ _
            · rw [HZ.out]; exact .inl rfl
        · obtain rfl : k = n := by have := hk.out; omega
          have h1 := hA.out
          rw [← HN.out, List.take_length] at h1
          have hok : nrOK s = true := by rw [HOK2.out, h1]
          have hZ := HZY.out hok
          have hzl : (nrZ s).length = k := by rw [hZ]; simp [HN.out]
          have HR : Hid (FRow wr (some ⟨w1.heap.size, 0, none⟩) k (nrZ s)) := by
            refine fmade_row (t := 29) ?_ hzl (by omega) (by rw [hZ]; exact rns_bd P)
            show Filled wr w1.heap.size 29 (fv (nrZ s)) (.float .f32 0) k k
            rw [hZ, hvs]; exact hF.out
          have HW : Hid (Own wr w.heap.size (some ⟨w1.heap.size, 0, none⟩) k 29) := .inr ⟨_, rfl, by have := HSZ.out; omega, Slots.of_filled hF.out hvl.out (Nat.le_refl _)⟩
          have HZL := Lib.hid hzl
          have HK := Lib.hid hok
          have BW := Lib.hid (B1.out.trans (hd.out.mono B1.out.size))
          clear hzl hok hZ h1 hF hd hA hlt
          go_wp2_with fail
          go_ret2
          refine ⟨some ⟨w1.heap.size, 0, none⟩, k, ?_, ?_, ?_, BW.out⟩
          · rw [HZL.out, HK.out] <;> rfl
          · rw [HZL.out]; exact HR.out
          · rw [HZL.out]; exact HW.out
    · have hno : nrOK s = false := by rw [HOK.out, decide_eq_false hbig, Bool.false_and]
      have HNO := Lib.hid hno
      have HZ := Lib.hid (HZN.out hno)
      have hnb : (256 : Int) ≤ (P.length : Int) - 1 := by omega
      clear hno hbig
      go_enter Tryd.func10, Tryd.ntmps10
      go_wp2_with fail
      refine (HC.out _).mono ?_
      rintro e w0 ⟨rfl, rfl⟩
      go_wp2_with fail
      go_ret2
      refine ⟨none, 0, ?_, ?_, ?_, Below.refl _ _⟩
      · rw [HZ.out, HNO.out] <;> rfl
      · rw [HZ.out]; exact frow_nil _ _
      · rw [HZ.out]; exact .inl rfl
theorem implReadNumbers_any (s : ByteArray) (hs : s.size ≤ 1048576) (w : World) (hm : MaxAt w) :
    Calls Tryd.prog 5 #[.string s] w fun e w' => ∃ a c, e = .returned (.tuple #[.slice a (nrZ s).length c, .bool (nrOK s)]) ∧ FRow w' a (nrZ s).length (nrZ s) ∧ Own w' w.heap.size a (nrZ s).length 29 ∧ Below w.heap.size w w' := by
  have HL := Lib.hid (readTextF_any s hs w hm)
  generalize nrZ s = Z at *
  generalize nrOK s = q at *
  clear hm
  go_enter Tryd.func5, Tryd.ntmps5
  go_wp2_with fail
  refine HL.out.mono ?_
  rintro e w1 ⟨a, c, rfl, hI, hO, b⟩
  have HI := Lib.hid hI
  have HO := Lib.hid hO
  have B := Lib.hid b
  clear b hI hO
  go_wp2_with fail
  go_ret2
  exact ⟨a, c, rfl, HI.out, HO.out, B.out⟩
def fnExactReadNumbers_wants (w : World) : Prop := MaxAt w
theorem readNumbers_wants_keep {w w' : World} (h : fnExactReadNumbers_wants w) (hb : Below w.heap.size w w') : fnExactReadNumbers_wants w' := MaxAt.keep h hb
set_option maxRecDepth 20000 in
set_option maxHeartbeats 1600000 in
theorem fnExactReadNumbers_walk (s : ByteArray) (_ws : s.size ≤ maxLen) (w : World) (ht : fnExactReadNumbers_wants w) :
    Calls Tryd.prog 3 #[.string s] w fun e w' => e = .returned (.bool true) ∧ Below w.heap.size w w' := by
  have HT := Lib.hid ht
  clear ht
  by_cases hs : s.size ≤ 1048576
  · have HSP := Lib.hid (fun w => specReadNumbers_any s hs w)
    have HIM := Lib.hid (fun w (h : fnExactReadNumbers_wants w) => implReadNumbers_any s hs w h)
    have hl : (nrZ s).length ≤ 256 := by
      unfold nrZ
      split
      · simp
      · split
        · rename_i h1 h2
          rw [nrOK_ne h1, Bool.and_eq_true, decide_eq_true_eq] at h2
          simpa using h2.1
        · simp
    generalize nrZ s = Z at *
    generalize nrOK s = q at *
    obtain ⟨n, hn⟩ : ∃ n, Z.length = n := ⟨_, rfl⟩
    rw [hn] at HSP HIM hl
    have hx : (q != q) = false := by simp
    have hn1 : n ≤ 1048576 := by omega
    clear hn
    go_enter Tryd.func3, Tryd.ntmps3
    go_wp2_with fail
    refine (HSP.out _).mono ?_
    rintro e w1 ⟨a0, c0, rfl, hI0, b1⟩
    have I0 := Lib.hid hI0
    have B1 := Lib.hid b1
    have T1 := Lib.hid (readNumbers_wants_keep HT.out b1)
    clear hI0 b1
    go_wp2_with fail
    refine (HIM.out _ T1.out).mono ?_
    rintro e w2 ⟨a1, c1, rfl, hI1, hO1, b2⟩
    have I0b := Lib.hid (frow_keep I0.out b2)
    have I1 := Lib.hid hI1
    have O1 := Lib.hid hO1
    have B2 := Lib.hid b2
    clear hI1 hO1 b2
    go_wp2_with fail
    refine (eqF32_any a1 a0 n c1 c0 Z _ I1.out I0b.out hn1).mono ?_
    rintro e w3 ⟨rfl, b3d⟩
    have b3 := b3d.below w2.heap.size
    have O1c := Lib.hid (O1.out.keep b3)
    have B3 := Lib.hid (B2.out.trans (b3.mono B2.out.size))
    clear b3 b3d I0b O1 I1 B2
    go_wp2_with fail
    refine (markF32_any w1.heap.size a1 n c1 _ O1c.out (by omega)).mono ?_
    rintro e w4 ⟨rfl, hM, b4⟩
    have M4 := Lib.hid hM
    have B4 := Lib.hid (B3.out.trans b4)
    clear b4 hM B3 O1c
    go_wp2_with fail
    refine (heldF32_any a1 n c1 _ M4.out (by omega)).mono ?_
    rintro e w5 ⟨rfl, b5⟩
    have M5 := Lib.hid (M4.out.keep b5)
    have B5 := Lib.hid (B4.out.trans (b5.mono B4.out.size))
    have T5 := Lib.hid (readNumbers_wants_keep T1.out B5.out)
    clear b5 M4 B4
    go_wp2_with fail
    refine (HIM.out _ T5.out).mono ?_
    rintro e w6 ⟨a2, c2, rfl, hI2, hO2, b6⟩
    have I2 := Lib.hid hI2
    have M6 := Lib.hid (M5.out.keep b6)
    have B6 := Lib.hid (B5.out.trans (b6.mono B5.out.size))
    have I06 := Lib.hid (frow_keep I0.out B6.out)
    clear hI2 hO2 b6 M5 B5 T5
    go_wp2_with fail
    refine (eqF32_any a2 a0 n c2 c0 Z _ I2.out I06.out hn1).mono ?_
    rintro e w7 ⟨rfl, b7d⟩
    have b7 := b7d.below w6.heap.size
    have M7 := Lib.hid (M6.out.keep b7)
    have B7 := Lib.hid (B6.out.trans (b7.mono B6.out.size))
    clear b7 b7d M6 B6 I2 I06
    go_wp2_with fail
    refine (heldF32_any a1 n c1 _ M7.out (by omega)).mono ?_
    rintro e w8 ⟨rfl, b8⟩
    have B8 := Lib.hid (B1.out.trans ((B7.out.trans (b8.mono B7.out.size)).mono B1.out.size))
    clear b8 M7 B7
    go_wp2_with fail
    go_ret
    exact ⟨rfl, B8.out⟩
  · clear HT
    go_enter Tryd.func3, Tryd.ntmps3
    go_wp2
    go_ret
    exact ⟨rfl, Below.refl _ _⟩
end Go.Proofs.YtfmicahibmpjmadDoor
