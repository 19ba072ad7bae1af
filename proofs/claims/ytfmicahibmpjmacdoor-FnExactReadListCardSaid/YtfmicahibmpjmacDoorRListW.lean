/-
  Reading the text of int64 numbers: contracts of the program's function and of its model, and the walk of the exact law of ReadList. Conditions: arguments fit their kind; the library's variables hold what its initialiser lays, or a number of their kind.
-/
import Derived.Test.YtfmicahibmpjmacDoorCutW
import Derived.Test.YtfmicahibmpjmacDoorMarkW
import Derived.Test.YtfmicahibmpjmacDoorShelf
import Derived.Maps.AppendAt
namespace Dec
open Go
abbrev noneB : ByteArray := ⟨#[110, 111, 110, 101]⟩
def rd (b : ByteArray) : Int := rdN b.data.toList
def allG (P : List ByteArray) : Bool := P.all fun b => decide (goodV b.data.toList)
def readOK (s : ByteArray) : Bool := decide (s = noneB) || (decide ((cutB 44 s).length ≤ 64) && allG (cutB 44 s))
def readZ (s : ByteArray) : List Int := if s = noneB then [] else if readOK s = true then (cutB 44 s).map rd else []
theorem readZ_none : readZ noneB = [] := by unfold readZ; rw [if_pos rfl]
theorem readOK_none : readOK noneB = true := by unfold readOK; rw [decide_eq_true rfl]; rfl
theorem readOK_ne {s : ByteArray} (h : s ≠ noneB) : readOK s = (decide ((cutB 44 s).length ≤ 64) && allG (cutB 44 s)) := by unfold readOK; rw [decide_eq_false h]; rfl
theorem readZ_no {s : ByteArray} (h : s ≠ noneB) (h2 : readOK s = false) : readZ s = [] := by unfold readZ; rw [if_neg h, h2]; rfl
theorem readZ_yes {s : ByteArray} (h : s ≠ noneB) (h2 : readOK s = true) : readZ s = (cutB 44 s).map rd := by unfold readZ; rw [if_neg h, if_pos h2]
theorem none_ne {s : ByteArray} (h : s ≠ noneB) : (s.toList == ([110, 111, 110, 101] : List UInt8)) = false := by
  rw [ByteArray.toList_eq]
  have : ¬ s.data.toList = [110, 111, 110, 101] := fun e => h (ByteArray.ext (Array.toList_inj.1 e))
  simpa using this
theorem cutL_mem (c : UInt8) : ∀ (n : Nat) (l : List UInt8), l.length ≤ n → ∀ p ∈ cutL c l, p.length ≤ l.length := by
  intro n
  induction n with
  | zero =>
    intro l hl p hp
    have : l = [] := List.eq_nil_of_length_eq_zero (by omega)
    subst this
    rw [cutL_free (by simp)] at hp
    simp at hp
    subst hp
    exact Nat.le_refl _
  | succ n ih =>
    intro l hl p hp
    by_cases hm : c ∈ l
    · obtain ⟨q, r, rfl, hq⟩ := List.eq_append_cons_of_mem hm
      rw [cutL_app hq] at hp
      simp at hl
      rcases List.mem_cons.1 hp with rfl | hp
      · simp
      · have := ih r (by omega) p hp
        simp; omega
    · rw [cutL_free hm] at hp
      simp at hp
      subst hp
      exact Nat.le_refl _
theorem cutB_size (c : UInt8) (s : ByteArray) (j : Nat) (h : j < (cutB c s).length) : (cutB c s)[j].size ≤ s.size := by
  have hm : (cutB c s)[j] ∈ cutB c s := List.getElem_mem h
  unfold cutB at hm
  obtain ⟨l, hl, e⟩ := List.mem_map.1 hm
  have h1 := cutL_mem c _ _ (Nat.le_refl _) l hl
  show (cutB c s)[j].data.size ≤ s.data.size
  unfold cutB
  rw [← e]
  simpa using h1
theorem cutB_len (c : UInt8) (s : ByteArray) : (cutB c s).length = s.data.toList.count c + 1 := by unfold cutB; rw [List.length_map, cutL_len]
theorem allG_take (P : List ByteArray) (k : Nat) (h : k < P.length) (h1 : allG (P.take k) = true) (h2 : goodV P[k].data.toList) : allG (P.take (k + 1)) = true := by
  rw [List.take_succ_eq_append_getElem h]
  unfold allG at *
  rw [List.all_append, h1]
  simp [h2]
theorem allG_no (P : List ByteArray) (k : Nat) (h : k < P.length) (h2 : ¬ goodV P[k].data.toList) : allG P = false := by
  unfold allG
  rw [List.all_eq_false]
  exact ⟨P[k], List.getElem_mem h, by simpa using h2⟩
theorem allG_at (P : List ByteArray) (h : allG P = true) (b : ByteArray) (hb : b ∈ P) : goodV b.data.toList := by
  unfold allG at h
  exact of_decide_eq_true (List.all_eq_true.1 h b hb)
theorem rd_bd (b : ByteArray) : -9223372036854775808 ≤ rd b ∧ rd b ≤ 9223372036854775807 := by
  unfold rd rdN
  split
  · rename_i h
    obtain ⟨_, _, h1, h2, _⟩ := h
    omega
  · decide
theorem rds_bd (P : List ByteArray) : ∀ z ∈ P.map rd, -9223372036854775808 ≤ z ∧ z ≤ 9223372036854775807 := by
  intro z hz
  obtain ⟨b, _, rfl⟩ := List.mem_map.1 hz
  exact rd_bd b
theorem rds_take (P : List ByteArray) (k : Nat) (h : k < P.length) : iv ((P.map rd).take (k + 1)) = iv ((P.map rd).take k) ++ [.int .i64 (rd P[k])] := by
  rw [List.take_succ_eq_append_getElem (by simpa using h)]
  simp [iv]
theorem irow_nil (w : World) (a : Option Addr) : IRow w a 0 [] := ⟨rfl, Nat.zero_le _, by simp, fun i hi => absurd hi (Nat.not_lt_zero _)⟩
theorem irow_of_owned {w : World} {B t : Nat} {v : Value} {Z : List Int} (h : w.ownsRow B t 1 v Z.length (iv Z)) (hn : Z.length ≤ 1048576) (hz : ∀ z ∈ Z, -9223372036854775808 ≤ z ∧ z ≤ 9223372036854775807) : ∃ a c, v = .slice a Z.length c ∧ IRow w a Z.length Z := by
  obtain ⟨h1, ⟨rfl, h2⟩ | ⟨g, cap, cur, rfl, hg, hc, hcap, _, hcs, hcur⟩⟩ := h
  · have hZ : Z = [] := List.eq_nil_of_length_eq_zero h2
    subst hZ
    exact ⟨none, 0, rfl, irow_nil w none⟩
  · have hlt : g < w.heap.size := by
      refine Nat.lt_of_not_le fun hle => ?_
      rw [Array.getElem?_eq_none hle] at hc; cases hc
    refine ⟨some ⟨g, 0, none⟩, cap, rfl, rfl, by unfold maxLen; omega, hz, fun j hj => ⟨g, 0, rfl, hlt, ?_⟩⟩
    have hu : (cur.toList.take (Z.length * 1))[j]? = some (.int .i64 (Z.getD j 0)) := by
      rw [hcur]; simp [iv, List.getElem?_eq_getElem hj, List.getD]
    rw [List.getElem?_take_of_lt (by omega)] at hu
    unfold World.cell?
    simp only [hc]
    simpa using hu
theorem owned_keep {w w' : World} {B t n : Nat} {v : Value} {xs : List Value} (h : w.ownsRow B t 1 v n xs) (hb : Go.RowKit.Below w.heap.size w w') : w'.ownsRow B t 1 v n xs := by
  obtain ⟨h1, ⟨rfl, h2⟩ | ⟨g, cap, cur, rfl, hg, hc, hcap, hm, hcs, hcur⟩⟩ := h
  · exact ⟨h1, .inl ⟨rfl, h2⟩⟩
  · have hlt : g < w.heap.size := by
      refine Nat.lt_of_not_le fun hle => ?_
      rw [Array.getElem?_eq_none hle] at hc; cases hc
    exact ⟨h1, .inr ⟨g, cap, cur, rfl, hg, by rw [hb.block g hlt]; exact hc, hcap, hm, hcs, hcur⟩⟩
theorem Ss.grown {w w' : World} {g : Nat} {l : List ByteArray} {row : Option Nat} (h : Ss w g l) (hg : w.grownBy w' row) (hne : some g ≠ row) : Ss w' g l :=
  ⟨Nat.lt_of_lt_of_le h.1 hg.size, fun j hj => hg.cell (h.2 j hj) hne⟩
/-- the library's number of bytes for its search is some number -/
def MaxAt (w : World) : Prop := ∃ m, w.cell? ⟨0, 0, none⟩ = some (.int .i64 m)
theorem MaxAt.keep {w w' : World} (h : MaxAt w) (hb : Go.RowKit.Below w.heap.size w w') : MaxAt w' := by
  obtain ⟨m, h1⟩ := h
  refine ⟨m, ?_⟩
  have hlt : 0 < w.heap.size := by
    refine Nat.lt_of_not_le fun hle => ?_
    unfold World.cell? at h1
    rw [Array.getElem?_eq_none hle] at h1
    cases h1
  rw [World.cell?_of_block (w := w) (hb.block _ hlt)]
  exact h1
end Dec
namespace Go.Proofs.YtfmicahibmpjmacDoor
open Go.RowKit Dec Flt
set_option maxRecDepth 20000 in
set_option maxHeartbeats 1600000 in
theorem l01Numbers_any (s : ByteArray) (hs : s.size ≤ 1048576) (w : World) :
    Calls Tryd.prog 37 #[.string s] w fun e w' => ∃ a c, e = .returned (.tuple #[.slice a (readZ s).length c, .bool (readOK s)]) ∧ IRow w' a (readZ s).length (readZ s) ∧ Below w.heap.size w w' := by
  by_cases hno : s = noneB
  · subst hno
    rw [readZ_none, readOK_none]
    have hx : (noneB.toList == noneB.toList) = true := by simp
    clear hs
    go_enter Tryd.func37, Tryd.ntmps37
    go_wp2_with fail
    go_ret2
    exact ⟨_, _, rfl, irow_nil _ _, (Below.refl _ _).alloc (Nat.le_refl _) _⟩
  · have hne := none_ne hno
    obtain ⟨P, hP⟩ : ∃ P, cutB 44 s = P := ⟨_, rfl⟩
    have HPS : Hid (∀ j (h : j < P.length), P[j].size ≤ 1048576) := by
      intro j h; subst hP; exact Nat.le_trans (cutB_size 44 s j h) hs
    have HOK := Lib.hid (readOK_ne hno)
    have HZN := Lib.hid (fun h2 => readZ_no hno h2)
    have HZY := Lib.hid (fun h2 => readZ_yes hno h2)
    have HCUT := Lib.hid (fun w => l01Cut_any s 44 hs w)
    rw [hP] at HOK HZY HCUT
    have hpl : 1 ≤ P.length := by rw [← hP, cutB_len]; omega
    have hpm : P.length ≤ 1048577 := by
      rw [← hP, cutB_len]
      have : s.data.toList.count 44 ≤ s.data.toList.length := List.count_le_length
      have h2 : s.data.toList.length = s.size := by simp
      omega
    obtain ⟨i0, hi, hz0, hz1, hz2⟩ := info_parts (show (Tryd.prog.info? 2).map (fun i => (i.zero, i.size, i.bytes)) = some (some (.int .i64 0), 1, 8) by kernel_rfl)
    clear hno hP
    by_cases hbig : P.length ≤ 64
    · have hnb : ¬ (64 : Int) < (P.length : Int) := by omega
      go_enter Tryd.func37, Tryd.ntmps37
      go_wp2_with fail
      refine (HCUT.out _).mono ?_
      rintro e w1 ⟨g, kc, rfl, hS, hg, b1⟩
      have HS := Lib.hid hS
      have HB1 := Lib.hid (((Below.refl w.heap.size w).alloc (Nat.le_refl _) _).trans (b1.mono (by simp)))
      have HO1 := Lib.hid (owned_keep (World.ownsRow_made w (e := 2) #[] 0 (Nat.le_refl w.heap.size) (Nat.zero_le _) rfl) b1)
      have hgn : w.heap.size ≠ g := by simp at hg; omega
      clear hS b1 hg
      go_wp2_with fail
      go_loopg [4, 6] P.length (fun n v ix wr => ∃ k : Nat, ix = .int .i64 k ∧ Hid (k + n = P.length) ∧ k ≤ P.length ∧ Hid (wr.ownsRow w.heap.size 2 1 v k (iv ((P.map rd).take k))) ∧ Hid (∃ o, v.ownBlock = some o ∧ o ≠ g) ∧ Hid (Ss wr g P) ∧ Hid (Below w.heap.size w wr) ∧ Hid (allG (P.take k) = true))
      case atStart => exact ⟨0, rfl, by show _ = _; omega, Nat.zero_le _, HO1.out, ⟨_, rfl, hgn⟩, HS.out, HB1.out, rfl⟩
      case round =>
        obtain ⟨k, rfl, hk, hkl, hO, hQ, hS, hd, hA⟩ := hrel
        by_cases hlt : k < P.length
        · have hc := hS.out.2 k hlt
          have hbs := HPS.out k hlt
          have HJ : Hid (k + 1 + (gk - 1) = P.length) := by have := hk.out; show _ = _; omega
          have HG : Hid (gk - 1 < gk) := by have := hk.out; show _ < _; omega
          by_cases hgd : goodV P[k].data.toList
          · have HA2 := Lib.hid (allG_take P k hlt hA.out hgd)
            have HV := Lib.hid (rdR_yes hgd)
            have hrk : rd P[k] = rval P[k].data.toList := by unfold rd rdN; rw [if_pos hgd]
            have HT := Lib.hid (rds_take P k hlt)
            rw [hrk] at HT
            clear hrk hgd hA
            generalize hz : rval P[k].data.toList = z at *
            clear hz
            generalize P[k] = b at *
            go_wp2_with fail
            refine (specVal_any b hbs _).mono ?_
            rintro e w2 ⟨rfl, b2⟩
            rw [HV.out]
            have HO2 := Lib.hid (owned_keep hO.out b2)
            have HS2 := Lib.hid (hS.out.keep b2)
            have HD2 := Lib.hid (hd.out.trans (b2.mono hd.out.size))
            clear hO hS hd b2 HV hc
            go_wp2_with (at_builtin; go_must (refine wpList_append_own_at _ rfl _ _ 32 rfl w.heap.size 2 i0 (.int .i64 0) 1 8 Tryd.underlying32 hi hz0 hz1 hz2 rfl (by decide) _ _ _ rfl (HO2.out.alloc _) ⟨w2.heap.size, 0, none⟩ 1 1 [.int .i64 z] rfl (by simp) (cell_one_new _ _ _) (by intro u hu; simp at hu; subst hu; rfl) (by unfold maxLen; omega) (by omega) (by have := HD2.out.size; simp; omega) ?_))
            intro v' w3 hown' hgrow _ hat
            rw [← HT.out] at hown'
            have HO3 := Lib.hid hown'
            obtain ⟨o, ho1, ho2⟩ := hQ.out
            have hS3 : Ss (w2.alloc (.cells #[.int .i64 z] 2)) g P := HS2.out.keep ((Below.refl _ _).alloc (Nat.le_refl _) _)
            have HS4 := Lib.hid (hS3.grown hgrow (by rw [ho1]; intro e; exact ho2 (Option.some.inj e).symm))
            have HQ3 : Hid (∃ o, v'.ownBlock = some o ∧ o ≠ g) := by
              rcases hat with h | h
              · exact ⟨o, by rw [h]; exact ho1, ho2⟩
              · have h5 := hS3.1
                have h6 : (w2.alloc (.cells #[.int .i64 z] 2)).heap.size = w2.heap.size + 1 := by simp
                rw [h6] at h5
                exact ⟨_, h, (Nat.ne_of_lt h5).symm⟩
            have HB3 := Lib.hid ((HD2.out.alloc HD2.out.size _).grown hgrow (by have := HD2.out.size; simp; omega) (fun j hj => (HO2.out.lt j hj).1))
            clear hown' hgrow hat hS3 HO2 HS2 HD2 hQ ho1 ho2 HT
            go_wp2_with fail
            go_roundg (gk - 1)
            case measure => exact HG.out
            case rel => exact ⟨k + 1, by go_num, HJ, by omega, HO3.out, HQ3.out, HS4.out, HB3.out, HA2.out⟩
          · have hno : readOK s = false := by rw [HOK.out, allG_no P k hlt hgd, Bool.and_false]
            have HNO := Lib.hid hno
            have HZ := Lib.hid (HZN.out hno)
            have HV := Lib.hid (rdR_no hgd)
            clear hgd hno hA hO hQ
            generalize P[k] = b at *
            go_wp2_with fail
            refine (specVal_any b hbs _).mono ?_
            rintro e w2 ⟨rfl, b2⟩
            rw [HV.out]
            have HD2 := Lib.hid (hd.out.trans (b2.mono hd.out.size))
            clear b2 hS hd hc
            go_wp2_with fail
            go_ret2
            refine ⟨none, 0, ?_, ?_, HD2.out⟩
            · rw [HZ.out, HNO.out] <;> rfl
            · rw [HZ.out]; exact irow_nil _ _
        · obtain rfl : k = P.length := by have := hk.out; omega
          have h1 := hA.out
          rw [List.take_length] at h1
          have hok : readOK s = true := by rw [HOK.out, h1, decide_eq_true hbig]; rfl
          have hO2 := hO.out
          have e1 : (P.map rd).take P.length = P.map rd := List.take_of_length_le (by simp)
          have e2 : P.length = (P.map rd).length := by simp
          rw [e1, e2] at hO2
          obtain ⟨a, c, rfl, hI⟩ := irow_of_owned hO2 (by simp; omega) (rds_bd P)
          have HI := Lib.hid hI
          have HY := Lib.hid (HZY.out hok)
          have HK := Lib.hid hok
          clear hI hO2 e1 e2 hO hQ hA h1 hok hlt
          go_wp2_with fail
          go_ret2
          refine ⟨a, c, ?_, ?_, hd.out⟩
          · rw [HY.out, HK.out] <;> rfl
          · rw [HY.out]; exact HI.out
    · have hno : readOK s = false := by rw [HOK.out, decide_eq_false hbig, Bool.false_and]
      have HNO := Lib.hid hno
      have HZ := Lib.hid (HZN.out hno)
      have hnb : (64 : Int) < (P.length : Int) := by omega
      clear hno hbig
      go_enter Tryd.func37, Tryd.ntmps37
      go_wp2_with fail
      refine (HCUT.out _).mono ?_
      rintro e w1 ⟨g, kc, rfl, hS, hg, b1⟩
      have HB1 := Lib.hid (((Below.refl w.heap.size w).alloc (Nat.le_refl _) _).trans (b1.mono (by simp)))
      clear hS b1 hg
      go_wp2_with fail
      go_ret2
      refine ⟨none, 0, ?_, ?_, HB1.out⟩
      · rw [HZ.out, HNO.out] <;> rfl
      · rw [HZ.out]; exact irow_nil _ _
theorem specReadList_any (s : ByteArray) (hs : s.size ≤ 1048576) (w : World) :
    Calls Tryd.prog 21 #[.string s] w fun e w' => ∃ a c, e = .returned (.tuple #[.slice a (readZ s).length c, .bool (readOK s)]) ∧ IRow w' a (readZ s).length (readZ s) ∧ Below w.heap.size w w' := by
  have HL := Lib.hid (l01Numbers_any s hs w)
  generalize readZ s = Z at *
  generalize readOK s = q at *
  go_enter Tryd.func21, Tryd.ntmps21
  go_wp2_with fail
  refine HL.out.mono ?_
  rintro e w1 ⟨a, c, rfl, hI, b⟩
  have HI := Lib.hid hI
  have B := Lib.hid b
  clear b hI
  go_wp2_with fail
  go_ret2
  exact ⟨a, c, rfl, HI.out, B.out⟩
theorem cntComma (s : ByteArray) (w : World) : Calls Tryd.prog 41 #[.string s, .string ⟨#[44]⟩] w fun e w' => e = .returned (.int .i64 ((((cutB 44 s).length - 1 : Nat)) : Int)) ∧ w = w' := by
  refine (Tryd.strings_Count_one s 44 w).mono ?_
  rintro e w' ⟨rfl, rfl⟩
  refine ⟨?_, rfl⟩
  have h1 : Lib.countByte s.data.toList 44 = s.data.toList.count 44 := by
    exact (Lib.count_one _ _).symm.trans (count_one 44 _ _ (Nat.le_refl _))
  rw [h1, cutB_len, Nat.add_sub_cancel]
theorem splitComma (s : ByteArray) (hs : s.size ≤ 1048576) (w : World) (hm : MaxAt w) : Calls Tryd.prog 42 #[.string s, .string ⟨#[44]⟩] w fun e w' => e = .returned (.slice (some ⟨w.heap.size, 0, none⟩) (cutB 44 s).length (cutB 44 s).length) ∧ Ss w' w.heap.size (cutB 44 s) ∧ w'.heap.size = w.heap.size + 1 ∧ Below w.heap.size w w' := by
  obtain ⟨m, hm⟩ := hm
  have hc : Lib.countB s ⟨#[44]⟩ + 1 = (cutB 44 s).length := by
    have : Lib.countB s ⟨#[44]⟩ = s.data.toList.count 44 := count_one 44 _ _ (Nat.le_refl _)
    rw [this, cutB_len]
  refine (Tryd.strings_Split s ⟨#[44]⟩ m w (by omega) hm (by decide)).mono ?_
  rintro e w' ⟨rfl, rfl⟩
  rw [splitB_eq, hc]
  refine ⟨rfl, ⟨by simp, fun j hj => ?_⟩, by simp, (Below.refl _ _).alloc (Nat.le_refl _) _⟩
  unfold World.cell?
  simp only [heap_alloc_new]
  simp [hj]
set_option maxRecDepth 20000 in
set_option maxHeartbeats 1600000 in
theorem readTextI_any (s : ByteArray) (hs : s.size ≤ 1048576) (w : World) (ht : Tab w) (he : Errs w) (hm : MaxAt w) :
    Calls Tryd.prog 38 #[.string s, .int .i64 64, .func (.func 16) #[] #[]] w fun e w' => ∃ a c, e = .returned (.tuple #[.slice a (readZ s).length c, .bool (readOK s)]) ∧ IRow w' a (readZ s).length (readZ s) ∧ Own w' w.heap.size a (readZ s).length 2 ∧ Below w.heap.size w w' := by
  by_cases hno : s = noneB
  · subst hno
    rw [readZ_none, readOK_none]
    have hx : (noneB.toList == noneB.toList) = true := by simp
    clear hs ht he hm
    go_enter Tryd.func38, Tryd.ntmps38
    go_wp2_with fail
    go_ret2
    exact ⟨_, _, rfl, irow_nil _ _, .inl rfl, Below.refl _ _⟩
  · have hne := none_ne hno
    have HC := Lib.hid (fun w => cntComma s w)
    have HSP := Lib.hid (fun w => splitComma s hs w)
    have HT := Lib.hid ht
    have HE := Lib.hid he
    have HM := Lib.hid hm
    clear ht he hm
    obtain ⟨P, hP⟩ : ∃ P, cutB 44 s = P := ⟨_, rfl⟩
    have HPS : Hid (∀ j (h : j < P.length), P[j].size ≤ 1048576) := by
      intro j h; subst hP; exact Nat.le_trans (cutB_size 44 s j h) hs
    have HOK := Lib.hid (readOK_ne hno)
    have HZN := Lib.hid (fun h2 => readZ_no hno h2)
    have HZY := Lib.hid (fun h2 => readZ_yes hno h2)
    rw [hP] at HOK HZY HC HSP
    have hpl : 1 ≤ P.length := by rw [← hP, cutB_len]; omega
    have hpm : P.length ≤ 1048577 := by
      rw [← hP, cutB_len]
      have : s.data.toList.count 44 ≤ s.data.toList.length := List.count_le_length
      have h2 : s.data.toList.length = s.size := by simp
      omega
    have hcst : (((P.length - 1 : Nat)) : Int) = (P.length : Int) - 1 := by omega
    rw [hcst] at HC
    clear hno hP hcst
    by_cases hbig : P.length ≤ 64
    · have hnb : ¬ (64 : Int) ≤ (P.length : Int) - 1 := by omega
      have hnw := Tryd.func16
      obtain ⟨n, hn⟩ : ∃ n, P.length = n := ⟨_, rfl⟩
      have hmk : ∀ w, (Instr.makeSlice 32 (.int .i64 (n : Int)) (.int .i64 (n : Int))).run Tryd.prog w = .ok (.slice (some ⟨w.heap.size, 0, none⟩) n n) (w.alloc (.cells (fillC (iv (P.map rd)) (.int .i64 0) 0 n) 2)) := by
        intro w
        obtain ⟨i, hi, hz0, hz1, hz2⟩ := info_parts (show (Tryd.prog.info? 2).map (fun i => (i.zero, i.size, i.bytes)) = some (some (.int .i64 0), 1, 8) by kernel_rfl)
        have := run_make (P := Tryd.prog) w 32 2 i (.int .i64 0) Tryd.underlying32 hi hz0 .i64 .i64 n n (by omega) (Int.le_refl _) (by rw [hz2]; omega) (by omega)
        rw [this, hz1, Int.toNat_natCast, fillC_made _ _ _ rfl]
      have hvl := Lib.hid (show (iv (P.map rd)).length = n by simp [iv, hn])
      have hMade := fun w => Lib.hid (Filled.made w 2 (iv (P.map rd)) (.int .i64 0) n)
      have hvg : Hid (∀ k (h : k < P.length), (iv (P.map rd)).getD k (.int .i64 0) = .int .i64 (rd P[k])) := by
        intro k hk
        simp [iv, List.getD, hk]
      have HN := Lib.hid hn
      have hn1 : n ≤ 64 := by omega
      have hn2 : 1 ≤ n := by omega
      have hcn : (P.length : Int) = n := by rw [hn]
      rw [hn] at HC HSP
      rw [hcn] at hnb
      have HOK2 : Hid (readOK s = allG P) := by show _ = _; rw [HOK.out, decide_eq_true hbig, Bool.true_and]
      clear hpl hpm hbig HOK hn hcn
      go_enter Tryd.func38, Tryd.ntmps38
      generalize hvs : iv (P.map rd) = vs at *
      go_wp2_with fail
      refine (HC.out _).mono ?_
      rintro e w0 ⟨rfl, rfl⟩
      go_wp2_with fail
      refine (HSP.out _ HM.out).mono ?_
      rintro e w1 ⟨rfl, hS, hsz, b1⟩
      have HS := Lib.hid hS
      have B1 := Lib.hid b1
      have HSZ := Lib.hid hsz
      clear hS b1 hsz
      go_wp2_with fail
      go_loopg [27] n (fun m i wr => ∃ k : Nat, i = .int .i64 k ∧ Hid (k + m = n) ∧ k ≤ n ∧ Hid (Filled wr w1.heap.size 2 vs (.int .i64 0) k n) ∧ Hid (Below w1.heap.size w1 wr) ∧ Hid (allG (P.take k) = true))
      case atStart => exact ⟨0, rfl, by show _ = _; omega, Nat.zero_le _, (hMade w1).out, (Below.refl _ _).alloc (Nat.le_refl _) _, rfl⟩
      case round =>
        obtain ⟨k, rfl, hk, hkl, hF, hd, hA⟩ := hrel
        by_cases hlt : k < n
        · have hkP : k < P.length := by rw [HN.out]; exact hlt
          have hc := (HS.out.keep hd.out).2 k hkP
          have hbs := HPS.out k hkP
          have hv := hvg.out k hkP
          have HV2 := Lib.hid hv
          have BW := Lib.hid (B1.out.trans (hd.out.mono B1.out.size))
          have HTr := Lib.hid (HT.out.keep BW.out)
          have HEr : Hid (Errs wr) := ⟨HE.out.1.keep BW.out, HE.out.2.keep BW.out⟩
          have HJ : Hid (k + 1 + (gk - 1) = n) := by have := hk.out; show _ = _; omega
          have HG : Hid (gk - 1 < gk) := by have := hk.out; show _ < _; omega
          have HRD := Lib.hid (implRead_any P[k] hbs wr HTr.out HEr.out)
          by_cases hgd : goodV P[k].data.toList
          · have HA2 := Lib.hid (allG_take P k hkP hA.out hgd)
            have HVV := Lib.hid (rdR_yes hgd)
            have hrk : rd P[k] = rval P[k].data.toList := by unfold rd rdN; rw [if_pos hgd]
            rw [hrk] at HV2
            clear hrk hgd hA hv
            generalize hz : rval P[k].data.toList = z at *
            clear hz
            generalize P[k] = b at *
            go_wp2_with fail
            refine HRD.out.mono ?_
            rintro e w2 ⟨rfl, b2⟩
            rw [HVV.out]
            have B2 := Lib.hid (hd.out.trans (b2.mono hd.out.size))
            have hcell := (hF.out.keep b2).cell hvl.out (by omega) hlt
            rw [if_neg (Nat.lt_irrefl k)] at hcell
            have hfr := (hF.out.keep b2).frozen k
            have hset := Lib.hid ((hF.out.keep b2).set hvl.out hlt)
            rw [HV2.out] at hset
            have HB2 : Hid (Below w1.heap.size w1 (w2.setCell ⟨w1.heap.size, k, none⟩ (.int .i64 z))) := Lib.hid (B2.out.setCell (Nat.le_refl _) _)
            clear b2 hF hd BW HTr HEr HRD HVV hc B2
            go_wp2_with fail
            go_roundg (gk - 1)
            case measure => exact HG.out
            case rel => exact ⟨k + 1, by go_num, HJ, by omega, hset.out, HB2.out, HA2.out⟩
          · have hno : readOK s = false := by rw [HOK2.out, allG_no P k hkP hgd]
            have HNO := Lib.hid hno
            have HZ := Lib.hid (HZN.out hno)
            have HVV := Lib.hid (rdR_no hgd)
            clear hgd hno hA hv HV2
            generalize P[k] = b at *
            go_wp2_with fail
            refine HRD.out.mono ?_
            rintro e w2 ⟨rfl, b2⟩
            rw [HVV.out]
            have HD2 := Lib.hid (BW.out.trans (b2.mono BW.out.size))
            clear b2 hF hd BW HTr HEr HRD HVV hc
            go_wp2_with fail
            go_ret2
            refine ⟨none, 0, ?_, ?_, ?_, HD2.out⟩
            · rw [HZ.out, HNO.out] <;> rfl
            · rw [HZ.out]; exact irow_nil _ _
            · rw [HZ.out]; exact .inl rfl
        · obtain rfl : k = n := by have := hk.out; omega
          have h1 := hA.out
          rw [← HN.out, List.take_length] at h1
          have hok : readOK s = true := by rw [HOK2.out, h1]
          have hZ := HZY.out hok
          have hzl : (readZ s).length = k := by rw [hZ]; simp [HN.out]
          have HR : Hid (IRow wr (some ⟨w1.heap.size, 0, none⟩) k (readZ s)) := by
            refine imade_row (t := 2) ?_ hzl (by omega) (by rw [hZ]; exact rds_bd P)
            show Filled wr w1.heap.size 2 (iv (readZ s)) (.int .i64 0) k k
            rw [hZ, hvs]; exact hF.out
          have HW : Hid (Own wr w.heap.size (some ⟨w1.heap.size, 0, none⟩) k 2) := .inr ⟨_, rfl, by have := HSZ.out; omega, Slots.of_filled hF.out hvl.out (Nat.le_refl _)⟩
          have HZL := Lib.hid hzl
          have HK := Lib.hid hok
          have BW := Lib.hid (B1.out.trans (hd.out.mono B1.out.size))
          clear hzl hok hZ h1 hF hd hA hlt
          go_wp2_with fail
          go_ret2
          refine ⟨some ⟨w1.heap.size, 0, none⟩, k, ?_, ?_, ?_, BW.out⟩
          · rw [HZL.out, HK.out] <;> rfl
          · rw [HZL.out]; exact HR.out
          · rw [HZL.out]; exact HW.out
    · have hno : readOK s = false := by rw [HOK.out, decide_eq_false hbig, Bool.false_and]
      have HNO := Lib.hid hno
      have HZ := Lib.hid (HZN.out hno)
      have hnb : (64 : Int) ≤ (P.length : Int) - 1 := by omega
      clear hno hbig
      go_enter Tryd.func38, Tryd.ntmps38
      go_wp2_with fail
      refine (HC.out _).mono ?_
      rintro e w0 ⟨rfl, rfl⟩
      go_wp2_with fail
      go_ret2
      refine ⟨none, 0, ?_, ?_, ?_, Below.refl _ _⟩
      · rw [HZ.out, HNO.out] <;> rfl
      · rw [HZ.out]; exact irow_nil _ _
      · rw [HZ.out]; exact .inl rfl
theorem implReadList_any (s : ByteArray) (hs : s.size ≤ 1048576) (w : World) (ht : Tab w) (he : Errs w) (hm : MaxAt w) :
    Calls Tryd.prog 22 #[.string s] w fun e w' => ∃ a c, e = .returned (.tuple #[.slice a (readZ s).length c, .bool (readOK s)]) ∧ IRow w' a (readZ s).length (readZ s) ∧ Own w' w.heap.size a (readZ s).length 2 ∧ Below w.heap.size w w' := by
  have HL := Lib.hid (readTextI_any s hs w ht he hm)
  generalize readZ s = Z at *
  generalize readOK s = q at *
  clear ht he hm
  go_enter Tryd.func22, Tryd.ntmps22
  go_wp2_with fail
  refine HL.out.mono ?_
  rintro e w1 ⟨a, c, rfl, hI, hO, b⟩
  have HI := Lib.hid hI
  have HO := Lib.hid hO
  have B := Lib.hid b
  clear b hI hO
  go_wp2_with fail
  go_ret2
  exact ⟨a, c, rfl, HI.out, HO.out, B.out⟩
def fnExactReadList_wants (w : World) : Prop := Tab w ∧ Errs w ∧ MaxAt w
theorem readList_wants_keep {w w' : World} (h : fnExactReadList_wants w) (hb : Below w.heap.size w w') : fnExactReadList_wants w' := ⟨h.1.keep hb, ⟨h.2.1.1.keep hb, h.2.1.2.keep hb⟩, h.2.2.keep hb⟩
set_option maxRecDepth 20000 in
set_option maxHeartbeats 1600000 in
theorem fnExactReadList_walk (s : ByteArray) (_ws : s.size ≤ maxLen) (w : World) (ht : fnExactReadList_wants w) :
    Calls Tryd.prog 7 #[.string s] w fun e w' => e = .returned (.bool true) ∧ Below w.heap.size w w' := by
  have HT := Lib.hid ht
  clear ht
  by_cases hs : s.size ≤ 1048576
  · have HSP := Lib.hid (fun w => specReadList_any s hs w)
    have HIM := Lib.hid (fun w (h : fnExactReadList_wants w) => implReadList_any s hs w h.1 h.2.1 h.2.2)
    have hl : (readZ s).length ≤ 64 := by
      unfold readZ
      split
      · simp
      · split
        · rename_i h1 h2
          rw [readOK_ne h1, Bool.and_eq_true, decide_eq_true_eq] at h2
          simpa using h2.1
        · simp
    generalize readZ s = Z at *
    generalize readOK s = q at *
    obtain ⟨n, hn⟩ : ∃ n, Z.length = n := ⟨_, rfl⟩
    rw [hn] at HSP HIM hl
    have hx : (q != q) = false := by simp
    have hn1 : n ≤ 1048576 := by omega
    clear hn
    go_enter Tryd.func7, Tryd.ntmps7
    go_wp2_with fail
    refine (HSP.out _).mono ?_
    rintro e w1 ⟨a0, c0, rfl, hI0, b1⟩
    have I0 := Lib.hid hI0
    have B1 := Lib.hid b1
    have T1 := Lib.hid (readList_wants_keep HT.out b1)
    clear hI0 b1
    go_wp2_with fail
    refine (HIM.out _ T1.out).mono ?_
    rintro e w2 ⟨a1, c1, rfl, hI1, hO1, b2⟩
    have I0b := Lib.hid (I0.out.keep b2)
    have I1 := Lib.hid hI1
    have O1 := Lib.hid hO1
    have B2 := Lib.hid b2
    clear hI1 hO1 b2
    go_wp2_with fail
    refine (eqI64_any a1 a0 n c1 c0 Z _ I1.out I0b.out hn1).mono ?_
    rintro e w3 ⟨rfl, b3⟩
    have O1c := Lib.hid (O1.out.keep b3)
    have B3 := Lib.hid (B2.out.trans (b3.mono B2.out.size))
    clear b3 I0b O1 I1 B2
    go_wp2_with fail
    refine (markI64_any w1.heap.size a1 n c1 _ O1c.out hn1).mono ?_
    rintro e w4 ⟨rfl, hM, b4⟩
    have M4 := Lib.hid hM
    have B4 := Lib.hid (B3.out.trans b4)
    clear b4 hM B3 O1c
    go_wp2_with fail
    refine (heldI64_any a1 n c1 _ M4.out hn1).mono ?_
    rintro e w5 ⟨rfl, b5⟩
    have M5 := Lib.hid (M4.out.keep b5)
    have B5 := Lib.hid (B4.out.trans (b5.mono B4.out.size))
    have T5 := Lib.hid (readList_wants_keep T1.out B5.out)
    clear b5 M4 B4
    go_wp2_with fail
    refine (HIM.out _ T5.out).mono ?_
    rintro e w6 ⟨a2, c2, rfl, hI2, hO2, b6⟩
    have I2 := Lib.hid hI2
    have M6 := Lib.hid (M5.out.keep b6)
    have B6 := Lib.hid (B5.out.trans (b6.mono B5.out.size))
    have I06 := Lib.hid (I0.out.keep B6.out)
    clear hI2 hO2 b6 M5 B5 T5
    go_wp2_with fail
    refine (eqI64_any a2 a0 n c2 c0 Z _ I2.out I06.out hn1).mono ?_
    rintro e w7 ⟨rfl, b7⟩
    have M7 := Lib.hid (M6.out.keep b7)
    have B7 := Lib.hid (B6.out.trans (b7.mono B6.out.size))
    clear b7 M6 B6 I2 I06
    go_wp2_with fail
    refine (heldI64_any a1 n c1 _ M7.out hn1).mono ?_
    rintro e w8 ⟨rfl, b8⟩
    have B8 := Lib.hid (B1.out.trans ((B7.out.trans (b8.mono B7.out.size)).mono B1.out.size))
    clear b8 M7 B7
    go_wp2_with fail
    go_ret
    exact ⟨rfl, B8.out⟩
  · clear HT
    go_enter Tryd.func7, Tryd.ntmps7
    go_wp2
    go_ret
    exact ⟨rfl, Below.refl _ _⟩
end Go.Proofs.YtfmicahibmpjmacDoor
