/-
  Reading the text of float32 numbers: contracts of the program's function and of its model, and the walk of the exact law of ReadNumbers. Conditions: arguments fit their kind; the library's variable holds a number of its kind.
-/
import Derived.Test.YtfmicahibmpjmaaDoorHexR
import Derived.Test.YtfmicahibmpjmaaDoorCutW
import Derived.Test.YtfmicahibmpjmaaDoorMarkFW
import Derived.Test.YtfmicahibmpjmaaDoorFOwnW
import Derived.Test.YtfmicahibmpjmaaDoorShelf
import Derived.Maps.AppendAt
namespace Dec
open Go Flt
def rn (b : ByteArray) : Nat := (rnum b.data.toList).getD 0
def allN (P : List ByteArray) : Bool := P.all fun b => (rnum b.data.toList).isSome
def nrOK (s : ByteArray) : Bool := decide (s = noneB) || (decide ((cutB 44 s).length ≤ 256) && allN (cutB 44 s))
def nrZ (s : ByteArray) : List Nat := if s = noneB then [] else if nrOK s = true then (cutB 44 s).map rn else []
theorem nrZ_none : nrZ noneB = [] := by unfold nrZ; rw [if_pos rfl]
theorem nrOK_none : nrOK noneB = true := by unfold nrOK; rw [decide_eq_true rfl]; rfl
theorem nrOK_ne {s : ByteArray} (h : s ≠ noneB) : nrOK s = (decide ((cutB 44 s).length ≤ 256) && allN (cutB 44 s)) := by unfold nrOK; rw [decide_eq_false h]; rfl
theorem nrZ_no {s : ByteArray} (h : s ≠ noneB) (h2 : nrOK s = false) : nrZ s = [] := by unfold nrZ; rw [if_neg h, h2]; rfl
theorem nrZ_yes {s : ByteArray} (h : s ≠ noneB) (h2 : nrOK s = true) : nrZ s = (cutB 44 s).map rn := by unfold nrZ; rw [if_neg h, if_pos h2]
theorem allN_take (P : List ByteArray) (k : Nat) (h : k < P.length) (h1 : allN (P.take k) = true) {n : Nat} (h2 : rnum P[k].data.toList = some n) : allN (P.take (k + 1)) = true := by
  rw [List.take_succ_eq_append_getElem h]
  unfold allN at *
  rw [List.all_append, h1]
  simp [h2]
theorem allN_no (P : List ByteArray) (k : Nat) (h : k < P.length) (h2 : rnum P[k].data.toList = none) : allN P = false := by
  unfold allN
  rw [List.all_eq_false]
  exact ⟨P[k], List.getElem_mem h, by simp [h2]⟩
theorem rn_bd (b : ByteArray) : rn b < 4294967296 := by
  unfold rn
  cases h : rnum b.data.toList with
  | none => decide
  | some n => exact rnum_lt h
theorem rns_bd (P : List ByteArray) : ∀ z ∈ P.map rn, z < 4294967296 := by
  intro z hz
  obtain ⟨b, _, rfl⟩ := List.mem_map.1 hz
  exact rn_bd b
theorem rns_take (P : List ByteArray) (k : Nat) (h : k < P.length) : fv ((P.map rn).take (k + 1)) = fv ((P.map rn).take k) ++ [.float .f32 (rn P[k])] := by
  rw [List.take_succ_eq_append_getElem (by simpa using h)]
  simp [fv]
end Dec
namespace Go.Proofs.YtfmicahibmpjmaaDoor
open Go.RowKit Dec Flt
set_option maxRecDepth 20000 in
set_option maxHeartbeats 1600000 in
theorem readTextF_any (s : ByteArray) (hs : s.size ≤ 1048576) (w : World) (hm : MaxAt w) :
    Calls Tryd.prog 49 #[.string s, .int .i64 256, .func (.func 50) #[] #[]] w fun e w' => ∃ a c, e = .returned (.tuple #[.slice a (nrZ s).length c, .bool (nrOK s)]) ∧ FRow w' a (nrZ s).length (nrZ s) ∧ Own w' w.heap.size a (nrZ s).length 24 ∧ Below w.heap.size w w' := by
  by_cases hno : s = noneB
  · subst hno
    rw [nrZ_none, nrOK_none]
    have hx : (noneB.toList == noneB.toList) = true := by simp
    clear hs hm
    go_enter Tryd.func49, Tryd.ntmps49
    go_wp2_with fail
    go_ret2
    exact ⟨_, _, rfl, frow_nil _ _, .inl rfl, Below.refl _ _⟩
  · have hne := none_ne hno
    have HC := Lib.hid (fun w => cntComma s w)
    have HSP := Lib.hid (fun w => splitComma s hs w)
    have HM := Lib.hid hm
    clear hm
    obtain ⟨P, hP⟩ : ∃ P, cutB 44 s = P := ⟨_, rfl⟩
    have HPS : Hid (∀ j (h : j < P.length), P[j].size ≤ 1048576) := by
      intro j h; subst hP; exact Nat.le_trans (cutB_size 44 s j h) hs
    have HOK := Lib.hid (nrOK_ne hno)
    have HZN := Lib.hid (fun h2 => nrZ_no hno h2)
    have HZY := Lib.hid (fun h2 => nrZ_yes hno h2)
    rw [hP] at HOK HZY HC HSP
    have hpl : 1 ≤ P.length := by rw [← hP, cutB_len]; omega
    have hpm : P.length ≤ 1048577 := by
      rw [← hP, cutB_len]
      have : s.data.toList.count 44 ≤ s.data.toList.length := List.count_le_length
      have h2 : s.data.toList.length = s.size := by simp
      omega
    have hcst : (((P.length - 1 : Nat)) : Int) = (P.length : Int) - 1 := by omega
    rw [hcst] at HC
    clear hno hP hcst
    by_cases hbig : P.length ≤ 256
    · have hnb : ¬ (256 : Int) ≤ (P.length : Int) - 1 := by omega
      have hnw := Tryd.func50
      obtain ⟨n, hn⟩ : ∃ n, P.length = n := ⟨_, rfl⟩
      have hmk : ∀ w, (Instr.makeSlice 30 (.int .i64 (n : Int)) (.int .i64 (n : Int))).run Tryd.prog w = .ok (.slice (some ⟨w.heap.size, 0, none⟩) n n) (w.alloc (.cells (fillC (fv (P.map rn)) (.float .f32 0) 0 n) 24)) := by
        intro w
        obtain ⟨i, hi, hz0, hz1, hz2⟩ := info_parts (show (Tryd.prog.info? 24).map (fun i => (i.zero, i.size, i.bytes)) = some (some (.float .f32 0), 1, 4) by kernel_rfl)
        have := run_make (P := Tryd.prog) w 30 24 i (.float .f32 0) Tryd.underlying30 hi hz0 .i64 .i64 n n (by omega) (Int.le_refl _) (by rw [hz2]; omega) (by omega)
        rw [this, hz1, Int.toNat_natCast, fillC_made _ _ _ rfl]
      have hvl := Lib.hid (show (fv (P.map rn)).length = n by simp [fv, hn])
      have hMade := fun w => Lib.hid (Filled.made w 24 (fv (P.map rn)) (.float .f32 0) n)
      have hvg : Hid (∀ k (h : k < P.length), (fv (P.map rn)).getD k (.float .f32 0) = .float .f32 (rn P[k])) := by
        intro k hk
        simp [fv, List.getD, hk]
      have HN := Lib.hid hn
      have hn1 : n ≤ 256 := by omega
      have hn2 : 1 ≤ n := by omega
      have hcn : (P.length : Int) = n := by rw [hn]
      rw [hn] at HC HSP
      rw [hcn] at hnb
      have HOK2 : Hid (nrOK s = allN P) := by show _ = _; rw [HOK.out, decide_eq_true hbig, Bool.true_and]
      clear hpl hpm hbig HOK hn hcn
      go_enter Tryd.func49, Tryd.ntmps49
      generalize hvs : fv (P.map rn) = vs at *
      go_wp2_with fail
      refine (HC.out _).mono ?_
      rintro e w0 ⟨rfl, rfl⟩
      go_wp2_with fail
      refine (HSP.out _ HM.out).mono ?_
      rintro e w1 ⟨rfl, hS, hsz, b1⟩
      have HS := Lib.hid hS
      have B1 := Lib.hid b1
      have HSZ := Lib.hid hsz
      clear hS b1 hsz
      go_wp2_with fail
      go_loopg [27] n (fun m i wr => ∃ k : Nat, i = .int .i64 k ∧ Hid (k + m = n) ∧ k ≤ n ∧ Hid (Filled wr w1.heap.size 24 vs (.float .f32 0) k n) ∧ Hid (Below w1.heap.size w1 wr) ∧ Hid (allN (P.take k) = true))
      case atStart => exact ⟨0, rfl, by show _ = _; omega, Nat.zero_le _, (hMade w1).out, (Below.refl _ _).alloc (Nat.le_refl _) _, rfl⟩
      case round =>
        obtain ⟨k, rfl, hk, hkl, hF, hd, hA⟩ := hrel
        by_cases hlt : k < n
        · have hkP : k < P.length := by rw [HN.out]; exact hlt
          have hc := (HS.out.keep hd.out).2 k hkP
          have hbs := HPS.out k hkP
          have hv := hvg.out k hkP
          have HV2 := Lib.hid hv
          have BW := Lib.hid (B1.out.trans (hd.out.mono B1.out.size))
          have HJ : Hid (k + 1 + (gk - 1) = n) := by have := hk.out; show _ = _; omega
          have HG : Hid (gk - 1 < gk) := by have := hk.out; show _ < _; omega
          have HRD := Lib.hid (readNum_any P[k] hbs wr)
          cases hgd : rnum P[k].data.toList with
          | some z =>
            have HA2 := Lib.hid (allN_take P k hkP hA.out hgd)
            have HVV := Lib.hid (rnR_yes hgd)
            have hrk : rn P[k] = z := by unfold rn; rw [hgd]; rfl
            rw [hrk] at HV2
            clear hrk hgd hA hv
            generalize P[k] = b at *
            go_wp2_with fail
            refine HRD.out.mono ?_
            rintro e w2 ⟨rfl, b2⟩
            rw [HVV.out]
            have B2 := Lib.hid (hd.out.trans (b2.mono hd.out.size))
            have hcell := (hF.out.keep b2).cell hvl.out (by omega) hlt
            rw [if_neg (Nat.lt_irrefl k)] at hcell
            have hfr := (hF.out.keep b2).frozen k
            have hset := Lib.hid ((hF.out.keep b2).set hvl.out hlt)
            rw [HV2.out] at hset
            have HB2 : Hid (Below w1.heap.size w1 (w2.setCell ⟨w1.heap.size, k, none⟩ (.float .f32 z))) := Lib.hid (B2.out.setCell (Nat.le_refl _) _)
            clear b2 hF hd BW HRD HVV hc B2
            go_wp2_with fail
            go_roundg (gk - 1)
            case measure => exact HG.out
            case rel => exact ⟨k + 1, by go_num, HJ, by omega, hset.out, HB2.out, HA2.out⟩
          | none =>
            have hno : nrOK s = false := by rw [HOK2.out, allN_no P k hkP hgd]
            have HNO := Lib.hid hno
            have HZ := Lib.hid (HZN.out hno)
            have HVV := Lib.hid (rnR_no hgd)
            clear hgd hno hA hv HV2
            generalize P[k] = b at *
            go_wp2_with fail
            refine HRD.out.mono ?_
            rintro e w2 ⟨rfl, b2⟩
            rw [HVV.out]
            have HD2 := Lib.hid (BW.out.trans (b2.mono BW.out.size))
            clear b2 hF hd BW HRD HVV hc
            go_wp2_with fail
            go_ret2
            refine ⟨none, 0, ?_, ?_, ?_, HD2.out⟩
            · rw [HZ.out, HNO.out] <;> rfl
            · rw [HZ.out]; exact frow_nil _ _
            · rw [HZ.out]; exact .inl rfl
        · obtain rfl : k = n := by have := hk.out; omega
          have h1 := hA.out
          rw [← HN.out, List.take_length] at h1
          have hok : nrOK s = true := by rw [HOK2.out, h1]
          have hZ := HZY.out hok
          have hzl : (nrZ s).length = k := by rw [hZ]; simp [HN.out]
          have HR : Hid (FRow wr (some ⟨w1.heap.size, 0, none⟩) k (nrZ s)) := by
            refine fmade_row (t := 24) ?_ hzl (by omega) (by rw [hZ]; exact rns_bd P)
            show Filled wr w1.heap.size 24 (fv (nrZ s)) (.float .f32 0) k k
            rw [hZ, hvs]; exact hF.out
          have HW : Hid (Own wr w.heap.size (some ⟨w1.heap.size, 0, none⟩) k 24) := .inr ⟨_, rfl, by have := HSZ.out; omega, Slots.of_filled hF.out hvl.out (Nat.le_refl _)⟩
          have HZL := Lib.hid hzl
          have HK := Lib.hid hok
          have BW := Lib.hid (B1.out.trans (hd.out.mono B1.out.size))
          clear hzl hok hZ h1 hF hd hA hlt
          go_wp2_with fail
          go_ret2
          refine ⟨some ⟨w1.heap.size, 0, none⟩, k, ?_, ?_, ?_, BW.out⟩
          · rw [HZL.out, HK.out] <;> rfl
          · rw [HZL.out]; exact HR.out
          · rw [HZL.out]; exact HW.out
    · have hno : nrOK s = false := by rw [HOK.out, decide_eq_false hbig, Bool.false_and]
      have HNO := Lib.hid hno
      have HZ := Lib.hid (HZN.out hno)
      have hnb : (256 : Int) ≤ (P.length : Int) - 1 := by omega
      clear hno hbig
      go_enter Tryd.func49, Tryd.ntmps49
      go_wp2_with fail
      refine (HC.out _).mono ?_
      rintro e w0 ⟨rfl, rfl⟩
      go_wp2_with fail
      go_ret2
      refine ⟨none, 0, ?_, ?_, ?_, Below.refl _ _⟩
      · rw [HZ.out, HNO.out] <;> rfl
      · rw [HZ.out]; exact frow_nil _ _
      · rw [HZ.out]; exact .inl rfl
theorem implReadNumbers_any (s : ByteArray) (hs : s.size ≤ 1048576) (w : World) (hm : MaxAt w) :
    Calls Tryd.prog 14 #[.string s] w fun e w' => ∃ a c, e = .returned (.tuple #[.slice a (nrZ s).length c, .bool (nrOK s)]) ∧ FRow w' a (nrZ s).length (nrZ s) ∧ Own w' w.heap.size a (nrZ s).length 24 ∧ Below w.heap.size w w' := by
  have HL := Lib.hid (readTextF_any s hs w hm)
  generalize nrZ s = Z at *
  generalize nrOK s = q at *
  clear hm
  go_enter Tryd.func14, Tryd.ntmps14
  go_wp2_with fail
  refine HL.out.mono ?_
  rintro e w1 ⟨a, c, rfl, hI, hO, b⟩
  have HI := Lib.hid hI
  have HO := Lib.hid hO
  have B := Lib.hid b
  clear b hI hO
  go_wp2_with fail
  go_ret2
  exact ⟨a, c, rfl, HI.out, HO.out, B.out⟩
end Go.Proofs.YtfmicahibmpjmaaDoor
