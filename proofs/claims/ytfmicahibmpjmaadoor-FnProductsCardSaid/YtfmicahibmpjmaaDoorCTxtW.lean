/-
  The text of complex numbers, and that it is read back. Conditions: arguments fit their kind.
-/
import Derived.Test.YtfmicahibmpjmaaDoorTxtW
import Derived.Test.YtfmicahibmpjmaaDoorCReadW
import Derived.Test.YtfmicahibmpjmaaDoorNumW
namespace Dec
open Go Flt
def wordCL (z : Nat × Nat) : List UInt8 := wordL z.1 ++ wordL z.2
def wordCB (z : Nat × Nat) : ByteArray := ⟨(wordCL z).toArray⟩
def txtCL (zs : List (Nat × Nat)) : List UInt8 := if zs = [] then [110, 111, 110, 101] else Lib.join (zs.map wordCL) [44]
def txtCB (zs : List (Nat × Nat)) : ByteArray := ⟨(txtCL zs).toArray⟩
theorem wordCL_len (z : Nat × Nat) : (wordCL z).length = 16 := by unfold wordCL wordL; rw [List.length_append, hexs_length, hexs_length]
theorem wordCB_size (z : Nat × Nat) : (wordCB z).size = 16 := by
  show (wordCL z).toArray.size = 16
  simp [wordCL_len]
theorem txtCL_len (zs : List (Nat × Nat)) (h : zs.length ≤ 256) : (Lib.join (zs.map wordCL) [44]).length ≤ 8192 := by
  cases zs with
  | nil => simp [Lib.join_nil]
  | cons y ys =>
    have : ∀ l : List (Nat × Nat), (Lib.joinTail [44] (l.map wordCL)).length = 17 * l.length := by
      intro l
      induction l with
      | nil => rfl
      | cons x l ih =>
        have : Lib.joinTail [44] ((x :: l).map wordCL) = 44 :: wordCL x ++ Lib.joinTail [44] (l.map wordCL) := by simp [Lib.joinTail]
        rw [this]
        simp only [List.length_append, List.length_cons, ih, wordCL_len]
        omega
    rw [List.map_cons, Lib.join_cons, List.length_append, this, wordCL_len]
    simp at h
    omega
theorem txtCB_size (zs : List (Nat × Nat)) (h : zs.length ≤ 256) : (txtCB zs).size ≤ 8192 := by
  show (txtCL zs).toArray.size ≤ 8192
  unfold txtCL
  split
  · simp
  · simpa using txtCL_len zs h
theorem extract_list (s : ByteArray) (f i : Nat) : (s.extract f i).data.toList = (s.data.toList.take i).drop f := by
  rw [Lib.extract_data, List.drop_take]
theorem wordCB_eq (z : Nat × Nat) : wordB z.1 ++ wordB z.2 = wordCB z := by
  apply ByteArray.ext
  simp [wordB, wordCB, wordCL]
theorem cnum_word (z : Nat × Nat) (h : z.1 < 4294967296 ∧ z.2 < 4294967296) : cnum (wordCB z) = some (bitsN z.1, bitsN z.2) := by
  have hd : (wordCB z).data.toList = wordL z.1 ++ wordL z.2 := rfl
  have l1 : (wordL z.1).length = 8 := hexs_length _
  have l2 : (wordL z.2).length = 8 := hexs_length _
  have e1 : ((wordCB z).extract 0 8).data.toList = wordL z.1 := by
    rw [extract_list, hd, List.take_left' l1]; rfl
  have e2 : ((wordCB z).extract 8 (wordCB z).size).data.toList = wordL z.2 := by
    rw [extract_list, wordCB_size, hd, List.take_of_length_le (by rw [List.length_append, l1, l2]; omega), List.drop_left' l1]
  exact cnum_at (wordCB_size z) (by rw [e1]; exact rnum_word _ h.1) (by rw [e2]; exact rnum_word _ h.2)
theorem cut_txtC (zs : List (Nat × Nat)) (h : zs ≠ []) : cutB 44 (txtCB zs) = zs.map wordCB := by
  have e : (txtCB zs).data.toList = Lib.join (zs.map wordCL) [44] := by
    unfold txtCB txtCL
    rw [if_neg h]
  unfold cutB
  rw [e, cutL_join 44 _ (by simpa using h) (by
    intro x hx
    obtain ⟨z, _, rfl⟩ := List.mem_map.1 hx
    unfold wordCL
    intro hm
    rcases List.mem_append.1 hm with hm | hm
    · exact hexs_free _ hm
    · exact hexs_free _ hm), List.map_map]
  rfl
theorem txtC_ne (zs : List (Nat × Nat)) (h : zs ≠ []) : txtCB zs ≠ noneB := by
  intro e
  have h1 := cut_txtC zs h
  rw [e] at h1
  have h2 : cutB 44 noneB = [noneB] := by
    unfold cutB
    rw [cutL_free (by decide)]
    rfl
  rw [h2] at h1
  cases zs with
  | nil => exact h rfl
  | cons z r =>
    simp at h1
    have := congrArg ByteArray.size h1.1
    rw [wordCB_size] at this
    have h4 : noneB.size = 4 := by decide
    omega
def bitsP (z : Nat × Nat) : Nat × Nat := (bitsN z.1, bitsN z.2)
theorem read_txtC (zs : List (Nat × Nat)) (hl : zs.length ≤ 256) (hz : ∀ z ∈ zs, z.1 < 4294967296 ∧ z.2 < 4294967296) : crOK (txtCB zs) = true ∧ crZ (txtCB zs) = zs.map bitsP := by
  by_cases h : zs = []
  · subst h
    exact ⟨crOK_none, crZ_none⟩
  · have hok : crOK (txtCB zs) = true := by
      rw [crOK_ne (txtC_ne zs h), cut_txtC zs h, List.length_map, decide_eq_true hl, Bool.true_and]
      unfold allC
      rw [List.all_eq_true]
      intro b hb
      obtain ⟨z, hzz, rfl⟩ := List.mem_map.1 hb
      rw [cnum_word z (hz z hzz)]; rfl
    refine ⟨hok, ?_⟩
    rw [crZ_yes (txtC_ne zs h) hok, cut_txtC zs h, List.map_map]
    apply List.map_congr_left
    intro z hzz
    rw [Function.comp_apply]
    unfold cn bitsP
    rw [cnum_word z (hz z hzz), Option.getD_some]
theorem crow_lt {w : World} {a : Option Addr} {len k : Nat} {zs : List (Nat × Nat)} (h : CRow w a len zs) (hk : k < len) : (zs.getD k (0, 0)).1 < 4294967296 ∧ (zs.getD k (0, 0)).2 < 4294967296 := h.2.2.1 _ (by
  have hkz : k < zs.length := by rw [h.1]; exact hk
  rw [show zs.getD k (0, 0) = zs[k] from by simp [List.getD, hkz]]
  exact List.getElem_mem hkz)
end Dec
namespace Go.Proofs.YtfmicahibmpjmaaDoor
open Go.RowKit Dec Flt
theorem cxWord_any (z : Nat × Nat) (h : z.1 < 4294967296 ∧ z.2 < 4294967296) (w : World) : Calls Tryd.prog 64 #[.complex .f32 z.1 z.2] w fun e w' => e = .returned (.string (wordCB z)) ∧ Below w.heap.size w w' := by
  have H1 := Lib.hid (fun w => numWord_word z.1 h.1 w)
  have H2 := Lib.hid (fun w => numWord_word z.2 h.2 w)
  have HE := Lib.hid (wordCB_eq z)
  have s1 := wordB_size z.1
  have s2 := wordB_size z.2
  clear h
  generalize wordB z.1 = p at *
  generalize wordB z.2 = q at *
  generalize wordCB z = pq at *
  go_enter Tryd.func64, Tryd.ntmps64
  go_wp2_with fail
  refine (H1.out _).mono ?_
  rintro e w1 ⟨rfl, b1⟩
  have B1 := Lib.hid b1
  clear b1
  go_wp2_with fail
  refine (H2.out _).mono ?_
  rintro e w2 ⟨rfl, b2⟩
  have B2 := Lib.hid (B1.out.trans (b2.mono B1.out.size))
  clear b2
  go_wp2_with fail
  go_ret
  exact ⟨by rw [← HE.out] <;> rfl, B2.out⟩
set_option maxRecDepth 20000 in
set_option maxHeartbeats 800000 in
theorem textOfC_any (a : Option Addr) (len cap : Nat) (zs : List (Nat × Nat)) (w : World) (h : CRow w a len zs) (hn : len ≤ 256) :
    Calls Tryd.prog 63 #[.slice a len cap, .int .i64 256, .func (.func 64) #[] #[]] w fun e w' => e = .returned (.tuple #[.string (txtCB zs), .bool true]) ∧ Below w.heap.size w w' := by
  by_cases h0 : len = 0
  · subst h0
    have hz : zs = [] := List.eq_nil_of_length_eq_zero h.1
    subst hz
    clear h
    go_enter Tryd.func63, Tryd.ntmps63
    go_wp2
    go_ret2
    exact ⟨rfl, Below.refl _ _⟩
  · have H := Lib.hid h
    obtain ⟨bb, oo, rfl, _, _⟩ := h.2.2.2 0 (by omega)
    have hnw := Tryd.func64
    have hmk : ∀ w, (Instr.makeSlice 94 (.int .i64 (len : Int)) (.int .i64 (len : Int))).run Tryd.prog w = .ok (.slice (some ⟨w.heap.size, 0, none⟩) len len) (w.alloc (.cells (fillC (zs.map fun z => .string (wordCB z)) (.string ByteArray.empty) 0 len) 9)) := by
      intro w
      obtain ⟨i, hi, hz0, hz1, hz2⟩ := info_parts (show (Tryd.prog.info? 9).map (fun i => (i.zero, i.size, i.bytes)) = some (some (.string ByteArray.empty), 1, 16) by kernel_rfl)
      have := run_make (P := Tryd.prog) w 94 9 i (.string ByteArray.empty) Tryd.underlying94 hi hz0 .i64 .i64 len len (by omega) (Int.le_refl _) (by rw [hz2]; omega) (by omega)
      rw [this, hz1, Int.toNat_natCast, fillC_made _ _ _ rfl]
    have hvl := Lib.hid (show (zs.map fun z => Value.string (wordCB z)).length = len by rw [List.length_map]; exact h.1)
    have hMade := fun w => Lib.hid (Filled.made w 9 (zs.map fun z => .string (wordCB z)) (.string ByteArray.empty) len)
    have hvg : ∀ k, k < len → Hid ((zs.map fun z => Value.string (wordCB z)).getD k (.string ByteArray.empty) = .string (wordCB (zs.getD k (0, 0)))) := by
      intro k hk
      have hk' : k < zs.length := by rw [h.1]; exact hk
      show _ = _
      simp [List.getD, hk']
    have hq0 : ((len : Int) == 0) = false := by simpa using (by omega : ¬ (len : Int) = 0)
    clear h
    go_enter Tryd.func63, Tryd.ntmps63
    generalize hvs : (zs.map fun z => Value.string (wordCB z)) = vs at *
    go_wp2_with fail
    go_loopg [23] len (fun n i wr => ∃ k : Nat, i = .int .i64 k ∧ Hid (k + n = len) ∧ k ≤ len ∧ Filled wr w.heap.size 9 vs (.string ByteArray.empty) k len ∧ Below w.heap.size w wr)
    case atStart => exact ⟨0, rfl, by show _ = _; omega, Nat.zero_le _, (hMade w).out, (Below.refl _ _).alloc (Nat.le_refl _) _⟩
    case round =>
      obtain ⟨k, rfl, hk, hkl, hF, hd⟩ := hrel
      have B := Lib.hid hd
      have F := Lib.hid hF
      clear hd hF
      by_cases hlt : k < len
      · obtain ⟨b', off', hbb, _, hc'⟩ := (H.out.keep B.out).2.2.2 k hlt
        cases hbb
        have hzl := crow_lt H.out hlt
        have hv := hvg k hlt
        have HJ : Hid (k + 1 + (gk - 1) = len) := by have := hk.out; show _ = _; omega
        have HG : Hid (gk - 1 < gk) := by have := hk.out; show _ < _; omega
        generalize zs.getD k (0, 0) = z at *
        have HW := Lib.hid (cxWord_any z hzl)
        clear hzl
        go_wp2_with fail
        refine (HW.out _).mono ?_
        rintro e w2 ⟨rfl, b2⟩
        have B2 := Lib.hid (B.out.trans (b2.mono B.out.size))
        have hcell := (F.out.keep b2).cell hvl.out (by omega) hlt
        rw [if_neg (Nat.lt_irrefl k)] at hcell
        have hfr := (F.out.keep b2).frozen k
        have hset := Lib.hid ((F.out.keep b2).set hvl.out hlt)
        rw [hv.out] at hset
        clear b2
        go_wp2_with fail
        go_roundg (gk - 1)
        case measure => exact HG.out
        case rel => exact ⟨k + 1, by go_num, HJ, by omega, hset.out, B2.out.setCell (Nat.le_refl _) _⟩
      · obtain rfl : k = len := by have := hk.out; omega
        have hzne : zs ≠ [] := by
          intro he
          have := H.out.1
          rw [he] at this
          simp at this
          omega
        have hdat : (zs.map wordCB).map (·.data.toList) = zs.map wordCL := by simp [wordCB]
        have J := Tryd.strings_Join w.heap.size 0 k (zs.map wordCB) ⟨#[44]⟩ wr (by
          intro j x hj
          have hjl : j < zs.length := by
            have := (List.getElem?_eq_some_iff.1 hj).1
            simpa using this
          have := F.out.cell hvl.out (Nat.le_refl _) (show j < k by rw [← H.out.1]; exact hjl)
          rw [if_pos (by rw [← H.out.1]; exact hjl), (hvg j (by rw [← H.out.1]; exact hjl)).out] at this
          rw [Nat.zero_add, this]
          simp [List.getElem?_eq_getElem hjl] at hj
          rw [← hj]
          simp [List.getD, hjl]) F.out.lt (by rw [List.length_map, H.out.1]; omega) (by rw [List.length_map, H.out.1]; exact Nat.le_refl _) (by
          rw [hdat]
          have := txtCL_len zs (by rw [H.out.1]; exact hn)
          show (Lib.join (zs.map wordCL) [44]).length ≤ _
          omega)
        rw [List.length_map, H.out.1, hdat] at J
        have hres : Hid ((⟨(Lib.join (zs.map wordCL) (⟨#[44]⟩ : ByteArray).data.toList).toArray⟩ : ByteArray) = txtCB zs) := by
          show _ = _
          unfold txtCB txtCL
          rw [if_neg hzne]
        have HJ := Lib.hid J
        clear hlt hdat hzne J
        go_wp2_with fail
        refine HJ.out.mono ?_
        rintro e w3 ⟨rfl, b3⟩
        rw [hres.out]
        have B3 := Lib.hid (B.out.trans (b3.mono B.out.size))
        clear b3
        go_wp2_with fail
        go_ret2
        exact ⟨rfl, B3.out⟩
theorem textC_any (a : Option Addr) (len cap : Nat) (zs : List (Nat × Nat)) (w : World) (h : CRow w a len zs) (hn : len ≤ 256) :
    Calls Tryd.prog 30 #[.slice a len cap] w fun e w' => e = .returned (.tuple #[.string (txtCB zs), .bool true]) ∧ Below w.heap.size w w' := by
  have H := Lib.hid h
  clear h
  go_enter Tryd.func30, Tryd.ntmps30
  go_wp2_with fail
  refine (textOfC_any a len cap zs w H.out hn).mono ?_
  rintro e w1 ⟨rfl, b1⟩
  have B1 := Lib.hid b1
  clear b1
  go_wp2_with fail
  go_ret2
  exact ⟨rfl, B1.out⟩
end Go.Proofs.YtfmicahibmpjmaaDoor
