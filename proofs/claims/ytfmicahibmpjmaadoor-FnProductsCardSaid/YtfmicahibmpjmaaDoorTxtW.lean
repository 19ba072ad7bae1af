/-
  The text of float32 numbers: contracts of the program's function and of its model, and the walk of the exact law of NumbersText. Conditions: arguments fit their kind.
-/
import Derived.Test.YtfmicahibmpjmaaDoorHexW
import Derived.Test.YtfmicahibmpjmaaDoorFillW
import Derived.Test.YtfmicahibmpjmaaDoorShelf
namespace Flt
open Go
def bitsN (z : Nat) : Nat := if nan .f32 z then 2143289344 else z
theorem bitsC_eq (z : Nat) : bitsC z = bitsN z := by unfold bitsC bitsN; split <;> rfl
theorem bitsN_lt {z : Nat} (h : z < 4294967296) : bitsN z < 4294967296 := by unfold bitsN; split <;> omega
def wordL (z : Nat) : List UInt8 := hexs (bitsN z)
def wordB (z : Nat) : ByteArray := ⟨(wordL z).toArray⟩
def txtL (zs : List Nat) : List UInt8 := if zs = [] then [110, 111, 110, 101] else Lib.join (zs.map wordL) [44]
def txtB (zs : List Nat) : ByteArray := ⟨(txtL zs).toArray⟩
theorem joinTail_snoc (sep : List UInt8) (r : List (List UInt8)) (x : List UInt8) : Lib.joinTail sep (r ++ [x]) = Lib.joinTail sep r ++ (sep ++ x) := by unfold Lib.joinTail; simp
theorem txtB_one (z : Nat) : txtB [z] = wordB z := by unfold txtB txtL wordB; rw [if_neg (by simp)]; simp [Lib.join_one]
theorem txtB_snoc (zs : List Nat) (z : Nat) (h : zs ≠ []) : txtB (zs ++ [z]) = txtB zs ++ ((⟨#[44]⟩ : ByteArray) ++ wordB z) := by
  cases zs with
  | nil => exact absurd rfl h
  | cons y ys =>
    apply ByteArray.ext
    simp [txtB, txtL, wordB, Lib.join_cons, joinTail_snoc]
theorem txtL_len (zs : List Nat) (h : zs.length ≤ 256) : (Lib.join (zs.map wordL) [44]).length ≤ 4096 := by
  cases zs with
  | nil => simp [Lib.join_nil]
  | cons y ys =>
    have : ∀ l : List Nat, (Lib.joinTail [44] (l.map wordL)).length = 9 * l.length := by
      intro l
      induction l with
      | nil => rfl
      | cons x l ih =>
        have : Lib.joinTail [44] ((x :: l).map wordL) = 44 :: wordL x ++ Lib.joinTail [44] (l.map wordL) := by simp [Lib.joinTail]
        rw [this]
        simp only [List.length_append, List.length_cons, ih, wordL, hexs_length]
        omega
    rw [List.map_cons, Lib.join_cons, List.length_append, this, wordL, hexs_length]
    simp at h
    omega
theorem wordB_size (z : Nat) : (wordB z).size = 8 := by
  show (wordL z).toArray.size = 8
  simp [wordL, hexs_length]
theorem txtB_size (zs : List Nat) (h : zs.length ≤ 256) : (txtB zs).size ≤ 4096 := by
  show (txtL zs).toArray.size ≤ 4096
  unfold txtL
  split
  · simp
  · simpa using txtL_len zs h
end Flt
namespace Go.Proofs.YtfmicahibmpjmaaDoor
open Go.RowKit Flt
theorem numWord_word (z : Nat) (hz : z < 4294967296) (w : World) : Calls Tryd.prog 48 #[.float .f32 z] w fun e w' => e = .returned (.string (wordB z)) ∧ Below w.heap.size w w' := numWord_any z _ w hz (bitsC_eq z) (bitsN_lt hz)
theorem frow_lt {w : World} {a : Option Addr} {len k : Nat} {zs : List Nat} (h : FRow w a len zs) (hk : k < len) : zs.getD k 0 < 4294967296 := h.2.2.1 _ (by
  have hkz : k < zs.length := by rw [h.1]; exact hk
  rw [show zs.getD k 0 = zs[k] from by simp [List.getD, hkz]]
  exact List.getElem_mem hkz)
theorem take_nx (zs : List Nat) (k : Nat) (h : k < zs.length) : zs.take (k + 1) = zs.take k ++ [zs.getD k 0] := by
  rw [List.take_succ_eq_append_getElem h]; simp [List.getD, h]
set_option maxRecDepth 20000 in
set_option maxHeartbeats 800000 in
theorem textOf_any (a : Option Addr) (len cap : Nat) (zs : List Nat) (w : World) (h : FRow w a len zs) (hn : len ≤ 256) :
    Calls Tryd.prog 47 #[.slice a len cap, .int .i64 256, .func (.func 48) #[] #[]] w fun e w' => e = .returned (.tuple #[.string (txtB zs), .bool true]) ∧ Below w.heap.size w w' := by
  by_cases h0 : len = 0
  · subst h0
    have hz : zs = [] := List.eq_nil_of_length_eq_zero h.1
    subst hz
    clear h
    go_enter Tryd.func47, Tryd.ntmps47
    go_wp2
    go_ret2
    exact ⟨rfl, Below.refl _ _⟩
  · have H := Lib.hid h
    obtain ⟨bb, oo, rfl, _, _⟩ := h.2.2.2 0 (by omega)
    have hnw := Tryd.func48
    have hmk : ∀ w, (Instr.makeSlice 94 (.int .i64 (len : Int)) (.int .i64 (len : Int))).run Tryd.prog w = .ok (.slice (some ⟨w.heap.size, 0, none⟩) len len) (w.alloc (.cells (fillC (zs.map fun z => .string (wordB z)) (.string ByteArray.empty) 0 len) 9)) := by
      intro w
      obtain ⟨i, hi, hz0, hz1, hz2⟩ := info_parts (show (Tryd.prog.info? 9).map (fun i => (i.zero, i.size, i.bytes)) = some (some (.string ByteArray.empty), 1, 16) by kernel_rfl)
      have := run_make (P := Tryd.prog) w 94 9 i (.string ByteArray.empty) Tryd.underlying94 hi hz0 .i64 .i64 len len (by omega) (Int.le_refl _) (by rw [hz2]; omega) (by omega)
      rw [this, hz1, Int.toNat_natCast, fillC_made _ _ _ rfl]
    have hvl := Lib.hid (show (zs.map fun z => Value.string (wordB z)).length = len by rw [List.length_map]; exact h.1)
    have hMade := fun w => Lib.hid (Filled.made w 9 (zs.map fun z => .string (wordB z)) (.string ByteArray.empty) len)
    have hvg : ∀ k, k < len → Hid ((zs.map fun z => Value.string (wordB z)).getD k (.string ByteArray.empty) = .string (wordB (zs.getD k 0))) := by
      intro k hk
      have hk' : k < zs.length := by rw [h.1]; exact hk
      show _ = _
      simp [List.getD, hk']
    have hq0 : ((len : Int) == 0) = false := by simpa using (by omega : ¬ (len : Int) = 0)
    clear h
    go_enter Tryd.func47, Tryd.ntmps47
    generalize hvs : (zs.map fun z => Value.string (wordB z)) = vs at *
    go_wp2_with fail
    go_loopg [23] len (fun n i wr => ∃ k : Nat, i = .int .i64 k ∧ Hid (k + n = len) ∧ k ≤ len ∧ Filled wr w.heap.size 9 vs (.string ByteArray.empty) k len ∧ Below w.heap.size w wr)
    case atStart => exact ⟨0, rfl, by show _ = _; omega, Nat.zero_le _, (hMade w).out, (Below.refl _ _).alloc (Nat.le_refl _) _⟩
    case round =>
      obtain ⟨k, rfl, hk, hkl, hF, hd⟩ := hrel
      have B := Lib.hid hd
      have F := Lib.hid hF
      clear hd hF
      by_cases hlt : k < len
      · obtain ⟨b', off', hbb, _, hc'⟩ := (frow_keep H.out B.out).2.2.2 k hlt
        cases hbb
        have hzl := frow_lt H.out hlt
        have hv := hvg k hlt
        have HJ : Hid (k + 1 + (gk - 1) = len) := by have := hk.out; show _ = _; omega
        have HG : Hid (gk - 1 < gk) := by have := hk.out; show _ < _; omega
        generalize zs.getD k 0 = z at *
        have HW := Lib.hid (numWord_word z hzl)
        clear hzl
        go_wp2_with fail
        refine (HW.out _).mono ?_
        rintro e w2 ⟨rfl, b2⟩
        have B2 := Lib.hid (B.out.trans (b2.mono B.out.size))
        have hcell := (F.out.keep b2).cell hvl.out (by omega) hlt
        rw [if_neg (Nat.lt_irrefl k)] at hcell
        have hfr := (F.out.keep b2).frozen k
        have hset := Lib.hid ((F.out.keep b2).set hvl.out hlt)
        rw [hv.out] at hset
        clear b2
        go_wp2_with fail
        go_roundg (gk - 1)
        case measure => exact HG.out
        case rel => exact ⟨k + 1, by go_num, HJ, by omega, hset.out, B2.out.setCell (Nat.le_refl _) _⟩
      · obtain rfl : k = len := by have := hk.out; omega
        have hzne : zs ≠ [] := by
          intro he
          have := H.out.1
          rw [he] at this
          simp at this
          omega
        have hdat : (zs.map wordB).map (·.data.toList) = zs.map wordL := by simp [wordB]
        have J := Tryd.strings_Join w.heap.size 0 k (zs.map wordB) ⟨#[44]⟩ wr (by
          intro j x hj
          have hjl : j < zs.length := by
            have := (List.getElem?_eq_some_iff.1 hj).1
            simpa using this
          have := F.out.cell hvl.out (Nat.le_refl _) (show j < k by rw [← H.out.1]; exact hjl)
          rw [if_pos (by rw [← H.out.1]; exact hjl), (hvg j (by rw [← H.out.1]; exact hjl)).out] at this
          rw [Nat.zero_add, this]
          simp [List.getElem?_eq_getElem hjl] at hj
          rw [← hj]
          simp [List.getD, hjl]) F.out.lt (by rw [List.length_map, H.out.1]; omega) (by rw [List.length_map, H.out.1]; exact Nat.le_refl _) (by
          rw [hdat]
          have := txtL_len zs (by rw [H.out.1]; exact hn)
          show (Lib.join (zs.map wordL) [44]).length ≤ _
          omega)
        rw [List.length_map, H.out.1, hdat] at J
        have hres : Hid ((⟨(Lib.join (zs.map wordL) (⟨#[44]⟩ : ByteArray).data.toList).toArray⟩ : ByteArray) = txtB zs) := by
          show _ = _
          unfold txtB txtL
          rw [if_neg hzne]
        have HJ := Lib.hid J
        clear hlt hdat hzne J
        go_wp2_with fail
        refine HJ.out.mono ?_
        rintro e w3 ⟨rfl, b3⟩
        rw [hres.out]
        have B3 := Lib.hid (B.out.trans (b3.mono B.out.size))
        clear b3
        go_wp2_with fail
        go_ret2
        exact ⟨rfl, B3.out⟩
theorem text_any (a : Option Addr) (len cap : Nat) (zs : List Nat) (w : World) (h : FRow w a len zs) (hn : len ≤ 256) :
    Calls Tryd.prog 13 #[.slice a len cap] w fun e w' => e = .returned (.tuple #[.string (txtB zs), .bool true]) ∧ Below w.heap.size w w' := by
  have H := Lib.hid h
  clear h
  go_enter Tryd.func13, Tryd.ntmps13
  go_wp2_with fail
  refine (textOf_any a len cap zs w H.out hn).mono ?_
  rintro e w1 ⟨rfl, b1⟩
  have B1 := Lib.hid b1
  clear b1
  go_wp2_with fail
  go_ret2
  exact ⟨rfl, B1.out⟩
theorem text_no (a : Option Addr) (len cap : Nat) (w : World) (hn : 256 < len) (hm : len ≤ 1048576) :
    Calls Tryd.prog 13 #[.slice a len cap] w fun e w' => e = .returned (.tuple #[.string ByteArray.empty, .bool false]) ∧ w = w' := by
  have hno : Calls Tryd.prog 47 #[.slice a len cap, .int .i64 256, .func (.func 48) #[] #[]] w fun e w' => e = .returned (.tuple #[.string ByteArray.empty, .bool false]) ∧ w = w' := by
    go_enter Tryd.func47, Tryd.ntmps47
    go_wp2_with fail
    go_ret2
    exact ⟨rfl, rfl⟩
  go_enter Tryd.func13, Tryd.ntmps13
  go_wp2_with fail
  refine hno.mono ?_
  rintro e w1 ⟨rfl, rfl⟩
  go_wp2_with fail
  go_ret2
  exact ⟨rfl, rfl⟩
end Go.Proofs.YtfmicahibmpjmaaDoor
