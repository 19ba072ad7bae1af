/-
  The text of int64 numbers: contracts of the program's function and of its model, and the walk of the exact law of ListText. Conditions: arguments fit their kind; the library's table of powers of ten holds what its initialiser lays.
-/
import Derived.Test.YtmgmelbpggedkaaDoorReadW
import Derived.Test.YtmgmelbpggedkaaDoorIntW
import Derived.Lib.Join
namespace Dec
open Go
def itoaB (z : Int) : ByteArray := ⟨(Lib.itoa z).toArray⟩
def listL (zs : List Int) : List UInt8 := if zs = [] then [110, 111, 110, 101] else Lib.join (zs.map Lib.itoa) [44]
def listB (zs : List Int) : ByteArray := ⟨(listL zs).toArray⟩
def inV (z : Int) : Bool := decide (-1000000000000000 ≤ z ∧ z ≤ 1000000000000000)
theorem joinTail_snoc (sep : List UInt8) (r : List (List UInt8)) (x : List UInt8) : Lib.joinTail sep (r ++ [x]) = Lib.joinTail sep r ++ (sep ++ x) := by unfold Lib.joinTail; simp
theorem listB_one (z : Int) : listB [z] = itoaB z := by unfold listB listL itoaB; rw [if_neg (by simp)]; simp [Lib.join_one]
theorem listB_snoc (zs : List Int) (z : Int) (h : zs ≠ []) : listB (zs ++ [z]) = listB zs ++ ((⟨#[44]⟩ : ByteArray) ++ itoaB z) := by
  cases zs with
  | nil => exact absurd rfl h
  | cons y ys =>
    apply ByteArray.ext
    simp [listB, listL, itoaB, Lib.join_cons, joinTail_snoc]
theorem itoa_20 {z : Int} (h : inV z = true) : (Lib.itoa z).length ≤ 17 := by
  unfold inV at h
  have := of_decide_eq_true h
  exact (itoa_len this.1 this.2).2
theorem listL_len (zs : List Int) (h : zs.length ≤ 64) (hz : ∀ z ∈ zs, inV z = true) : (Lib.join (zs.map Lib.itoa) [44]).length ≤ 4096 := by
  cases zs with
  | nil => simp [Lib.join_nil]
  | cons y ys =>
    have : ∀ l : List Int, (∀ z ∈ l, inV z = true) → (Lib.joinTail [44] (l.map Lib.itoa)).length ≤ 18 * l.length := by
      intro l
      induction l with
      | nil => intro _; exact Nat.le_refl _
      | cons x l ih =>
        intro hl
        have e : Lib.joinTail [44] ((x :: l).map Lib.itoa) = 44 :: Lib.itoa x ++ Lib.joinTail [44] (l.map Lib.itoa) := by simp [Lib.joinTail]
        have h1 := ih fun z hz => hl z (List.mem_cons_of_mem _ hz)
        have h2 := itoa_20 (hl x (List.mem_cons_self ..))
        rw [e]
        simp only [List.length_append, List.length_cons]
        omega
    have h1 := this ys fun z hz' => hz z (List.mem_cons_of_mem _ hz')
    have h2 := itoa_20 (hz y (List.mem_cons_self ..))
    rw [List.map_cons, Lib.join_cons, List.length_append]
    simp at h
    omega
theorem listB_size (zs : List Int) (h : zs.length ≤ 64) (hz : ∀ z ∈ zs, inV z = true) : (listB zs).size ≤ 4096 := by
  show (listL zs).toArray.size ≤ 4096
  unfold listL
  split
  · simp
  · simpa using listL_len zs h hz
theorem itoaB_size {z : Int} (h : inV z = true) : (itoaB z).size ≤ 17 := by
  show (Lib.itoa z).toArray.size ≤ 17
  simpa using itoa_20 h
theorem take_nx (zs : List Int) (k : Nat) (h : k < zs.length) : zs.take (k + 1) = zs.take k ++ [zs.getD k 0] := by
  rw [List.take_succ_eq_append_getElem h]; simp [List.getD, h]
/-- all numbers are ones that the document takes -/
def allV (zs : List Int) : Bool := zs.all inV
theorem allV_take (zs : List Int) (k : Nat) (h : k < zs.length) : allV (zs.take (k + 1)) = (allV (zs.take k) && inV (zs.getD k 0)) := by
  rw [take_nx zs k h]; unfold allV; simp
theorem allV_no (zs : List Int) (k : Nat) (h : k < zs.length) (hk : inV (zs.getD k 0) = false) : allV zs = false := by
  unfold allV
  rw [List.all_eq_false]
  have : zs.getD k 0 = zs[k] := by simp [List.getD, h]
  exact ⟨zs[k], List.getElem_mem h, by rw [← this, hk]; simp⟩
theorem allV_at (zs : List Int) (h : allV zs = true) : ∀ z ∈ zs, inV z = true := by
  unfold allV at h
  exact List.all_eq_true.1 h
theorem getD_mem (zs : List Int) (k : Nat) (h : k < zs.length) : zs.getD k 0 ∈ zs := by
  rw [show zs.getD k 0 = zs[k] from by simp [List.getD, h]]; exact List.getElem_mem h
/-- what ListText says -/
def okL (zs : List Int) : Bool := allV zs && decide (zs.length ≤ 64)
def ltxR (zs : List Int) : Value := .tuple #[.string (if okL zs then listB zs else ByteArray.empty), .bool (okL zs)]
theorem ltxR_yes {zs : List Int} (h : okL zs = true) : ltxR zs = .tuple #[.string (listB zs), .bool true] := by unfold ltxR; rw [h]; rfl
theorem ltxR_no {zs : List Int} (h : okL zs = false) : ltxR zs = .tuple #[.string ByteArray.empty, .bool false] := by unfold ltxR; rw [h]; rfl
end Dec
namespace Go.Proofs.YtmgmelbpggedkaaDoor
open Go.RowKit Dec Flt
theorem l01Dec_word (z : Int) (h0 : -9223372036854775808 ≤ z ∧ z ≤ 9223372036854775807) (w : World) : Calls Tryd.prog 39 #[.int .i64 z] w fun e w' => e = .returned (.string (itoaB z)) ∧ Below w.heap.size w w' := l01Dec_any z w h0.1 h0.2
theorem implDec_word (z : Int) (h0 : -9223372036854775808 ≤ z ∧ z ≤ 9223372036854775807) (w : World) (ht : Tab w) : Calls Tryd.prog 20 #[.int .i64 z] w fun e w' => e = .returned (.string (itoaB z)) ∧ Below w.heap.size w w' := implDec_any z w ht h0.1 h0.2
set_option maxHeartbeats 800000 in
theorem l01List_any (a : Option Addr) (len cap : Nat) (zs : List Int) (w : World) (h : IRow w a len zs) (hn : len ≤ 1048576) :
    Calls Tryd.prog 44 #[.slice a len cap] w fun e w' => e = .returned (.bool (okL zs)) ∧ Below w.heap.size w w' := by
  have H := Lib.hid h
  clear h
  go_enter Tryd.func44, Tryd.ntmps44
  go_wp2_with fail
  go_loopg [3] len (fun n i wr => ∃ k : Nat, i = .int .i64 k ∧ Hid (k + n = len) ∧ k ≤ len ∧ Hid (allV (zs.take k) = true) ∧ w = wr)
  case atStart => exact ⟨0, rfl, by show _ = _; omega, Nat.zero_le _, rfl, rfl⟩
  case round =>
    obtain ⟨k, rfl, hk, hkl, hA, rfl⟩ := hrel
    by_cases hlt : k < len
    · obtain ⟨b, off, rfl, _, hc⟩ := H.out.2.2.2 k hlt
      have hkz : k < zs.length := by rw [H.out.1]; exact hlt
      have HJ : Hid (k + 1 + (gk - 1) = len) := by have := hk.out; show _ = _; omega
      have HG : Hid (gk - 1 < gk) := by have := hk.out; show _ < _; omega
      have hT := Lib.hid (allV_take zs k hkz)
      cases hv : inV (zs.getD k 0)
      · have hno : okL zs = false := by unfold okL; rw [allV_no zs k hkz hv]; rfl
        have HNO := Lib.hid hno
        unfold inV at hv
        have HV := Lib.hid hv
        clear hv hno hT hkz
        generalize zs.getD k 0 = z at *
        go_wp2_with fail
        refine (l00In_any _ _ _ _).mono ?_
        rintro e w1 ⟨rfl, rfl⟩
        rw [HV.out]
        go_wp2_with fail
        go_ret
        exact ⟨by rw [HNO.out] <;> rfl, Below.refl _ _⟩
      · have HA2 : Hid (allV (zs.take (k + 1)) = true) := by show _ = _; rw [hT.out, hA.out, hv]; rfl
        unfold inV at hv
        have HV := Lib.hid hv
        clear hv hT hkz
        generalize zs.getD k 0 = z at *
        go_wp2_with fail
        refine (l00In_any _ _ _ _).mono ?_
        rintro e w1 ⟨rfl, rfl⟩
        rw [HV.out]
        go_wp2_with fail
        go_roundg (gk - 1)
        case measure => exact HG.out
        case rel => exact ⟨k + 1, by go_num, HJ, by omega, HA2.out, rfl⟩
    · obtain rfl : k = len := by have := hk.out; omega
      have HR : Hid (okL zs = decide ((k : Int) ≤ 64)) := by
        show _ = _
        have h1 := hA.out
        rw [← H.out.1, List.take_length] at h1
        unfold okL
        rw [h1, H.out.1, Bool.true_and]
        congr 1
        apply propext
        omega
      clear hlt
      go_wp2_with fail
      go_ret
      exact ⟨by rw [HR.out] <;> rfl, Below.refl _ _⟩
set_option maxHeartbeats 800000 in
theorem l01Text_any (a : Option Addr) (len cap : Nat) (zs : List Int) (w : World) (h : IRow w a len zs) (hn : len ≤ 64) (hok : allV zs = true) :
    Calls Tryd.prog 45 #[.slice a len cap] w fun e w' => e = .returned (.string (listB zs)) ∧ Below w.heap.size w w' := by
  by_cases h0 : len = 0
  · subst h0
    have hz : zs = [] := List.eq_nil_of_length_eq_zero h.1
    subst hz
    clear h hok
    go_enter Tryd.func45, Tryd.ntmps45
    go_wp2
    go_ret
    exact ⟨rfl, Below.refl _ _⟩
  · obtain ⟨b, off, rfl, hb, hc⟩ := h.2.2.2 0 (by omega)
    have H := Lib.hid h
    have hzl := h.bd (show 0 < len by omega)
    have h1 := Lib.hid (take_nx zs 0 (by rw [h.1]; omega))
    have HOK := Lib.hid hok
    rw [Nat.add_zero] at hc
    generalize hz0 : zs.getD 0 0 = z0 at *
    have HW := Lib.hid (l01Dec_word z0 hzl)
    clear h hz0 hzl hok
    have hq0 : ((len : Int) == 0) = false := by simpa using (by omega : ¬ (len : Int) = 0)
    go_enter Tryd.func45, Tryd.ntmps45
    go_wp2_with fail
    refine (HW.out _).mono ?_
    rintro e w1 ⟨rfl, b1⟩
    have B1 := Lib.hid b1
    clear b1
    go_wp2_with fail
    go_loopg [3, 4] (len - 1) (fun n s i wr => ∃ k : Nat, s = .string (listB (zs.take k)) ∧ i = .int .i64 k ∧ Hid (k + n = len) ∧ k ≤ len ∧ 1 ≤ k ∧ Below w.heap.size w wr)
    case atStart => exact ⟨1, by rw [h1.out, List.take_zero, List.nil_append, listB_one], rfl, by show _ = _; omega, by omega, Nat.le_refl _, B1.out⟩
    case round =>
      obtain ⟨k, rfl, rfl, hk, hkl, hk1, hd⟩ := hrel
      have B := Lib.hid hd
      clear hd
      by_cases hlt : k < len
      · obtain ⟨b', off', hbb, _, hc'⟩ := (H.out.keep B.out).2.2.2 k hlt
        cases hbb
        have hzl := H.out.bd hlt
        have hkz : k < zs.length := by rw [H.out.1]; exact hlt
        have hs := Lib.hid (take_nx zs k hkz)
        have hne := Lib.hid (show zs.take k ≠ [] by intro he; have := congrArg List.length he; simp [H.out.1] at this; omega)
        have HJ : Hid (k + 1 + (gk - 1) = len) := by have := hk.out; show _ = _; omega
        have HG : Hid (gk - 1 < gk) := by have := hk.out; show _ < _; omega
        have hws := itoaB_size (allV_at zs HOK.out _ (getD_mem zs k hkz))
        have hos := listB_size (zs.take k) (by have := H.out.1; simp; omega) (fun z hz => allV_at zs HOK.out z (List.mem_of_mem_take hz))
        clear hkz
        generalize zs.getD k 0 = z at *
        have HW := Lib.hid (l01Dec_word z hzl)
        have HS : Hid (listB (zs.take k) ++ ((⟨#[44]⟩ : ByteArray) ++ itoaB z) = listB (zs.take (k + 1))) := by show _ = _; rw [hs.out, listB_snoc _ _ hne.out]
        clear hs hne hzl
        generalize listB (zs.take k) = out at *
        go_wp2_with fail
        refine (HW.out _).mono ?_
        rintro e w2 ⟨rfl, b2⟩
        have B2 := Lib.hid (B.out.trans (b2.mono B.out.size))
        clear b2
        go_wp2_with fail
        go_roundg (gk - 1)
        case measure => exact HG.out
        case rel => exact ⟨k + 1, by rw [← HS.out], by go_num, HJ, by omega, by omega, B2.out⟩
      · have hke : Hid (k = len) := by have := hk.out; show _ = _; omega
        have HS : Hid (zs.take k = zs) := by show _ = _; rw [hke.out, ← H.out.1, List.take_length]
        rw [HS.out]
        go_wp2_with fail
        go_ret
        exact ⟨rfl, B.out⟩
theorem specList_any (a : Option Addr) (len cap : Nat) (zs : List Int) (w : World) (h : IRow w a len zs) (hn : len ≤ 1048576) :
    Calls Tryd.prog 23 #[.slice a len cap] w fun e w' => e = .returned (ltxR zs) ∧ Below w.heap.size w w' := by
  have H := Lib.hid h
  clear h
  cases hk : okL zs
  · have HK := Lib.hid hk
    have HR := Lib.hid (ltxR_no hk)
    clear hk
    go_enter Tryd.func23, Tryd.ntmps23
    go_wp2_with fail
    refine (l01List_any a len cap zs _ H.out hn).mono ?_
    rintro e w1 ⟨rfl, b1⟩
    rw [HK.out]
    have B1 := Lib.hid b1
    clear b1
    go_wp2_with fail
    go_ret2
    exact ⟨by rw [HR.out] <;> rfl, B1.out⟩
  · have h64 : len ≤ 64 ∧ allV zs = true := by
      have h2 := hk
      unfold okL at h2
      rw [Bool.and_eq_true, decide_eq_true_eq, H.out.1] at h2
      exact ⟨h2.2, h2.1⟩
    have HK := Lib.hid hk
    have HR := Lib.hid (ltxR_yes hk)
    have H64 := Lib.hid h64
    clear hk h64
    go_enter Tryd.func23, Tryd.ntmps23
    go_wp2_with fail
    refine (l01List_any a len cap zs _ H.out hn).mono ?_
    rintro e w1 ⟨rfl, b1⟩
    rw [HK.out]
    have B1 := Lib.hid b1
    clear b1
    go_wp2_with fail
    refine (l01Text_any a len cap zs _ (H.out.keep B1.out) H64.out.1 H64.out.2).mono ?_
    rintro e w2 ⟨rfl, b2⟩
    have B2 := Lib.hid (B1.out.trans (b2.mono B1.out.size))
    clear b2
    go_wp2_with fail
    go_ret2
    exact ⟨by rw [HR.out] <;> rfl, B2.out⟩
set_option maxRecDepth 20000 in
set_option maxHeartbeats 800000 in
theorem textOfI_any (a : Option Addr) (len cap : Nat) (zs : List Int) (w : World) (h : IRow w a len zs) (hn : len ≤ 64) (hok : allV zs = true) (ht : Tab w) :
    Calls Tryd.prog 46 #[.slice a len cap, .int .i64 64, .func (.func 20) #[] #[]] w fun e w' => e = .returned (.tuple #[.string (listB zs), .bool true]) ∧ Below w.heap.size w w' := by
  by_cases h0 : len = 0
  · subst h0
    have hz : zs = [] := List.eq_nil_of_length_eq_zero h.1
    subst hz
    clear h hok ht
    go_enter Tryd.func46, Tryd.ntmps46
    go_wp2
    go_ret2
    exact ⟨rfl, Below.refl _ _⟩
  · have H := Lib.hid h
    have HOK := Lib.hid hok
    have HT := Lib.hid ht
    clear hok ht
    obtain ⟨bb, oo, rfl, _, _⟩ := h.2.2.2 0 (by omega)
    have hnw := Tryd.func20
    have hmk : ∀ w, (Instr.makeSlice 64 (.int .i64 (len : Int)) (.int .i64 (len : Int))).run Tryd.prog w = .ok (.slice (some ⟨w.heap.size, 0, none⟩) len len) (w.alloc (.cells (fillC (zs.map fun z => .string (itoaB z)) (.string ByteArray.empty) 0 len) 9)) := by
      intro w
      obtain ⟨i, hi, hz0, hz1, hz2⟩ := info_parts (show (Tryd.prog.info? 9).map (fun i => (i.zero, i.size, i.bytes)) = some (some (.string ByteArray.empty), 1, 16) by kernel_rfl)
      have := run_make (P := Tryd.prog) w 64 9 i (.string ByteArray.empty) Tryd.underlying64 hi hz0 .i64 .i64 len len (by omega) (Int.le_refl _) (by rw [hz2]; omega) (by omega)
      rw [this, hz1, Int.toNat_natCast, fillC_made _ _ _ rfl]
    have hvl := Lib.hid (show (zs.map fun z => Value.string (itoaB z)).length = len by rw [List.length_map]; exact h.1)
    have hMade := fun w => Lib.hid (Filled.made w 9 (zs.map fun z => .string (itoaB z)) (.string ByteArray.empty) len)
    have hvg : ∀ k, k < len → Hid ((zs.map fun z => Value.string (itoaB z)).getD k (.string ByteArray.empty) = .string (itoaB (zs.getD k 0))) := by
      intro k hk
      have hk' : k < zs.length := by rw [h.1]; exact hk
      show _ = _
      simp [List.getD, hk']
    have hq0 : ((len : Int) == 0) = false := by simpa using (by omega : ¬ (len : Int) = 0)
    clear h
    go_enter Tryd.func46, Tryd.ntmps46
    generalize hvs : (zs.map fun z => Value.string (itoaB z)) = vs at *
    go_wp2_with fail
    go_loopg [23] len (fun n i wr => ∃ k : Nat, i = .int .i64 k ∧ Hid (k + n = len) ∧ k ≤ len ∧ Filled wr w.heap.size 9 vs (.string ByteArray.empty) k len ∧ Below w.heap.size w wr)
    case atStart => exact ⟨0, rfl, by show _ = _; omega, Nat.zero_le _, (hMade w).out, (Below.refl _ _).alloc (Nat.le_refl _) _⟩
    case round =>
      obtain ⟨k, rfl, hk, hkl, hF, hd⟩ := hrel
      have B := Lib.hid hd
      have F := Lib.hid hF
      clear hd hF
      by_cases hlt : k < len
      · obtain ⟨b', off', hbb, _, hc'⟩ := (H.out.keep B.out).2.2.2 k hlt
        cases hbb
        have hzl := H.out.bd hlt
        have hv := hvg k hlt
        have HJ : Hid (k + 1 + (gk - 1) = len) := by have := hk.out; show _ = _; omega
        have HG : Hid (gk - 1 < gk) := by have := hk.out; show _ < _; omega
        have HTw := Lib.hid (HT.out.keep B.out)
        generalize zs.getD k 0 = z at *
        have HW := Lib.hid (implDec_word z hzl)
        clear hzl
        go_wp2_with fail
        refine (HW.out _ HTw.out).mono ?_
        rintro e w2 ⟨rfl, b2⟩
        have B2 := Lib.hid (B.out.trans (b2.mono B.out.size))
        have hcell := (F.out.keep b2).cell hvl.out (by omega) hlt
        rw [if_neg (Nat.lt_irrefl k)] at hcell
        have hfr := (F.out.keep b2).frozen k
        have hset := Lib.hid ((F.out.keep b2).set hvl.out hlt)
        rw [hv.out] at hset
        clear b2
        go_wp2_with fail
        go_roundg (gk - 1)
        case measure => exact HG.out
        case rel => exact ⟨k + 1, by go_num, HJ, by omega, hset.out, B2.out.setCell (Nat.le_refl _) _⟩
      · obtain rfl : k = len := by have := hk.out; omega
        have hzne : zs ≠ [] := by
          intro he
          have := H.out.1
          rw [he] at this
          simp at this
          omega
        have hdat : (zs.map itoaB).map (·.data.toList) = zs.map Lib.itoa := by simp [itoaB]
        have J := Tryd.strings_Join w.heap.size 0 k (zs.map itoaB) ⟨#[44]⟩ wr (by
          intro j x hj
          have hjl : j < zs.length := by
            have := (List.getElem?_eq_some_iff.1 hj).1
            simpa using this
          have := F.out.cell hvl.out (Nat.le_refl _) (show j < k by rw [← H.out.1]; exact hjl)
          rw [if_pos (by rw [← H.out.1]; exact hjl), (hvg j (by rw [← H.out.1]; exact hjl)).out] at this
          rw [Nat.zero_add, this]
          simp [List.getElem?_eq_getElem hjl] at hj
          rw [← hj]
          simp [List.getD, hjl]) F.out.lt (by rw [List.length_map, H.out.1]; omega) (by rw [List.length_map, H.out.1]; exact Nat.le_refl _) (by
          rw [hdat]
          have := listL_len zs (by rw [H.out.1]; exact hn) (allV_at zs HOK.out)
          show (Lib.join (zs.map Lib.itoa) [44]).length ≤ _
          omega)
        rw [List.length_map, H.out.1, hdat] at J
        have hres : Hid ((⟨(Lib.join (zs.map Lib.itoa) (⟨#[44]⟩ : ByteArray).data.toList).toArray⟩ : ByteArray) = listB zs) := by
          show _ = _
          unfold listB listL
          rw [if_neg hzne]
        have HJ := Lib.hid J
        clear hlt hdat hzne J
        go_wp2_with fail
        refine HJ.out.mono ?_
        rintro e w3 ⟨rfl, b3⟩
        rw [hres.out]
        have B3 := Lib.hid (B.out.trans (b3.mono B.out.size))
        clear b3
        go_wp2_with fail
        go_ret2
        exact ⟨rfl, B3.out⟩
theorem textOfI_no (a : Option Addr) (len cap : Nat) (w : World) (hn : 64 < len) (hm : len ≤ 1048576) :
    Calls Tryd.prog 46 #[.slice a len cap, .int .i64 64, .func (.func 20) #[] #[]] w fun e w' => e = .returned (.tuple #[.string ByteArray.empty, .bool false]) ∧ w = w' := by
  go_enter Tryd.func46, Tryd.ntmps46
  go_wp2_with fail
  go_ret2
  exact ⟨rfl, rfl⟩
set_option maxHeartbeats 800000 in
theorem implList_any (a : Option Addr) (len cap : Nat) (zs : List Int) (w : World) (h : IRow w a len zs) (hn : len ≤ 1048576) (ht : Tab w) :
    Calls Tryd.prog 25 #[.slice a len cap] w fun e w' => e = .returned (ltxR zs) ∧ Below w.heap.size w w' := by
  have H := Lib.hid h
  have HT := Lib.hid ht
  clear h ht
  go_enter Tryd.func25, Tryd.ntmps25
  go_wp2_with fail
  go_loopg [8] len (fun n i wr => ∃ k : Nat, i = .int .i64 k ∧ Hid (k + n = len) ∧ k ≤ len ∧ Hid (allV (zs.take k) = true) ∧ w = wr)
  case atStart => exact ⟨0, rfl, by show _ = _; omega, Nat.zero_le _, rfl, rfl⟩
  case round =>
    obtain ⟨k, rfl, hk, hkl, hA, rfl⟩ := hrel
    by_cases hlt : k < len
    · obtain ⟨b, off, rfl, _, hc⟩ := H.out.2.2.2 k hlt
      have hkz : k < zs.length := by rw [H.out.1]; exact hlt
      have HJ : Hid (k + 1 + (gk - 1) = len) := by have := hk.out; show _ = _; omega
      have HG : Hid (gk - 1 < gk) := by have := hk.out; show _ < _; omega
      have hT := Lib.hid (allV_take zs k hkz)
      cases hv : inV (zs.getD k 0)
      · have hno : okL zs = false := by unfold okL; rw [allV_no zs k hkz hv]; rfl
        have HR := Lib.hid (ltxR_no hno)
        unfold inV at hv
        have HV := Lib.hid hv
        clear hv hno hT hkz
        generalize zs.getD k 0 = z at *
        go_wp2_with fail
        refine (isVal_any _ _).mono ?_
        rintro e w1 ⟨rfl, rfl⟩
        rw [HV.out]
        go_wp2_with fail
        go_ret2
        exact ⟨by rw [HR.out] <;> rfl, Below.refl _ _⟩
      · have HA2 : Hid (allV (zs.take (k + 1)) = true) := by show _ = _; rw [hT.out, hA.out, hv]; rfl
        unfold inV at hv
        have HV := Lib.hid hv
        clear hv hT hkz
        generalize zs.getD k 0 = z at *
        go_wp2_with fail
        refine (isVal_any _ _).mono ?_
        rintro e w1 ⟨rfl, rfl⟩
        rw [HV.out]
        go_wp2_with fail
        go_roundg (gk - 1)
        case measure => exact HG.out
        case rel => exact ⟨k + 1, by go_num, HJ, by omega, HA2.out, rfl⟩
    · obtain rfl : k = len := by have := hk.out; omega
      have hall : allV zs = true := by
        have h1 := hA.out
        rw [← H.out.1, List.take_length] at h1
        exact h1
      by_cases h64 : k ≤ 64
      · have hok : okL zs = true := by unfold okL; rw [hall, H.out.1, decide_eq_true h64]; rfl
        have HR := Lib.hid (ltxR_yes hok)
        have HX := Lib.hid (textOfI_any a k cap zs w H.out h64 hall HT.out)
        clear hlt hok hall h64
        go_wp2_with fail
        refine HX.out.mono ?_
        rintro e w1 ⟨rfl, b1⟩
        have B1 := Lib.hid b1
        clear b1
        go_wp2_with fail
        go_ret2
        exact ⟨by rw [HR.out] <;> rfl, B1.out⟩
      · have hok : okL zs = false := by unfold okL; rw [hall, H.out.1, decide_eq_false h64]; rfl
        have HR := Lib.hid (ltxR_no hok)
        have HX := Lib.hid (textOfI_no a k cap w (by omega) hn)
        clear hlt hok hall h64
        go_wp2_with fail
        refine HX.out.mono ?_
        rintro e w1 ⟨rfl, rfl⟩
        go_wp2_with fail
        go_ret2
        exact ⟨by rw [HR.out] <;> rfl, Below.refl _ _⟩
def fnExactListText_wants (w : World) : Prop := Tab w
set_option maxHeartbeats 1600000 in
theorem fnExactListText_walk (a : Option Addr) (la ca : Nat) (zs : List Int) (w : World) (ha : IRow w a la zs) (ht : fnExactListText_wants w) :
    Calls Tryd.prog 7 #[.slice a la ca] w fun e w' => e = .returned (.bool true) ∧ Below w.heap.size w w' := by
  have hmax : la ≤ 9223372036854775807 := by have := ha.2.1; unfold maxLen at this; exact this
  by_cases hna : la ≤ 1048576
  · have Ha := Lib.hid ha
    have HZa := Lib.hid ha.2.2.1
    have HLa := Lib.hid ha.1
    have HT := Lib.hid ht
    obtain ⟨T, g, hTg⟩ : ∃ T g, ltxR zs = .tuple #[.string T, .bool g] := ⟨_, _, rfl⟩
    have HTG := Lib.hid hTg
    have hx : (T.toList == T.toList) = true := by simp
    clear ha ht hTg
    go_enter Tryd.func7, Tryd.ntmps7
    go_wp2_with fail
    refine (toI64_made a la ca zs _ Ha.out hna).mono ?_
    rintro e w1 ⟨rfl, m, b, s⟩
    have B1 := Lib.hid (b)
    have P_1 := Lib.hid m
    clear m b s
    go_wp2_with fail
    refine (specList_any _ la la zs _ (imade_row P_1.out HLa.out hna HZa.out) hna).mono ?_
    rintro e w2 ⟨rfl, b⟩
    have B2 := Lib.hid (B1.out.trans (b.mono B1.out.size))
    have P_2 := Lib.hid (Filled.keep P_1.out b)
    clear b
    rw [HTG.out]
    go_wp2_with fail
    refine (toI64_made a la ca zs _ (Ha.out.keep B2.out) hna).mono ?_
    rintro e w3 ⟨rfl, m, b, s⟩
    have B3 := Lib.hid (B2.out.trans (b.mono B2.out.size))
    have X_3 := Lib.hid m
    clear m b s
    go_wp2_with fail
    refine (implList_any _ la la zs _ (imade_row X_3.out HLa.out hna HZa.out) hna (HT.out.keep B3.out)).mono ?_
    rintro e w4 ⟨rfl, b⟩
    have B4 := Lib.hid (B3.out.trans (b.mono B3.out.size))
    have X_4 := Lib.hid (Filled.keep X_3.out b)
    clear b
    rw [HTG.out]
    go_wp2_with fail
    refine (toI64_made a la ca zs _ (Ha.out.keep B4.out) hna).mono ?_
    rintro e w5 ⟨rfl, m, b, s⟩
    have B5 := Lib.hid (B4.out.trans (b.mono B4.out.size))
    have X_5 := Lib.hid (Filled.keep X_4.out b)
    have E_5 := Lib.hid m
    clear m b s
    go_wp2_with fail
    refine (eqI64_any _ _ la la la zs _ (imade_row X_5.out HLa.out hna HZa.out) (imade_row E_5.out HLa.out hna HZa.out) hna).mono ?_
    rintro e w6 ⟨rfl, b⟩
    have B6 := Lib.hid (B5.out.trans (b.mono B5.out.size))
    have X_6 := Lib.hid (Filled.keep X_5.out b)
    have E_6 := Lib.hid (Filled.keep E_5.out b)
    clear b
    go_wp2_with fail
    go_ret
    exact ⟨rfl, B6.out⟩
  · clear ha
    go_enter Tryd.func7, Tryd.ntmps7
    go_wp2
    go_ret
    exact ⟨rfl, Below.refl _ _⟩
end Go.Proofs.YtmgmelbpggedkaaDoor
