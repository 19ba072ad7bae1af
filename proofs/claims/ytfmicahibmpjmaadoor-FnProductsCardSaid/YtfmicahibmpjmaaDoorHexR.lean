/-
  Reading the eight digits of a 32-bit number: what they tell, and contracts of the program's reader. No conditions beyond those stated.
-/
import Derived.Test.YtfmicahibmpjmaaDoorBitsW
import Derived.Test.YtfmicahibmpjmaaDoorEqW
import Derived.Laws.RangeAny
import Derived.Deep.DeepMust
import Derived.WalkSpells
namespace Flt
open Go
def hx (c : UInt8) : Option Nat := if 48 ≤ c.toNat ∧ c.toNat ≤ 57 then some (c.toNat - 48) else if 97 ≤ c.toNat ∧ c.toNat ≤ 102 then some (c.toNat - 87) else none
def hst (o : Option Nat) (c : UInt8) : Option Nat := o.bind fun n => (hx c).map fun d => 16 * n + d
def hexF (l : List UInt8) : Option Nat := l.foldl hst (some 0)
theorem hx_lt {c : UInt8} {d : Nat} (h : hx c = some d) : d < 16 := by
  unfold hx at h
  split at h
  · injection h with h; omega
  · split at h
    · injection h with h; omega
    · cases h
theorem hexF_snoc (l : List UInt8) (c : UInt8) : hexF (l ++ [c]) = hst (hexF l) c := by unfold hexF; rw [List.foldl_append]; rfl
theorem hst_none : ∀ l : List UInt8, l.foldl hst none = none
  | [] => rfl
  | _ :: l => hst_none l
theorem hexF_no {l : List UInt8} {k : Nat} (h : hexF (l.take k) = none) : hexF l = none := by
  rw [← List.take_append_drop k l]
  unfold hexF at *
  rw [List.foldl_append, h, hst_none]
theorem fold_lt : ∀ (l : List UInt8) (m n : Nat), l.foldl hst (some m) = some n → n < (m + 1) * 16 ^ l.length
  | [], m, n, h => by injection h with h; subst h; simp
  | c :: l, m, n, h => by
    rw [List.foldl_cons] at h
    cases hc : hx c with
    | none =>
      have : hst (some m) c = none := by simp [hst, hc]
      rw [this, hst_none] at h
      cases h
    | some d =>
      have : hst (some m) c = some (16 * m + d) := by simp [hst, hc]
      rw [this] at h
      have h1 := fold_lt l _ _ h
      have h2 := hx_lt hc
      have h3 : (16 * m + d + 1) * 16 ^ l.length ≤ (16 * (m + 1)) * 16 ^ l.length := Nat.mul_le_mul_right _ (by omega)
      rw [List.length_cons, Nat.pow_succ]
      have h4 : (m + 1) * (16 ^ l.length * 16) = (16 * (m + 1)) * 16 ^ l.length := by
        rw [Nat.mul_comm (16 ^ l.length) 16, ← Nat.mul_assoc, Nat.mul_comm (m + 1) 16]
      omega
theorem hexF_lt {l : List UInt8} {n : Nat} (h : hexF l = some n) (hl : l.length ≤ 8) : n < 4294967296 := by
  have := fold_lt l 0 n h
  have h2 : 16 ^ l.length ≤ 16 ^ 8 := Nat.pow_le_pow_right (by decide) hl
  simp at this
  have h3 : (16 : Nat) ^ 8 = 4294967296 := by decide
  omega
/-- the number with eight digits -/
def rnum (l : List UInt8) : Option Nat := if l.length = 8 then (hexF l).bind fun n => if bitsC n = (n : Int) then some n else none else none
def rnR (l : List UInt8) : Value := .tuple #[.float .f32 ((rnum l).getD 0), .bool (rnum l).isSome]
theorem rnR_no {l : List UInt8} (h : rnum l = none) : rnR l = .tuple #[.float .f32 0, .bool false] := by unfold rnR; rw [h]; rfl
theorem rnR_yes {l : List UInt8} {n : Nat} (h : rnum l = some n) : rnR l = .tuple #[.float .f32 n, .bool true] := by unfold rnR; rw [h]; rfl
theorem rnum_len {l : List UInt8} (h : l.length ≠ 8) : rnum l = none := by unfold rnum; rw [if_neg h]
theorem rnum_hex {l : List UInt8} (h : hexF l = none) : rnum l = none := by unfold rnum; rw [h]; split <;> rfl
theorem rnum_at {l : List UInt8} {n : Nat} (h0 : l.length = 8) (h : hexF l = some n) : rnum l = if bitsC n = (n : Int) then some n else none := by unfold rnum; rw [if_pos h0, h]; rfl
theorem rnum_lt {l : List UInt8} {n : Nat} (h : rnum l = some n) : n < 4294967296 := by
  unfold rnum at h
  split at h
  · rename_i h8
    cases hh : hexF l with
    | none => rw [hh] at h; cases h
    | some m =>
      rw [hh] at h
      have : (if bitsC m = (m : Int) then some m else none) = some n := h
      split at this
      · injection this with this
        subst this
        exact hexF_lt hh (by omega)
      · cases this
  · cases h
theorem take_byte (s : ByteArray) (k : Nat) (h : k < s.size) : s.data.toList.take (k + 1) = s.data.toList.take k ++ [s[k]'h] := by
  have hl : k < s.data.toList.length := by simpa using h
  rw [List.take_succ_eq_append_getElem hl]
  rfl
theorem hex_step {s : ByteArray} {k n : Nat} (h : k < s.size) (hn : hexF (s.data.toList.take k) = some n) {d : Nat} (hd : hx (s[k]'h) = some d) : hexF (s.data.toList.take (k + 1)) = some (16 * n + d) := by
  rw [take_byte s k h, hexF_snoc, hn]
  simp [hst, hd]
theorem hex_stop {s : ByteArray} {k : Nat} (h : k < s.size) (hd : hx (s[k]'h) = none) : hexF s.data.toList = none := by
  apply hexF_no (k := k + 1)
  rw [take_byte s k h, hexF_snoc]
  unfold hst
  rw [hd]
  cases hexF (s.data.toList.take k) <;> rfl
theorem hx_dec {c : UInt8} (h1 : 48 ≤ c.toNat) (h2 : c.toNat ≤ 57) : hx c = some (c.toNat - 48) := by unfold hx; rw [if_pos ⟨h1, h2⟩]
theorem hx_let {c : UInt8} (h1 : 97 ≤ c.toNat) (h2 : c.toNat ≤ 102) : hx c = some (c.toNat - 87) := by unfold hx; rw [if_neg (by omega), if_pos ⟨h1, h2⟩]
theorem hx_no {c : UInt8} (h1 : c.toNat < 48 ∨ 57 < c.toNat) (h2 : c.toNat < 97 ∨ 102 < c.toNat) : hx c = none := by unfold hx; rw [if_neg (by omega), if_neg (by omega)]
end Flt
namespace Go.Proofs.YtfmicahibmpjmaaDoor
open Go.RowKit Flt
theorem hexVal_dec (r : Int) (h1 : 48 ≤ r) (h2 : r ≤ 57) (w : World) : Calls Tryd.prog 80 #[.int .i32 r] w fun e w' => e = .returned (.tuple #[.int .i64 (r - 48), .bool true]) ∧ w = w' := by
  go_enter Tryd.func80, Tryd.ntmps80
  go_wp2
  go_ret2
  exact ⟨rfl, rfl⟩
theorem hexVal_let (r : Int) (h1 : 97 ≤ r) (h2 : r ≤ 102) (w : World) : Calls Tryd.prog 80 #[.int .i32 r] w fun e w' => e = .returned (.tuple #[.int .i64 (r - 97 + 10), .bool true]) ∧ w = w' := by
  have h3 : 57 < r := by omega
  have h4 : 48 ≤ r := by omega
  go_enter Tryd.func80, Tryd.ntmps80
  go_wp2
  go_ret2
  exact ⟨rfl, rfl⟩
theorem hexVal_no (r : Int) (h1 : r < 48 ∨ 57 < r) (h2 : r < 97 ∨ 102 < r) (w : World) : Calls Tryd.prog 80 #[.int .i32 r] w fun e w' => e = .returned (.tuple #[.int .i64 0, .bool false]) ∧ w = w' := by
  rcases h1 with h1 | h1
  · have h3 : r < 97 := by omega
    clear h2
    go_enter Tryd.func80, Tryd.ntmps80
    go_wp2
    go_ret2
    exact ⟨rfl, rfl⟩
  · have h4 : 48 ≤ r := by omega
    rcases h2 with h2 | h2
    · go_enter Tryd.func80, Tryd.ntmps80
      go_wp2
      go_ret2
      exact ⟨rfl, rfl⟩
    · have h5 : 97 ≤ r := by omega
      go_enter Tryd.func80, Tryd.ntmps80
      go_wp2
      go_ret2
      exact ⟨rfl, rfl⟩
set_option maxRecDepth 100000 in
set_option maxHeartbeats 800000 in
theorem readNum_any (s : ByteArray) (_hs : s.size ≤ 1048576) (w : World) :
    Calls Tryd.prog 50 #[.string s] w fun e w' => e = .returned (rnR s.data.toList) ∧ Below w.heap.size w w' := by
  have hl : s.data.toList.length = s.size := by simp
  by_cases h8 : s.size = 8
  · have HL := Lib.hid hl
    have HN := Lib.hid (fun (h : hexF s.data.toList = none) => rnR_no (rnum_hex h))
    have HY := Lib.hid (fun n (h : hexF s.data.toList = some n) => rnum_at (by omega) h)
    have HY2 := Lib.hid (fun n (h : hexF s.data.toList = some n) => hexF_lt h (by omega))
    clear hl
    go_enter Tryd.func50, Tryd.ntmps50
    go_wp2_with fail
    go_loopg [4] 9 (fun m nv wr => ∃ pos n : Nat, nv = .int .i64 n ∧ wr = w.iter s pos ∧ Hid (pos + m = 9) ∧ pos ≤ 8 ∧ n < 4294967296 ∧ Hid (hexF (s.data.toList.take pos) = some n))
    case atStart => exact ⟨0, 0, rfl, rfl, rfl, Nat.zero_le _, by decide, rfl⟩
    case round =>
      obtain ⟨pos, n, rfl, rfl, hk, hkl, hn, hH⟩ := hrel
      by_cases hlt : pos < s.size
      · have HJ : Hid (pos + 1 + (gk - 1) = 9) := by have := hk.out; show _ = _; omega
        have HG : Hid (gk - 1 < gk) := by have := hk.out; show _ < _; omega
        have hp8 : pos + 1 ≤ 8 := by omega
        have hlen8 : (s.data.toList.take (pos + 1)).length ≤ 8 := by rw [List.length_take]; omega
        by_cases h0 : s[pos].toNat < 128
        · have hnx : ∀ ty, (Instr.next (.pointer (some ⟨w.heap.size, 0, none⟩)) true ty).run Tryd.prog (w.iter s pos) = _ := fun ty => run_next_ascii w s pos ty hlt h0
          by_cases hd1 : 48 ≤ s[pos].toNat ∧ s[pos].toNat ≤ 57
          · obtain ⟨d1, d2⟩ := hd1
            have HS := Lib.hid (hex_step hlt hH.out (hx_dec d1 d2))
            have HB := Lib.hid (hexF_lt HS.out hlen8)
            have HC := Lib.hid (hexVal_dec (s[pos].toNat : Int) (by omega) (by omega))
            clear hlen8 hH
            generalize s[pos].toNat = c at *
            go_wp2_with fail
            refine (HC.out _).mono ?_
            rintro e w1 ⟨rfl, rfl⟩
            go_wp2_with fail
            go_roundg (gk - 1)
            case measure => exact HG.out
            case rel => exact ⟨pos + 1, _, by go_num, rfl, HJ, hp8, HB.out, HS.out⟩
          · by_cases hd2 : 97 ≤ s[pos].toNat ∧ s[pos].toNat ≤ 102
            · obtain ⟨d1, d2⟩ := hd2
              have HS := Lib.hid (hex_step hlt hH.out (hx_let d1 d2))
              have HB := Lib.hid (hexF_lt HS.out hlen8)
              have HC := Lib.hid (hexVal_let (s[pos].toNat : Int) (by omega) (by omega))
              clear hlen8 hH hd1
              generalize s[pos].toNat = c at *
              go_wp2_with fail
              refine (HC.out _).mono ?_
              rintro e w1 ⟨rfl, rfl⟩
              go_wp2_with fail
              go_roundg (gk - 1)
              case measure => exact HG.out
              case rel => exact ⟨pos + 1, _, by go_num, rfl, HJ, hp8, HB.out, HS.out⟩
            · have HR := Lib.hid (HN.out (hex_stop hlt (hx_no (by omega) (by omega))))
              have HC := Lib.hid (hexVal_no (s[pos].toNat : Int) (by omega) (by omega))
              clear hlen8 hH hd1 hd2
              go_wp2_with fail
              refine (HC.out _).mono ?_
              rintro e w1 ⟨rfl, rfl⟩
              go_wp2_with fail
              go_ret2
              exact ⟨by rw [HR.out] <;> rfl, (Below.refl _ _).alloc (Nat.le_refl _) _⟩
        · have hnx : ∀ ty, (Instr.next (.pointer (some ⟨w.heap.size, 0, none⟩)) true ty).run Tryd.prog (w.iter s pos) = _ := fun ty => run_next_any w s pos ty hlt
          have hd := (decode_high s pos hlt (by omega)).1
          have HR := Lib.hid (HN.out (hex_stop hlt (hx_no (by omega) (by omega))))
          have HC := Lib.hid (hexVal_no ((Utf8.decode s pos).1 : Int) (by omega) (by omega))
          clear hlen8 hH
          go_wp2_with fail
          refine (HC.out _).mono ?_
          rintro e w1 ⟨rfl, rfl⟩
          go_wp2_with fail
          go_ret2
          exact ⟨by rw [HR.out] <;> rfl, (Below.refl _ _).alloc (Nat.le_refl _) _⟩
      · obtain rfl : pos = 8 := by omega
        have hnx : ∀ ty, (Instr.next (.pointer (some ⟨w.heap.size, 0, none⟩)) true ty).run Tryd.prog (w.iter s 8) = _ := fun ty => run_next_end w s 8 ty hlt
        have h1 := hH.out
        rw [List.take_of_length_le (by rw [HL.out]; omega)] at h1
        have hr := HY.out n h1
        by_cases hb : bitsC n = (n : Int)
        · rw [if_pos hb] at hr
          have HR := Lib.hid (rnR_yes hr)
          have HB := Lib.hid hb
          clear hb hr h1 hH
          go_wp2_with fail
          refine (implFrom_yes n hn _).mono ?_
          rintro e w1 ⟨rfl, rfl⟩
          go_wp2_with fail
          refine (implBits_any n _ hn).mono ?_
          rintro e w1 ⟨rfl, rfl⟩
          rw [HB.out]
          go_wp2_with fail
          go_ret2
          exact ⟨by rw [HR.out] <;> rfl, (Below.refl _ _).alloc (Nat.le_refl _) _⟩
        · rw [if_neg hb] at hr
          have HR := Lib.hid (rnR_no hr)
          clear hr h1 hH
          go_wp2_with fail
          refine (implFrom_yes n hn _).mono ?_
          rintro e w1 ⟨rfl, rfl⟩
          go_wp2_with fail
          refine (implBits_any n _ hn).mono ?_
          rintro e w1 ⟨rfl, rfl⟩
          generalize bitsC n = bn at *
          go_wp2_with fail
          go_ret2
          exact ⟨by rw [HR.out] <;> rfl, (Below.refl _ _).alloc (Nat.le_refl _) _⟩
  · have HR := Lib.hid (rnR_no (rnum_len (l := s.data.toList) (by omega)))
    have hne : ((s.size : Int) != 8) = true := by simp; omega
    clear hl
    go_enter Tryd.func50, Tryd.ntmps50
    go_wp2_with fail
    go_ret2
    exact ⟨by rw [HR.out] <;> rfl, Below.refl _ _⟩
end Go.Proofs.YtfmicahibmpjmaaDoor
