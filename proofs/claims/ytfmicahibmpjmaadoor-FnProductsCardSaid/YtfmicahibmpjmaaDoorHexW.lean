/-
  The eight digits of a 32-bit number: contracts of the program's word and of its model's. Conditions: the argument fits its kind.
-/
import Derived.Test.YtfmicahibmpjmaaDoorEqW
import Derived.Test.YtfmicahibmpjmaaDoorBitsW
import Derived.IntWalk
import Derived.Laws.AppendOwn
import Derived.Laws.OwnMore
import Derived.Laws.BytesArg
import Derived.Laws.IdiomStrings
import Derived.Laws.Bits128
import Derived.Deep.DeepMust
import Derived.WalkSpells
namespace Flt
def hexB (d : Nat) : UInt8 := [48, 49, 50, 51, 52, 53, 54, 55, 56, 57, 97, 98, 99, 100, 101, 102].getD d 0
def hexs (n : Nat) : List UInt8 := (List.range 8).map fun j => hexB (n / 16 ^ (7 - j) % 16)
theorem hexs_length (n : Nat) : (hexs n).length = 8 := by simp [hexs]
theorem hexs_get (n j : Nat) (h : j < 8) : (hexs n)[j]? = some (hexB (n / 16 ^ (7 - j) % 16)) := by simp [hexs, h]
theorem hexs_take (n j : Nat) (h : j < 8) : (hexs n).take (j + 1) = (hexs n).take j ++ [hexB (n / 16 ^ (7 - j) % 16)] := by
  have hl : j < (hexs n).length := by rw [hexs_length]; exact h
  rw [List.take_succ_eq_append_getElem hl]
  have := hexs_get n j h
  rw [List.getElem?_eq_getElem hl] at this
  rw [Option.some.inj this]
theorem tab_get (d : Nat) (h : d < 16) (h' : d < (⟨#[48, 49, 50, 51, 52, 53, 54, 55, 56, 57, 97, 98, 99, 100, 101, 102]⟩ : ByteArray).size) : (⟨#[48, 49, 50, 51, 52, 53, 54, 55, 56, 57, 97, 98, 99, 100, 101, 102]⟩ : ByteArray)[d]'h' = hexB d := by
  have : ∀ d : Fin 16, (#[48, 49, 50, 51, 52, 53, 54, 55, 56, 57, 97, 98, 99, 100, 101, 102] : Array UInt8)[d.val]'(d.isLt) = hexB d.val := by decide
  exact this ⟨d, h⟩
/-- the word while it is filled from its end -/
def wd (n i : Nat) : Array Go.Value := ((List.range 8).map fun j => if 8 ≤ i + j then Go.Value.int .u8 ((hexB (n / 16 ^ (7 - j) % 16)).toNat : Nat) else .int .u8 0).toArray
theorem wd_get (n i j : Nat) (h : j < 8) : (wd n i)[j]? = some (if 8 ≤ i + j then Go.Value.int .u8 ((hexB (n / 16 ^ (7 - j) % 16)).toNat : Nat) else .int .u8 0) := by simp [wd, h]
theorem wd_set (n i : Nat) (h : i < 8) : (wd n i).setIfInBounds (7 - i) (.int .u8 ((hexB (n / 16 ^ i % 16)).toNat : Nat)) = wd n (i + 1) := by
  have hs : ∀ i, (wd n i).size = 8 := fun i => by simp [wd]
  refine Array.ext (by simp [hs]) fun j h1 h2 => ?_
  have hj : j < 8 := by rw [hs] at h2; exact h2
  have e1 := wd_get n i j hj
  have e2 := wd_get n (i + 1) j hj
  rw [Array.getElem?_eq_getElem (by rw [hs]; exact hj)] at e1 e2
  rw [Option.some.inj e2, Array.getElem_setIfInBounds (by rw [hs]; exact hj)]
  by_cases hji : 7 - i = j
  · subst hji
    rw [if_pos rfl, if_pos (by omega), show 7 - (7 - i) = i by omega]
  · rw [if_neg hji, Option.some.inj e1]
    by_cases hc : 8 ≤ i + j
    · rw [if_pos hc, if_pos (by omega)]
    · rw [if_neg hc, if_neg (by omega)]
end Flt
namespace Go.Proofs.YtfmicahibmpjmaaDoor
open Go.RowKit Flt
theorem addr_add (g i : Nat) : (⟨g, 0, none⟩ : Addr).add i = ⟨g, i, none⟩ := by
  simp [Addr.add]
  intro h; exact h.symm
theorem i64_and15 (n : Int) : bits .and .i64 n 15 = n % 16 := by
  have h15 : (BitVec.ofInt 64 15).toNat = 2 ^ 4 - 1 := by decide
  have key : (BitVec.ofInt 64 n &&& BitVec.ofInt 64 15).toNat = (n % ((2 ^ 64 : Nat) : Int)).toNat % 2 ^ 4 := by
    rw [BitVec.toNat_and, BitVec.toNat_ofInt, h15, Nat.and_two_pow_sub_one_eq_mod]
  show IntKind.i64.wrap ((BitVec.ofInt 64 n &&& BitVec.ofInt 64 15).toNat : Nat) = n % 16
  rw [key, IntKind.wrap_i64]
  omega
theorem and15 (n : Nat) (j : Nat) (hj : j < 8) (hn : n < 4294967296) : bits .and .i64 ((n : Int) / 2 ^ (28 - 4 * j)) 15 = ((n / 16 ^ (7 - j) % 16 : Nat) : Int) := by
  have h1 : ((n : Int) / 2 ^ (28 - 4 * j)) = ((n / 16 ^ (7 - j) : Nat) : Int) := by
    have : (2 : Nat) ^ (28 - 4 * j) = 16 ^ (7 - j) := by
      rw [show (16 : Nat) = 2 ^ 4 from rfl, ← Nat.pow_mul]; congr 1; omega
    rw [← this]; norm_cast
  rw [h1]
  have h2 : n / 16 ^ (7 - j) < 4294967296 := Nat.lt_of_le_of_lt (Nat.div_le_self _ _) hn
  generalize n / 16 ^ (7 - j) = m at *
  have h3 : ((m % 16 : Nat) : Int) = (m : Int) % 16 := by norm_cast
  rw [h3]
  exact i64_and15 _
theorem made8 (n : Nat) : madeCells (Value.int .u8 0).cells (Int.toNat 8 * 1) = wd n 0 := by
  show madeCells _ 8 = _
  unfold madeCells wd
  apply Array.ext_getElem?
  intro j
  by_cases hj : j < 8
  · simp [Value.cells, hj, Nat.mod_one, show ¬ 8 ≤ j by omega]
  · simp [hj]
set_option maxHeartbeats 800000 in
theorem numWord_any (a n : Nat) (w : World) (ha : a < 4294967296) (hn : bitsC a = n) (hnl : n < 4294967296) :
    Calls Tryd.prog 48 #[.float .f32 a] w fun e w' => e = .returned (.string ⟨(hexs n).toArray⟩) ∧ Below w.heap.size w w' := by
  have hmk : ∀ w, (Instr.makeSlice 22 (.int .i64 8) (.int .i64 8)).run Tryd.prog w = .ok (.slice (some ⟨w.heap.size, 0, none⟩) 8 8) (w.alloc (.cells (wd n 0) 5)) := by
    intro w
    obtain ⟨i, hi, hz0, hz1, hz2⟩ := info_parts (show (Tryd.prog.info? 5).map (fun i => (i.zero, i.size, i.bytes)) = some (some (.int .u8 0), 1, 1) by kernel_rfl)
    have := run_make (P := Tryd.prog) w 22 5 i (.int .u8 0) Tryd.underlying22 hi hz0 .i64 .i64 8 8 (by omega) (Int.le_refl _) (by rw [hz2]; decide) (by decide)
    rw [this, hz1, made8 n]
    rfl
  go_enter Tryd.func48, Tryd.ntmps48
  go_wp2_with fail
  refine (implBits_any a _ ha).mono ?_
  rintro e w1 he
  rw [hn] at he
  obtain ⟨rfl, rfl⟩ := he
  go_wp2_with fail
  go_loopg [4, 11] 8 (fun m s i wr => ∃ j : Nat, s = .int .i64 (n / 16 ^ j : Nat) ∧ i = .int .i64 j ∧ Hid (j + m = 8) ∧ w.alloc (.cells (wd n j) 5) = wr)
  case atStart => exact ⟨0, by simp, rfl, rfl, rfl⟩
  case round =>
    obtain ⟨j, rfl, rfl, hj, rfl⟩ := hrel
    by_cases hlt : j < 8
    · have hold := wd_get n j (7 - j) (by omega)
      have hs := Lib.hid (wd_set n j hlt)
      have hq : n / 16 ^ (j + 1) = n / 16 ^ j / 16 := by rw [Nat.pow_succ, Nat.div_div_eq_div_mul]
      have hq1 : n / 16 ^ (j + 1) < 4294967296 := Nat.lt_of_le_of_lt (Nat.div_le_self _ _) hnl
      have HR : Hid (∀ q : Nat, q = n / 16 ^ (j + 1) → (Value.int .i64 (q : Int) = Value.int .i64 ((n / 16 ^ (j + 1) : Nat) : Int))) := by intro q h; rw [h]
      have hrem : ((n / 16 ^ j : Nat) : Int).tmod 16 = ((n / 16 ^ j % 16 : Nat) : Int) := (Int.ofNat_tmod _ 16).symm
      have hquo : ((n / 16 ^ j : Nat) : Int).tdiv 16 = ((n / 16 ^ (j + 1) : Nat) : Int) := by rw [hq]; exact (Int.ofNat_tdiv _ 16).symm
      have hd1 : n / 16 ^ j % 16 < 16 := Nat.mod_lt _ (by decide)
      have htab := fun h' => tab_get (n / 16 ^ j % 16) hd1 h'
      have H7 : (7 : Int) - (j : Int) = ((7 - j : Nat) : Int) := by omega
      have HJ : Hid (j + 1 + (gk - 1) = 8) := by have := hj.out; show _ = _; omega
      have HG : Hid (gk - 1 < gk) := by have := hj.out; show _ < _; omega
      clear hq
      generalize n / 16 ^ j % 16 = d at *
      generalize n / 16 ^ j = m at *
      generalize hqq : n / 16 ^ (j + 1) = q at *
      have HQ := Lib.hid hqq
      clear hqq
      generalize (if 8 ≤ j + (7 - j) then Value.int IntKind.u8 ((hexB (n / 16 ^ (7 - (7 - j)) % 16)).toNat : Nat) else Value.int IntKind.u8 0) = old at *
      go_wp2_with fail
      go_roundg (gk - 1)
      case measure => exact HG.out
      case rel => exact ⟨j + 1, by rw [HQ.out], by go_num, HJ, by rw [← hs.out]⟩
    · obtain rfl : j = 8 := by have := hj.out; omega
      have hcv := run_convert_bytes_back (P := Tryd.prog) (w.alloc (.cells (wd n 8) 5)) 22 9 5 ⟨w.heap.size, 0, none⟩ 8 (hexs n) Tryd.underlying22 Tryd.underlying5 Tryd.underlying9 (by
        intro i hi
        have hi8 : i < 8 := by rw [hexs_length] at hi; exact hi
        have ha := addr_add w.heap.size i
        have h1 := wd_get n 8 i hi8
        have h2 := hexs_get n i hi8
        rw [List.getElem?_eq_getElem hi] at h2
        rw [ha, World.cell?_alloc_mark, h1, if_pos (by omega), Option.some.inj h2])
      rw [hexs_length] at hcv
      go_wp2_with fail
      go_ret
      exact ⟨rfl, (Below.refl _ _).alloc (Nat.le_refl _) _⟩
end Go.Proofs.YtfmicahibmpjmaaDoor
