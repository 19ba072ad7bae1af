/-
  Contracts of IsName in the program (over runes) and in its model (over bytes), and the walk of its exact law. Conditions: arguments fit their kind.
-/
import Derived.Test.YtmgmelbpggedkaaBitsW
import Derived.Laws.RangeAny
namespace Go.Proofs.Ytmgmelbpggedkaa
open Go.RowKit Flt

def okb (c : UInt8) : Bool := decide (97 ≤ c.toNat) && decide (c.toNat ≤ 122)
def isName (l : List UInt8) : Bool := l.all okb && (decide (1 ≤ l.length) && decide (l.length ≤ 8))
theorem all_snoc (l : List UInt8) (c : UInt8) : (l ++ [c]).all okb = (l.all okb && okb c) := by simp
theorem all_false (s : ByteArray) (k : Nat) (h : k < s.size) (hb : okb s[k] = false) : isName s.data.toList = false := by
  have : s.data.toList.all okb = false := by
    rw [List.all_eq_false]
    exact ⟨s[k], by exact Array.getElem_mem_toList _, by simp [hb]⟩
  unfold isName; rw [this]; rfl

set_option maxHeartbeats 400000 in
theorem specName_any (s : ByteArray) (hs : s.size ≤ 1048576) (w : World) :
    Calls Try.prog 17 #[.string s] w fun e w' => e = .returned (.bool (isName s.data.toList)) ∧ w = w' := by
  go_enter Try.func17, Try.ntmps17
  go_wp2
  go_loop [3] (fun i => ∃ k : Nat, k ≤ s.size ∧ i = .int .i64 k ∧ Hid ((s.data.toList.take k).all okb = true)) (fun i => s.size - (intOf i).toNat)
  case atStart => exact ⟨0, Nat.zero_le _, rfl, by show _ = _; simp⟩
  case round =>
    obtain ⟨k, hk, rfl, ha⟩ := hrel
    by_cases hlt : k < s.size
    · by_cases h1 : s[k].toNat < 97
      · have hf : Hid (isName s.data.toList = false) := all_false s k hlt (by unfold okb; simp; omega)
        go_wp2
        go_ret
        exact ⟨by rw [hf.out]; rfl, rfl⟩
      · by_cases h2 : 122 < s[k].toNat
        · have hf : Hid (isName s.data.toList = false) := all_false s k hlt (by unfold okb; simp; omega)
          go_wp2
          go_ret
          exact ⟨by rw [hf.out]; rfl, rfl⟩
        · have hn : Hid ((s.data.toList.take (k + 1)).all okb = true) := by
            show _ = _
            rw [take_snoc s k hlt, all_snoc, ha.out]
            unfold okb; simp; omega
          go_wp2
          go_round
          case rel => exact ⟨k + 1, by omega, by go_num, hn⟩
          case measure => simp [intOf]; omega
    · have hl : s.data.toList.length = s.size := by simp
      have hf : Hid (isName s.data.toList = (decide (1 ≤ s.size) && decide (s.size ≤ 8))) := by
        show _ = _
        have := ha.out
        rw [List.take_of_length_le (by omega)] at this
        unfold isName; rw [this, hl]; rfl
      clear hl
      by_cases g1 : 1 ≤ s.size
      · have hv : Hid (isName s.data.toList = decide ((s.size : Int) ≤ 8)) := by
          show _ = _
          rw [hf.out, decide_eq_true g1, Bool.true_and]
          congr 1
          apply propext
          omega
        go_wp2
        go_ret
        exact ⟨by rw [hv.out]; rfl, rfl⟩
      · have hv : Hid (isName s.data.toList = false) := by show _ = _; rw [hf.out]; simp [g1]
        go_wp2
        go_ret
        exact ⟨by rw [hv.out]; rfl, rfl⟩

set_option maxRecDepth 100000 in
set_option maxHeartbeats 400000 in
theorem implName_any (s : ByteArray) (w : World) :
    Calls Try.prog 18 #[.string s] w fun e w' => e = .returned (.bool (isName s.data.toList)) ∧ Below w.heap.size w w' := by
  have hl : s.data.toList.length = s.size := by simp
  by_cases g1 : s.size < 1
  · have hv : Hid (isName s.data.toList = false) := by show _ = _; unfold isName; rw [hl]; simp; omega
    clear hl
    rw [hv.out]
    go_enter Try.func18, Try.ntmps18
    go_wp2
    go_ret
    exact ⟨rfl, Below.refl _ _⟩
  · by_cases g2 : 8 < s.size
    · have hv : Hid (isName s.data.toList = false) := by show _ = _; unfold isName; rw [hl]; simp; omega
      clear hl
      rw [hv.out]
      go_enter Try.func18, Try.ntmps18
      go_wp2
      go_ret
      exact ⟨rfl, Below.refl _ _⟩
    · have HL := Lib.hid hl
      clear hl
      go_enter Try.func18, Try.ntmps18
      go_wp2
      go_loopw [] (fun w' => ∃ pos : Nat, w' = w.iter s pos ∧ pos ≤ s.size ∧ Hid ((s.data.toList.take pos).all okb = true)) (fun w' => s.size - w'.iterPos w.heap.size)
      case atStart => exact ⟨0, rfl, Nat.zero_le _, by show _ = _; simp⟩
      case round =>
        obtain ⟨pos, rfl, hk, ha⟩ := hrel
        by_cases hlt : pos < s.size
        · by_cases h0 : s[pos].toNat < 128
          · have hnx : ∀ ty, (Instr.next (.pointer (some ⟨w.heap.size, 0, none⟩)) true ty).run Try.prog (w.iter s pos) = _ := fun ty => run_next_ascii w s pos ty hlt h0
            by_cases h1 : s[pos].toNat < 97
            · have hf : Hid (isName s.data.toList = false) := all_false s pos hlt (by unfold okb; simp; omega)
              go_wp2
              go_ret
              exact ⟨by rw [hf.out]; rfl, (Below.refl _ _).alloc (Nat.le_refl _) _⟩
            · by_cases h2 : 122 < s[pos].toNat
              · have hf : Hid (isName s.data.toList = false) := all_false s pos hlt (by unfold okb; simp; omega)
                go_wp2
                go_ret
                exact ⟨by rw [hf.out]; rfl, (Below.refl _ _).alloc (Nat.le_refl _) _⟩
              · have hn : Hid ((s.data.toList.take (pos + 1)).all okb = true) := by
                  show _ = _
                  rw [take_snoc s pos hlt, all_snoc, ha.out]
                  unfold okb; simp; omega
                go_wp2
                go_roundw
                case rel => exact ⟨pos + 1, rfl, by omega, hn⟩
                case measure => simp; omega
          · have hnx : ∀ ty, (Instr.next (.pointer (some ⟨w.heap.size, 0, none⟩)) true ty).run Try.prog (w.iter s pos) = _ := fun ty => run_next_any w s pos ty hlt
            have hd := (decode_high s pos hlt (by omega)).1
            have hf : Hid (isName s.data.toList = false) := all_false s pos hlt (by unfold okb; simp; omega)
            go_wp2
            go_ret
            exact ⟨by rw [hf.out]; rfl, (Below.refl _ _).alloc (Nat.le_refl _) _⟩
        · have hnx : ∀ ty, (Instr.next (.pointer (some ⟨w.heap.size, 0, none⟩)) true ty).run Try.prog (w.iter s pos) = _ := fun ty => run_next_end w s pos ty hlt
          have hf : Hid (isName s.data.toList = true) := by
            show _ = _
            have := ha.out
            rw [List.take_of_length_le (by rw [HL.out]; omega)] at this
            unfold isName; rw [this, HL.out]; simp; omega
          go_wp2
          go_ret
          exact ⟨by rw [hf.out]; rfl, (Below.refl _ _).alloc (Nat.le_refl _) _⟩

theorem fnExactIsName_walk (s : ByteArray) (_hs : s.size ≤ maxLen) (w : World) :
    Calls Try.prog 6 #[.string s] w fun e w' => e = .returned (.bool true) ∧ Below w.heap.size w w' := by
  unfold maxLen at _hs
  by_cases hs : s.size ≤ 1048576
  · have hx : ∀ x : Bool, (x != x) = false := by simp
    generalize hv : isName s.data.toList = v
    have HV := Lib.hid hv
    clear hv
    go_enter Try.func6, Try.ntmps6
    go_wp2_with fail
    refine (specName_any s hs _).mono ?_
    rintro e w' ⟨rfl, rfl⟩
    rw [HV.out]
    go_wp2_with fail
    refine (implName_any s _).mono ?_
    rintro e w' ⟨rfl, hb⟩
    rw [HV.out]
    go_wp2_with fail
    go_ret
    exact ⟨rfl, hb⟩
  · go_enter Try.func6, Try.ntmps6
    go_wp2
    go_ret
    exact ⟨rfl, Below.refl _ _⟩
end Go.Proofs.Ytmgmelbpggedkaa
