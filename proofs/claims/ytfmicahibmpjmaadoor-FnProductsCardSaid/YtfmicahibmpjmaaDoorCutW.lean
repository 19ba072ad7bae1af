/-
  The parts of a text between marks, in the program's model, and that the library's Split gives the same. Conditions: the text is of at most a million bytes or so.
-/
import Derived.Test.YtfmicahibmpjmaaDoorChecked
import Derived.Test.YtfmicahibmpjmaaDoorFillW
import Derived.Test.YtfmicahibmpjmaaDoorShelf
import Derived.WalkKit
import Derived.Below
import Derived.Lib.Hide
import Derived.Deep.LoopGhost
import Derived.Deep.DeepMust
import Derived.IntWalk
import Derived.Laws.AppendOwn
import Derived.Laws.OwnMore
import Derived.Laws.IdiomStrings
import Derived.WalkSpells
import Derived.ProofKit
import Derived.Maps.AppendAt
import Derived.Lib.Split
import Derived.Lib.SplitLaws
namespace Dec
open Go
def cst (c : UInt8) (s : List (List UInt8) × List UInt8) (b : UInt8) : List (List UInt8) × List UInt8 := if b = c then (s.1 ++ [s.2], []) else (s.1, s.2 ++ [b])
def cutF (c : UInt8) (l : List UInt8) : List (List UInt8) × List UInt8 := l.foldl (cst c) ([], [])
/-- the parts of a text between marks -/
def cutL (c : UInt8) (l : List UInt8) : List (List UInt8) := (cutF c l).1 ++ [(cutF c l).2]
theorem cutF_snoc (c : UInt8) (l : List UInt8) (b : UInt8) : cutF c (l ++ [b]) = cst c (cutF c l) b := by unfold cutF; rw [List.foldl_append]; rfl
theorem fold_shift (c : UInt8) : ∀ (l : List UInt8) (d : List (List UInt8)) (u : List UInt8), l.foldl (cst c) (d, u) = (d ++ (l.foldl (cst c) ([], u)).1, (l.foldl (cst c) ([], u)).2) := by
  intro l
  induction l with
  | nil => intro d u; simp
  | cons b l ih =>
    intro d u
    simp only [List.foldl_cons]
    by_cases hb : b = c
    · have e : ∀ d, cst c (d, u) b = (d ++ [u], []) := fun d => by unfold cst; rw [if_pos hb]
      rw [e, e, ih (d ++ [u]) [], ih ([] ++ [u]) []]
      simp
    · have e : ∀ d, cst c (d, u) b = (d, u ++ [b]) := fun d => by unfold cst; rw [if_neg hb]
      rw [e, e]
      exact ih d (u ++ [b])
theorem fold_free {c : UInt8} : ∀ {p : List UInt8}, c ∉ p → ∀ d u, p.foldl (cst c) (d, u) = (d, u ++ p) := by
  intro p
  induction p with
  | nil => intro _ d u; simp
  | cons b p ih =>
    intro h d u
    have hb : ¬ b = c := fun e => h (by rw [e]; exact List.mem_cons_self ..)
    have hp : c ∉ p := fun hm => h (List.mem_cons_of_mem _ hm)
    rw [List.foldl_cons]
    have e : cst c (d, u) b = (d, u ++ [b]) := by unfold cst; rw [if_neg hb]
    rw [e, ih hp]
    simp
theorem cutL_free {c : UInt8} {l : List UInt8} (h : c ∉ l) : cutL c l = [l] := by
  unfold cutL cutF
  rw [fold_free h]
  simp
theorem cutL_app {c : UInt8} {p r : List UInt8} (h : c ∉ p) : cutL c (p ++ c :: r) = p :: cutL c r := by
  have e : cutF c (p ++ c :: r) = ([p] ++ (cutF c r).1, (cutF c r).2) := by
    unfold cutF
    rw [List.foldl_append, fold_free h, List.foldl_cons]
    have e2 : cst c ([], [] ++ p) c = ([p], []) := by unfold cst; rw [if_pos rfl]; simp
    rw [e2, fold_shift]
  unfold cutL
  rw [e]
  simp
theorem index_app {c : UInt8} {r : List UInt8} : ∀ {p : List UInt8}, c ∉ p → Lib.index (p ++ c :: r) [c] = (p.length : Int) := by
  intro p
  induction p with
  | nil => intro _; simp [Lib.index, List.isPrefixOf]
  | cons b p ih =>
    intro h
    have hb : ¬ c = b := fun e => h (by rw [e]; exact List.mem_cons_self ..)
    have hp : c ∉ p := fun hm => h (List.mem_cons_of_mem _ hm)
    rw [List.cons_append]
    unfold Lib.index
    rw [ih hp]
    have e1 : ([c] : List UInt8).isPrefixOf (b :: (p ++ c :: r)) = false := by simp [List.isPrefixOf, hb]
    rw [e1]
    have e2 : ((p.length : Int) == -1) = false := by simp
    rw [e2]
    simp
theorem splitK_cut (c : UInt8) : ∀ (n : Nat) (l : List UInt8), l.length ≤ n → Lib.splitK [c] 0 (l.count c) l = cutL c l := by
  intro n
  induction n with
  | zero =>
    intro l hl
    have : l = [] := List.eq_nil_of_length_eq_zero (by omega)
    subst this
    rfl
  | succ n ih =>
    intro l hl
    by_cases hm : c ∈ l
    · obtain ⟨p, r, rfl, hp⟩ := List.eq_append_cons_of_mem hm
      have hk : (p ++ c :: r).count c = r.count c + 1 := by
        rw [List.count_append, List.count_eq_zero.2 hp, List.count_cons_self]; omega
      rw [hk]
      unfold Lib.splitK
      rw [index_app hp]
      have e2 : ((p.length : Int) == -1) = false := by simp
      rw [e2, if_neg (by decide)]
      have e3 : ((p.length : Int).toNat + 0) = p.length := by simp
      have e4 : ((p.length : Int).toNat + [c].length) = p.length + 1 := by simp
      rw [e3, e4, cutL_app hp, List.take_left']
      · have e5 : (p ++ c :: r).drop (p.length + 1) = r := by
          rw [List.drop_append, List.drop_of_length_le (by omega)]
          simp
        rw [e5, ih r (by simp at hl; omega)]
      · rfl
    · rw [List.count_eq_zero.2 hm, cutL_free hm]
      rfl
theorem cutL_len (c : UInt8) (l : List UInt8) : (cutL c l).length = l.count c + 1 := by
  have h := splitK_cut c l.length l (Nat.le_refl _)
  have : ∀ (k : Nat) (s : List UInt8), s.count c = k → (cutL c s).length = k + 1 := by
    intro k
    induction k with
    | zero =>
      intro s hs
      rw [cutL_free (List.count_eq_zero.1 hs)]; rfl
    | succ k ih =>
      intro s hs
      have hm : c ∈ s := by
        refine Classical.byContradiction fun e => ?_
        rw [List.count_eq_zero.2 e] at hs; omega
      obtain ⟨p, r, rfl, hp⟩ := List.eq_append_cons_of_mem hm
      have hk : (p ++ c :: r).count c = r.count c + 1 := by
        rw [List.count_append, List.count_eq_zero.2 hp, List.count_cons_self]; omega
      rw [cutL_app hp, List.length_cons, ih r (by omega)]
  exact this _ l rfl
theorem index_free {c : UInt8} : ∀ {l : List UInt8}, c ∉ l → Lib.index l [c] = -1 := by
  intro l
  induction l with
  | nil => intro _; simp [Lib.index]
  | cons b l ih =>
    intro h
    have hb : ¬ c = b := fun e => h (by rw [e]; exact List.mem_cons_self ..)
    have hp : c ∉ l := fun hm => h (List.mem_cons_of_mem _ hm)
    unfold Lib.index
    rw [ih hp]
    have e1 : ([c] : List UInt8).isPrefixOf (b :: l) = false := by simp [List.isPrefixOf, hb]
    rw [e1]
    simp
theorem count_one (c : UInt8) : ∀ (n : Nat) (l : List UInt8), l.length ≤ n → Lib.count l [c] = l.count c := by
  intro n
  induction n with
  | zero =>
    intro l hl
    have : l = [] := List.eq_nil_of_length_eq_zero (by omega)
    subst this
    exact Lib.count_miss (index_free (by simp))
  | succ n ih =>
    intro l hl
    by_cases hm : c ∈ l
    · obtain ⟨p, r, rfl, hp⟩ := List.eq_append_cons_of_mem hm
      have hk : (p ++ c :: r).count c = r.count c + 1 := by
        rw [List.count_append, List.count_eq_zero.2 hp, List.count_cons_self]; omega
      rw [hk, Lib.count_hit (by simp) (index_app hp)]
      have e5 : (p ++ c :: r).drop (p.length + [c].length) = r := by
        rw [List.drop_append, List.drop_of_length_le (by simp)]
        simp
      rw [e5, ih r (by simp at hl; omega)]
      omega
    · rw [List.count_eq_zero.2 hm, Lib.count_miss (index_free hm)]
/-- what the library's Split gives at one mark -/
theorem splitB_cut (c : UInt8) (s : ByteArray) : (Lib.splitB ⟨#[c]⟩ 0 (Lib.countB s ⟨#[c]⟩) s).map (·.data.toList) = cutL c s.data.toList := by
  rw [Lib.splitB_data]
  have : Lib.countB s ⟨#[c]⟩ = s.data.toList.count c := count_one c _ _ (Nat.le_refl _)
  rw [this]
  exact splitK_cut c _ _ (Nat.le_refl _)
theorem bytes_of (b : ByteArray) : (⟨b.data.toList.toArray⟩ : ByteArray) = b := rfl
/-- the parts as strings -/
def cutB (c : UInt8) (s : ByteArray) : List ByteArray := (cutL c s.data.toList).map fun l => ⟨l.toArray⟩
theorem splitB_eq (c : UInt8) (s : ByteArray) : Lib.splitB ⟨#[c]⟩ 0 (Lib.countB s ⟨#[c]⟩) s = cutB c s := by
  unfold cutB
  rw [← splitB_cut, List.map_map]
  have : (fun l : List UInt8 => (⟨l.toArray⟩ : ByteArray)) ∘ (fun b : ByteArray => b.data.toList) = id := by
    funext b; rfl
  rw [this, List.map_id]
def sv (l : List ByteArray) : List Value := l.map Value.string
theorem sv_one (l : List ByteArray) : ∀ u ∈ sv l, u.oneCell' = true := by
  intro u hu
  obtain ⟨b, _, rfl⟩ := List.mem_map.1 hu
  rfl
/-- the cells of strings -/
def Ss (w : World) (g : Nat) (l : List ByteArray) : Prop := g < w.heap.size ∧ ∀ j (h : j < l.length), w.cell? ⟨g, j, none⟩ = some (.string l[j])
theorem Ss.keep {w w' : World} {g : Nat} {l : List ByteArray} (h : Ss w g l) (hb : Go.RowKit.Below w.heap.size w w') : Ss w' g l := by
  refine ⟨Nat.lt_of_lt_of_le h.1 hb.size, fun j hj => ?_⟩
  rw [World.cell?_of_block (w := w) (hb.block g h.1)]
  exact h.2 j hj
theorem ss_of_owned {w : World} {B t : Nat} {v : Value} {n : Nat} {l : List ByteArray} (h : w.ownsRow B t 1 v n (sv l)) (hn : n ≠ 0) : ∃ g c, v = .slice (some ⟨g, 0, none⟩) l.length c ∧ Ss w g l ∧ B ≤ g := by
  obtain ⟨h1, ⟨_, h2⟩ | ⟨g, cap, cur, rfl, hg, hc, hcap, _, hcs, hcur⟩⟩ := h
  · exact absurd h2 hn
  · have hl : l.length = n := by simpa [sv] using h1
    have hlt : g < w.heap.size := by
      refine Nat.lt_of_not_le fun hle => ?_
      rw [Array.getElem?_eq_none hle] at hc; cases hc
    refine ⟨g, cap, by rw [hl], ⟨hlt, fun j hj => ?_⟩, hg⟩
    have hu : (cur.toList.take (n * 1))[j]? = some (.string l[j]) := by
      rw [hcur]; simp [sv, List.getElem?_eq_getElem hj]
    rw [List.getElem?_take_of_lt (by omega)] at hu
    unfold World.cell?
    simp only [hc]
    simpa using hu
theorem take_ap (l : List UInt8) (k : Nat) (h : k < l.length) : l.take (k + 1) = l.take k ++ [l[k]] := by
  rw [List.take_succ_eq_append_getElem h]
abbrev noneB : ByteArray := ⟨#[110, 111, 110, 101]⟩
theorem none_ne {s : ByteArray} (h : s ≠ noneB) : (s.toList == ([110, 111, 110, 101] : List UInt8)) = false := by
  rw [ByteArray.toList_eq]
  have : ¬ s.data.toList = [110, 111, 110, 101] := fun e => h (ByteArray.ext (Array.toList_inj.1 e))
  simpa using this
theorem cutL_mem (c : UInt8) : ∀ (n : Nat) (l : List UInt8), l.length ≤ n → ∀ p ∈ cutL c l, p.length ≤ l.length := by
  intro n
  induction n with
  | zero =>
    intro l hl p hp
    have : l = [] := List.eq_nil_of_length_eq_zero (by omega)
    subst this
    rw [cutL_free (by simp)] at hp
    simp at hp
    subst hp
    exact Nat.le_refl _
  | succ n ih =>
    intro l hl p hp
    by_cases hm : c ∈ l
    · obtain ⟨q, r, rfl, hq⟩ := List.eq_append_cons_of_mem hm
      rw [cutL_app hq] at hp
      simp at hl
      rcases List.mem_cons.1 hp with rfl | hp
      · simp
      · have := ih r (by omega) p hp
        simp; omega
    · rw [cutL_free hm] at hp
      simp at hp
      subst hp
      exact Nat.le_refl _
theorem cutB_size (c : UInt8) (s : ByteArray) (j : Nat) (h : j < (cutB c s).length) : (cutB c s)[j].size ≤ s.size := by
  have hm : (cutB c s)[j] ∈ cutB c s := List.getElem_mem h
  unfold cutB at hm
  obtain ⟨l, hl, e⟩ := List.mem_map.1 hm
  have h1 := cutL_mem c _ _ (Nat.le_refl _) l hl
  show (cutB c s)[j].data.size ≤ s.data.size
  unfold cutB
  rw [← e]
  simpa using h1
theorem cutB_len (c : UInt8) (s : ByteArray) : (cutB c s).length = s.data.toList.count c + 1 := by unfold cutB; rw [List.length_map, cutL_len]
theorem owned_keep {w w' : World} {B t n : Nat} {v : Value} {xs : List Value} (h : w.ownsRow B t 1 v n xs) (hb : Go.RowKit.Below w.heap.size w w') : w'.ownsRow B t 1 v n xs := by
  obtain ⟨h1, ⟨rfl, h2⟩ | ⟨g, cap, cur, rfl, hg, hc, hcap, hm, hcs, hcur⟩⟩ := h
  · exact ⟨h1, .inl ⟨rfl, h2⟩⟩
  · have hlt : g < w.heap.size := by
      refine Nat.lt_of_not_le fun hle => ?_
      rw [Array.getElem?_eq_none hle] at hc; cases hc
    exact ⟨h1, .inr ⟨g, cap, cur, rfl, hg, by rw [hb.block g hlt]; exact hc, hcap, hm, hcs, hcur⟩⟩
theorem Ss.grown {w w' : World} {g : Nat} {l : List ByteArray} {row : Option Nat} (h : Ss w g l) (hg : w.grownBy w' row) (hne : some g ≠ row) : Ss w' g l :=
  ⟨Nat.lt_of_lt_of_le h.1 hg.size, fun j hj => hg.cell (h.2 j hj) hne⟩
/-- the library's number of bytes for its search is some number -/
def MaxAt (w : World) : Prop := ∃ m, w.cell? ⟨1, 0, none⟩ = some (.int .i64 m)
theorem MaxAt.keep {w w' : World} (h : MaxAt w) (hb : Go.RowKit.Below w.heap.size w w') : MaxAt w' := by
  obtain ⟨m, h1⟩ := h
  refine ⟨m, ?_⟩
  have hlt : 1 < w.heap.size := by
    refine Nat.lt_of_not_le fun hle => ?_
    unfold World.cell? at h1
    rw [Array.getElem?_eq_none hle] at h1
    cases h1
  rw [World.cell?_of_block (w := w) (hb.block _ hlt)]
  exact h1
end Dec
namespace Go.Proofs.YtfmicahibmpjmaaDoor
open Go.RowKit Dec
theorem cntComma (s : ByteArray) (w : World) : Calls Tryd.prog 78 #[.string s, .string ⟨#[44]⟩] w fun e w' => e = .returned (.int .i64 ((((cutB 44 s).length - 1 : Nat)) : Int)) ∧ w = w' := by
  refine (Tryd.strings_Count_one s 44 w).mono ?_
  rintro e w' ⟨rfl, rfl⟩
  refine ⟨?_, rfl⟩
  have h1 : Lib.countByte s.data.toList 44 = s.data.toList.count 44 := by
    exact (Lib.count_one _ _).symm.trans (count_one 44 _ _ (Nat.le_refl _))
  rw [h1, cutB_len, Nat.add_sub_cancel]
theorem splitComma (s : ByteArray) (hs : s.size ≤ 1048576) (w : World) (hm : MaxAt w) : Calls Tryd.prog 79 #[.string s, .string ⟨#[44]⟩] w fun e w' => e = .returned (.slice (some ⟨w.heap.size, 0, none⟩) (cutB 44 s).length (cutB 44 s).length) ∧ Ss w' w.heap.size (cutB 44 s) ∧ w'.heap.size = w.heap.size + 1 ∧ Below w.heap.size w w' := by
  obtain ⟨m, hm⟩ := hm
  have hc : Lib.countB s ⟨#[44]⟩ + 1 = (cutB 44 s).length := by
    have : Lib.countB s ⟨#[44]⟩ = s.data.toList.count 44 := count_one 44 _ _ (Nat.le_refl _)
    rw [this, cutB_len]
  refine (Tryd.strings_Split s ⟨#[44]⟩ m w (by omega) hm (by decide)).mono ?_
  rintro e w' ⟨rfl, rfl⟩
  rw [splitB_eq, hc]
  refine ⟨rfl, ⟨by simp, fun j hj => ?_⟩, by simp, (Below.refl _ _).alloc (Nat.le_refl _) _⟩
  unfold World.cell?
  simp only [heap_alloc_new]
  simp [hj]
end Go.Proofs.YtfmicahibmpjmaaDoor
