/-
  Merging in place by symmetric cuts: what each step does to an array, place by place. No program in this text; no conditions beyond those stated.
-/
import Derived.Sort.LotA
import Derived.Sort.Lot0
namespace Stb
open Go.Sort
variable {α : Type} [Inhabited α] {lt : α → α → Bool}

omit [Inhabited α] in
theorem asym (h : SWO lt) {x y : α} (hxy : lt x y = true) : lt y x = false := by
  cases hyx : lt y x
  · rfl
  · have := h.trans _ _ _ hxy hyx
    rw [h.irrefl] at this
    cases this
theorem sorted_le (hS : SWO lt) {a b : Nat} {d : Array α} (h : SortedIn lt a b d) {i j : Nat} (hi : a ≤ i) (hij : i ≤ j) (hj : j < b) : lt d[j]! d[i]! = false := by
  rcases Nat.lt_or_ge i j with h1 | h1
  · exact h i j hi h1 hj
  · obtain rfl : i = j := by omega
    exact hS.irrefl _
/-- one element put in from the left -/
theorem ins_left (hS : SWO lt) {a b i : Nat} {d d' : Array α} (h : SortedIn lt (a + 1) b d) (h1 : a + 1 ≤ i) (h2 : i ≤ b) (hl : ∀ t, a + 1 ≤ t → t < i → lt d[t]! d[a]! = true) (hr : ∀ t, i ≤ t → t < b → lt d[t]! d[a]! = false)
    (e1 : ∀ t, a ≤ t → t < i - 1 → d'[t]! = d[t + 1]!) (e2 : d'[i - 1]! = d[a]!) (e3 : ∀ t, i ≤ t → d'[t]! = d[t]!) : SortedIn lt a b d' := by
  intro p q hp hpq hq
  by_cases c1 : q < i - 1
  · rw [e1 p hp (by omega), e1 q (by omega) c1]
    exact h _ _ (by omega) (by omega) (by omega)
  · by_cases c2 : q = i - 1
    · subst c2
      rw [e2, e1 p hp hpq]
      exact asym hS (hl _ (by omega) (by omega))
    · rw [e3 q (by omega)]
      by_cases c3 : p < i - 1
      · rw [e1 p hp c3]
        exact h _ _ (by omega) (by omega) (by omega)
      · by_cases c4 : p = i - 1
        · subst c4
          rw [e2]; exact hr _ (by omega) hq
        · rw [e3 p (by omega)]
          exact h _ _ (by omega) hpq hq
/-- one element put in from the right -/
theorem ins_right (hS : SWO lt) {a m i : Nat} {d d' : Array α} (h : SortedIn lt a m d) (h1 : a ≤ i) (h2 : i ≤ m) (hl : ∀ t, a ≤ t → t < i → lt d[m]! d[t]! = false) (hr : ∀ t, i ≤ t → t < m → lt d[m]! d[t]! = true)
    (e1 : ∀ t, t < i → d'[t]! = d[t]!) (e2 : d'[i]! = d[m]!) (e3 : ∀ t, i < t → t ≤ m → d'[t]! = d[t - 1]!) : SortedIn lt a (m + 1) d' := by
  intro p q hp hpq hq
  by_cases c1 : q < i
  · rw [e1 p (by omega), e1 q c1]
    exact h _ _ hp hpq (by omega)
  · by_cases c2 : q = i
    · subst c2
      rw [e2, e1 p hpq]
      exact hl _ hp hpq
    · rw [e3 q (by omega) (by omega)]
      by_cases c3 : p < i
      · rw [e1 p c3]
        exact sorted_le hS h hp (by omega) (by omega)
      · by_cases c4 : p = i
        · subst c4
          rw [e2]; exact asym hS (hr _ (by omega) (by omega))
        · rw [e3 p (by omega) (by omega)]
          exact h _ _ (by omega) (by omega) (by omega)
/-- 'e' is 'd' with its places from 's' to 'm' and those from 'm' to 'e' put one behind the other the other way round -/
def Rot (s m e : Nat) (d d' : Array α) : Prop := (∀ t, s ≤ t → t < s + (e - m) → d'[t]! = d[t - s + m]!) ∧ (∀ t, s + (e - m) ≤ t → t < e → d'[t]! = d[t - (e - m)]!) ∧ ∀ t, t < s ∨ e ≤ t → d'[t]! = d[t]!
theorem rot_none {s m e : Nat} (d : Array α) (_h1 : s ≤ m) (h2 : m ≤ e) (h : s = m ∨ m = e) : Rot s m e d d := by
  refine ⟨fun t h3 h4 => ?_, fun t h3 h4 => ?_, fun _ _ => rfl⟩
  · congr 1; omega
  · congr 1; omega
/-- what a cut makes: four parts, each in order, and what is ahead of the cut is no greater than what is behind it -/
theorem cut_parts (hS : SWO lt) {a s m e b : Nat} {d d1 : Array α} (has : a ≤ s) (hsm : s ≤ m) (hme : m ≤ e) (heb : e ≤ b) (hA : SortedIn lt a m d) (hB : SortedIn lt m b d)
    (c1 : s = a ∨ e = b ∨ lt d[e]! d[s - 1]! = false) (c2 : s = m ∨ e = m ∨ lt d[e - 1]! d[s]! = true) (hR : Rot s m e d d1) :
    SortedIn lt a s d1 ∧ SortedIn lt s (s + (e - m)) d1 ∧ SortedIn lt (s + (e - m)) e d1 ∧ SortedIn lt e b d1 ∧ ∀ x y, a ≤ x → x < s + (e - m) → s + (e - m) ≤ y → y < b → lt d1[y]! d1[x]! = false := by
  obtain ⟨r1, r2, r3⟩ := hR
  refine ⟨?_, ?_, ?_, ?_, ?_⟩
  · intro p q hp hpq hq
    rw [r3 p (by omega), r3 q (by omega)]
    exact hA _ _ hp hpq (by omega)
  · intro p q hp hpq hq
    rw [r1 p hp (by omega), r1 q (by omega) hq]
    exact hB _ _ (by omega) (by omega) (by omega)
  · intro p q hp hpq hq
    rw [r2 p hp (by omega), r2 q (by omega) hq]
    exact hA _ _ (by omega) (by omega) (by omega)
  · intro p q hp hpq hq
    rw [r3 p (by omega), r3 q (by omega)]
    exact hB _ _ (by omega) hpq hq
  · intro x y hx hxm hym hy
    by_cases x1 : x < s
    · rw [r3 x (.inl x1)]
      by_cases y1 : y < e
      · rw [r2 y hym y1]
        exact hA _ _ hx (by omega) (by omega)
      · rw [r3 y (by omega)]
        rcases c1 with c | c | c
        · omega
        · omega
        · have h1 : lt d[s - 1]! d[x]! = false := sorted_le hS hA hx (by omega) (by omega)
          have h2 : lt d[y]! d[e]! = false := sorted_le hS hB hme (by omega) hy
          exact hS.ntrans _ _ _ (hS.ntrans _ _ _ h2 c) h1
    · rw [r1 x (by omega) hxm]
      by_cases y1 : y < e
      · rw [r2 y hym y1]
        rcases c2 with c | c | c
        · omega
        · omega
        · have h1 : lt d[e - 1]! d[x - s + m]! = false := sorted_le hS hB (by omega) (by omega) (by omega)
          have h2 : lt d[y - (e - m)]! d[s]! = false := sorted_le hS hA has (by omega) (by omega)
          exact hS.ntrans _ _ _ (hS.ntrans _ _ _ h2 (asym hS c)) h1
      · rw [r3 y (by omega)]
        exact sorted_le hS hB (by omega) (by omega) hy
/-- the two halves merged each by itself -/
theorem join_parts {a mid b : Nat} {d1 d2 d3 : Array α} (_h1 : a ≤ mid) (h2 : mid ≤ b) (hb : b ≤ d1.size) (p2 : PermIn a mid d1 d2) (s2 : SortedIn lt a mid d2) (p3 : PermIn mid b d2 d3) (s3 : SortedIn lt mid b d3)
    (hc : ∀ x y, a ≤ x → x < mid → mid ≤ y → y < b → lt d1[y]! d1[x]! = false) : SortedIn lt a b d3 := by
  have q1 := permIn_all d1 d2 a mid (fun z => ∀ y, mid ≤ y → y < b → lt d1[y]! z = false) (by omega) p2 (fun x hx hxm y hy hyb => hc x y hx hxm hy hyb)
  have q2 := permIn_all d2 d3 mid b (fun z => ∀ x, a ≤ x → x < mid → lt z d2[x]! = false) (by rw [p2.1]; exact hb) p3 (fun y hy hyb x hx hxm => by rw [p2.2.1 y (by omega)]; exact q1 x hx hxm y hy hyb)
  intro p q hp hpq hq
  by_cases c1 : q < mid
  · rw [p3.2.1 p (by omega), p3.2.1 q (by omega)]
    exact s2 _ _ hp hpq c1
  · by_cases c2 : mid ≤ p
    · exact s3 _ _ c2 hpq hq
    · rw [p3.2.1 p (by omega)]
      exact q2 q (by omega) hq p hp (by omega)
/-- what is outside of a permutation stays in order -/
theorem sorted_out {a b x y : Nat} {d d' : Array α} (h : SortedIn lt x y d) (hp : PermIn a b d d') (ho : y ≤ a ∨ b ≤ x) : SortedIn lt x y d' := by
  intro p q h1 h2 h3
  rw [hp.2.1 p (by omega), hp.2.1 q (by omega)]
  exact h _ _ h1 h2 h3
theorem sorted_same {x y : Nat} {d d' : Array α} (h : SortedIn lt x y d) (he : ∀ t, x ≤ t → t < y → d'[t]! = d[t]!) : SortedIn lt x y d' := by
  intro p q h1 h2 h3
  rw [he p h1 (by omega), he q (by omega) h3]
  exact h _ _ h1 h2 h3
theorem sorted_one {x y : Nat} (d : Array α) (h : y ≤ x + 1) : SortedIn lt x y d := by
  intro p q h1 h2 h3; omega

/-! ### one exchange, a run of exchanges -/
theorem swp_at (d : Array α) {i j : Nat} (hi : i < d.size) (hj : j < d.size) (t : Nat) : (swp d i j)[t]! = if t = j then d[i]! else if t = i then d[j]! else d[t]! := swp_get d hi hj t
/-- two runs of 'n' places exchanged, of which 'k' are done -/
def Swr (a b k : Nat) (d d' : Array α) : Prop := (∀ t, a ≤ t → t < a + k → d'[t]! = d[t - a + b]!) ∧ (∀ t, b ≤ t → t < b + k → d'[t]! = d[t - b + a]!) ∧ ∀ t, (t < a ∨ a + k ≤ t) → (t < b ∨ b + k ≤ t) → d'[t]! = d[t]!
theorem swr_zero (a b : Nat) (d : Array α) : Swr a b 0 d d := ⟨fun t h1 h2 => by omega, fun t h1 h2 => by omega, fun _ _ _ => rfl⟩
theorem swr_step {a b k n : Nat} {d d' : Array α} (h : Swr a b k d d') (hab : a + n ≤ b) (hk : k < n) (hs : b + n ≤ d'.size) : Swr a b (k + 1) d (swp d' (a + k) (b + k)) := by
  obtain ⟨h1, h2, h3⟩ := h
  refine ⟨fun t ha hb => ?_, fun t ha hb => ?_, fun t ha hb => ?_⟩
  · rw [swp_at d' (by omega) (by omega), if_neg (by omega)]
    by_cases c : t = a + k
    · rw [if_pos c, h3 (b + k) (by omega) (by omega)]; congr 1; omega
    · rw [if_neg c]; exact h1 t ha (by omega)
  · rw [swp_at d' (by omega) (by omega)]
    by_cases c : t = b + k
    · rw [if_pos c, h3 (a + k) (by omega) (by omega)]; congr 1; omega
    · rw [if_neg c, if_neg (by omega)]; exact h2 t ha (by omega)
  · rw [swp_at d' (by omega) (by omega), if_neg (by omega), if_neg (by omega)]
    exact h3 t (by omega) (by omega)
/-- what is still to be turned: between 'm - i' and 'm + j' about 'm' -/
def Tur (i m j : Nat) (r e : Array α) : Prop := (∀ t, m - i ≤ t → t < m - i + j → r[t]! = e[t + i]!) ∧ (∀ t, m - i + j ≤ t → t < m + j → r[t]! = e[t - j]!) ∧ ∀ t, t < m - i ∨ m + j ≤ t → r[t]! = e[t]!
/-- the array that is turned as a whole -/
def turned (s m e : Nat) (d : Array α) : Array α := (Array.range d.size).map fun t => if s ≤ t ∧ t < s + (e - m) then d[t - s + m]! else if s + (e - m) ≤ t ∧ t < e then d[t - (e - m)]! else d[t]!
theorem turned_at {s m e : Nat} {d : Array α} {t : Nat} (ht : t < d.size) : (turned s m e d)[t]! = if s ≤ t ∧ t < s + (e - m) then d[t - s + m]! else if s + (e - m) ≤ t ∧ t < e then d[t - (e - m)]! else d[t]! := by
  simp [turned, ht]
theorem tur_start {s m e : Nat} {d : Array α} (h1 : s ≤ m) (h2 : m ≤ e) (h3 : e ≤ d.size) : Tur (m - s) m (e - m) (turned s m e d) d := by
  refine ⟨fun t ha hb => ?_, fun t ha hb => ?_, fun t ha => ?_⟩
  · rw [turned_at (by omega), if_pos (by omega)]; congr 1; omega
  · rw [turned_at (by omega), if_neg (by omega), if_pos (by omega)]
  · by_cases ht : t < d.size
    · rw [turned_at ht, if_neg (by omega), if_neg (by omega)]
    · rw [getElem!_neg (turned s m e d) t (by simp [turned]; omega), getElem!_neg d t ht]
theorem tur_more {i m j : Nat} {r e e' : Array α} (h : Tur i m j r e) (him : i ≤ m) (hji : j < i) (hs : Swr (m - i) m j e e') : Tur (i - j) m j r e' := by
  obtain ⟨h1, h2, h3⟩ := h
  obtain ⟨s1, s2, s3⟩ := hs
  refine ⟨fun t ha hb => ?_, fun t ha hb => ?_, fun t ha => ?_⟩
  · rw [h2 t (by omega) (by omega), s2 (t + (i - j)) (by omega) (by omega)]; congr 1; omega
  · rw [h2 t (by omega) (by omega), s3 (t - j) (by omega) (by omega)]
  · by_cases c : t < m - i ∨ m + j ≤ t
    · rw [h3 t c, s3 t (by omega) (by omega)]
    · rw [h1 t (by omega) (by omega), s1 t (by omega) (by omega)]; congr 1; omega
theorem tur_less {i m j : Nat} {r e e' : Array α} (h : Tur i m j r e) (him : i ≤ m) (hij : i < j) (hs : Swr (m - i) (m + j - i) i e e') : Tur i m (j - i) r e' := by
  obtain ⟨h1, h2, h3⟩ := h
  obtain ⟨s1, s2, s3⟩ := hs
  refine ⟨fun t ha hb => ?_, fun t ha hb => ?_, fun t ha => ?_⟩
  · rw [h1 t (by omega) (by omega), s3 (t + i) (by omega) (by omega)]
  · rw [h1 t (by omega) (by omega), s1 (t - (j - i)) (by omega) (by omega)]; congr 1; omega
  · by_cases c : t < m - i ∨ m + j ≤ t
    · rw [h3 t c, s3 t (by omega) (by omega)]
    · rw [h2 t (by omega) (by omega), s2 t (by omega) (by omega)]; congr 1; omega
theorem tur_last {i m : Nat} {r e e' : Array α} (h : Tur i m i r e) (him : i ≤ m) (hs : Swr (m - i) m i e e') (t : Nat) : e'[t]! = r[t]! := by
  obtain ⟨h1, h2, h3⟩ := h
  obtain ⟨s1, s2, s3⟩ := hs
  by_cases c1 : t < m - i ∨ m + i ≤ t
  · rw [h3 t c1, s3 t (by omega) (by omega)]
  · by_cases c2 : t < m
    · rw [h1 t (by omega) (by omega), s1 t (by omega) (by omega)]; congr 1; omega
    · rw [h2 t (by omega) (by omega), s2 t (by omega) (by omega)]; congr 1; omega
theorem rot_turned {s m e : Nat} {d d' : Array α} (h1 : s ≤ m) (h2 : m ≤ e) (h3 : e ≤ d.size) (h : ∀ t : Nat, d'[t]! = (turned s m e d)[t]!) : Rot s m e d d' := by
  refine ⟨fun t ha hb => ?_, fun t ha hb => ?_, fun t ha => ?_⟩
  · rw [h, turned_at (by omega), if_pos (by omega)]
  · rw [h, turned_at (by omega), if_neg (by omega), if_pos (by omega)]
  · rw [h]
    by_cases ht : t < d.size
    · rw [turned_at ht, if_neg (by omega), if_neg (by omega)]
    · rw [getElem!_neg (turned s m e d) t (by simp [turned]; omega), getElem!_neg d t ht]
end Stb
