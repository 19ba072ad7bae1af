/-
  A region that draws its order, walked once: each operation is known by a predicate on its value alone, and may draw. Conditions: no guards, each operation writes a slot of its own.
-/
import Derived.Orders
import Derived.Deep.Quiet
import Derived.KernelRfl
namespace Go
/-! A REGION IN WHATEVER ORDER, WHERE EACH OPERATION'S VALUE IS KNOWN BY A PREDICATE ALONE (it may draw) -/
section
variable {P : Program} {ops : Array Oper} {Q : Exit → Act → World → Prop} {md : Region.Mode} {C : World → Prop} {V : Nat → Value → Prop}

/-- which operation writes a slot -/
def whoWrites (ops : Array Oper) (t : Nat) : Option Nat := ops.toList.findIdx? fun o => o.dst == some t

/-- what is asked of the region's form: no guards; each operation writes a slot of its own; edges point backwards -/
def plainRegion (ops : Array Oper) (size : Nat) : Bool :=
  (List.range ops.size).all fun i => match ops[i]? with
    | none => false
    | some o => o.guard.isNone && (match o.dst with | some d => decide (d < size) && (whoWrites ops d == some i) | none => false) && o.after.all fun e => decide (e.on < i)

/-- a slot that still holds what it held ahead of the region while operation 'i' is done: no operation writes it, or one that waits for 'i' -/
def stillAt (md : Region.Mode) (ops : Array Oper) (i t : Nat) : Bool := match whoWrites ops t with
  | none => true
  | some j => match ops[j]? with | some o => o.after.any fun e => Region.binds md e && e.on == i | none => false

/-- what is listed has waited -/
def Waited (md : Region.Mode) (ops : Array Oper) (listed : Array Bool) : Prop :=
  ∀ (j : Nat) (o : Oper), ops[j]? = some o → listed.getD j false = true → ∀ e ∈ o.after, Region.binds md e = true → listed.getD e.on false = true

/-- a frame in which just the listed operations have been done -/
def DoneAt (ops : Array Oper) (a0 : Act) (V : Nat → Value → Prop) (listed : Array Bool) (a : Act) : Prop :=
  a.defers = a0.defers ∧ a.tmps.size = a0.tmps.size ∧
  ∀ t, match whoWrites ops t with
    | some i => if listed.getD i false = true then V i (a.tmps.getD t undef) else a.tmps.getD t undef = a0.tmps.getD t undef
    | none => a.tmps.getD t undef = a0.tmps.getD t undef

theorem plainRegion_at {size : Nat} (h : plainRegion ops size = true) {i : Nat} {o : Oper} (hi : ops[i]? = some o) :
    o.guard = none ∧ (∃ d, o.dst = some d ∧ d < size ∧ whoWrites ops d = some i) ∧ ∀ e ∈ o.after, e.on < i := by
  unfold plainRegion at h
  rw [List.all_eq_true] at h
  have hlt : i < ops.size := (Array.getElem?_eq_some_iff.1 hi).1
  have := h i (List.mem_range.2 hlt)
  rw [hi] at this
  simp only [Bool.and_eq_true] at this
  obtain ⟨⟨h1, h2⟩, h3⟩ := this
  refine ⟨by simpa using h1, ?_, ?_⟩
  · cases hd : o.dst with
    | none => rw [hd] at h2; cases h2
    | some d =>
      rw [hd] at h2
      simp only [Bool.and_eq_true, decide_eq_true_eq, beq_iff_eq] at h2
      exact ⟨d, rfl, h2.1, h2.2⟩
  · intro e he
    rw [Array.all_eq_true] at h3
    obtain ⟨k, hk, rfl⟩ := Array.getElem_of_mem he
    simpa using h3 k hk

theorem whoWrites_inj {t i : Nat} (h : whoWrites ops t = some i) : ∃ o, ops[i]? = some o ∧ o.dst = some t := by
  unfold whoWrites at h
  rw [List.findIdx?_eq_some_iff_getElem] at h
  obtain ⟨hlt, h1, _⟩ := h
  have hlt' : i < ops.size := by simpa using hlt
  refine ⟨ops[i], by simp [hlt'], ?_⟩
  simpa using h1

theorem DoneAt.put {a0 a : Act} {listed : Array Bool} (hp : plainRegion ops a0.tmps.size = true) (h : DoneAt ops a0 V listed a) {i : Nat} {o : Oper} (hi : ops[i]? = some o) (hl : i < listed.size) {v : Value} (hv : V i v) :
    DoneAt ops a0 V (listed.setIfInBounds i true) (a.put o.dst v) := by
  obtain ⟨_, ⟨d, hd, hds, hw⟩, _⟩ := plainRegion_at hp hi
  obtain ⟨h1, h2, h3⟩ := h
  have hput : a.put o.dst v = { a with tmps := a.tmps.setIfInBounds d v } := by rw [hd]; rfl
  rw [hput]
  refine ⟨h1, by simpa using h2, fun t => ?_⟩
  have ht := h3 t
  by_cases htd : t = d
  · subst htd
    rw [hw]
    have e1 : (listed.setIfInBounds i true).getD i false = true := by simp [Array.getD_eq_getD_getElem?, hl]
    have e2 : (a.tmps.setIfInBounds t v).getD t undef = v := by simp [Array.getD_eq_getD_getElem?, h2, hds]
    show (if _ then _ else _)
    rw [if_pos e1, e2]; exact hv
  · have e2 : (a.tmps.setIfInBounds d v).getD t undef = a.tmps.getD t undef := by
      simp [Array.getD_eq_getD_getElem?, Ne.symm htd]
    simp only
    rw [e2]
    cases hwt : whoWrites ops t with
    | none => rw [hwt] at ht; exact ht
    | some j =>
      rw [hwt] at ht
      have hji : j ≠ i := by
        rintro rfl
        obtain ⟨o', ho', hd'⟩ := whoWrites_inj hwt
        rw [hi] at ho'
        cases ho'
        rw [hd] at hd'
        cases hd'
        exact htd rfl
      have e3 : (listed.setIfInBounds i true).getD j false = listed.getD j false := by
        simp [Array.getD_eq_getD_getElem?, Ne.symm hji]
      simp only
      rw [e3]; exact ht

def unlisted (n : Nat) (listed : Array Bool) : Nat := ((List.range n).filter fun i => !listed.getD i true).length

theorem unlisted_set {n i : Nat} {listed : Array Bool} (hs : listed.size = n) (hi : i < n) (h : listed.getD i true = false) : unlisted n (listed.setIfInBounds i true) + 1 = unlisted n listed := by
  unfold unlisted
  have key : ∀ l : List Nat, l.Nodup → (if i ∈ l then 1 else 0) + (l.filter fun j => !(listed.setIfInBounds i true).getD j true).length = (l.filter fun j => !listed.getD j true).length := by
    intro l
    induction l with
    | nil => intro _; simp
    | cons x l ih =>
      intro hn
      obtain ⟨hx, hn'⟩ := List.nodup_cons.1 hn
      have := ih hn'
      by_cases hxi : x = i
      · subst hxi
        have e1 : (listed.setIfInBounds x true).getD x true = true := by simp [Array.getD_eq_getD_getElem?, hs, hi]
        rw [if_neg hx] at this
        rw [if_pos (List.mem_cons_self ..), List.filter_cons_of_neg (by simp [e1]), List.filter_cons_of_pos (by simp [h]), List.length_cons]
        omega
      · have e1 : (listed.setIfInBounds i true).getD x true = listed.getD x true := by
          simp [Array.getD_eq_getD_getElem?, Ne.symm hxi]
        have hm : (i ∈ x :: l) ↔ i ∈ l := by simp [Ne.symm hxi]
        simp only [hm]
        cases hc : listed.getD x true
        · rw [List.filter_cons_of_pos (by simp [e1, hc]), List.filter_cons_of_pos (by simp [hc]), List.length_cons, List.length_cons]; omega
        · rw [List.filter_cons_of_neg (by simp [e1, hc]), List.filter_cons_of_neg (by simp [hc])]; exact this
  have := key (List.range n) List.nodup_range
  rw [if_pos (List.mem_range.2 hi)] at this
  omega

theorem ready_mem {listed : Array Bool} {i : Nat} (h : i ∈ Region.ready md ops listed) : ∃ o, ops[i]? = some o ∧ i < ops.size ∧ listed.getD i true = false ∧ ∀ e ∈ o.after, Region.binds md e = true → listed.getD e.on false = true := by
  unfold Region.ready at h
  rw [List.mem_filter, List.mem_range] at h
  obtain ⟨h1, h2⟩ := h
  simp only [Bool.and_eq_true, Bool.not_eq_true'] at h2
  obtain ⟨h3, h4⟩ := h2
  have ho : ops[i]? = some ops[i] := by simp [h1]
  refine ⟨ops[i], ho, h1, h3, ?_⟩
  rw [ho] at h4
  simp only [Option.map_some, Option.getD_some] at h4
  rw [Array.all_eq_true] at h4
  intro e he hb
  obtain ⟨k, hk, rfl⟩ := Array.getElem_of_mem he
  have := h4 k hk
  simp only [Bool.or_eq_true, Bool.not_eq_true'] at this
  rcases this with h | h
  · rw [hb] at h; cases h
  · exact h

theorem all_listed {listed : Array Bool} {size : Nat} (hp : plainRegion ops size = true) (hs : listed.size = ops.size) (h : Region.ready md ops listed = []) : ∀ i, i < ops.size → listed.getD i false = true := by
  intro i
  induction i using Nat.strongRecOn with
  | _ i ih =>
    intro hi
    cases hc : listed.getD i false
    · exfalso
      have ho : ops[i]? = some ops[i] := by simp [hi]
      obtain ⟨_, _, hd⟩ := plainRegion_at hp ho
      have hmem : i ∈ Region.ready md ops listed := by
        unfold Region.ready
        rw [List.mem_filter, List.mem_range]
        refine ⟨hi, ?_⟩
        have e1 : listed.getD i true = false := by
          have hil : i < listed.size := by omega
          simp [Array.getD_eq_getD_getElem?, hil] at hc ⊢
          exact hc
        rw [e1, ho]
        simp only [Bool.not_false, Bool.true_and, Option.map_some, Option.getD_some]
        rw [Array.all_eq_true]
        intro k hk
        have hlt := hd _ (Array.getElem_mem hk)
        rw [ih _ hlt (by omega)]
        simp
      rw [h] at hmem
      cases hmem
    · rfl

/-- THE THEOREM -/
theorem wpAny_known (a0 : Act) (hp : plainRegion ops a0.tmps.size = true)
    (step : ∀ (i : Nat) (o : Oper), ops[i]? = some o → ∀ (a : Act) (w : World), C w → (∀ e ∈ o.after, Region.binds md e = true → ∀ d, (ops[e.on]?).bind (·.dst) = some d → V e.on (a.tmps.getD d undef)) → (∀ t, stillAt md ops i t = true → a.tmps.getD t undef = a0.tmps.getD t undef) →
      o.wp P a w (fun a' w' => ∃ v, V i v ∧ C w' ∧ a' = a.put o.dst v) Q)
    (hQ : ∀ (a : Act) (w : World), C w → a.defers = a0.defers → a.tmps.size = a0.tmps.size → (∀ t, match whoWrites ops t with | some i => V i (a.tmps.getD t undef) | none => a.tmps.getD t undef = a0.tmps.getD t undef) → Q .normal a w) :
    ∀ (fuel : Nat) (listed : Array Bool) (a : Act) (w : World), listed.size = ops.size → unlisted ops.size listed ≤ fuel → C w → Waited md ops listed → DoneAt ops a0 V listed a → wpAny P md ops Q fuel listed a w := by
  have fin : ∀ (listed : Array Bool) (a : Act) (w : World), listed.size = ops.size → C w → DoneAt ops a0 V listed a → Region.ready md ops listed = [] → Q .normal a w := by
    intro listed a w hs hC hD hr
    have hall := all_listed hp hs hr
    obtain ⟨h1, h2, h3⟩ := hD
    refine hQ a w hC h1 h2 fun t => ?_
    have ht := h3 t
    cases hw : whoWrites ops t with
    | none => rw [hw] at ht; exact ht
    | some i =>
      rw [hw] at ht
      obtain ⟨o, ho, _⟩ := whoWrites_inj hw
      have hi : i < ops.size := (Array.getElem?_eq_some_iff.1 ho).1
      simp only at ht ⊢
      rw [if_pos (hall i hi)] at ht
      exact ht
  intro fuel
  induction fuel with
  | zero =>
    intro listed a w hs hu hC hWt hD
    have hr : Region.ready md ops listed = [] := by
      cases hrd : Region.ready md ops listed with
      | nil => rfl
      | cons x xs =>
        obtain ⟨o, ho, hx, hl, _⟩ := ready_mem (show x ∈ Region.ready md ops listed by rw [hrd]; exact List.mem_cons_self ..)
        have := unlisted_set hs hx hl
        omega
    exact ⟨hr, fin listed a w hs hC hD hr⟩
  | succ fuel ih =>
    intro listed a w hs hu hC hWt hD
    refine ⟨fun hr => fin listed a w hs hC hD hr, fun i hi => ?_⟩
    obtain ⟨o, ho, hx, hl, hdep⟩ := ready_mem hi
    obtain ⟨hg, ⟨d, hd, _, _⟩, _⟩ := plainRegion_at hp ho
    unfold wpOp
    rw [ho]
    simp only [Region.wanted, hg, if_true]
    left
    refine Oper.wp_mono ?_ (step i o ho a w hC ?_ ?_)
    · rintro a' w' ⟨v, hv, hC', rfl⟩
      refine ih _ _ _ (by simpa using hs) ?_ hC' ?_ (hD.put hp ho (by omega) hv)
      · have := unlisted_set hs hx hl
        omega
      · have mono : ∀ k, listed.getD k false = true → (listed.setIfInBounds i true).getD k false = true := by
          intro k hk
          by_cases hki : k = i
          · subst hki; simp [Array.getD_eq_getD_getElem?, hs, hx]
          · simp [Array.getD_eq_getD_getElem?, Ne.symm hki] at hk ⊢; exact hk
        intro j oj hj hlj e he hb
        by_cases hji : j = i
        · subst hji
          rw [ho] at hj
          cases hj
          exact mono _ (hdep e he hb)
        · have : listed.getD j false = true := by simpa [Array.getD_eq_getD_getElem?, Ne.symm hji] using hlj
          exact mono _ (hWt j oj hj this e he hb)
    · intro e he hb d hd
      have hlis := hdep e he hb
      have ht := hD.2.2 d
      have hon : ∃ o', ops[e.on]? = some o' ∧ o'.dst = some d := by
        cases h : ops[e.on]? with
        | none => rw [h] at hd; cases hd
        | some o' => rw [h] at hd; exact ⟨o', rfl, hd⟩
      obtain ⟨o', ho', hd'⟩ := hon
      obtain ⟨_, ⟨d2, hd2, _, hw2⟩, _⟩ := plainRegion_at hp ho'
      rw [hd'] at hd2
      cases hd2
      rw [hw2] at ht
      simp only at ht
      rw [if_pos hlis] at ht
      exact ht
    · intro t ht
      have hdt := hD.2.2 t
      unfold stillAt at ht
      cases hw : whoWrites ops t with
      | none => rw [hw] at hdt; exact hdt
      | some j =>
        rw [hw] at hdt ht
        simp only at ht hdt
        have hlj : listed.getD j false = false := by
          cases hc : listed.getD j false
          · rfl
          · exfalso
            cases hoj : ops[j]? with
            | none => rw [hoj] at ht; cases ht
            | some oj =>
              rw [hoj] at ht
              simp only [Array.any_eq_true] at ht
              obtain ⟨k, hk, hke⟩ := ht
              simp only [Bool.and_eq_true, beq_iff_eq] at hke
              have h1 := hWt j oj hoj hc _ (Array.getElem_mem hk) hke.1
              rw [hke.2] at h1
              have hil : i < listed.size := by omega
              simp [Array.getD_eq_getD_getElem?, hil] at hl h1
              rw [h1] at hl
              cases hl
        rw [if_neg (by rw [hlj]; decide)] at hdt
        exact hdt

theorem wp_region_known {id : Nat} {a0 : Act} {w : World} (hm : P.follows .mixedOrders = true) (hC : C { w with drawn := w.drawn + 1 }) (hp : plainRegion ops a0.tmps.size = true)
    (step : ∀ (i : Nat) (o : Oper), ops[i]? = some o → ∀ (a : Act) (w : World), C w → (∀ e ∈ o.after, Region.binds .any e = true → ∀ d, (ops[e.on]?).bind (·.dst) = some d → V e.on (a.tmps.getD d undef)) → (∀ t, stillAt .any ops i t = true → a.tmps.getD t undef = a0.tmps.getD t undef) →
      o.wp P a w (fun a' w' => ∃ v, V i v ∧ C w' ∧ a' = a.put o.dst v) Q)
    (hQ : ∀ (a : Act) (w : World), C w → a.defers = a0.defers → a.tmps.size = a0.tmps.size → (∀ t, match whoWrites ops t with | some i => V i (a.tmps.getD t undef) | none => a.tmps.getD t undef = a0.tmps.getD t undef) → Q .normal a w) :
    (Code.region id ops true).wp P Q a0 w := by
  refine wp_region_any hm (wpAny_known a0 hp step hQ ops.size _ a0 _ (by simp) ?_ hC ?_ ⟨rfl, rfl, fun t => ?_⟩)
  · unfold unlisted
    exact Nat.le_trans (List.length_filter_le _ _) (by simp)
  · intro j o _ hlj
    exfalso
    have : (Array.replicate ops.size false).getD j false = false := by
      simp [Array.getD_eq_getD_getElem?, Array.getElem?_replicate]
      split <;> rfl
    rw [this] at hlj
    cases hlj
  · cases hw : whoWrites ops t with
    | none => rfl
    | some i =>
      have : (Array.replicate ops.size false).getD i false = false := by
        simp [Array.getD_eq_getD_getElem?, Array.getElem?_replicate]
        split <;> rfl
      simp only
      rw [if_neg (by rw [this]; decide)]
      trivial

theorem tmps_ext {x y : Array Value} (hs : x.size = y.size) (h : ∀ t, t < y.size → x.getD t undef = y.getD t undef) : x = y := by
  refine Array.ext hs fun i h1 h2 => ?_
  have := h i h2
  simpa [Array.getD_eq_getD_getElem?, h1, h2] using this

/-- values laid into the slots of operations, one after another -/
def puts (a : Act) (l : List (Oper × Value)) : Act := l.foldl (fun a x => a.put x.1.dst x.2) a

theorem puts_spec (t : Nat) : ∀ (l : List (Oper × Value)) (a : Act), (∀ x ∈ l, ∃ d, x.1.dst = some d ∧ d < a.tmps.size) → l.Pairwise (fun x y => x.1.dst ≠ y.1.dst) →
    (puts a l).defers = a.defers ∧ (puts a l).tmps.size = a.tmps.size ∧ (∀ y ∈ l, y.1.dst = some t → (puts a l).tmps.getD t undef = y.2) ∧ ((∀ y ∈ l, y.1.dst ≠ some t) → (puts a l).tmps.getD t undef = a.tmps.getD t undef) := by
  intro l
  induction l with
  | nil => intro a _ _; exact ⟨rfl, rfl, by simp, fun _ => rfl⟩
  | cons x l ih =>
    intro a hd hp
    obtain ⟨d, hxd, hds⟩ := hd x (List.mem_cons_self ..)
    obtain ⟨hx, hp'⟩ := List.pairwise_cons.1 hp
    have hput : a.put x.1.dst x.2 = { a with tmps := a.tmps.setIfInBounds d x.2 } := by rw [hxd]; rfl
    have hsz : (a.put x.1.dst x.2).tmps.size = a.tmps.size := by rw [hput]; simp
    obtain ⟨i1, i2, i3, i4⟩ := ih (a.put x.1.dst x.2) (fun y hy => by
      obtain ⟨e, he, hes⟩ := hd y (List.mem_cons_of_mem _ hy)
      exact ⟨e, he, by rw [hsz]; exact hes⟩) hp'
    have hstep : puts a (x :: l) = puts (a.put x.1.dst x.2) l := rfl
    rw [hstep]
    refine ⟨by rw [i1, hput], by rw [i2, hsz], ?_, ?_⟩
    · intro y hy hyt
      rcases List.mem_cons.1 hy with rfl | hy
      · rw [i4 (fun z hz hzt => hx z hz (by rw [hyt, hzt])), hput]
        rw [hxd] at hyt
        cases hyt
        simp [Array.getD_eq_getD_getElem?, hds]
      · exact i3 y hy hyt
    · intro hne
      rw [i4 (fun y hy => hne y (List.mem_cons_of_mem _ hy)), hput]
      have htd : d ≠ t := by
        rintro rfl
        exact hne x (List.mem_cons_self ..) hxd
      simp [Array.getD_eq_getD_getElem?, htd]

theorem wp_region_vals {id : Nat} {a0 : Act} {w : World} (hm : P.follows .mixedOrders = true) (hC : C { w with drawn := w.drawn + 1 }) (hp : plainRegion ops a0.tmps.size = true)
    (step : ∀ (i : Nat) (o : Oper), ops[i]? = some o → ∀ (a : Act) (w : World), C w → (∀ e ∈ o.after, Region.binds .any e = true → ∀ d, (ops[e.on]?).bind (·.dst) = some d → V e.on (a.tmps.getD d undef)) → (∀ t, stillAt .any ops i t = true → a.tmps.getD t undef = a0.tmps.getD t undef) →
      o.wp P a w (fun a' w' => ∃ v, V i v ∧ C w' ∧ a' = a.put o.dst v) Q)
    (hQ : ∀ (vals : List Value) (w : World), C w → vals.length = ops.size → (∀ i, i < ops.size → V i (vals.getD i undef)) → Q .normal (puts a0 (ops.toList.zip vals)) w) :
    (Code.region id ops true).wp P Q a0 w := by
  refine wp_region_known (V := V) hm hC hp step fun A W hW hA hB hall => ?_
  have hdst : ∀ i (hi : i < ops.size), ∃ d, ops[i].dst = some d ∧ d < a0.tmps.size ∧ whoWrites ops d = some i := by
    intro i hi
    obtain ⟨_, h, _⟩ := plainRegion_at hp (show ops[i]? = some ops[i] by simp [hi])
    exact h
  let vals : List Value := (List.range ops.size).map fun i => A.tmps.getD (((ops[i]?).bind (·.dst)).getD 0) undef
  have hlen : vals.length = ops.size := by simp [vals]
  have hval : ∀ i (hi : i < ops.size) d, ops[i].dst = some d → vals.getD i undef = A.tmps.getD d undef := by
    intro i hi d hd
    simp [vals, List.getD, hi, hd]
  have hV : ∀ i, i < ops.size → V i (vals.getD i undef) := by
    intro i hi
    obtain ⟨d, h1, h2, h3⟩ := hdst i hi
    rw [hval i hi d h1]
    have := hall d
    rw [h3] at this
    exact this
  have hmem : ∀ x ∈ ops.toList.zip vals, ∃ i, ∃ hi : i < ops.size, x = (ops[i], vals.getD i undef) := by
    intro x hx
    obtain ⟨i, hi, rfl⟩ := List.getElem_of_mem hx
    have hi' : i < ops.size := by simp at hi; omega
    refine ⟨i, hi', ?_⟩
    have hiv : i < vals.length := by omega
    simp [List.getElem_zip, List.getD, hiv]
  have hpw : (ops.toList.zip vals).Pairwise (fun x y => x.1.dst ≠ y.1.dst) := by
    rw [List.pairwise_iff_getElem]
    intro i j hi hj hij
    have hi' : i < ops.size := by simp at hi; omega
    have hj' : j < ops.size := by simp at hj; omega
    simp only [List.getElem_zip]
    obtain ⟨d, h1, _, h3⟩ := hdst i hi'
    obtain ⟨d', h1', _, h3'⟩ := hdst j hj'
    have e1 : (ops.toList[i]'(by simpa using hi')).dst = some d := by simpa using h1
    have e2 : (ops.toList[j]'(by simpa using hj')).dst = some d' := by simpa using h1'
    rw [e1, e2]
    intro h
    cases h
    rw [h3] at h3'
    cases h3'
    omega
  have hds : ∀ x ∈ ops.toList.zip vals, ∃ d, x.1.dst = some d ∧ d < a0.tmps.size := by
    intro x hx
    obtain ⟨i, hi, rfl⟩ := hmem x hx
    obtain ⟨d, h1, h2, _⟩ := hdst i hi
    exact ⟨d, h1, h2⟩
  have hA' : A = puts a0 (ops.toList.zip vals) := by
    obtain ⟨s1, s2, _, _⟩ := puts_spec 0 _ a0 hds hpw
    have ht : A.tmps = (puts a0 (ops.toList.zip vals)).tmps := by
      refine tmps_ext (by rw [hB, s2]) fun t _ => ?_
      obtain ⟨_, _, s3, s4⟩ := puts_spec t _ a0 hds hpw
      have := hall t
      cases hw : whoWrites ops t with
      | none =>
        rw [hw] at this
        rw [s4 fun y hy hyt => ?_]
        · exact this
        · obtain ⟨i, hi, rfl⟩ := hmem y hy
          obtain ⟨d, h1, _, h3⟩ := hdst i hi
          rw [h1] at hyt
          cases hyt
          rw [hw] at h3
          cases h3
      | some i =>
        obtain ⟨o, ho, hot⟩ := whoWrites_inj hw
        have hi : i < ops.size := (Array.getElem?_eq_some_iff.1 ho).1
        have hoi : ops[i] = o := (Array.getElem?_eq_some_iff.1 ho).2
        have hz : (ops[i], vals.getD i undef) ∈ ops.toList.zip vals := by
          have hiv : i < vals.length := by omega
          rw [List.mem_iff_getElem]
          refine ⟨i, by simp; omega, ?_⟩
          simp [List.getElem_zip, List.getD, hiv]
        rw [s3 _ hz (by rw [hoi]; exact hot)]
        exact (hval i hi t (by rw [hoi]; exact hot)).symm
    cases A
    simp only at ht hA
    cases hpp : puts a0 (ops.toList.zip vals)
    rw [hpp] at ht s1
    simp only at ht s1
    rw [ht, hA, s1]
  rw [hA']
  exact hQ vals W hW hlen hV

theorem stepK {i : Nat} {o : Oper} {A : Act} {W : World} (v : Value) (W' : World) (hv : V i v) (hC : C W') (h : ∀ K : Act → World → Prop, K (A.put o.dst v) W' → o.wp P A W K Q) :
    o.wp P A W (fun a' w' => ∃ v, V i v ∧ C w' ∧ a' = A.put o.dst v) Q := h _ ⟨v, hv, hC, rfl⟩
end
end Go
