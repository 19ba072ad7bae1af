/-
  A region that draws its order, walked once: its first operations are known by predicates on their values alone, and may draw; one of them may make a block; those behind them wait for all of these and follow in their order. Conditions: the first ones have no guards, and each writes a slot of its own.
-/
import Derived.Test.YtemdgfjcjjadnabRgn
import Derived.StillTail
namespace Go
section
variable {P : Program} {ops : Array Oper} {Q : Exit → Act → World → Prop} {md : Region.Mode} {C : Bool → World → Prop} {V : Nat → Value → Prop}

def plainHead (ops : Array Oper) (n size : Nat) : Bool :=
  decide (n < ops.size) && (List.range n).all fun i => match ops[i]? with
    | none => false
    | some o => o.guard.isNone && (match o.dst with | some d => decide (d < size) && (whoWrites ops d == some i) | none => false) && o.after.all fun e => decide (e.on < i)
theorem plainHead_lt {n size : Nat} (h : plainHead ops n size = true) : n < ops.size := by
  unfold plainHead at h
  rw [Bool.and_eq_true] at h
  exact of_decide_eq_true h.1
theorem plainHead_at {n size : Nat} (h : plainHead ops n size = true) {i : Nat} {o : Oper} (hi : ops[i]? = some o) (hin : i < n) :
    o.guard = none ∧ (∃ d, o.dst = some d ∧ d < size ∧ whoWrites ops d = some i) ∧ ∀ e ∈ o.after, e.on < i := by
  unfold plainHead at h
  rw [Bool.and_eq_true] at h
  have h' := List.all_eq_true.1 h.2 i (List.mem_range.2 hin)
  rw [hi] at h'
  simp only [Bool.and_eq_true] at h'
  obtain ⟨⟨h1, h2⟩, h3⟩ := h'
  refine ⟨by simpa using h1, ?_, ?_⟩
  · cases hd : o.dst with
    | none => rw [hd] at h2; cases h2
    | some d =>
      rw [hd] at h2
      simp only [Bool.and_eq_true, decide_eq_true_eq, beq_iff_eq] at h2
      exact ⟨d, rfl, h2.1, h2.2⟩
  · intro e he
    rw [Array.all_eq_true] at h3
    obtain ⟨k, hk, rfl⟩ := Array.getElem_of_mem he
    simpa using h3 k hk
theorem DoneAt.putH {n : Nat} {a0 a : Act} {listed : Array Bool} (hp : plainHead ops n a0.tmps.size = true) (h : DoneAt ops a0 V listed a) {i : Nat} {o : Oper} (hi : ops[i]? = some o) (hin : i < n) (hl : i < listed.size) {v : Value} (hv : V i v) :
    DoneAt ops a0 V (listed.setIfInBounds i true) (a.put o.dst v) := by
  obtain ⟨_, ⟨d, hd, hds, hw⟩, _⟩ := plainHead_at hp hi hin
  obtain ⟨h1, h2, h3⟩ := h
  have hput : a.put o.dst v = { a with tmps := a.tmps.setIfInBounds d v } := by rw [hd]; rfl
  rw [hput]
  refine ⟨h1, by simpa using h2, fun t => ?_⟩
  have ht := h3 t
  by_cases htd : t = d
  · subst htd
    rw [hw]
    have e1 : (listed.setIfInBounds i true).getD i false = true := by simp [Array.getD_eq_getD_getElem?, hl]
    have e2 : (a.tmps.setIfInBounds t v).getD t undef = v := by simp [Array.getD_eq_getD_getElem?, h2, hds]
    show (if _ then _ else _)
    rw [if_pos e1, e2]; exact hv
  · have e2 : (a.tmps.setIfInBounds d v).getD t undef = a.tmps.getD t undef := by
      simp [Array.getD_eq_getD_getElem?, Ne.symm htd]
    simp only
    rw [e2]
    cases hwt : whoWrites ops t with
    | none => rw [hwt] at ht; exact ht
    | some j =>
      rw [hwt] at ht
      have hji : j ≠ i := by
        rintro rfl
        obtain ⟨o', ho', hd'⟩ := whoWrites_inj hwt
        rw [hi] at ho'
        cases ho'
        rw [hd] at hd'
        cases hd'
        exact htd rfl
      have e3 : (listed.setIfInBounds i true).getD j false = listed.getD j false := by
        simp [Array.getD_eq_getD_getElem?, Ne.symm hji]
      simp only
      rw [e3]; exact ht
theorem unlisted_head {n i : Nat} {listed : Array Bool} (hs : n ≤ listed.size) (hi : i < n) (h : listed.getD i true = false) : unlisted n (listed.setIfInBounds i true) + 1 = unlisted n listed := by
  unfold unlisted
  have key : ∀ l : List Nat, l.Nodup → (if i ∈ l then 1 else 0) + (l.filter fun j => !(listed.setIfInBounds i true).getD j true).length = (l.filter fun j => !listed.getD j true).length := by
    intro l
    induction l with
    | nil => intro _; simp
    | cons x l ih =>
      intro hn
      obtain ⟨hx, hn'⟩ := List.nodup_cons.1 hn
      have := ih hn'
      by_cases hxi : x = i
      · subst hxi
        have hxl : x < listed.size := by omega
        have e1 : (listed.setIfInBounds x true).getD x true = true := by simp [Array.getD_eq_getD_getElem?, hxl]
        rw [if_neg hx] at this
        rw [if_pos (List.mem_cons_self ..), List.filter_cons_of_neg (by simp [e1]), List.filter_cons_of_pos (by simp [h]), List.length_cons]
        omega
      · have e1 : (listed.setIfInBounds i true).getD x true = listed.getD x true := by
          simp [Array.getD_eq_getD_getElem?, Ne.symm hxi]
        have hm : (i ∈ x :: l) ↔ i ∈ l := by simp [Ne.symm hxi]
        simp only [hm]
        cases hc : listed.getD x true
        · rw [List.filter_cons_of_pos (by simp [e1, hc]), List.filter_cons_of_pos (by simp [hc]), List.length_cons, List.length_cons]; omega
        · rw [List.filter_cons_of_neg (by simp [e1, hc]), List.filter_cons_of_neg (by simp [hc])]; exact this
  have := key (List.range n) List.nodup_range
  rw [if_pos (List.mem_range.2 hi)] at this
  omega
theorem head_listed {n size : Nat} {listed : Array Bool} (hp : plainHead ops n size = true) (hs : listed.size = ops.size) (h : ∀ i, i < n → i ∉ Region.ready md ops listed) : ∀ i, i < n → listed.getD i false = true := by
  have hn := plainHead_lt hp
  intro i
  induction i using Nat.strongRecOn with
  | _ i ih =>
    intro hi
    cases hc : listed.getD i false
    · exfalso
      have his : i < ops.size := by omega
      have ho : ops[i]? = some ops[i] := by simp [his]
      obtain ⟨_, _, hd⟩ := plainHead_at hp ho hi
      refine h i hi (mem_ready.2 ⟨getD_in (by omega) hc, ops[i], ho, fun e he _ => ih _ (hd e he) (by have := hd e he; omega)⟩)
    · rfl
/-- the first ones are done, those behind them are not -/
def headDone (n m : Nat) : Array Bool := (Array.range m).map fun j => decide (j < n)
theorem headDone_size (n m : Nat) : (headDone n m).size = m := by simp [headDone]
theorem listed_head {n : Nat} {listed : Array Bool} (hs : listed.size = ops.size) (h1 : ∀ i, i < n → listed.getD i false = true) (h2 : ∀ t, n ≤ t → t < ops.size → listed.getD t true = false) : listed = headDone n ops.size := by
  refine Array.ext (by rw [hs, headDone_size]) fun i hi hj => ?_
  have e : (headDone n ops.size)[i] = decide (i < n) := by simp [headDone]
  rw [e]
  by_cases hin : i < n
  · have := h1 i hin
    rw [decide_eq_true hin]
    simpa [Array.getD_eq_getD_getElem?, hi] using this
  · have := h2 i (by omega) (by omega)
    rw [decide_eq_false hin]
    simpa [Array.getD_eq_getD_getElem?, hi] using this

/-- THE THEOREM -/
theorem wpAny_head (n m : Nat) (a0 : Act) (hp : plainHead ops n a0.tmps.size = true) (hsk : Region.sinkB md ops n = true) (hch : Region.chainB md ops n = true) (hsq : Region.seqB md ops (ops.size - n) n (headDone n ops.size) = true)
    (step : ∀ (i : Nat) (o : Oper), i < n → ops[i]? = some o → ∀ (a : Act) (w : World) (b : Bool), (i = m → b = false) → C b w → (∀ e ∈ o.after, Region.binds md e = true → ∀ d, (ops[e.on]?).bind (·.dst) = some d → V e.on (a.tmps.getD d undef)) → (∀ t, stillAt md ops i t = true → a.tmps.getD t undef = a0.tmps.getD t undef) →
      o.wp P a w (fun a' w' => ∃ v, V i v ∧ (if i = m then C true w' else C b w') ∧ a' = a.put o.dst v) Q)
    (hT : ∀ (a : Act) (w : World), C (decide (m < n)) w → a.defers = a0.defers → a.tmps.size = a0.tmps.size → (∀ t, match whoWrites ops t with | some i => if i < n then V i (a.tmps.getD t undef) else a.tmps.getD t undef = a0.tmps.getD t undef | none => a.tmps.getD t undef = a0.tmps.getD t undef) → wpList P ops Q (ops.toList.drop n) a w) :
    ∀ (f : Nat) (listed : Array Bool) (a : Act) (w : World), unlisted n listed = f → C (listed.getD m false) w → Waited md ops listed → HeadInv md ops n listed → DoneAt ops a0 V listed a → wpAny P md ops Q (f + (ops.size - n)) listed a w := by
  have hn := plainHead_lt hp
  intro f
  induction f with
  | zero =>
    intro listed a w hu hC hWt hI hD
    have hs := hI.size
    have h1 : ∀ i, i < n → listed.getD i false = true := fun i hi => by
      cases hc : listed.getD i false with
      | true => rfl
      | false =>
        have := unlisted_head (by omega) hi (getD_in (by omega) hc)
        omega
    have he := listed_head hs h1 hI.tail
    subst he
    rw [Nat.zero_add]
    have hlen : (ops.toList.drop n).length = ops.size - n := by simp
    rw [← hlen] at hsq ⊢
    refine wpAny_of_seq (ops.toList.drop n) n _ a w (fun j => by simp [List.getElem?_drop]) hsq ?_
    obtain ⟨d1, d2, d3⟩ := hD
    have hmd : (headDone n ops.size).getD m false = decide (m < n) := by
      by_cases hmn : m < n
      · rw [decide_eq_true hmn, h1 m hmn]
      · rw [decide_eq_false hmn]
        by_cases hms : m < ops.size
        · exact getD_both (hI.tail m (by omega) hms)
        · simp [headDone, Array.getD_eq_getD_getElem?, show ¬ m < ops.size from hms]
    rw [hmd] at hC
    refine hT a w hC d1 d2 fun t => ?_
    have ht := d3 t
    cases hw : whoWrites ops t with
    | none => rw [hw] at ht; exact ht
    | some i =>
      rw [hw] at ht
      obtain ⟨o, ho, _⟩ := whoWrites_inj hw
      have hi : i < ops.size := (Array.getElem?_eq_some_iff.1 ho).1
      simp only at ht ⊢
      by_cases hin : i < n
      · rw [if_pos (h1 i hin)] at ht
        rw [if_pos hin]; exact ht
      · have : (headDone n ops.size).getD i false = false := getD_both (hI.tail i (by omega) hi)
        rw [if_neg (by rw [this]; decide)] at ht
        rw [if_neg hin]; exact ht
  | succ f ih =>
    intro listed a w hu hC hWt hI hD
    have hs := hI.size
    -- one of the first ones is not done yet
    obtain ⟨i0, hi0, hun0⟩ : ∃ i, i < n ∧ listed.getD i true = false := by
      unfold unlisted at hu
      have : ((List.range n).filter fun i => !listed.getD i true) ≠ [] := fun e => by rw [e] at hu; simp at hu
      obtain ⟨x, hx⟩ := List.exists_mem_of_ne_nil _ this
      rw [List.mem_filter, List.mem_range] at hx
      exact ⟨x, hx.1, by simpa using hx.2⟩
    have hlate : ∀ t, n ≤ t → t ∉ Region.ready md ops listed := tail_waits hsk hch hn hI _ i0 rfl hi0 hun0
    rw [show f + 1 + (ops.size - n) = (f + (ops.size - n)) + 1 by omega]
    refine ⟨fun hr => ?_, fun i hi => ?_⟩
    · exfalso
      have := head_listed (md := md) hp hs (fun i _ => by rw [hr]; simp) i0 hi0
      rw [getD_both hun0] at this
      cases this
    · have hin : i < n := by
        rcases Nat.lt_or_ge i n with h | h
        · exact h
        · exact absurd hi (hlate i h)
      obtain ⟨o, ho, hx, hl, hdep⟩ := ready_mem hi
      obtain ⟨hg, ⟨d, hd, _, _⟩, _⟩ := plainHead_at hp ho hin
      unfold wpOp
      rw [ho]
      simp only [Region.wanted, hg, if_true]
      left
      refine Oper.wp_mono ?_ (step i o hin ho a w (listed.getD m false) (fun e => by rw [← e]; exact getD_both hl) hC ?_ ?_)
      · rintro a' w' ⟨v, hv, hC0, rfl⟩
        have hC' : C ((listed.setIfInBounds i true).getD m false) w' := by
          by_cases him : i = m
          · rw [if_pos him] at hC0
            subst him
            have : (listed.setIfInBounds i true).getD i false = true := by simp [Array.getD_eq_getD_getElem?, show i < listed.size by omega]
            rw [this]; exact hC0
          · rw [if_neg him] at hC0
            have : (listed.setIfInBounds i true).getD m false = listed.getD m false := by simp [Array.getD_eq_getD_getElem?, him]
            rw [this]; exact hC0
        refine ih _ _ _ ?_ hC' ?_ (hI.set hi hin) (hD.putH hp ho hin (by omega) hv)
        · have := unlisted_head (by omega) hin hl
          omega
        · have mono : ∀ k, listed.getD k false = true → (listed.setIfInBounds i true).getD k false = true := by
            intro k hk
            by_cases hki : k = i
            · subst hki; simp [Array.getD_eq_getD_getElem?, hs, hx]
            · simp [Array.getD_eq_getD_getElem?, Ne.symm hki] at hk ⊢; exact hk
          intro j oj hj hlj e he hb
          by_cases hji : j = i
          · subst hji
            rw [ho] at hj
            cases hj
            exact mono _ (hdep e he hb)
          · have : listed.getD j false = true := by simpa [Array.getD_eq_getD_getElem?, Ne.symm hji] using hlj
            exact mono _ (hWt j oj hj this e he hb)
      · intro e he hb d hd
        have hlis := hdep e he hb
        have ht := hD.2.2 d
        have hon : ∃ o', ops[e.on]? = some o' ∧ o'.dst = some d := by
          cases h : ops[e.on]? with
          | none => rw [h] at hd; cases hd
          | some o' => rw [h] at hd; exact ⟨o', rfl, hd⟩
        obtain ⟨o', ho', hd'⟩ := hon
        have hlt : e.on < i := (plainHead_at hp ho hin).2.2 e he
        obtain ⟨_, ⟨d2, hd2, _, hw2⟩, _⟩ := plainHead_at hp ho' (by omega)
        rw [hd'] at hd2
        cases hd2
        rw [hw2] at ht
        simp only at ht
        rw [if_pos hlis] at ht
        exact ht
      · intro t ht
        have hdt := hD.2.2 t
        unfold stillAt at ht
        cases hw : whoWrites ops t with
        | none => rw [hw] at hdt; exact hdt
        | some j =>
          rw [hw] at hdt ht
          simp only at ht hdt
          have hlj : listed.getD j false = false := by
            cases hc : listed.getD j false
            · rfl
            · exfalso
              cases hoj : ops[j]? with
              | none => rw [hoj] at ht; cases ht
              | some oj =>
                rw [hoj] at ht
                simp only [Array.any_eq_true] at ht
                obtain ⟨k, hk, hke⟩ := ht
                simp only [Bool.and_eq_true, beq_iff_eq] at hke
                have h1 := hWt j oj hoj hc _ (Array.getElem_mem hk) hke.1
                rw [hke.2] at h1
                have hil : i < listed.size := by omega
                simp [Array.getD_eq_getD_getElem?, hil] at hl h1
                rw [h1] at hl
                cases hl
          rw [if_neg (by rw [hlj]; decide)] at hdt
          exact hdt
theorem unlisted_none (n m : Nat) (h : n ≤ m) : unlisted n (Array.replicate m false) = n := by
  unfold unlisted
  rw [List.filter_eq_self.2 (fun i hi => by
    have hi' := List.mem_range.1 hi
    simp [show i < m by omega])]
  simp
/-- what is asked of the region's form -/
def headRegion (ops : Array Oper) (n size : Nat) : Bool := plainHead ops n size && (Region.sinkB .any ops n && (Region.chainB .any ops n && Region.seqB .any ops (ops.size - n) n (headDone n ops.size)))
theorem wp_region_head (n m : Nat) {id : Nat} {a0 : Act} {w : World} (hm : P.follows .mixedOrders = true) (hC : C false { w with drawn := w.drawn + 1 }) (hp : headRegion ops n a0.tmps.size = true)
    (step : ∀ (i : Nat) (o : Oper), i < n → ops[i]? = some o → ∀ (a : Act) (w : World) (b : Bool), (i = m → b = false) → C b w → (∀ e ∈ o.after, Region.binds .any e = true → ∀ d, (ops[e.on]?).bind (·.dst) = some d → V e.on (a.tmps.getD d undef)) → (∀ t, stillAt .any ops i t = true → a.tmps.getD t undef = a0.tmps.getD t undef) →
      o.wp P a w (fun a' w' => ∃ v, V i v ∧ (if i = m then C true w' else C b w') ∧ a' = a.put o.dst v) Q)
    (hQ : ∀ (vals : List Value) (w : World), C (decide (m < n)) w → vals.length = n → (∀ i, i < n → V i (vals.getD i undef)) → wpList P ops Q (ops.toList.drop n) (puts a0 ((ops.toList.take n).zip vals)) w) :
    (Code.region id ops true).wp P Q a0 w := by
  unfold headRegion at hp
  simp only [Bool.and_eq_true] at hp
  obtain ⟨hp, hsk, hch, hsq⟩ := hp
  have hn := plainHead_lt hp
  refine wp_region_any hm ?_
  have hfu : ops.size = n + (ops.size - n) := by omega
  have key := wpAny_head (C := C) (V := V) n m a0 hp hsk hch hsq step ?_ n (Array.replicate ops.size false) a0 { w with drawn := w.drawn + 1 } (unlisted_none n _ (by omega)) (by rw [getD_replicate_false]; exact hC) ?_ ?_ ?_
  · rw [← hfu] at key; exact key
  · intro A W hW hA hB hall
    have hdst : ∀ i (hi : i < n), ∃ d, (ops[i]'(by omega)).dst = some d ∧ d < a0.tmps.size ∧ whoWrites ops d = some i := by
      intro i hi
      have his : i < ops.size := by omega
      obtain ⟨_, h, _⟩ := plainHead_at hp (show ops[i]? = some ops[i] by simp [his]) hi
      exact h
    let vals : List Value := (List.range n).map fun i => A.tmps.getD (((ops[i]?).bind (·.dst)).getD 0) undef
    have hlen : vals.length = n := by simp [vals]
    have hval : ∀ i (hi : i < n) d, (ops[i]'(by omega)).dst = some d → vals.getD i undef = A.tmps.getD d undef := by
      intro i hi d hd
      have his : i < ops.size := by omega
      simp [vals, List.getD, hi, his, hd]
    have hV : ∀ i, i < n → V i (vals.getD i undef) := by
      intro i hi
      obtain ⟨d, h1, h2, h3⟩ := hdst i hi
      rw [hval i hi d h1]
      have := hall d
      rw [h3] at this
      simp only at this
      rw [if_pos hi] at this
      exact this
    have hmem : ∀ x ∈ (ops.toList.take n).zip vals, ∃ i, ∃ hi : i < n, x = (ops[i]'(by omega), vals.getD i undef) := by
      intro x hx
      obtain ⟨i, hi, rfl⟩ := List.getElem_of_mem hx
      have hi' : i < n := by simp at hi; omega
      refine ⟨i, hi', ?_⟩
      have hiv : i < vals.length := by omega
      simp [List.getElem_zip, List.getD, hiv]
    have hpw : ((ops.toList.take n).zip vals).Pairwise (fun x y => x.1.dst ≠ y.1.dst) := by
      rw [List.pairwise_iff_getElem]
      intro i j hi hj hij
      have hi' : i < n := by simp at hi; omega
      have hj' : j < n := by simp at hj; omega
      simp only [List.getElem_zip, List.getElem_take]
      obtain ⟨d, h1, _, h3⟩ := hdst i hi'
      obtain ⟨d', h1', _, h3'⟩ := hdst j hj'
      have his : i < ops.size := by omega
      have hjs : j < ops.size := by omega
      have e1 : (ops.toList[i]'(by simpa using his)).dst = some d := by simpa using h1
      have e2 : (ops.toList[j]'(by simpa using hjs)).dst = some d' := by simpa using h1'
      rw [e1, e2]
      intro h
      cases h
      rw [h3] at h3'
      cases h3'
      omega
    have hds : ∀ x ∈ (ops.toList.take n).zip vals, ∃ d, x.1.dst = some d ∧ d < a0.tmps.size := by
      intro x hx
      obtain ⟨i, hi, rfl⟩ := hmem x hx
      obtain ⟨d, h1, h2, _⟩ := hdst i hi
      exact ⟨d, h1, h2⟩
    have hA' : A = puts a0 ((ops.toList.take n).zip vals) := by
      obtain ⟨s1, s2, _, _⟩ := puts_spec 0 _ a0 hds hpw
      have ht : A.tmps = (puts a0 ((ops.toList.take n).zip vals)).tmps := by
        refine tmps_ext (by rw [hB, s2]) fun t _ => ?_
        obtain ⟨_, _, s3, s4⟩ := puts_spec t _ a0 hds hpw
        have := hall t
        have hno : ∀ i, whoWrites ops t = some i → ¬ i < n → ∀ y ∈ (ops.toList.take n).zip vals, y.1.dst ≠ some t := by
          intro i hw hin y hy hyt
          obtain ⟨k, hk, rfl⟩ := hmem y hy
          obtain ⟨d, h1, _, h3⟩ := hdst k hk
          rw [h1] at hyt
          cases hyt
          rw [hw] at h3
          cases h3
          exact hin hk
        cases hw : whoWrites ops t with
        | none =>
          rw [hw] at this
          rw [s4 fun y hy hyt => ?_]
          · exact this
          · obtain ⟨i, hi, rfl⟩ := hmem y hy
            obtain ⟨d, h1, _, h3⟩ := hdst i hi
            rw [h1] at hyt
            cases hyt
            rw [hw] at h3
            cases h3
        | some i =>
          rw [hw] at this
          simp only at this
          by_cases hin : i < n
          · obtain ⟨o, ho, hot⟩ := whoWrites_inj hw
            have his : i < ops.size := (Array.getElem?_eq_some_iff.1 ho).1
            have hoi : ops[i] = o := (Array.getElem?_eq_some_iff.1 ho).2
            have hz : (ops[i], vals.getD i undef) ∈ (ops.toList.take n).zip vals := by
              have hiv : i < vals.length := by omega
              rw [List.mem_iff_getElem]
              refine ⟨i, by simp; omega, ?_⟩
              simp [List.getElem_zip, List.getD, hiv]
            rw [s3 _ hz (by rw [hoi]; exact hot)]
            exact (hval i hin t (by rw [hoi]; exact hot)).symm
          · rw [if_neg hin] at this
            rw [s4 (hno i hw hin)]
            exact this
      cases A
      simp only at ht hA
      cases hpp : puts a0 ((ops.toList.take n).zip vals)
      rw [hpp] at ht s1
      simp only at ht s1
      rw [ht, hA, s1]
    rw [hA']
    exact hQ vals W hW hlen hV
  · intro j o _ hlj
    rw [getD_replicate_false] at hlj
    cases hlj
  · refine ⟨by simp, fun j oj _ hl => ?_, fun t _ ht => ?_⟩
    · rw [getD_replicate_false] at hl; cases hl
    · simp [ht]
  · refine ⟨rfl, rfl, fun t => ?_⟩
    cases hw : whoWrites ops t with
    | none => rfl
    | some i =>
      simp only
      rw [if_neg (by rw [getD_replicate_false]; decide)]
      trivial
theorem stepH {i m : Nat} {b : Bool} {o : Oper} {A : Act} {W : World} (v : Value) (W' : World) (hv : V i v) (hC : if i = m then C true W' else C b W') (h : ∀ K : Act → World → Prop, K (A.put o.dst v) W' → o.wp P A W K Q) :
    o.wp P A W (fun a' w' => ∃ v, V i v ∧ (if i = m then C true w' else C b w') ∧ a' = A.put o.dst v) Q := h _ ⟨v, hv, hC, rfl⟩
end
end Go
