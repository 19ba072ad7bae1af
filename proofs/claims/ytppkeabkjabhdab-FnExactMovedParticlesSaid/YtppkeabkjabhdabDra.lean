/-
  Particles and weights that are such, and particles drawn by weights, in both. Conditions: the lists read as lists of numbers.
-/
import Derived.Test.YtppkeabkjabhdabAsc
import Derived.Test.YtppkeabkjabhdabHld
import Derived.Test.YtppkeabkjabhdabCrW
import Derived.Test.YtppkeabkjabhdabCrI0
import Derived.Deep.RegionHeld3
namespace We
open Go Flt Dec F32 Cm
def cl0 (L : List Nat) : Bool := decide (1 ≤ L.length ∧ L.length ≤ 64) && finL L
def wd0 (L W : List Nat) : Bool := cl0 L && (decide (W.length = L.length) && W.all nng)
theorem cl_parts {L : List Nat} (h : cl0 L = true) : (1 ≤ L.length ∧ L.length ≤ 64) ∧ finL L = true := by unfold cl0 at h; rw [Bool.and_eq_true, decide_eq_true_eq] at h; exact h
theorem wd_parts {L W : List Nat} (h : wd0 L W = true) : cl0 L = true ∧ W.length = L.length ∧ W.all nng = true := by
  unfold wd0 at h; simp only [Bool.and_eq_true, decide_eq_true_eq] at h; exact h
theorem nng_finL {W : List Nat} (h : W.all nng = true) : finL W = true := all_from fun _ hk => nng_fin (all_get h hk)
/-- the bar of the i-th one -/
def daR (n sh i : Nat) (tot : Option Nat) : Option Nat := F32.opO .mul (F32.opO .quo (F32.opO .add (fi i) (some sh)) (fi n)) tot
/-- is the sum up to this place above the bar -/
def daQ (W : List Nat) (bar : Option Nat) (k : Nat) : Bool := cmpO .gt (sm (at_ W) (k + 1)) bar
/-- the first place, or the last one -/
def fstP (p : Nat → Bool) : Nat → Nat → Nat
  | 0, n => n - 1
  | m + 1, n => if p (n - (m + 1)) then n - (m + 1) else fstP p m n
def daK (W : List Nat) (bar : Option Nat) : Nat := fstP (daQ W bar) W.length W.length
theorem fstP_at {p : Nat → Bool} {n : Nat} : ∀ m, m ≤ n → ∀ k, n - m ≤ k → k < n → p k = true → (∀ j, n - m ≤ j → j < k → p j = false) → fstP p m n = k
  | 0, _, _, h1, h2, _, _ => by omega
  | m + 1, hm, k, h1, h2, h3, h4 => by
    unfold fstP
    by_cases e : k = n - (m + 1)
    · subst e; rw [if_pos h3]
    · rw [if_neg (by rw [h4 (n - (m + 1)) (Nat.le_refl _) (by omega)]; decide)]
      exact fstP_at m (by omega) k (by omega) h2 h3 fun j a b => h4 j (by omega) b
theorem fstP_none {p : Nat → Bool} {n : Nat} : ∀ m, m ≤ n → (∀ j, n - m ≤ j → j < n → p j = false) → fstP p m n = n - 1
  | 0, _, _ => rfl
  | m + 1, hm, h => by
    unfold fstP
    rw [if_neg (by rw [h (n - (m + 1)) (Nat.le_refl _) (by omega)]; decide)]
    exact fstP_none m (by omega) fun j a b => h j (by omega) b
theorem daK_at {W : List Nat} {bar : Option Nat} {k : Nat} (hk : k < W.length) (h : daQ W bar k = true) (g : ∀ j, j < k → daQ W bar j = false) : daK W bar = k :=
  fstP_at W.length (Nat.le_refl _) k (by omega) hk h fun j _ hj => g j hj
theorem daK_none {W : List Nat} {bar : Option Nat} (g : ∀ j, j < W.length → daQ W bar j = false) : daK W bar = W.length - 1 :=
  fstP_none W.length (Nat.le_refl _) fun j _ hj => g j hj
theorem daK_lt {W : List Nat} {bar : Option Nat} (hl : 1 ≤ W.length) : daK W bar < W.length := by
  have key : ∀ m, m ≤ W.length → fstP (daQ W bar) m W.length < W.length := by
    intro m
    induction m with
    | zero => intro _; show W.length - 1 < _; omega
    | succ m ih => intro h; unfold fstP; split; omega; exact ih (by omega)
  exact key _ (Nat.le_refl _)
def daT (W : List Nat) : Option Nat := sm (at_ W) W.length
def posO (o : Option Nat) : Bool := match o with | some v => pos v | none => false
theorem pos_is {o : Option Nat} {v : Nat} (h : Is o v) : pos v = posO o := by
  cases o with
  | none => show (fin .f32 v && _) = false; rw [nan_fin h]; rfl
  | some u => obtain ⟨rfl, _, _⟩ := h; rfl
def da0 (L W : List Nat) (sh : Nat) : Bool := wd0 L W && (shr sh && posO (daT W))
def daA (L W : List Nat) (sh : Nat) : List Nat := if da0 L W sh then (List.range L.length).map fun i => L.getD (daK W (daR L.length sh i (daT W))) 0 else []
theorem daA_len (L W : List Nat) (sh : Nat) : (daA L W sh).length ≤ 1023 := by
  unfold daA
  split
  · rename_i h
    unfold da0 at h
    rw [Bool.and_eq_true] at h
    have := (cl_parts (wd_parts h.1).1).1
    simp; omega
  · exact Nat.zero_le _
theorem da_no {L W : List Nat} {sh : Nat} (h : da0 L W sh = false) : daA L W sh = [] := by unfold daA; rw [h]; rfl
theorem da_w {L W : List Nat} {sh : Nat} (h : wd0 L W = false) : da0 L W sh = false := by unfold da0; rw [h]; rfl
theorem da_s {L W : List Nat} {sh : Nat} (h : shr sh = false) : da0 L W sh = false := by unfold da0; rw [h]; simp
theorem da_t {L W : List Nat} {sh : Nat} (h : posO (daT W) = false) : da0 L W sh = false := by unfold da0; rw [h]; simp
theorem da_yes {L W : List Nat} {sh : Nat} (h1 : wd0 L W = true) (h2 : shr sh = true) (h3 : posO (daT W) = true) : da0 L W sh = true := by unfold da0; rw [h1, h2, h3]; rfl
theorem daA_yes {L W : List Nat} {sh n : Nat} (h : da0 L W sh = true) (hn : L.length = n) {Z : List Nat} (hz : Z.length = n) (g : ∀ i, i < n → Z.getD i 0 = L.getD (daK W (daR n sh i (daT W))) 0) : daA L W sh = Z := by
  unfold daA
  rw [h, if_pos rfl]
  refine List.ext_getElem (by simp [hn, hz]) fun i h1 h2 => ?_
  have := g i (by omega)
  rw [show Z.getD i 0 = Z[i] from by simp [List.getD, h2]] at this
  simp only [List.getElem_map, List.getElem_range]
  rw [hn, this]
theorem shr_is {s : Nat} (h : shr s = true) (hs : s < 4294967296) : Is (some s) s := by
  refine ⟨rfl, ?_, hs⟩
  cases hn : nan .f32 s with
  | false => rfl
  | true =>
    unfold shr gq at h
    rw [order_nan .f32 s 0 (.inl hn)] at h
    cases h
end We
namespace Go.Proofs.Ytppkeabkjabhdab
open Go.RowKit Flt Dec Cm We Cr Liv Hld
set_option maxRecDepth 100000 in
theorem sCloud_any (a : Option Addr) (len cap : Nat) (L : List Nat) (w : World) (h : FRow w a len L) :
    Calls Try.prog 42 #[.slice a len cap] w fun e w' => e = .returned (.bool (cl0 L)) ∧ Drawn w w' := by
  have HT := Lib.hid h
  have HL := Lib.hid h.1
  clear h
  by_cases hl : 1 ≤ len ∧ len ≤ 64
  · have HB : Hid ((L.all fun z => fin .f32 z) = cl0 L) := by show _ = _; unfold cl0; rw [HL.out, decide_eq_true hl]; rfl
    have q1 : (len : Int) ≥ 1 := by omega
    have q2 : (len : Int) ≤ 64 := by omega
    go_enter Try.func42, Try.ntmps42
    go_wp2_with fail
    refine (specFinD_any a len cap L _ HT.out (by omega)).mono ?_
    rintro e w1 ⟨rfl, d1⟩
    rw [HB.out]
    have D := Lib.hid d1
    clear d1
    go_wp2_with fail
    go_ret
    exact ⟨rfl, D.out⟩
  · have HB : Hid (cl0 L = false) := by show _ = _; unfold cl0; rw [HL.out, decide_eq_false hl]; rfl
    by_cases q1 : (len : Int) ≥ 1
    all_goals
      go_enter Try.func42, Try.ntmps42
      go_wp2_with fail
      go_ret
      exact ⟨congrArg (fun b => Ending.returned (.bool b)) HB.out.symm, Drawn.refl _⟩
set_option maxRecDepth 100000 in
theorem iCloud_any (a : Option Addr) (len cap : Nat) (L : List Nat) (w : World) (h : FRow w a len L) :
    Calls Try.prog 43 #[.slice a len cap] w fun e w' => e = .returned (.bool (cl0 L)) ∧ Drawn w w' := by
  have HT := Lib.hid h
  have HL := Lib.hid h.1
  clear h
  by_cases hl : 1 ≤ len ∧ len ≤ 64
  · have HB : Hid ((L.all fun z => fin .f32 z) = cl0 L) := by show _ = _; unfold cl0; rw [HL.out, decide_eq_true hl]; rfl
    have q1 : (len : Int) ≥ 1 := by omega
    have q2 : (len : Int) ≤ 64 := by omega
    go_enter Try.func43, Try.ntmps43
    go_wp2_with fail
    refine (areFinD_any a len cap L _ HT.out).mono ?_
    rintro e w1 ⟨rfl, d1⟩
    rw [HB.out]
    have D := Lib.hid d1
    clear d1
    go_wp2_with fail
    go_ret
    exact ⟨rfl, D.out⟩
  · have HB : Hid (cl0 L = false) := by show _ = _; unfold cl0; rw [HL.out, decide_eq_false hl]; rfl
    by_cases q1 : (len : Int) ≥ 1
    all_goals
      go_enter Try.func43, Try.ntmps43
      go_wp2_with fail
      go_ret
      exact ⟨congrArg (fun b => Ending.returned (.bool b)) HB.out.symm, Drawn.refl _⟩
set_option maxRecDepth 100000 in
theorem iWeighed_any (a : Option Addr) (la ca : Nat) (L : List Nat) (b : Option Addr) (lb cb : Nat) (W : List Nat) (w : World) (h : FRow w a la L) (g : FRow w b lb W) :
    Calls Try.prog 47 #[.slice a la ca, .slice b lb cb] w fun e w' => e = .returned (.bool (wd0 L W)) ∧ Drawn w w' := by
  have HT := Lib.hid h
  have HV := Lib.hid g
  have HLa := Lib.hid h.1
  have HLb := Lib.hid g.1
  clear h g
  cases h1 : cl0 L with
  | false =>
    have HB : Hid (wd0 L W = false) := by show _ = _; unfold wd0; rw [h1]; rfl
    have H1 := Lib.hid h1
    clear h1
    go_enter Try.func47, Try.ntmps47
    go_wp2_with fail
    refine (iCloud_any a la ca L _ HT.out).mono ?_
    rintro e w1 ⟨rfl, d1⟩
    rw [H1.out]
    have D := Lib.hid d1
    clear d1
    go_wp2_with fail
    go_ret
    exact ⟨congrArg (fun b => Ending.returned (.bool b)) HB.out.symm, D.out⟩
  | true =>
    have H1 := Lib.hid h1
    by_cases hl : lb = la
    · subst hl
      have q : ((lb : Int) == (lb : Int)) = true := by simp
      have HB : Hid ((W.all nng) = wd0 L W) := by show _ = _; unfold wd0; rw [h1, decide_eq_true (show W.length = L.length by rw [HLa.out, HLb.out])]; rfl
      clear h1
      go_enter Try.func47, Try.ntmps47
      go_wp2_with fail
      refine (iCloud_any a lb ca L _ HT.out).mono ?_
      rintro e w1 ⟨rfl, d1⟩
      rw [H1.out]
      have D := Lib.hid d1
      clear d1
      go_wp2_with fail
      refine (someBelow_any b lb cb W _ (frow_drawn HV.out D.out)).mono ?_
      rintro e w2 ⟨rfl, d2⟩
      rw [HB.out]
      have D2 := Lib.hid (D.out.trans d2)
      clear d2
      go_wp2_with fail
      go_ret
      exact ⟨rfl, D2.out⟩
    · have q : ((lb : Int) == (la : Int)) = false := by simp; omega
      have HB : Hid (wd0 L W = false) := by show _ = _; unfold wd0; rw [decide_eq_false (show ¬ W.length = L.length by rw [HLa.out, HLb.out]; exact hl)]; simp
      clear h1 hl
      go_enter Try.func47, Try.ntmps47
      go_wp2_with fail
      refine (iCloud_any a la ca L _ HT.out).mono ?_
      rintro e w1 ⟨rfl, d1⟩
      rw [H1.out]
      have D := Lib.hid d1
      clear d1
      go_wp2_with fail
      go_ret
      exact ⟨congrArg (fun b => Ending.returned (.bool b)) HB.out.symm, D.out⟩
set_option maxRecDepth 100000 in
set_option maxHeartbeats 1600000 in
theorem sWeighed_any (a : Option Addr) (la ca : Nat) (L : List Nat) (b : Option Addr) (lb cb : Nat) (W : List Nat) (w : World) (h : FRow w a la L) (g : FRow w b lb W) :
    Calls Try.prog 44 #[.slice a la ca, .slice b lb cb] w fun e w' => e = .returned (.bool (wd0 L W)) ∧ Drawn w w' := by
  have HT := Lib.hid h
  have HV := Lib.hid g
  have HLa := Lib.hid h.1
  have HLb := Lib.hid g.1
  clear h g
  cases h1 : cl0 L with
  | false =>
    have HB : Hid (wd0 L W = false) := by show _ = _; unfold wd0; rw [h1]; rfl
    have H1 := Lib.hid h1
    clear h1
    go_enter Try.func44, Try.ntmps44
    go_wp2_with fail
    refine (sCloud_any a la ca L _ HT.out).mono ?_
    rintro e w1 ⟨rfl, d1⟩
    rw [H1.out]
    have D := Lib.hid d1
    clear d1
    go_wp2_with fail
    go_ret
    exact ⟨congrArg (fun b => Ending.returned (.bool b)) HB.out.symm, D.out⟩
  | true =>
    have H1 := Lib.hid h1
    by_cases hl : lb = la
    · subst hl
      have hlb := (cl_parts h1).1
      rw [HLa.out] at hlb
      have q : ((lb : Int) != (lb : Int)) = false := by simp
      have HBY : Hid ((∀ k, k < lb → nng (W.getD k 0) = true) → wd0 L W = true) := Lib.hid fun g => by unfold wd0; rw [h1, decide_eq_true (show W.length = L.length by rw [HLa.out, HLb.out]), all_from (by rw [HLb.out]; exact g)]; rfl
      have HBN : Hid (∀ k, k < lb → nng (W.getD k 0) = false → wd0 L W = false) := Lib.hid fun k hk g => by unfold wd0; rw [all_false (by rw [HLb.out]; exact hk) g]; simp
      clear h1
      go_enter Try.func44, Try.ntmps44
      go_wp2_with fail
      refine (sCloud_any a lb ca L _ HT.out).mono ?_
      rintro e w1 ⟨rfl, d1⟩
      rw [H1.out]
      have D := Lib.hid d1
      clear d1
      go_wp2_with fail
      go_loopg [18] lb (fun n i wr => ∃ k : Nat, i = .int .i64 (k : Int) ∧ Hid (k + n = lb) ∧ k ≤ lb ∧ Hid (∀ j, j < k → nng (W.getD j 0) = true) ∧ Hid (Drawn w wr))
      case atStart => exact ⟨0, rfl, by show _ = _; omega, Nat.zero_le _, (show Hid _ from fun j hj => absurd hj (Nat.not_lt_zero _)), D.out⟩
      case round =>
        clear D
        obtain ⟨k, rfl, hk, hkl, hA, hD⟩ := hrel
        by_cases hlt : k < lb
        · have HJ : Hid (k + 1 + (gk - 1) = lb) := by have := hk.out; show _ = _; omega
          have HG : Hid (gk - 1 < gk) := by have := hk.out; show _ < _; omega
          obtain ⟨b1, o1, rfl, hb1, hc1⟩ := (frow_drawn HV.out hD.out).2.2.2 k hlt
          have HNK := Lib.hid (HBN.out k hlt)
          have HYK : Hid (nng (W.getD k 0) = true → ∀ j, j < k + 1 → nng (W.getD j 0) = true) := Lib.hid fun hq j hj => by
            by_cases e : j = k
            · subst e; exact hq
            · exact hA.out j (by omega)
          generalize W.getD k 0 = z at *
          clear hb1
          cases hq : nng z with
          | false =>
            have HQ := Lib.hid hq
            have HN := Lib.hid (HNK.out hq)
            clear hq
            go_wp2_with fail
            refine (c_specLeast z _).mono ?_
            rintro e w2 ⟨rfl, d2⟩
            rw [HQ.out]
            have D2 := Lib.hid (hD.out.trans d2)
            clear d2
            go_wp2_with fail
            go_ret
            exact ⟨congrArg (fun b => Ending.returned (.bool b)) HN.out.symm, D2.out⟩
          | true =>
            have HQ := Lib.hid hq
            have HX := Lib.hid (HYK.out hq)
            clear hq
            go_wp2_with fail
            refine (c_specLeast z _).mono ?_
            rintro e w2 ⟨rfl, d2⟩
            rw [HQ.out]
            have D2 := Lib.hid (hD.out.trans d2)
            clear d2
            go_wp2_with fail
            go_roundg (gk - 1)
            case measure => exact HG.out
            case rel => exact ⟨k + 1, by go_num, HJ, by omega, HX.out, D2.out⟩
        · obtain rfl : k = lb := by omega
          have HY := Lib.hid (HBY.out hA.out)
          clear hlt hk
          go_wp2_with fail
          go_ret
          exact ⟨congrArg (fun b => Ending.returned (.bool b)) HY.out.symm, hD.out⟩
    · have q : ((lb : Int) != (la : Int)) = true := by simp; omega
      have HB : Hid (wd0 L W = false) := by show _ = _; unfold wd0; rw [decide_eq_false (show ¬ W.length = L.length by rw [HLa.out, HLb.out]; exact hl)]; simp
      clear h1 hl
      go_enter Try.func44, Try.ntmps44
      go_wp2_with fail
      refine (sCloud_any a la ca L _ HT.out).mono ?_
      rintro e w1 ⟨rfl, d1⟩
      rw [H1.out]
      have D := Lib.hid d1
      clear d1
      go_wp2_with fail
      go_ret
      exact ⟨congrArg (fun b => Ending.returned (.bool b)) HB.out.symm, D.out⟩
set_option maxHeartbeats 1600000 in
theorem firstAbove_any (b : Option Addr) (len cap : Nat) (W : List Nat) (bar : Nat) (o : Option Nat) (w : World) (g : FRow w b len W) (hW : W.all nng = true) (hl : 1 ≤ len ∧ len ≤ 64) (ho : F32.Is o bar) :
    Calls Try.prog 56 #[.slice b len cap, .float .f32 bar] w fun e w' => e = .returned (.int .i64 ((daK W o : Nat) : Int)) ∧ Drawn w w' := by
  have HV := Lib.hid g
  have HL := Lib.hid g.1
  have HO := Lib.hid ho
  have HWI : Hid (∀ k, k < len → F32.Is (at_ W k) (W.getD k 0)) := Lib.hid fun k hk => at_is (nng_finL hW) g hk
  obtain ⟨K, hK⟩ : ∃ k, daK W o = k := ⟨_, rfl⟩
  have HK := Lib.hid hK
  rw [hK]
  clear g hW ho hK
  go_enter Try.func56, Try.ntmps56
  go_wp2_with fail
  go_loopg [5, 10] len (fun n s i wr => ∃ k x : Nat, s = .float .f32 x ∧ i = .int .i64 (k : Int) ∧ Hid (k + n = len) ∧ k ≤ len ∧ Hid (F32.Is (sm (at_ W) k) x) ∧ Hid (∀ j, j < k → daQ W o j = false) ∧ Hid (Drawn w wr))
  case atStart => exact ⟨0, 0, rfl, rfl, by show _ = _; omega, Nat.zero_le _, zero_is, (show Hid _ from fun j hj => absurd hj (Nat.not_lt_zero _)), Drawn.refl _⟩
  case round =>
    obtain ⟨k, x, rfl, rfl, hk, hkl, hX, hA, hD⟩ := hrel
    by_cases hlt : k < len
    · have HJ : Hid (k + 1 + (gk - 1) = len) := by have := hk.out; show _ = _; omega
      have HG : Hid (gk - 1 < gk) := by have := hk.out; show _ < _; omega
      obtain ⟨b1, o1, rfl, hb1, hc1⟩ := (frow_drawn HV.out hD.out).2.2.2 k hlt
      have i1 := HWI.out k hlt
      generalize W.getD k 0 = z at *
      obtain ⟨x1, v1, r1, j1, l1, e1⟩ := F32.arith_ex (P := Try.prog) (op := .add) (.inl rfl) 22 hX.out i1 wr
      have DD := Lib.hid e1
      have J1 : Hid (F32.Is (sm (at_ W) (k + 1)) x1) := j1
      have hq := cmp_is .gt J1.out HO.out
      have DR := Lib.hid (hD.out.trans DD.out)
      clear j1 l1 e1
      clear hb1 i1 hX hD DD
      cases hc : cmpO .gt (sm (at_ W) (k + 1)) o with
      | true =>
        rw [hc] at hq
        have HE : Hid (k = K) := by show _ = _; rw [← HK.out]; exact (daK_at (by rw [HL.out]; exact hlt) hc hA.out).symm
        clear hc
        go_wp2_with fail
        go_ret
        exact ⟨by rw [← HE.out] <;> rfl, DR.out⟩
      | false =>
        rw [hc] at hq
        have HAN : Hid (∀ j, j < k + 1 → daQ W o j = false) := Lib.hid fun j hj => by
          by_cases e : j = k
          · subst e; exact hc
          · exact hA.out j (by omega)
        clear hc
        go_wp2_with fail
        go_roundg (gk - 1)
        case measure => exact HG.out
        case rel => exact ⟨k + 1, x1, rfl, by go_num, HJ, by omega, J1.out, HAN.out, DR.out⟩
    · obtain rfl : k = len := by omega
      obtain ⟨m, rfl⟩ : ∃ m, k = m + 1 := ⟨k - 1, by omega⟩
      have HE : Hid (m = K) := by show _ = _; rw [← HK.out, daK_none (by rw [HL.out]; exact hA.out), HL.out]; rfl
      clear hlt hk
      go_wp2_with fail
      go_ret
      exact ⟨by rw [← HE.out] <;> first | rfl | (congr 2; omega), hD.out⟩
end Go.Proofs.Ytppkeabkjabhdab
