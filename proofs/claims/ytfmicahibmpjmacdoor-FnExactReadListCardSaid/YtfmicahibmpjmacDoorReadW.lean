/-
  Decimal numerals read back, in the program and in its model, and the walk of the exact law of ReadDecimal. Conditions: arguments fit their kind; the library's own variables hold what their initialisers lay.
-/
import Derived.Test.YtfmicahibmpjmacDoorDecL
import Derived.Lib.ParseIntBCases
import Derived.Lib.ParseIntBTie
import Derived.Lib.AtoiErrMem
namespace Dec
open Go
def isD (b : UInt8) : Bool := decide (48 ≤ b.toNat) && decide (b.toNat ≤ 57)
def dstep (n : Nat) (b : UInt8) : Nat := if isD b then 10 * n + (b.toNat - 48) else n
def dval (l : List UInt8) : Nat := l.foldl dstep 0
theorem dval_snoc (l : List UInt8) (b : UInt8) : dval (l ++ [b]) = dstep (dval l) b := by unfold dval; rw [List.foldl_append]; rfl
theorem dval_lt (l : List UInt8) : dval l < 10 ^ l.length := by
  have : ∀ (l : List UInt8) (n k : Nat), n < 10 ^ k → l.foldl dstep n < 10 ^ (k + l.length) := by
    intro l
    induction l with
    | nil => intro n k h; exact h
    | cons b l ih =>
      intro n k h
      have h2 : dstep n b < 10 ^ (k + 1) := by
        unfold dstep isD
        rw [Nat.pow_succ]
        split
        · rename_i hd
          simp at hd
          omega
        · omega
      have := ih _ _ h2
      simpa [Nat.add_assoc, Nat.add_comm, Nat.add_left_comm] using this
  have h := this l 0 0 (by decide)
  rw [Nat.zero_add] at h
  exact h
def rval (l : List UInt8) : Int := if l.head? = some 45 then -(dval l : Int) else dval l
/-- the number with a numeral, where it is one of those that the document writes -/
def goodV (l : List UInt8) : Prop := 1 ≤ l.length ∧ l.length ≤ 17 ∧ -1000000000000000 ≤ rval l ∧ rval l ≤ 1000000000000000 ∧ Lib.itoa (rval l) = l
instance (l : List UInt8) : Decidable (goodV l) := by unfold goodV; infer_instance
def rdN (l : List UInt8) : Int := if goodV l then rval l else 0
theorem decDigits_ind {P : Nat → List UInt8 → Prop} (h1 : ∀ u, u < 10 → P u [UInt8.ofNat (48 + u)]) (h2 : ∀ u A, ¬ u < 10 → P (u / 10) A → P u (A ++ [UInt8.ofNat (48 + u % 10)])) : ∀ u, P u (Lib.decDigits u) := by
  intro u
  induction u using Nat.strongRecOn with
  | _ u ih =>
    by_cases h : u < 10
    · rw [Lib.decDigits, dif_pos h]; exact h1 u h
    · rw [Lib.decDigits, dif_neg h]; exact h2 u _ h (ih (u / 10) (by omega))
theorem of48 {k : Nat} (h : k < 10) : (UInt8.ofNat (48 + k)).toNat = 48 + k := by rw [UInt8.toNat_ofNat']; omega
theorem dval_dec : ∀ u, dval (Lib.decDigits u) = u := by
  refine decDigits_ind (P := fun u l => dval l = u) (fun u h => ?_) (fun u A h ih => ?_)
  · unfold dval dstep isD
    simp only [List.foldl_cons, List.foldl_nil, of48 h]
    simp
    omega
  · rw [dval_snoc, ih]
    unfold dstep isD
    have : u % 10 < 10 := Nat.mod_lt _ (by decide)
    rw [of48 this, if_pos (by simp; omega)]
    omega
theorem dec_len : ∀ u k, u < 10 ^ (k + 1) → (Lib.decDigits u).length ≤ k + 1 := by
  refine decDigits_ind (P := fun u l => ∀ k, u < 10 ^ (k + 1) → l.length ≤ k + 1) (fun u h k _ => by simp) (fun u A h ih k hk => ?_)
  cases k with
  | zero => simp at hk; omega
  | succ k =>
    have := ih k (by rw [Nat.pow_succ] at hk; omega)
    simp
    omega
theorem dec_digits : ∀ u, ∀ b ∈ Lib.decDigits u, isD b = true := by
  refine decDigits_ind (P := fun u l => ∀ b ∈ l, isD b = true) (fun u h b hb => ?_) (fun u A h ih b hb => ?_)
  · rw [List.mem_singleton] at hb
    subst hb
    unfold isD
    rw [of48 h]
    simp
    omega
  · rcases List.mem_append.1 hb with hb | hb
    · exact ih b hb
    · rw [List.mem_singleton] at hb
      subst hb
      unfold isD
      rw [of48 (Nat.mod_lt _ (by decide))]
      have : u % 10 < 10 := Nat.mod_lt _ (by decide)
      simp
      omega
theorem dec_ne (u : Nat) : Lib.decDigits u ≠ [] := by rw [Lib.decDigits]; split <;> simp
theorem dec_head (u : Nat) : (Lib.decDigits u).head? ≠ some 45 := by
  intro h
  cases hd : Lib.decDigits u with
  | nil => exact dec_ne u hd
  | cons b l =>
    rw [hd] at h
    simp at h
    subst h
    have := dec_digits u 45 (by rw [hd]; exact List.mem_cons_self ..)
    exact absurd this (by decide)
theorem rval_itoa (n : Int) : rval (Lib.itoa n) = n := by
  unfold Lib.itoa rval
  by_cases h : n < 0
  · rw [if_pos h, List.head?_cons, if_pos rfl]
    have : dval (45 :: Lib.decDigits n.natAbs) = dval (Lib.decDigits n.natAbs) := rfl
    rw [this, dval_dec]
    omega
  · rw [if_neg h, if_neg (dec_head _), dval_dec]
    omega
theorem itoa_len {n : Int} (h0 : -1000000000000000 ≤ n) (h1 : n ≤ 1000000000000000) : 1 ≤ (Lib.itoa n).length ∧ (Lib.itoa n).length ≤ 17 := by
  unfold Lib.itoa
  split
  · have := dec_len n.natAbs 15 (by omega)
    simp
    omega
  · have := dec_len n.toNat 15 (by omega)
    have h2 := dec_ne n.toNat
    have h3 : (Lib.decDigits n.toNat).length ≠ 0 := fun e => h2 (List.eq_nil_of_length_eq_zero e)
    omega
theorem goodV_itoa {n : Int} (h0 : -1000000000000000 ≤ n) (h1 : n ≤ 1000000000000000) : goodV (Lib.itoa n) := by
  obtain ⟨a, b⟩ := itoa_len h0 h1
  unfold goodV
  rw [rval_itoa]
  exact ⟨a, b, h0, h1, rfl⟩
theorem parseM_append (M : Nat) : ∀ (A : List UInt8) (acc : Nat) (B : List UInt8) (v : Nat), Lib.parseUintM M acc A = .ok v → Lib.parseUintM M acc (A ++ B) = Lib.parseUintM M v B := by
  intro A
  induction A with
  | nil => intro acc B v h; simp [Lib.parseUintM] at h; subst h; rfl
  | cons c A ih =>
    intro acc B v h
    simp only [List.cons_append, Lib.parseUintM] at h ⊢
    split at h
    · rename_i hc
      rw [if_pos hc]
      split at h
      · cases h
      · rename_i h1
        rw [if_neg h1]
        split at h
        · cases h
        · rename_i h2
          rw [if_neg h2]
          exact ih _ _ _ h
    · cases h
theorem parseM_dec : ∀ u, u ≤ 1000000000000000 → Lib.parseUintM (2 ^ 64 - 1) 0 (Lib.decDigits u) = .ok u := by
  refine decDigits_ind (P := fun u l => u ≤ 1000000000000000 → Lib.parseUintM (2 ^ 64 - 1) 0 l = .ok u) (fun u h _ => ?_) (fun u A h ih hu => ?_)
  · simp only [Lib.parseUintM, of48 h]
    rw [if_pos (by omega), if_neg (by omega), if_neg (by omega)]
    congr 1
    omega
  · rw [parseM_append _ _ _ _ _ (ih (by omega))]
    have h10 : u % 10 < 10 := Nat.mod_lt _ (by decide)
    simp only [Lib.parseUintM, of48 h10]
    rw [if_pos (by omega), if_neg (by omega), if_neg (by omega)]
    congr 1
    omega
theorem parse_itoa {n : Int} (h0 : -1000000000000000 ≤ n) (h1 : n ≤ 1000000000000000) : Lib.parseIntB 64 (Lib.itoa n) = .ok n := by
  unfold Lib.itoa
  by_cases h : n < 0
  · rw [if_pos h]
    have hp := parseM_dec n.natAbs (by omega)
    rw [Lib.parseIntB_minus]
    unfold Lib.parseUintB
    rw [if_neg (dec_ne _), hp]
    show (if 2 ^ (64 - 1) < n.natAbs then Lib.NumEnd.range else .ok (-(n.natAbs : Int))) = _
    rw [if_neg (by omega)]
    congr 1
    omega
  · rw [if_neg h]
    have hp := parseM_dec n.toNat (by omega)
    cases hd : Lib.decDigits n.toNat with
    | nil => exact absurd hd (dec_ne _)
    | cons b l =>
      have hb := dec_digits n.toNat b (by rw [hd]; exact List.mem_cons_self ..)
      unfold isD at hb
      simp at hb
      rw [hd] at hp
      have n43 : b.toNat ≠ 43 := by omega
      have n45 : b.toNat ≠ 45 := by omega
      rw [Lib.parseIntB_plain 64 b l n43 n45]
      unfold Lib.parseUintB
      rw [if_neg (by simp), hp]
      show (if 2 ^ (64 - 1) ≤ n.toNat then Lib.NumEnd.range else .ok (n.toNat : Int)) = _
      rw [if_neg (by omega)]
      congr 1
      omega
end Dec
namespace Go.Proofs.YtfmicahibmpjmacDoor
open Go.RowKit Dec
theorem l00In_any (x a b : Int) (w : World) : Calls Tryd.prog 46 #[.int .i64 x, .int .i64 a, .int .i64 b] w fun e w' => e = .returned (.bool (decide (a ≤ x ∧ x ≤ b))) ∧ w = w' := by
  by_cases h1 : a ≤ x
  · have hf : Hid (decide (a ≤ x ∧ x ≤ b) = decide (x ≤ b)) := by show _ = _; simp [h1]
    go_enter Tryd.func46, Tryd.ntmps46
    go_wp2
    go_ret
    exact ⟨by rw [hf.out]; rfl, rfl⟩
  · have hf : Hid (decide (a ≤ x ∧ x ≤ b) = false) := by show _ = _; simp [h1]
    have h1' : decide (a ≤ x) = false := by simpa using h1
    rw [hf.out]
    go_enter Tryd.func46, Tryd.ntmps46
    go_wp2
    go_ret
    exact ⟨rfl, rfl⟩
theorem take_sn (s : ByteArray) (k : Nat) (h : k < s.size) : s.data.toList.take (k + 1) = s.data.toList.take k ++ [s[k]] := by
  rw [List.take_succ_eq_append_getElem (by simpa using h)]; rfl
theorem head_of (s : ByteArray) (h : 0 < s.size) : s.data.toList.head? = some s[0] := by
  rw [List.head?_eq_getElem?, List.getElem?_eq_getElem (by simpa using h)]; rfl
def rdR (l : List UInt8) : Value := .tuple #[.int .i64 (rdN l), .bool (decide (goodV l))]
theorem rdR_no {l : List UInt8} (h : ¬ goodV l) : rdR l = .tuple #[.int .i64 0, .bool false] := by unfold rdR rdN; rw [if_neg h, decide_eq_false h]
theorem rdR_yes {l : List UInt8} (h : goodV l) : rdR l = .tuple #[.int .i64 (rval l), .bool true] := by unfold rdR rdN; rw [if_pos h, decide_eq_true h]
theorem bytes_eq {l : List UInt8} {s : ByteArray} (h : l = s.data.toList) : (⟨l.toArray⟩ : ByteArray) = s := by
  subst h; rfl
theorem bytes_ne {l : List UInt8} {s : ByteArray} (h : l ≠ s.data.toList) : ((⟨l.toArray⟩ : ByteArray).toList == s.toList) = false := by
  rw [ByteArray.toList_eq, ByteArray.toList_eq]
  simpa using h
set_option maxHeartbeats 1600000 in
theorem specVal_any (s : ByteArray) (hs : s.size ≤ 1048576) (w : World) :
    Calls Tryd.prog 31 #[.string s] w fun e w' => e = .returned (rdR s.data.toList) ∧ Below w.heap.size w w' := by
  have hlen : s.data.toList.length = s.size := by simp
  by_cases hz : 1 ≤ s.size ∧ s.size ≤ 17
  · obtain ⟨hz1, hz2⟩ := hz
    go_enter Tryd.func31, Tryd.ntmps31
    go_wp2_with fail
    go_loopg [4, 5] s.size (fun m n i wr => ∃ k : Nat, i = .int .i64 k ∧ n = .int .i64 (dval (s.data.toList.take k) : Nat) ∧ Hid (k + m = s.size) ∧ k ≤ s.size ∧ w = wr)
    case atStart => exact ⟨0, rfl, rfl, by show _ = _; omega, Nat.zero_le _, rfl⟩
    case round =>
      obtain ⟨k, rfl, rfl, hk, hkl, rfl⟩ := hrel
      have hb : dval (s.data.toList.take k) < 100000000000000000 := by
        have h1 := dval_lt (s.data.toList.take k)
        have h2 : (s.data.toList.take k).length ≤ 17 := by simp; omega
        exact Nat.lt_of_lt_of_le h1 (Nat.pow_le_pow_right (by decide) h2)
      by_cases hlt : k < s.size
      · have HJ : Hid (k + 1 + (gk - 1) = s.size) := by have := hk.out; show _ = _; omega
        have HG : Hid (gk - 1 < gk) := by have := hk.out; show _ < _; omega
        have HS : Hid (dval (s.data.toList.take (k + 1)) = dstep (dval (s.data.toList.take k)) s[k]) := by
          show _ = _
          rw [take_sn s k hlt, dval_snoc]
        have hc : s[k].toNat < 256 := UInt8.toNat_lt _
        clear hlen
        by_cases h1 : s[k].toNat < 48
        · have HD : Hid (dval (s.data.toList.take (k + 1)) = dval (s.data.toList.take k)) := by
            show _ = _
            rw [HS.out]; unfold dstep isD; rw [if_neg (by simp; omega)]
          generalize dval (s.data.toList.take k) = v at *
          go_wp2_with fail
          go_roundg (gk - 1)
          case measure => exact HG.out
          case rel => exact ⟨k + 1, by go_num, by rw [HD.out], HJ, by omega, rfl⟩
        · by_cases h2 : 57 < s[k].toNat
          · have HD : Hid (dval (s.data.toList.take (k + 1)) = dval (s.data.toList.take k)) := by
              show _ = _
              rw [HS.out]; unfold dstep isD; rw [if_neg (by simp; omega)]
            generalize dval (s.data.toList.take k) = v at *
            go_wp2_with fail
            go_roundg (gk - 1)
            case measure => exact HG.out
            case rel => exact ⟨k + 1, by go_num, by rw [HD.out], HJ, by omega, rfl⟩
          · have HD : Hid (dval (s.data.toList.take (k + 1)) = 10 * dval (s.data.toList.take k) + (s[k].toNat - 48)) := by
              show _ = _
              rw [HS.out]; unfold dstep isD; rw [if_pos (by simp; omega)]
            generalize dval (s.data.toList.take k) = v at *
            go_wp2_with fail
            go_roundg (gk - 1)
            case measure => exact HG.out
            case rel => exact ⟨k + 1, by go_num, by rw [HD.out]; congr 1; omega, HJ, by omega, rfl⟩
      · obtain rfl : k = s.size := by omega
        have hh : s.data.toList.head? = some s[0] := head_of s (by omega)
        have htk : s.data.toList.take s.size = s.data.toList := List.take_of_length_le (by rw [hlen]; exact Nat.le_refl _)
        rw [htk] at hb ⊢
        have HR : Hid (rval s.data.toList = if s[0].toNat = 45 then -(dval s.data.toList : Int) else dval s.data.toList) := by
          show _ = _
          unfold rval
          rw [hh]
          by_cases h45 : s[0].toNat = 45
          · rw [if_pos h45, if_pos (by rw [show s[0] = 45 from UInt8.toNat_inj.1 h45])]
          · rw [if_neg h45, if_neg (by intro e; apply h45; rw [Option.some.inj e]; rfl)]
        have HGd : Hid (∀ v, rval s.data.toList = v → (goodV s.data.toList ↔ (-1000000000000000 ≤ v ∧ v ≤ 1000000000000000) ∧ Lib.itoa v = s.data.toList)) := by
          intro v hv
          unfold goodV
          rw [hv, hlen]
          constructor
          · rintro ⟨_, _, a, b, c⟩; exact ⟨⟨a, b⟩, c⟩
          · rintro ⟨⟨a, b⟩, c⟩; exact ⟨hz1, hz2, a, b, c⟩
        have hc : s[0].toNat < 256 := UInt8.toNat_lt _
        clear hh htk hlen hlt
        generalize dval s.data.toList = v at *
        by_cases h45 : s[0].toNat = 45
        · have hv : Hid (rval s.data.toList = -(v : Int)) := by show _ = _; rw [HR.out, if_pos h45]
          by_cases hin : -1000000000000000 ≤ (-(v : Int)) ∧ (-(v : Int)) ≤ 1000000000000000
          · have hdi : Hid (decide (-1000000000000000 ≤ (-(v : Int)) ∧ (-(v : Int)) ≤ 1000000000000000) = true) := decide_eq_true hin
            by_cases hit : Lib.itoa (-(v : Int)) = s.data.toList
            · have hg : goodV s.data.toList := (HGd.out _ hv.out).2 ⟨hin, hit⟩
              have HRES := Lib.hid (rdR_yes hg)
              rw [hv.out] at HRES
              have hbe := Lib.hid (bytes_eq hit)
              have hx : (s.toList == s.toList) = true := by simp
              clear hin hit hg
              go_wp2_with fail
              refine (l00In_any _ _ _ _).mono ?_
              rintro e w1 ⟨rfl, rfl⟩
              rw [hdi.out]
              go_wp2_with fail
              refine (l01Dec_any (-(v : Int)) _ (by omega) (by omega)).mono ?_
              rintro e w2 ⟨rfl, b2⟩
              have B2 := Lib.hid b2
              clear b2
              rw [hbe.out]
              go_wp2_with fail
              go_ret2
              exact ⟨by rw [HRES.out] <;> rfl, B2.out⟩
            · have hg : ¬ goodV s.data.toList := fun h => hit ((HGd.out _ hv.out).1 h).2
              have HRES := Lib.hid (rdR_no hg)
              have hbe := bytes_ne hit
              clear hin hit hg
              go_wp2_with fail
              refine (l00In_any _ _ _ _).mono ?_
              rintro e w1 ⟨rfl, rfl⟩
              rw [hdi.out]
              go_wp2_with fail
              refine (l01Dec_any (-(v : Int)) _ (by omega) (by omega)).mono ?_
              rintro e w2 ⟨rfl, b2⟩
              have B2 := Lib.hid b2
              clear b2
              generalize (⟨(Lib.itoa (-(v : Int))).toArray⟩ : ByteArray) = T at *
              go_wp2_with fail
              go_ret2
              exact ⟨by rw [HRES.out] <;> rfl, B2.out⟩
          · have hdi : Hid (decide (-1000000000000000 ≤ (-(v : Int)) ∧ (-(v : Int)) ≤ 1000000000000000) = false) := decide_eq_false hin
            have hg : ¬ goodV s.data.toList := fun h => hin ((HGd.out _ hv.out).1 h).1
            have HRES := Lib.hid (rdR_no hg)
            clear hin hg
            go_wp2_with fail
            refine (l00In_any _ _ _ _).mono ?_
            rintro e w1 ⟨rfl, rfl⟩
            rw [hdi.out]
            go_wp2_with fail
            go_ret2
            exact ⟨by rw [HRES.out] <;> rfl, Below.refl _ _⟩
        · have hv : Hid (rval s.data.toList = (v : Int)) := by show _ = _; rw [HR.out, if_neg h45]
          by_cases hin : -1000000000000000 ≤ ((v : Int)) ∧ ((v : Int)) ≤ 1000000000000000
          · have hdi : Hid (decide (-1000000000000000 ≤ ((v : Int)) ∧ ((v : Int)) ≤ 1000000000000000) = true) := decide_eq_true hin
            by_cases hit : Lib.itoa ((v : Int)) = s.data.toList
            · have hg : goodV s.data.toList := (HGd.out _ hv.out).2 ⟨hin, hit⟩
              have HRES := Lib.hid (rdR_yes hg)
              rw [hv.out] at HRES
              have hbe := Lib.hid (bytes_eq hit)
              have hx : (s.toList == s.toList) = true := by simp
              clear hin hit hg
              go_wp2_with fail
              refine (l00In_any _ _ _ _).mono ?_
              rintro e w1 ⟨rfl, rfl⟩
              rw [hdi.out]
              go_wp2_with fail
              refine (l01Dec_any ((v : Int)) _ (by omega) (by omega)).mono ?_
              rintro e w2 ⟨rfl, b2⟩
              have B2 := Lib.hid b2
              clear b2
              rw [hbe.out]
              go_wp2_with fail
              go_ret2
              exact ⟨by rw [HRES.out] <;> rfl, B2.out⟩
            · have hg : ¬ goodV s.data.toList := fun h => hit ((HGd.out _ hv.out).1 h).2
              have HRES := Lib.hid (rdR_no hg)
              have hbe := bytes_ne hit
              clear hin hit hg
              go_wp2_with fail
              refine (l00In_any _ _ _ _).mono ?_
              rintro e w1 ⟨rfl, rfl⟩
              rw [hdi.out]
              go_wp2_with fail
              refine (l01Dec_any ((v : Int)) _ (by omega) (by omega)).mono ?_
              rintro e w2 ⟨rfl, b2⟩
              have B2 := Lib.hid b2
              clear b2
              generalize (⟨(Lib.itoa ((v : Int))).toArray⟩ : ByteArray) = T at *
              go_wp2_with fail
              go_ret2
              exact ⟨by rw [HRES.out] <;> rfl, B2.out⟩
          · have hdi : Hid (decide (-1000000000000000 ≤ ((v : Int)) ∧ ((v : Int)) ≤ 1000000000000000) = false) := decide_eq_false hin
            have hg : ¬ goodV s.data.toList := fun h => hin ((HGd.out _ hv.out).1 h).1
            have HRES := Lib.hid (rdR_no hg)
            clear hin hg
            go_wp2_with fail
            refine (l00In_any _ _ _ _).mono ?_
            rintro e w1 ⟨rfl, rfl⟩
            rw [hdi.out]
            go_wp2_with fail
            go_ret2
            exact ⟨by rw [HRES.out] <;> rfl, Below.refl _ _⟩
  · have hno : ¬ goodV s.data.toList := by
      unfold goodV
      rw [hlen]
      rintro ⟨a, b, _⟩
      exact hz ⟨a, b⟩
    rw [rdR_no hno]
    clear hno hlen
    by_cases h1 : s.size < 1
    · clear hz
      go_enter Tryd.func31, Tryd.ntmps31
      go_wp2_with fail
      go_ret2
      exact ⟨rfl, Below.refl _ _⟩
    · have h2 : 17 < s.size := by omega
      clear hz
      go_enter Tryd.func31, Tryd.ntmps31
      go_wp2_with fail
      go_ret2
      exact ⟨rfl, Below.refl _ _⟩
theorem specRead_any (s : ByteArray) (hs : s.size ≤ 1048576) (w : World) :
    Calls Tryd.prog 15 #[.string s] w fun e w' => e = .returned (rdR s.data.toList) ∧ Below w.heap.size w w' := by
  go_enter Tryd.func15, Tryd.ntmps15
  go_wp2_with fail
  refine (specVal_any s hs _).mono ?_
  rintro e w1 ⟨rfl, b⟩
  have B := Lib.hid b
  clear b
  have HR : ∃ n g, rdR s.data.toList = .tuple #[.int .i64 n, .bool g] := ⟨_, _, rfl⟩
  obtain ⟨n, g, hng⟩ := HR
  have HN := Lib.hid hng
  rw [hng]
  clear hng
  go_wp2_with fail
  go_ret2
  exact ⟨by rw [HN.out] <;> rfl, B.out⟩
/-- a variable of the library's that holds an error -/
def ErrAt (g : Nat) (w : World) : Prop := ∃ ev, w.cell? ⟨g, 0, none⟩ = some ev ∧ (ev = .nilIface ∨ ∃ te pe, ev = .iface te pe)
theorem ErrAt.keep {g : Nat} {w w' : World} (h : ErrAt g w) (hb : Below w.heap.size w w') : ErrAt g w' := by
  obtain ⟨ev, h1, h2⟩ := h
  refine ⟨ev, ?_, h2⟩
  have hlt : g < w.heap.size := by
    refine Nat.lt_of_not_le fun hle => ?_
    unfold World.cell? at h1
    rw [Array.getElem?_eq_none hle] at h1
    cases h1
  rw [World.cell?_of_block (w := w) (hb.block g hlt)]
  exact h1
def Errs (w : World) : Prop := ErrAt 2 w ∧ ErrAt 3 w
theorem isVal_any (x : Int) (w : World) : Calls Tryd.prog 33 #[.int .i64 x] w fun e w' => e = .returned (.bool (decide (-1000000000000000 ≤ x ∧ x ≤ 1000000000000000))) ∧ w = w' := by
  by_cases h1 : -1000000000000000 ≤ x
  · have hf : Hid (decide (-1000000000000000 ≤ x ∧ x ≤ 1000000000000000) = decide (x ≤ 1000000000000000)) := by show _ = _; simp [h1]
    go_enter Tryd.func33, Tryd.ntmps33
    go_wp2
    go_ret
    exact ⟨by rw [hf.out]; rfl, rfl⟩
  · have hf : Hid (decide (-1000000000000000 ≤ x ∧ x ≤ 1000000000000000) = false) := by show _ = _; simp [h1]
    rw [hf.out]
    go_enter Tryd.func33, Tryd.ntmps33
    go_wp2
    go_ret
    exact ⟨rfl, rfl⟩
set_option maxHeartbeats 1600000 in
theorem implRead_any (s : ByteArray) (hs : s.size ≤ 1048576) (w : World) (ht : Tab w) (he : Errs w) :
    Calls Tryd.prog 16 #[.string s] w fun e w' => e = .returned (rdR s.data.toList) ∧ Below w.heap.size w w' := by
  have HT := Lib.hid ht
  have HE := Lib.hid he
  clear ht he
  cases hp : Lib.parseIntB 64 s.data.toList with
  | ok v =>
    have hvb := Lib.parseIntB_bounds hp
    have hv0 : -9223372036854775808 ≤ v ∧ v ≤ 9223372036854775807 := by have := hvb; simp at this; omega
    obtain ⟨v0, v1⟩ := hv0
    clear hvb
    have hok : Calls Tryd.prog 32 #[.string s, .int .i64 10, .int .i64 64] w fun e w' => e = .returned (.tuple #[.int .i64 v, .nilIface]) ∧ Below w.heap.size w w' := by
      refine (Tryd.strconv_ParseInt_10_at64_ok s (by omega) v hp w).mono ?_
      rintro e w' ⟨rfl, rfl | ⟨t, rfl⟩⟩
      · exact ⟨rfl, Below.refl _ _⟩
      · exact ⟨rfl, Lib.bytesWorld_below w _ t⟩
    have HOK := Lib.hid hok
    clear hok
    by_cases hin : -1000000000000000 ≤ v ∧ v ≤ 1000000000000000
    · have hdi : Hid (decide (-1000000000000000 ≤ v ∧ v ≤ 1000000000000000) = true) := decide_eq_true hin
      by_cases hit : Lib.itoa v = s.data.toList
      · have hg : goodV s.data.toList := by rw [← hit]; exact goodV_itoa hin.1 hin.2
        have HRES := Lib.hid (rdR_yes hg)
        have hrv : rval s.data.toList = v := by rw [← hit]; exact rval_itoa v
        rw [hrv] at HRES
        have hbe := Lib.hid (bytes_eq hit)
        have hx : (s.toList == s.toList) = true := by simp
        clear hin hit hg hp hrv
        go_enter Tryd.func16, Tryd.ntmps16
        go_wp2_with fail
        refine HOK.out.mono ?_
        rintro e w1 ⟨rfl, b1⟩
        have B1 := Lib.hid b1
        have HT1 := Lib.hid (HT.out.keep b1)
        clear b1
        go_wp2_with fail
        refine (isVal_any v _).mono ?_
        rintro e w2 ⟨rfl, rfl⟩
        rw [hdi.out]
        go_wp2_with fail
        refine (implDec_any v _ HT1.out v0 v1).mono ?_
        rintro e w3 ⟨rfl, b3⟩
        have B3 := Lib.hid (B1.out.trans (b3.mono B1.out.size))
        clear b3
        rw [hbe.out]
        go_wp2_with fail
        go_ret2
        exact ⟨by rw [HRES.out] <;> rfl, B3.out⟩
      · have hg : ¬ goodV s.data.toList := by
          intro h
          have h2 := h
          obtain ⟨_, _, a, b, c⟩ := h2
          have := parse_itoa a b
          rw [c, hp] at this
          injection this with this
          exact hit (by rw [this]; exact c)
        have HRES := Lib.hid (rdR_no hg)
        have hbe := bytes_ne hit
        clear hin hit hg hp
        go_enter Tryd.func16, Tryd.ntmps16
        go_wp2_with fail
        refine HOK.out.mono ?_
        rintro e w1 ⟨rfl, b1⟩
        have B1 := Lib.hid b1
        have HT1 := Lib.hid (HT.out.keep b1)
        clear b1
        go_wp2_with fail
        refine (isVal_any v _).mono ?_
        rintro e w2 ⟨rfl, rfl⟩
        rw [hdi.out]
        go_wp2_with fail
        refine (implDec_any v _ HT1.out v0 v1).mono ?_
        rintro e w3 ⟨rfl, b3⟩
        have B3 := Lib.hid (B1.out.trans (b3.mono B1.out.size))
        clear b3
        generalize (⟨(Lib.itoa v).toArray⟩ : ByteArray) = T at *
        go_wp2_with fail
        go_ret2
        exact ⟨by rw [HRES.out] <;> rfl, B3.out⟩
    · have hdi : Hid (decide (-1000000000000000 ≤ v ∧ v ≤ 1000000000000000) = false) := decide_eq_false hin
      have hg : ¬ goodV s.data.toList := by
        intro h
        obtain ⟨_, _, a, b, c⟩ := h
        have := parse_itoa a b
        rw [c, hp] at this
        injection this with this
        exact hin (by rw [this]; exact ⟨a, b⟩)
      have HRES := Lib.hid (rdR_no hg)
      clear hin hg hp
      go_enter Tryd.func16, Tryd.ntmps16
      go_wp2_with fail
      refine HOK.out.mono ?_
      rintro e w1 ⟨rfl, b1⟩
      have B1 := Lib.hid b1
      clear b1
      go_wp2_with fail
      refine (isVal_any v _).mono ?_
      rintro e w2 ⟨rfl, rfl⟩
      rw [hdi.out]
      go_wp2_with fail
      go_ret2
      exact ⟨by rw [HRES.out] <;> rfl, B1.out⟩
  | «syntax» =>
    have hg : ¬ goodV s.data.toList := by
      intro h
      obtain ⟨_, _, a, b, c⟩ := h
      have := parse_itoa a b
      rw [c, hp] at this
      cases this
    have HRES := Lib.hid (rdR_no hg)
    have hok : Calls Tryd.prog 32 #[.string s, .int .i64 10, .int .i64 64] w fun e w' => ∃ n N, e = .returned (.tuple #[.int .i64 n, .iface 86 (.pointer (some ⟨N, 0, none⟩))]) ∧ Below w.heap.size w w' := by
      obtain ⟨ev, h1, h2⟩ := HE.out.1
      refine (Tryd.strconv_ParseInt_10_at64_syntax s (by omega) hp ev w h1 h2).mono ?_
      rintro e w' ⟨N, rfl, _, _, b⟩
      exact ⟨_, N, rfl, b⟩
    have HOK := Lib.hid hok
    clear hok hg hp
    go_enter Tryd.func16, Tryd.ntmps16
    go_wp2_with fail
    refine HOK.out.mono ?_
    rintro e w1 ⟨n, N, rfl, b1⟩
    have B1 := Lib.hid b1
    clear b1
    go_wp2_with fail
    go_ret2
    exact ⟨by rw [HRES.out] <;> rfl, B1.out⟩
  | range =>
    have hg : ¬ goodV s.data.toList := by
      intro h
      obtain ⟨_, _, a, b, c⟩ := h
      have := parse_itoa a b
      rw [c, hp] at this
      cases this
    have HRES := Lib.hid (rdR_no hg)
    have hok : Calls Tryd.prog 32 #[.string s, .int .i64 10, .int .i64 64] w fun e w' => ∃ n N, e = .returned (.tuple #[.int .i64 n, .iface 86 (.pointer (some ⟨N, 0, none⟩))]) ∧ Below w.heap.size w w' := by
      obtain ⟨ev, h1, h2⟩ := HE.out.2
      refine (Tryd.strconv_ParseInt_10_at64_range s (by omega) hp ev w h1 h2).mono ?_
      rintro e w' ⟨N, rfl, _, _, b⟩
      exact ⟨_, N, rfl, b⟩
    have HOK := Lib.hid hok
    clear hok hg hp
    go_enter Tryd.func16, Tryd.ntmps16
    go_wp2_with fail
    refine HOK.out.mono ?_
    rintro e w1 ⟨n, N, rfl, b1⟩
    have B1 := Lib.hid b1
    clear b1
    go_wp2_with fail
    go_ret2
    exact ⟨by rw [HRES.out] <;> rfl, B1.out⟩
def fnExactReadDecimal_wants (w : World) : Prop := Tab w ∧ Errs w
theorem fnExactReadDecimal_walk (s : ByteArray) (_ws : s.size ≤ maxLen) (w : World) (ht : fnExactReadDecimal_wants w) :
    Calls Tryd.prog 5 #[.string s] w fun e w' => e = .returned (.bool true) ∧ Below w.heap.size w w' := by
  have HT := Lib.hid ht
  clear ht
  by_cases hs : s.size ≤ 1048576
  · have hx : ∀ x : Bool, (x != x) = false := by simp
    go_enter Tryd.func5, Tryd.ntmps5
    go_wp2_with fail
    refine (specRead_any s hs _).mono ?_
    rintro e w1 ⟨rfl, b1⟩
    have B1 := Lib.hid b1
    have HT1 := Lib.hid (And.intro (HT.out.1.keep b1) (And.intro (HT.out.2.1.keep b1) (HT.out.2.2.keep b1)))
    clear b1
    unfold rdR
    generalize hrd : rdN s.data.toList = n at *
    generalize hgd : decide (goodV s.data.toList) = g at *
    go_wp2_with fail
    refine (implRead_any s hs _ HT1.out.1 HT1.out.2).mono ?_
    rintro e w2 ⟨rfl, b2⟩
    have B2 := Lib.hid (B1.out.trans (b2.mono B1.out.size))
    clear b2
    unfold rdR
    rw [hrd, hgd]
    clear hrd hgd
    go_wp2_with fail
    go_ret
    exact ⟨rfl, B2.out⟩
  · go_enter Tryd.func5, Tryd.ntmps5
    go_wp2
    go_ret
    exact ⟨rfl, Below.refl _ _⟩
end Go.Proofs.YtfmicahibmpjmacDoor
