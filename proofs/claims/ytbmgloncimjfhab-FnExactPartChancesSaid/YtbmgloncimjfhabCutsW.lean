/-
  Contracts: the cuts of a system, in the program and in its model. Conditions: the lists read as lists of whole numbers.
-/
import Derived.Test.YtbmgloncimjfhabLstW
namespace Syl
open Go Dec
theorem and_two (s j : Nat) : s &&& 2 ^ j = if s.testBit j then 2 ^ j else 0 := by
  apply Nat.eq_of_testBit_eq
  intro i
  rw [Nat.testBit_and, Nat.testBit_two_pow]
  by_cases h : j = i
  · subst h
    cases hs : s.testBit j <;> simp
  · cases hs : s.testBit j <;> simp [h]
theorem bit_part (s j : Nat) (hs : s < 9223372036854775808) (hj : j ≤ 62) : (bits .and .i64 (s : Int) ((2 ^ j : Nat) : Int) != 0) = partB s j := by
  have hp : 2 ^ j < 9223372036854775808 := Nat.lt_of_le_of_lt (Nat.pow_le_pow_right (n := 2) (by decide) hj) (by decide)
  rw [and_nat s _ hs hp, partB_nat s j hs, and_two, Nat.testBit_eq_decide_div_mod_eq]
  have h0 : 0 < 2 ^ j := Nat.two_pow_pos j
  generalize 2 ^ j = q at *
  by_cases h : s / q % 2 = 1
  · rw [decide_eq_true h, if_pos rfl]; simp; omega
  · rw [decide_eq_false h]; simp
def luB (is : Int → Bool) (k j : Nat) : Bool := is k && !(List.range j).any fun i => partB k i && is ((k : Int) - 2 ^ i)
theorem luB_succ (is : Int → Bool) (k j : Nat) : luB is k (j + 1) = (luB is k j && !(partB k j && is ((k : Int) - 2 ^ j))) := by
  unfold luB
  rw [List.range_succ, List.any_append]
  simp [Bool.and_assoc]
theorem luB_false {is : Int → Bool} {k j p : Nat} (h : luB is k j = false) (hj : j ≤ p) : leastAt p is k = false := by
  obtain ⟨d, rfl⟩ := Nat.le.dest hj
  clear hj
  induction d with
  | zero => exact h
  | succ d ih =>
    show luB is k (j + d + 1) = false
    rw [luB_succ]
    have : luB is k (j + d) = false := ih
    rw [this]; rfl
/-- without a set, a system does not work -/
def cutIs (zs : List Int) (whole : Int) (s : Int) : Bool := !worksB zs (whole - s)
def cutL (p : Int) (zs : List Int) : List Int := leastL p.toNat (cutIs zs (two p - 1)) (2 ^ p.toNat)
def cutA (p : Int) (zs : List Int) : List Int := if sysB p zs then cutL p zs else []
theorem cutA_len (p : Int) (zs : List Int) : (cutA p zs).length ≤ 1048576 := by
  unfold cutA
  cases h : sysB p zs with
  | false => simp
  | true =>
    have hp := sysB_parts h
    have := leastL_len p.toNat (cutIs zs (two p - 1)) (2 ^ p.toNat)
    have h2 : 2 ^ p.toNat ≤ 2 ^ 10 := Nat.pow_le_pow_right (by decide) (by omega)
    simp only [↓reduceIte]
    unfold cutL
    omega
/-- with all parts it works -/
theorem works_all {p : Int} {zs : List Int} (h : sysB p zs = true) : worksB zs (two p - 1) = true := by
  have hl := sysB_len h
  have hp := sysB_parts h
  have hb := okAt_bd (sysB_at h (i := 0) (by omega))
  have ht := two_bd p hp.1 hp.2
  have hx : hasB (two p - 1) (zs.getD 0 0) = true := by
    obtain ⟨z, hz⟩ := Int.eq_ofNat_of_zero_le (show 0 ≤ zs.getD 0 0 by omega)
    rw [hz] at hb ⊢
    have e1 : two p - 1 = ((2 ^ p.toNat - 1 : Nat) : Int) := by
      unfold two
      have := Nat.two_pow_pos p.toNat
      rw [Int.natCast_sub (by omega)]; simp
    have h2 : 2 ^ p.toNat ≤ 2 ^ 10 := Nat.pow_le_pow_right (by decide) (by omega)
    rw [e1, hasB_nat _ z (by omega) (by omega)]
    refine decide_eq_true ?_
    rw [Nat.and_comm, Nat.and_two_pow_sub_one_eq_mod]
    refine Nat.mod_eq_of_lt ?_
    have : (z : Int) < two p := hb.2
    unfold two at this
    have e2 : ((2 ^ p.toNat : Nat) : Int) = (2 : Int) ^ p.toNat := by simp
    omega
  have := worksB_take_yes (zs := zs) (s := two p - 1) (i := zs.length) (k := 0) (by omega) (by omega) hx
  rwa [List.take_length] at this
theorem leastL_one {p : Nat} {is : Int → Bool} (h : is 0 = false) : leastL p is 1 = [] := by
  rw [show (1 : Nat) = 0 + 1 from rfl, leastL_succ, leastAt_no h]; simp [leastL]
end Syl
namespace Go.Proofs.Ytbmgloncimjfhab
open Go.RowKit Dec Flt Syl Sep
set_option maxRecDepth 40000 in
set_option maxHeartbeats 4000000 in
theorem specCuts_any (g : Nat) (p : Int) (a : Option Addr) (len cap : Nat) (zs : List Int) (w : World) (hv : SVar 30 w g p a len cap) (h : IRow w a len zs) (hs : sysB p zs = true) :
    Calls Try.prog 75 #[.pointer (some ⟨g, 0, none⟩)] w fun e w' => (∃ a c, e = .returned (.slice a (cutL p zs).length c) ∧ IRow w' a (cutL p zs).length (cutL p zs) ∧ Own w' w.heap.size a (cutL p zs).length 2) ∧ Below w.heap.size w w' := by
  have HR := Lib.hid h
  have HV := Lib.hid hv
  have hpp := sysB_parts hs
  have HW := Lib.hid (works_all hs)
  have ht := two_bd p hpp.1 hpp.2
  obtain ⟨pn, rfl⟩ : ∃ pn : Nat, p = pn := ⟨p.toNat, by omega⟩
  obtain ⟨T, hT⟩ : ∃ T, 2 ^ pn = T := ⟨_, rfl⟩
  have hTT : two (pn : Int) = (T : Int) := by unfold two; rw [← hT, Int.toNat_natCast]; simp
  obtain ⟨is, his⟩ : ∃ is, cutIs zs ((T : Int) - 1) = is := ⟨_, rfl⟩
  have hL : cutL (pn : Int) zs = leastL pn is T := by unfold cutL; rw [hTT, his, Int.toNat_natCast, hT]
  rw [hL]
  rw [hTT] at ht HW
  have HIS : Hid (∀ s, is s = !worksB zs ((T : Int) - 1 - s)) := fun s => by rw [← his]; rfl
  have H0 : Hid (leastL pn is 1 = []) := leastL_one (by rw [HIS.out, Int.sub_zero, HW.out]; rfl)
  have hpow : (2 : Int) ^ pn = (T : Int) := by rw [← hT]; simp
  have hw1 : IntKind.i64.wrap (1 * 2 ^ pn) = (T : Int) := by rw [Int.one_mul, hpow]; exact wrap_i64 _ (by omega) (by omega)
  have hw2 : IntKind.i64.wrap (2 ^ pn) = (T : Int) := by rw [hpow]; exact wrap_i64 _ (by omega) (by omega)
  have hpn : pn ≤ 10 := by omega
  clear hL his hTT hT hs hpp hpow h hv
  obtain ⟨i0, hi, hz0, hz1, hz2⟩ := info_parts (show (Try.prog.info? 2).map (fun i => (i.zero, i.size, i.bytes)) = some (some (.int .i64 0), 1, 8) by kernel_rfl)
  obtain ⟨⟨v0, v1⟩, _, _⟩ := HV.out.two
  go_enter Try.func75, Try.ntmps75
  go_wp2_with fail
  have HO0 : Hid ((w.alloc (.cells #[] 2)).ownsRow w.heap.size 2 1 (.slice (some ⟨w.heap.size, 0, none⟩) 0 0) 0 (iv (leastL pn is 1))) := by
    show World.ownsRow _ _ _ _ _ _ _
    rw [H0.out]
    exact ⟨by simp [iv], .inr ⟨w.heap.size, 0, #[], rfl, Nat.le_refl _, heap_alloc_new _ _, Nat.le_refl _, Nat.zero_le _, rfl, by simp [iv]⟩⟩
  have HB0 : Hid (Below w.heap.size w (w.alloc (.cells #[] 2))) := (Below.refl _ _).alloc (Nat.le_refl _) _
  obtain ⟨o0, ho0⟩ : ∃ v, v = Value.slice (some ⟨w.heap.size, 0, none⟩) 0 0 := ⟨_, rfl⟩
  obtain ⟨w0, hw0⟩ : ∃ W, W = w.alloc (.cells #[] 2) := ⟨_, rfl⟩
  rw [← hw0, ← ho0] at HO0
  rw [← hw0] at HB0 ⊢
  clear hw0 v0 v1
  go_loopg [4, 5] (T - 1) (fun q v4 v5 wr => ∃ (k c : Nat), v5 = .int .i64 k ∧ Hid (k + q = T) ∧ 1 ≤ k ∧ k ≤ T ∧ c ≤ k ∧ Hid (c = (leastL pn is k).length) ∧ Hid (wr.ownsRow w.heap.size 2 1 v4 c (iv (leastL pn is k))) ∧ Hid (Below w.heap.size w wr))
  case atStart => exact ⟨1, 0, rfl, by show _ = _; omega, Nat.le_refl _, by omega, by omega, by show _ = _; rw [H0.out]; rfl, by rw [← ho0]; exact HO0.out, HB0.out⟩
  case round =>
    clear HO0 HB0 ho0
    obtain ⟨k, c, rfl, hk, hk1, hkl, hck, hcl, hO, hB⟩ := hrel
    by_cases hlt : k < T
    · have HJ : Hid (k + 1 + (gk - 1) = T) := by have := hk.out; show _ = _; omega
      have HG : Hid (gk - 1 < gk) := by have := hk.out; show _ < _; omega
      obtain ⟨go, hgo⟩ : ∃ go, gk - 1 = go := ⟨_, rfl⟩
      rw [hgo] at HJ HG
      clear hgo
      have HN := Lib.hid (leastL_succ pn is k)
      obtain ⟨⟨v0, v1⟩, _, _⟩ := (HV.out.keep hB.out).two
      have hle : (k : Int) ≤ (T : Int) - 1 := by omega
      go_wp2_with fail
      clear v0 v1
      refine (specWorks_any ((T : Int) - 1 - k) g pn a len cap zs _ (HV.out.keep hB.out) (HR.out.keep hB.out)).mono ?_
      rintro e w1 ⟨rfl, d1⟩
      have b1 : Below wr.heap.size wr w1 := d1.below _
      have HO1 := Lib.hid (ownsRow_keep hO.out b1)
      have HB1 := Lib.hid (hB.out.trans (b1.mono hB.out.size))
      have hl0 : worksB zs ((T : Int) - 1 - k) = !luB is k 0 := by unfold luB; rw [HIS.out]; simp
      rw [hl0]
      clear b1 d1 hO hB hl0
      have hnn : ∀ b : Bool, (!!b) = b := by simp
      go_wp2_with fail
      go_loopg [6, 7] pn (fun q v6 v7 wr => ∃ j : Nat, v7 = .int .i64 j ∧ v6 = .bool (luB is k j) ∧ Hid (j + q = pn) ∧ j ≤ pn ∧ Hid (wr.ownsRow w.heap.size 2 1 u4 c (iv (leastL pn is k))) ∧ Hid (Below w.heap.size w wr))
      case atStart => exact ⟨0, rfl, by simp, by show _ = _; omega, Nat.zero_le _, HO1.out, HB1.out⟩
      case round =>
        clear HO1 HB1
        obtain ⟨j, rfl, rfl, hj, hjl, hO, hB⟩ := hrel
        obtain ⟨⟨v0, v1⟩, _, _⟩ := (HV.out.keep hB.out).two
        cases hl : luB is k j with
        | false =>
          have HA := Lib.hid (luB_false hl hjl)
          have HN2 : Hid (leastL pn is (k + 1) = leastL pn is k) := by show _ = _; rw [HN.out, HA.out]; simp
          have HO2 : Hid (wr.ownsRow w.heap.size 2 1 u4 c (iv (leastL pn is (k + 1)))) := by show World.ownsRow _ _ _ _ _ _ _; rw [HN2.out]; exact hO.out
          have HC2 : Hid (c = (leastL pn is (k + 1)).length) := by show _ = _; rw [HN2.out]; exact hcl.out
          clear hO hcl HN hl
          by_cases hjp : (j : Int) < (pn : Int)
          all_goals
            go_wp2_with fail
            go_roundg go
            case measure => exact HG.out
            case rel => exact ⟨k + 1, c, by go_num, HJ, by omega, by omega, by omega, HC2.out, HO2.out, hB.out⟩
        | true =>
          by_cases hjp : j < pn
          · have HJ2 : Hid (j + 1 + (gk - 1) = pn) := by have := hj.out; show _ = _; omega
            have HG2 : Hid (gk - 1 < gk) := by have := hj.out; show _ < _; omega
            have hbp := bit_part k j (by omega) (by omega)
            have hq512 : 2 ^ j ≤ 512 := Nat.pow_le_pow_right (n := 2) (by decide) (show j ≤ 9 by omega)
            obtain ⟨q, hq⟩ : ∃ q : Nat, 2 ^ j = q := ⟨_, rfl⟩
            have hqi : ((2 : Int) ^ j) = (q : Int) := by rw [← hq]; simp
            rw [hq] at hq512 hbp
            have hs1 : IntKind.i64.wrap (2 ^ j) = (q : Int) := by rw [hqi]; exact wrap_i64 _ (by omega) (by omega)
            have hs2 : IntKind.i64.wrap (1 * 2 ^ j) = (q : Int) := by rw [Int.one_mul]; exact hs1
            have HLS := Lib.hid (luB_succ is k j)
            have HLT := Lib.hid hl
            have HQI := Lib.hid hqi
            clear hq hqi hl
            cases hpb : partB k j with
            | false =>
              rw [hpb] at hbp
              have HL2 : Hid (luB is k (j + 1) = true) := by show _ = _; rw [HLS.out, HLT.out, hpb]; rfl
              clear hpb
              go_wp2_with fail
              go_roundg (gk - 1)
              case measure => exact HG2.out
              case rel => exact ⟨j + 1, by go_num, by rw [HL2.out], HJ2, by omega, hO.out, hB.out⟩
            | true =>
              rw [hpb] at hbp
              have HPB := Lib.hid hpb
              clear hpb
              go_wp2_with fail
              refine (specWorks_any ((T : Int) - 1 - ((k : Int) - (q : Int))) g pn a len cap zs _ (HV.out.keep hB.out) (HR.out.keep hB.out)).mono ?_
              rintro e w1 ⟨rfl, d1⟩
              have b1 : Below wr.heap.size wr w1 := d1.below _
              have HO2 := Lib.hid (ownsRow_keep hO.out b1)
              have HB2 := Lib.hid (hB.out.trans (b1.mono hB.out.size))
              clear b1 d1 hO hB v0 v1
              cases hw : worksB zs ((T : Int) - 1 - ((k : Int) - (q : Int))) with
              | false =>
                have HL2 : Hid (luB is k (j + 1) = false) := by show _ = _; rw [HLS.out, HLT.out, HPB.out, HQI.out, HIS.out, hw]; rfl
                clear hw
                go_wp2_with fail
                go_roundg (gk - 1)
                case measure => exact HG2.out
                case rel => exact ⟨j + 1, by go_num, by rw [HL2.out], HJ2, by omega, HO2.out, HB2.out⟩
              | true =>
                have HL2 : Hid (luB is k (j + 1) = true) := by show _ = _; rw [HLS.out, HLT.out, HPB.out, HQI.out, HIS.out, hw]; rfl
                clear hw
                go_wp2_with fail
                go_roundg (gk - 1)
                case measure => exact HG2.out
                case rel => exact ⟨j + 1, by go_num, by rw [HL2.out], HJ2, by omega, HO2.out, HB2.out⟩
          · obtain rfl : j = pn := by have := hj.out; omega
            have HA : Hid (leastL j is (k + 1) = leastL j is k ++ [(k : Int)]) := by
              show _ = _
              have : leastAt j is k = true := hl
              rw [HN.out, this]; simp
            have HCELL := Lib.hid (cell_new1 wr 2 (.int .i64 k))
            have HO1 := Lib.hid (hO.out.alloc (.cells #[.int .i64 k] 2))
            have HB1 := Lib.hid (hB.out.alloc hB.out.size (.cells #[.int .i64 k] 2))
            have HLE : Hid (c + 1 ≤ maxLen ∧ (c + 1) * 8 ≤ 140737488355328) := by show _ ∧ _; unfold maxLen; omega
            have HCN : Hid (c + 1 = (leastL j is (k + 1)).length) := by show _ = _; rw [HA.out, hcl.out]; simp
            clear hO hB hjp hcl hl
            go_wp2_with (at_builtin; refine wpList_append_own _ rfl _ _ 22 rfl w.heap.size 2 i0 (.int .i64 0) 1 8 Try.underlying22 hi hz0 hz1 hz2 rfl (by decide) u4 c (iv (leastL j is k)) rfl HO1.out ⟨wr.heap.size, 0, none⟩ 1 1 [.int .i64 k] rfl rfl HCELL.out (by intro u hu; simp at hu; subst hu; rfl) HLE.out.1 HLE.out.2 HB1.out.size ?_)
            intro v' w3 hown' hgrow _
            have HO3 : Hid (w3.ownsRow w.heap.size 2 1 v' (c + 1) (iv (leastL j is (k + 1)))) := by
              show World.ownsRow _ _ _ _ _ _ _
              rw [HA.out, iv_snoc]; exact hown'
            have HB3 : Hid (Below w.heap.size w w3) := Lib.hid (HB1.out.grown hgrow HB1.out.size (fun q hq => (HO1.out.lt q hq).1))
            clear hown' hgrow HO1 HB1 HCELL
            go_wp2_with fail
            go_roundg go
            case measure => exact HG.out
            case rel => exact ⟨k + 1, c + 1, by go_num, HJ, by omega, by omega, by omega, HCN.out, HO3.out, HB3.out⟩
    · obtain rfl : k = T := by have := hk.out; omega
      obtain ⟨a1, cc, rfl, hr, ho, _⟩ := irow_of_owned (by have := hO.out; rw [hcl.out] at this; exact this) (Nat.le_trans (leastL_len _ _ _) (by omega)) (fun z hz => by have := leastL_bd hz; omega)
      have HRR : Hid (_ ∧ _) := ⟨hr, ho⟩
      rw [← hcl.out] at HRR ⊢
      have HCL := Lib.hid hcl.out
      have hle : ¬ ((k : Int) ≤ (k : Int) - 1) := by omega
      clear hlt hr ho hO hcl
      go_wp2_with fail
      go_ret
      rw [← HCL.out]
      first
        | exact ⟨⟨_, _, rfl, HRR.out.1, HRR.out.2⟩, hB.out⟩
        | exact ⟨⟨_, ⟨_, rfl⟩, HRR.out.1, HRR.out.2⟩, hB.out⟩
end Go.Proofs.Ytbmgloncimjfhab
