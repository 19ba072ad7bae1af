/-
  Sums of hazards as the two tell them, and their exact law. No conditions beyond the statement's own.
-/
import Derived.Test.YtplfmdjccmhclabSurW
namespace Liv
open Go Flt Dec F32
theorem one_fin {b : Nat} (h : b ≤ 1065353216) : fin .f32 b = true := decide_eq_true (by
  have e : FloatKind.f32.format.signWeight = 2147483648 := by decide
  have ei : FloatKind.f32.format.infRung = 2139095040 := by decide
  rw [e, ei, Nat.mod_eq_of_lt (by omega)]; omega)
/-- sums of hazards behind the first 'k' times -/
def hz (zs : List (Nat × Bool)) (ts : List Nat) : Nat → Nat
  | 0 => 0
  | k + 1 => (Go.floatBits .add .f32 (hz zs ts k) (qT zs (ts.getD k 0))).getD 0
theorem hz_next {zs : List (Nat × Bool)} (hL : livB zs = true) (hV : ∀ z ∈ zs, VL z) : ∀ k, k ≤ (tS zs).length → nan .f32 (hz zs (tS zs) k) = false ∧ hz zs (tS zs) k < 4294967296 ∧ (k < (tS zs).length → Go.floatBits .add .f32 (hz zs (tS zs) k) (qT zs ((tS zs).getD k 0)) = some (hz zs (tS zs) (k + 1))) := by
  intro k
  induction k with
  | zero =>
    intro h
    refine ⟨by show nan .f32 0 = false; decide, by show (0 : Nat) < _; decide, fun hk => ?_⟩
    obtain ⟨r, h1, h2, h3⟩ := add_fin (s := 0) (t := qT zs ((tS zs).getD 0 0)) (by decide) (one_fin (q_good hL hV (getD_mem hk)).2.2.2)
    show Go.floatBits .add .f32 0 _ = some ((Go.floatBits .add .f32 0 (qT zs ((tS zs).getD 0 0))).getD 0)
    rw [h1]; rfl
  | succ k ih =>
    intro h
    obtain ⟨a1, a2, a3⟩ := ih (by omega)
    obtain ⟨r, h1, h2, h3⟩ := add_fin a1 (one_fin (q_good hL hV (getD_mem (show k < (tS zs).length by omega))).2.2.2)
    have e : hz zs (tS zs) (k + 1) = r := by
      have := a3 (by omega)
      rw [h1] at this
      exact (Option.some.inj this).symm
    rw [e]
    refine ⟨h2, h3, fun hk => ?_⟩
    obtain ⟨r2, g1, _, _⟩ := add_fin h2 (one_fin (q_good hL hV (getD_mem hk)).2.2.2)
    show _ = some ((Go.floatBits .add .f32 (hz zs (tS zs) (k + 1)) (qT zs ((tS zs).getD (k + 1) 0))).getD 0)
    rw [e, g1]; rfl
def tah (zs : List (Nat × Bool)) (ts : List Nat) (n : Nat) : List Nat := (List.range n).map fun j => hz zs ts (j + 1)
theorem tah_len (zs : List (Nat × Bool)) (ts : List Nat) (n : Nat) : (tah zs ts n).length = n := by simp [tah]
theorem tah_snoc (zs : List (Nat × Bool)) (ts : List Nat) (n : Nat) : tah zs ts (n + 1) = tah zs ts n ++ [hz zs ts (n + 1)] := by simp [tah, List.range_succ]
/-- what both answer -/
def aH (zs : List (Nat × Bool)) : List Nat := if livB zs then tah zs (tS zs) (tS zs).length else []
theorem aH_len (zs : List (Nat × Bool)) : (aH zs).length ≤ 48 := by
  unfold aH
  cases h : livB zs with
  | true => have h1 := (liv_len h).2; have h2 := tS_len zs; simp only [↓reduceIte]; rw [tah_len]; omega
  | false => simp
end Liv
namespace Go.Proofs.Ytplfmdjccmhclab
open Go.RowKit Liv Flt Go.Sort Stb Dec
set_option maxHeartbeats 4000000 in
set_option maxRecDepth 100000 in
theorem specHaz_yes (a : Option Addr) (len cap : Nat) (zs : List (Nat × Bool)) (w : World) (h : LRow w a len zs) (hL : livB zs = true) :
    Calls Try.prog 21 #[.slice a len cap] w fun e w' => (∃ a c, e = .returned (.tuple #[.slice a (tS zs).length c, .bool true]) ∧ FRow w' a (tS zs).length (tah zs (tS zs) (tS zs).length)) ∧ Below w.heap.size w w' := by
  have H := Lib.hid h
  have HLV := Lib.hid hL
  have hV := liv_VL h hL
  have hl := liv_len hL
  rw [h.1] at hl
  have hts := tS_len zs
  rw [h.1] at hts
  have H0 : Hid (len ≤ 1048576) := by show _ ≤ _; omega
  obtain ⟨n, hn⟩ : ∃ n, (tS zs).length = n := ⟨_, rfl⟩
  have HNX : Hid (∀ k, k < n → Go.floatBits .add .f32 (hz zs (tS zs) k) (qT zs ((tS zs).getD k 0)) = some (hz zs (tS zs) (k + 1))) := Lib.hid fun k hk => (hz_next hL hV k (by omega)).2.2 (by omega)
  have HQ : Hid (∀ k, k < n → Go.floatBits .quo .f32 (fN zs ((tS zs).getD k 0)) (rN zs ((tS zs).getD k 0)) = some (qT zs ((tS zs).getD k 0))) := Lib.hid fun k hk => (q_good hL hV (getD_mem (show k < (tS zs).length by omega))).1
  have HLE1 : Hid (∀ k, k ≤ n → hz zs (tS zs) k < 4294967296) := Lib.hid fun k hk => (hz_next hL hV k (by omega)).2.1
  have HN := Lib.hid hn
  rw [hn] at hts
  have hn48 : n ≤ 48 := by omega
  clear h hL hV hl hn hts
  obtain ⟨i0, hi, hz0, hz1, hz2⟩ := info_parts (show (Try.prog.info? 23).map (fun i => (i.zero, i.size, i.bytes)) = some (some (.float .f32 0), 1, 4) by kernel_rfl)
  go_enter Try.func21, Try.ntmps21
  go_wp2_with fail
  refine (specLives_any a len cap zs _ H.out).mono ?_
  rintro e w0 ⟨rfl, g0⟩
  rw [HLV.out]
  have B0 := Lib.hid g0.below
  clear g0
  go_wp2_with fail
  refine (specTimes_any a len cap zs _ (H.out.keep B0.out) HLV.out).mono ?_
  rintro e w1 ⟨⟨a1, c1, rfl, hr⟩, b1⟩
  rw [HN.out] at hr
  rw [HN.out]
  have R1 := Lib.hid hr
  have B1 := Lib.hid (B0.out.trans (b1.mono B0.out.size))
  clear hr b1
  go_wp2_with fail
  go_loopg [5, 6, 7] n (fun q v4 s i wr => ∃ (k c3 : Nat) (a3 : Option Addr), v4 = .slice a3 k c3 ∧ s = .float .f32 (hz zs (tS zs) k) ∧ i = .int .i64 k ∧ Hid (k + q = n) ∧ k ≤ n ∧ Hid (wr.ownsRow w1.heap.size 23 1 (.slice a3 k c3) k (fv (tah zs (tS zs) k))) ∧ Hid (Below w1.heap.size w1 wr))
  case atStart => exact ⟨0, _, _, rfl, rfl, rfl, by show _ = _; omega, Nat.zero_le _, World.ownsRow_made w1 #[] 0 (Nat.le_refl _) (Nat.zero_le _) rfl, (Below.refl _ w1).alloc (Nat.le_refl _) _⟩
  case round =>
    obtain ⟨k, c3, a3, rfl, rfl, rfl, hk, hkl, hO, hB⟩ := hrel
    by_cases hlt : k < n
    · have hlz : (k : Int) < (n : Int) := by omega
      obtain ⟨b, off, rfl, _, hc⟩ := (R1.out.keep hB.out).2.2.2 k hlt
      have HJ : Hid (k + 1 + (gk - 1) = n) := by have := hk.out; show _ = _; omega
      have HG : Hid (gk - 1 < gk) := by have := hk.out; show _ < _; omega
      have HTS : Hid (tah zs (tS zs) (k + 1) = tah zs (tS zs) k ++ [hz zs (tS zs) (k + 1)]) := tah_snoc _ _ _
      have hq := HQ.out k hlt
      have hs := HNX.out k hlt
      generalize (tS zs).getD k 0 = t at *
      have HQ1 := Lib.hid hq
      generalize qT zs t = Q at *
      have hr3 : ∀ w, (binOp .add 23 (.float .f32 (hz zs (tS zs) k)) (.float .f32 Q)).run Try.prog w = .ok (.float .f32 (hz zs (tS zs) (k + 1))) w := fun w => run_float_arith w .add 23 .f32 _ _ _ hs
      obtain ⟨x, hx⟩ : ∃ x, hz zs (tS zs) (k + 1) = x := ⟨_, rfl⟩
      have HX := Lib.hid hx
      rw [hx] at hr3 HTS
      have HCELL : Hid (∀ (j : Nat) (u : Value), [Value.float .f32 x][j]? = some u → (wr.alloc (.cells #[.float .f32 x] 23)).cell? ((⟨wr.heap.size, 0, none⟩ : Addr).add j) = some u) := Lib.hid (cell_new1 wr 23 (.float .f32 x))
      have HO1 := Lib.hid (hO.out.alloc (.cells #[.float .f32 x] 23))
      have HB1 := Lib.hid (hB.out.alloc hB.out.size (.cells #[.float .f32 x] 23))
      have HLE : Hid (k + 1 ≤ maxLen ∧ (k + 1) * 4 ≤ 140737488355328) := by show _ ∧ _; unfold maxLen; omega
      have HLR : Hid (LRow wr a len zs) := H.out.keep (B1.out.trans (hB.out.mono B1.out.size))
      clear hO hB hq hs hx
      go_wp2_with fail
      refine (specQuot_any a len cap t Q zs _ HLR.out H0.out HQ1.out).mono ?_
      rintro e w2 ⟨rfl, rfl⟩
      go_wp2_with (at_builtin; refine wpList_append_own _ rfl _ _ 33 rfl w1.heap.size 23 i0 (.float .f32 0) 1 4 Try.underlying33 hi hz0 hz1 hz2 rfl (by decide) (.slice a3 k c3) k (fv (tah zs (tS zs) k)) rfl HO1.out ⟨wr.heap.size, 0, none⟩ 1 1 [.float .f32 x] rfl rfl HCELL.out (by intro u hu; simp at hu; subst hu; rfl) HLE.out.1 HLE.out.2 HB1.out.size ?_)
      intro v' w3 hown' hgrow _
      have HO3 : Hid (w3.ownsRow w1.heap.size 23 1 v' (k + 1) (fv (tah zs (tS zs) (k + 1)))) := by
        show World.ownsRow _ _ _ _ _ _ _
        rw [HTS.out, fv_snoc]; exact hown'
      have HB3 : Hid (Below w1.heap.size w1 w3) := Lib.hid (HB1.out.grown hgrow HB1.out.size (fun q hq => (HO1.out.lt q hq).1))
      clear hown' hgrow HO1 HB1 HCELL
      obtain ⟨a5, c5, rfl⟩ := owns_shape HO3.out
      go_wp2_with fail
      go_roundg (gk - 1)
      case measure => exact HG.out
      case rel => exact ⟨k + 1, c5, a5, rfl, by rw [HX.out], by go_num, HJ, by omega, HO3.out, HB3.out⟩
    · obtain rfl : k = n := by have := hk.out; omega
      have HF : Hid (FRow wr a3 k (tah zs (tS zs) k)) := by
        by_cases h0 : 0 < k
        · obtain ⟨g, cc, he, hg, _, hA⟩ := farr_of_owned (l := tah zs (tS zs) k) hO.out (tah_len _ _ _) h0
          cases he
          refine ⟨tah_len _ _ _, by unfold maxLen; omega, fun z hz => ?_, fun i hi => ⟨g, 0, rfl, hA.1.lt, ?_⟩⟩
          · unfold tah at hz
            obtain ⟨j, hj, rfl⟩ := List.mem_map.1 hz
            have := HLE1.out (j + 1) (by have := List.mem_range.1 hj; omega)
            exact this
          · have hi' : i < (tah zs (tS zs) k).length := by rw [tah_len]; exact hi
            have := hA.2 i (by simpa using hi')
            rw [getElem!_pos (tah zs (tS zs) k).toArray i (by simpa using hi')] at this
            rw [Nat.zero_add]
            simpa [List.getD, hi'] using this
        · have hc0 : k = 0 := by omega
          subst hc0
          exact ⟨rfl, by decide, fun z hz => by simp [tah] at hz, fun i hi => absurd hi (Nat.not_lt_zero _)⟩
      have B2 := Lib.hid (B1.out.trans (hB.out.mono B1.out.size))
      clear hO hB hlt
      go_wp2_with fail
      go_ret2
      rw [HN.out]
      exact ⟨⟨_, _, rfl, HF.out⟩, B2.out⟩
theorem specHaz_any (a : Option Addr) (len cap : Nat) (zs : List (Nat × Bool)) (w : World) (h : LRow w a len zs) :
    Calls Try.prog 21 #[.slice a len cap] w fun e w' => (∃ a c, e = .returned (.tuple #[.slice a (aH zs).length c, .bool (livB zs)]) ∧ FRow w' a (aH zs).length (aH zs)) ∧ Below w.heap.size w w' := by
  cases hL : livB zs with
  | true =>
    have HA : aH zs = tah zs (tS zs) (tS zs).length := by unfold aH; rw [hL]; rfl
    rw [HA, tah_len]
    exact specHaz_yes a len cap zs w h hL
  | false =>
    have HA : Hid (aH zs = []) := by show _ = _; unfold aH; rw [hL]; rfl
    have H := Lib.hid h
    have HL := Lib.hid hL
    clear h hL
    go_enter Try.func21, Try.ntmps21
    go_wp2_with fail
    refine (specLives_any a len cap zs _ H.out).mono ?_
    rintro e w1 ⟨rfl, g1⟩
    rw [HL.out]
    have B1 := Lib.hid g1.below
    clear g1
    go_wp2_with fail
    go_ret2
    rw [HA.out]
    exact ⟨⟨_, _, rfl, frow_nil _ _⟩, B1.out⟩
set_option maxHeartbeats 4000000 in
theorem implHaz_yes (a : Option Addr) (len cap : Nat) (zs : List (Nat × Bool)) (w : World) (h : LRow w a len zs) (hL : livB zs = true) :
    Calls Try.prog 22 #[.slice a len cap] w fun e w' => (∃ g2 n, e = .returned (.tuple #[.slice (some ⟨g2, 0, none⟩) n n, .bool true]) ∧ n = (tS zs).length ∧ w.heap.size ≤ g2 ∧ Slots w' g2 n 23 ∧ FHead w' g2 (tah zs (tS zs) n)) ∧ Below w.heap.size w w' := by
  have H := Lib.hid h
  have HLV := Lib.hid hL
  have hV := liv_VL h hL
  have hts := tS_len zs
  have h48 : (tS zs).length ≤ 48 := by have := (liv_len hL).2; omega
  have H48 := Lib.hid h48
  have HNX : Hid (∀ k, k < (tS zs).length → Go.floatBits .add .f32 (hz zs (tS zs) k) (qT zs ((tS zs).getD k 0)) = some (hz zs (tS zs) (k + 1))) := Lib.hid fun k hk => (hz_next hL hV k (by omega)).2.2 hk
  have HQ : Hid (∀ k, k < (tS zs).length → Go.floatBits .quo .f32 (fN zs ((tS zs).getD k 0)) (rN zs ((tS zs).getD k 0)) = some (qT zs ((tS zs).getD k 0))) := Lib.hid fun k hk => (q_good hL hV (getD_mem hk)).1
  clear h hL hV hts h48
  go_enter Try.func22, Try.ntmps22
  go_wp2_with fail
  refine (implAre_any a len cap zs _ H.out).mono ?_
  rintro e w1 ⟨rfl, b1⟩
  rw [HLV.out]
  have B1 := Lib.hid b1
  clear b1
  go_wp2_with fail
  refine (momentsOf_any a len cap zs _ (H.out.keep B1.out) HLV.out).mono ?_
  rintro e w2 ⟨⟨g, n, rfl, hn, hg, hM⟩, b2⟩
  have HN := Lib.hid hn
  rw [← hn] at HNX HQ
  have hn48 : n ≤ 48 := by rw [hn]; exact H48.out
  have HM : Hid (MHas w2 g n zs (tS zs) ∧ g < w2.heap.size) := ⟨hM, hg⟩
  have B2 := Lib.hid (B1.out.trans (b2.mono B1.out.size))
  clear hn hg hM b2
  have hmk : ∀ w, (Instr.makeSlice 33 (.int .i64 (n : Int)) (.int .i64 (n : Int))).run Try.prog w = .ok (.slice (some ⟨w.heap.size, 0, none⟩) n n) (w.alloc (.cells (madeCells (Value.float .f32 0).cells (n * 1)) 23)) := by
    intro w
    obtain ⟨i, hi, hz0, hz1, hz2⟩ := info_parts (show (Try.prog.info? 23).map (fun i => (i.zero, i.size, i.bytes)) = some (some (.float .f32 0), 1, 4) by kernel_rfl)
    have := run_make (P := Try.prog) w 33 23 i (.float .f32 0) Try.underlying33 hi hz0 .i64 .i64 n n (by omega) (Int.le_refl _) (by rw [hz2]; omega) (by omega)
    rw [this, hz1, Int.toNat_natCast]
  have HMD : Hid (∀ w : World, Slots (w.alloc (.cells (madeCells (Value.float .f32 0).cells (n * 1)) 23)) w.heap.size n 23) := Lib.hid fun w => Slots.made w 23 _ n (by simp [madeCells])
  generalize madeCells (Value.float .f32 0).cells (n * 1) = C at *
  have HS0 := Lib.hid (HMD.out w2)
  clear HMD
  go_wp2_with fail
  go_loopg [6, 19] n (fun q s i wr => ∃ k : Nat, s = .float .f32 (hz zs (tS zs) k) ∧ i = .int .i64 k ∧ Hid (k + q = n) ∧ k ≤ n ∧ Hid (Slots wr w2.heap.size n 23) ∧ Hid (FHead wr w2.heap.size (tah zs (tS zs) k)) ∧ Hid (Below w2.heap.size w2 wr))
  case atStart => exact ⟨0, rfl, rfl, by show _ = _; omega, Nat.zero_le _, HS0.out, fun j hj => absurd hj (by simp [tah]), (Below.refl _ _).alloc (Nat.le_refl _) _⟩
  case round =>
    obtain ⟨k, rfl, rfl, hk, hkl, hS, hF, hB⟩ := hrel
    by_cases hlt : k < n
    · obtain ⟨hc0, hc1, hc2⟩ := (HM.out.1.keep HM.out.2 hB.out) k hlt
      have HJ : Hid (k + 1 + (gk - 1) = n) := by have := hk.out; show _ = _; omega
      have HG : Hid (gk - 1 < gk) := by have := hk.out; show _ < _; omega
      have hq := HQ.out k hlt
      have hs := HNX.out k hlt
      have HTS : Hid (tah zs (tS zs) (k + 1) = tah zs (tS zs) k ++ [hz zs (tS zs) (k + 1)]) := tah_snoc _ _ _
      generalize (tS zs).getD k 0 = t at *
      generalize fN zs t = F at *
      generalize rN zs t = R at *
      generalize qT zs t = Q at *
      have hld := load3 (P := Try.prog) hc0 hc1 hc2
      have hr1 : ∀ w, (binOp .quo 23 (.float .f32 F) (.float .f32 R)).run Try.prog w = .ok (.float .f32 Q) w := fun w => run_float_arith w .quo 23 .f32 _ _ Q hq
      have hr3 : ∀ w, (binOp .add 23 (.float .f32 (hz zs (tS zs) k)) (.float .f32 Q)).run Try.prog w = .ok (.float .f32 (hz zs (tS zs) (k + 1))) w := fun w => run_float_arith w .add 23 .f32 _ _ _ hs
      obtain ⟨o, ho⟩ : ∃ o, o = (Obj.cells #[.float .f32 t, .float .f32 F, .float .f32 R] 70) := ⟨_, rfl⟩
      have bA : Below wr.heap.size wr (wr.alloc o) := (Below.refl _ wr).alloc (Nat.le_refl _) o
      have sA := hS.out.keep bA
      have fA := hF.out.keep hS.out.lt bA
      obtain ⟨u, hu⟩ := sA.cell hlt
      have hfr := sA.frozen k
      have HS3 := Lib.hid (sA.set k (.float .f32 (hz zs (tS zs) (k + 1))))
      have HF3 : Hid (FHead ((wr.alloc o).setCell ⟨w2.heap.size, k, none⟩ (.float .f32 (hz zs (tS zs) (k + 1)))) w2.heap.size (tah zs (tS zs) (k + 1))) := by
        have := FHead.snoc fA sA (by rw [tah_len]; exact hlt) (hz zs (tS zs) (k + 1))
        rw [tah_len, ← HTS.out] at this
        exact this
      have HB3 := Lib.hid ((hB.out.trans (bA.mono hB.out.size)).setCell (p := ⟨w2.heap.size, k, none⟩) (Nat.le_refl _) (.float .f32 (hz zs (tS zs) (k + 1))))
      subst ho
      clear hS hF hB bA sA fA hq hs HTS
      go_wp2_with fail
      go_roundg (gk - 1)
      case measure => exact HG.out
      case rel => exact ⟨k + 1, by go_num, by go_num, HJ, by omega, HS3.out, HF3.out, HB3.out⟩
    · obtain rfl : k = n := by have := hk.out; omega
      clear hlt
      go_wp2_with fail
      go_ret2
      exact ⟨⟨_, _, rfl, HN.out, Nat.le_trans B2.out.size (Nat.le_refl _), hS.out, hF.out⟩, B2.out.trans (hB.out.mono B2.out.size)⟩
theorem implHaz_any (a : Option Addr) (len cap : Nat) (zs : List (Nat × Bool)) (w : World) (h : LRow w a len zs) :
    Calls Try.prog 22 #[.slice a len cap] w fun e w' => (∃ a c, e = .returned (.tuple #[.slice a (aH zs).length c, .bool (livB zs)]) ∧ FRow w' a (aH zs).length (aH zs) ∧ Own w' w.heap.size a (aH zs).length 23) ∧ Below w.heap.size w w' := by
  cases hL : livB zs with
  | true =>
    have HA : aH zs = tah zs (tS zs) (tS zs).length := by unfold aH; rw [hL]; rfl
    rw [HA, tah_len]
    refine (implHaz_yes a len cap zs w h hL).mono ?_
    rintro e w' ⟨⟨g2, n, rfl, rfl, hg2, hs, hf⟩, b⟩
    refine ⟨⟨_, _, rfl, ?_, .inr ⟨g2, rfl, hg2, hs⟩⟩, b⟩
    have := hf.row hs.lt (by rw [tah_len]; have q1 := tS_len zs; have q2 := (liv_len hL).2; unfold maxLen; omega) (fun z hz => by
      unfold tah at hz
      obtain ⟨j, hj, rfl⟩ := List.mem_map.1 hz
      exact (hz_next hL (liv_VL h hL) (j + 1) (by have := List.mem_range.1 hj; omega)).2.1)
    rw [tah_len] at this
    exact this
  | false =>
    have HA : Hid (aH zs = []) := by show _ = _; unfold aH; rw [hL]; rfl
    have H := Lib.hid h
    have HL := Lib.hid hL
    clear h hL
    go_enter Try.func22, Try.ntmps22
    go_wp2_with fail
    refine (implAre_any a len cap zs _ H.out).mono ?_
    rintro e w1 ⟨rfl, b1⟩
    rw [HL.out]
    have B1 := Lib.hid b1
    clear b1
    go_wp2_with fail
    go_ret2
    rw [HA.out]
    exact ⟨⟨_, _, rfl, frow_nil _ _, .inl rfl⟩, B1.out⟩
set_option maxRecDepth 100000 in
set_option maxHeartbeats 4000000 in
theorem hazLaw_all (a : Option Addr) (len cap : Nat) (zs : List (Nat × Bool)) (w : World) (h : LRow w a len zs) (hn' : len ≤ 1048576) :
    Calls Try.prog 4 #[.slice a len cap] w fun e w' => e = .returned (.bool true) ∧ Below w.heap.size w w' := by
  have hml : len ≤ maxLen := h.2.1
  have H := Lib.hid h
  have HZ := Lib.hid h.2.2.1
  have HL := Lib.hid h.1
  have hx : ∀ x : Bool, (x != x) = false := by simp
  have hxi : ∀ x : Int, (x != x) = false := by simp
  have hnn : ¬ ((1048576 : Int) - len < 0) := by omega
  have hk1 : ¬ ((1 : Int) + 2 * (len : Int) < 0) := by omega
  obtain ⟨ts, hts⟩ : ∃ ts, aH zs = ts := ⟨_, rfl⟩
  obtain ⟨bv, hbv⟩ : ∃ bv, livB zs = bv := ⟨_, rfl⟩
  obtain ⟨n, hnl⟩ : ∃ n, ts.length = n := ⟨_, rfl⟩
  have hn48 : n ≤ 48 := by rw [← hnl, ← hts]; exact aH_len zs
  have H48 : Hid (n ≤ 1023 ∧ n ≤ 1048576) := by show _ ∧ _; omega
  have hk2 : ¬ ((1 : Int) + (n : Int) < 0) := by omega
  have HTS := Lib.hid hts
  have HBV := Lib.hid hbv
  have HNL := Lib.hid hnl
  clear h hts hbv hnl
  go_enter Try.func4, Try.ntmps4
  go_wp2_with fail
  refine (szLifeS_any a len cap 1048576 _ (by decide) hml).mono ?_
  rintro e w1 ⟨rfl, rfl⟩
  rw [if_neg (show ¬ ((1048576 : Int) < (len : Int)) by omega)]
  go_wp2_with fail
  refine (toLifeS_made a len cap zs _ H.out hn').mono ?_
  rintro e w1 ⟨rfl, m1, b1⟩
  have R1 := Lib.hid (m1.row HL.out hml HZ.out)
  have B1 := Lib.hid b1
  clear m1 b1
  go_wp2_with fail
  refine (specHaz_any _ len len zs _ R1.out).mono ?_
  rintro e w2 ⟨⟨aw, cw, rfl, hrw⟩, b2⟩
  rw [HTS.out, HNL.out] at hrw
  rw [HTS.out, HNL.out, HBV.out]
  have W2 := Lib.hid hrw
  have B2 := Lib.hid (B1.out.trans (b2.mono B1.out.size))
  clear hrw b2
  go_wp2_with fail
  refine (toLifeS_made a len cap zs _ (H.out.keep B2.out) hn').mono ?_
  rintro e w3 ⟨rfl, m3, b3⟩
  have M3 := Lib.hid m3
  have R3 := Lib.hid (m3.row HL.out hml HZ.out)
  have D3 : Hid (Below w2.heap.size w2 w3) := Lib.hid b3
  have B3 := Lib.hid (B2.out.trans (b3.mono B2.out.size))
  have G3 : Hid (w.heap.size ≤ w2.heap.size ∧ w2.heap.size < w3.heap.size) := ⟨B2.out.size, m3.1.lt⟩
  clear m3 b3
  go_wp2_with fail
  refine (implHaz_any _ len len zs _ R3.out).mono ?_
  rintro e w4 ⟨⟨ag, cg, rfl, hrg, hog⟩, b4⟩
  rw [HTS.out, HNL.out] at hrg hog
  rw [HTS.out, HNL.out, HBV.out]
  have G4 := Lib.hid hrg
  have S4 := Lib.hid hog
  have R4 := Lib.hid (R3.out.keep b4)
  have M4 := Lib.hid (M3.out.1.keep b4)
  have D4 := Lib.hid (D3.out.trans (b4.mono D3.out.size))
  have B4 := Lib.hid (B3.out.trans (b4.mono B3.out.size))
  clear hrg hog b4
  go_wp2_with fail
  refine (eqF32_any _ _ n cg cw ts _ G4.out (W2.out.keep D4.out) H48.out.2).mono ?_
  rintro e w5 ⟨rfl, d5⟩
  have b5 : Below w4.heap.size w4 w5 := d5.below _
  have R5 := Lib.hid (R4.out.keep b5)
  have M5 := Lib.hid (M4.out.keep b5)
  have G5 := Lib.hid (G4.out.keep b5)
  have S5 := Lib.hid (S4.out.keep b5)
  have D5 := Lib.hid (D4.out.trans (b5.mono D4.out.size))
  have B5 := Lib.hid (B4.out.trans (b5.mono B4.out.size))
  clear d5 b5
  go_wp2_with fail
  refine (toLifeS_made a len cap zs _ (H.out.keep B5.out) hn').mono ?_
  rintro e w6 ⟨rfl, m6, b6⟩
  have R6 := Lib.hid (m6.row HL.out hml HZ.out)
  have R56 := Lib.hid (R5.out.keep b6)
  have M6 := Lib.hid (M5.out.keep b6)
  have G6 := Lib.hid (G5.out.keep b6)
  have S6 := Lib.hid (S5.out.keep b6)
  have D6 := Lib.hid (D5.out.trans (b6.mono D5.out.size))
  have B6 := Lib.hid (B5.out.trans (b6.mono B5.out.size))
  clear m6 b6
  go_wp2_with fail
  refine (eqLifeS_any _ _ len len len zs _ R56.out R6.out hn').mono ?_
  rintro e w7 ⟨rfl, b7⟩
  have M7 := Lib.hid (M6.out.keep b7)
  have G7 := Lib.hid (G6.out.keep b7)
  have S7 := Lib.hid (S6.out.keep b7)
  have D7 := Lib.hid (D6.out.trans (b7.mono D6.out.size))
  have B7 := Lib.hid (B6.out.trans (b7.mono B6.out.size))
  clear b7
  go_wp2_with fail
  refine (markO_any _ len len _ M7.out hn').mono ?_
  rintro e w8 ⟨rfl, _, o8⟩
  have G8 := Lib.hid (G7.out.only S7.out o8 G3.out.2)
  have S8 := Lib.hid (S7.out.only o8 G3.out.2)
  have D8 := Lib.hid (D7.out.trans o8.1)
  have B8 := Lib.hid (B7.out.trans (o8.1.mono G3.out.1))
  clear o8
  go_wp2_with fail
  refine (eqF32_any _ _ n cg cw ts _ G8.out (W2.out.keep D8.out) H48.out.2).mono ?_
  rintro e w9 ⟨rfl, d9⟩
  have b9 : Below w8.heap.size w8 w9 := d9.below _
  have S9 := Lib.hid (S8.out.keep b9)
  have D9 := Lib.hid (D8.out.trans (b9.mono D8.out.size))
  have B9 := Lib.hid (B8.out.trans (b9.mono B8.out.size))
  clear d9 b9
  go_wp2_with fail
  refine (markF32_any _ _ n cg _ S9.out H48.out.1).mono ?_
  rintro e w10 ⟨rfl, m10, b10⟩
  have K10 := Lib.hid m10
  have D10 := Lib.hid (D9.out.trans (b10.mono (Nat.le_of_lt G3.out.2)))
  have B10 := Lib.hid (B9.out.trans (b10.mono (Nat.le_trans G3.out.1 (Nat.le_of_lt G3.out.2))))
  clear m10 b10
  go_wp2_with fail
  refine (heldF32_any _ n _ _ K10.out H48.out.1).mono ?_
  rintro e w11 ⟨rfl, b11⟩
  have K11 := Lib.hid (K10.out.keep b11)
  have D11 := Lib.hid (D10.out.trans (b11.mono D10.out.size))
  have B11 := Lib.hid (B10.out.trans (b11.mono B10.out.size))
  clear b11
  go_wp2_with fail
  refine (toLifeS_made a len cap zs _ (H.out.keep B11.out) hn').mono ?_
  rintro e w12 ⟨rfl, m12, b12⟩
  have R12 := Lib.hid (m12.row HL.out hml HZ.out)
  have K12 := Lib.hid (K11.out.keep b12)
  have D12 := Lib.hid (D11.out.trans (b12.mono D11.out.size))
  have B12 := Lib.hid (B11.out.trans (b12.mono B11.out.size))
  clear m12 b12
  go_wp2_with fail
  refine (implHaz_any _ len len zs _ R12.out).mono ?_
  rintro e w13 ⟨⟨ah, ch, rfl, hrh, _⟩, b13⟩
  rw [HTS.out, HNL.out] at hrh
  rw [HTS.out, HNL.out, HBV.out]
  have G13 := Lib.hid hrh
  have K13 := Lib.hid (K12.out.keep b13)
  have D13 := Lib.hid (D12.out.trans (b13.mono D12.out.size))
  have B13 := Lib.hid (B12.out.trans (b13.mono B12.out.size))
  clear hrh b13
  go_wp2_with fail
  refine (eqF32_any _ _ n ch cw ts _ G13.out (W2.out.keep D13.out) H48.out.2).mono ?_
  rintro e w14 ⟨rfl, d14⟩
  have b14 : Below w13.heap.size w13 w14 := d14.below _
  have K14 := Lib.hid (K13.out.keep b14)
  have B14 := Lib.hid (B13.out.trans (b14.mono B13.out.size))
  clear d14 b14
  go_wp2_with fail
  refine (heldF32_any _ n _ _ K14.out H48.out.1).mono ?_
  rintro e w15 ⟨rfl, b15⟩
  have B15 := Lib.hid (B14.out.trans (b15.mono B14.out.size))
  clear b15
  go_wp2_with fail
  go_ret
  exact ⟨rfl, B15.out⟩
set_option maxRecDepth 100000 in
theorem fnExactHazardSums_walk (a : Option Addr) (len cap : Nat) (zs : List (Nat × Bool)) (w : World) (h : LRow w a len zs) :
    Calls Try.prog 4 #[.slice a len cap] w fun e w' => e = .returned (.bool true) ∧ Below w.heap.size w w' := by
  by_cases hn : (1048576 : Int) < (len : Int)
  · have hml : len ≤ maxLen := h.2.1
    clear h
    go_enter Try.func4, Try.ntmps4
    go_wp2_with fail
    refine (szLifeS_any a len cap 1048576 _ (by decide) hml).mono ?_
    rintro e w1 ⟨rfl, rfl⟩
    rw [if_pos hn]
    go_wp2_with fail
    go_ret
    exact ⟨rfl, Below.refl _ _⟩
  · exact hazLaw_all a len cap zs w h (lim3 hn)
end Go.Proofs.Ytplfmdjccmhclab
