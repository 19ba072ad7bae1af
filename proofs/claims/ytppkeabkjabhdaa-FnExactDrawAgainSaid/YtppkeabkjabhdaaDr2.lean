/-
  Particles drawn by weights, in both. Conditions: the lists read as lists of numbers; the share is a word.
-/
import Derived.Test.YtppkeabkjabhdaaDra
namespace We
open Go Flt Dec F32 Cm
def daE (L W : List Nat) (n sh i : Nat) : Option Nat := some (L.getD (daK W (daR n sh i (daT W))) 0)
end We
namespace Go.Proofs.Ytppkeabkjabhdaa
open Go.RowKit Flt Dec Cm We Cr Liv Hld
set_option maxRecDepth 100000 in
set_option maxHeartbeats 8000000 in
theorem sDrawAgain_any (a : Option Addr) (la ca : Nat) (L : List Nat) (b : Option Addr) (lb cb : Nat) (W : List Nat) (sh : Nat) (w : World) (h : FRow w a la L) (g : FRow w b lb W) (hs : sh < 4294967296) :
    Calls Try.prog 43 #[.slice a la ca, .slice b lb cb, .float .f32 sh] w fun e w' => (∃ a' c', e = .returned (.tuple #[.slice a' (daA L W sh).length c', .bool (da0 L W sh)]) ∧ FRow w' a' (daA L W sh).length (daA L W sh)) ∧ Below w.heap.size w w' := by
  have HT := Lib.hid h
  have HV := Lib.hid g
  have HLa := Lib.hid h.1
  have HLb := Lib.hid g.1
  cases h1 : wd0 L W with
  | false =>
    have HA := Lib.hid (da_w (sh := sh) h1)
    have HE := Lib.hid (da_no HA.out)
    have H1 := Lib.hid h1
    clear h g h1
    go_enter Try.func43, Try.ntmps43
    go_wp2_with fail
    refine (sWeighed_any a la ca L b lb cb W _ HT.out HV.out).mono ?_
    rintro e w1 ⟨rfl, d1⟩
    rw [H1.out]
    have D := Lib.hid d1
    clear d1
    go_wp2_with fail
    go_ret2
    rw [HE.out, HA.out]
    first | exact ⟨⟨_, _, rfl, frow_nil _ _⟩, D.out.below _⟩ | exact ⟨⟨_, ⟨_, rfl⟩, frow_nil _ _⟩, D.out.below _⟩
  | true =>
    have H1 := Lib.hid h1
    obtain ⟨k1, k2, k3⟩ := wd_parts h1
    obtain ⟨k4, k5⟩ := cl_parts k1
    obtain rfl : lb = la := by rw [← h.1, ← g.1, k2]
    rw [h.1] at k4
    cases h2 : shr sh with
    | false =>
      have HA := Lib.hid (da_s (L := L) (W := W) h2)
      have HE := Lib.hid (da_no HA.out)
      have H2 := Lib.hid h2
      clear h g h1 h2 k1 k2 k3 k5
      go_enter Try.func43, Try.ntmps43
      go_wp2_with fail
      refine (sWeighed_any a lb ca L b lb cb W _ HT.out HV.out).mono ?_
      rintro e w1 ⟨rfl, d1⟩
      rw [H1.out]
      have D := Lib.hid d1
      clear d1
      go_wp2_with fail
      refine (c_specShare sh _).mono ?_
      rintro e w2 ⟨rfl, rfl⟩
      rw [H2.out]
      go_wp2_with fail
      go_ret2
      rw [HE.out, HA.out]
      first | exact ⟨⟨_, _, rfl, frow_nil _ _⟩, D.out.below _⟩ | exact ⟨⟨_, ⟨_, rfl⟩, frow_nil _ _⟩, D.out.below _⟩
    | true =>
      have H2 := Lib.hid h2
      have HSH := Lib.hid (shr_is h2 hs)
      have HW3 := Lib.hid k3
      have HN : Hid (F32.Is (fi lb) (Go.floatOfInt .f32 (lb : Int))) := Lib.hid (whole_is lb (by omega))
      have HWI : Hid (∀ k, k < lb → F32.Is (at_ W k) (W.getD k 0)) := Lib.hid fun k hk => at_is (nng_finL k3) g hk
      have HLI : Hid (∀ k, k < lb → F32.Is (some (L.getD k 0)) (L.getD k 0)) := Lib.hid fun k hk => at_is k5 h hk
      have HDT : Hid (daT W = sm (at_ W) lb) := by show _ = _; unfold daT; rw [g.1]
      have HKL : Hid (∀ o, daK W o < lb) := Lib.hid fun o => by rw [← g.1]; exact daK_lt (by rw [g.1]; omega)
      have HN3 : Hid (posO (daT W) = false → daA L W sh = [] ∧ da0 L W sh = false) := Lib.hid fun q => ⟨da_no (da_t q), da_t q⟩
      have HY3 : Hid (posO (daT W) = true → da0 L W sh = true ∧ ∀ Z : List Nat, Z.length = lb → (∀ i, i < lb → F32.Is (daE L W lb sh i) (Z.getD i 0)) → daA L W sh = Z) := Lib.hid fun q => ⟨da_yes h1 h2 q, fun Z hz hg => daA_yes (da_yes h1 h2 q) h.1 hz fun i hi => (hg i hi).1⟩
      have HEE : Hid (∀ i, daE L W lb sh i = some (L.getD (daK W (daR lb sh i (daT W))) 0)) := Lib.hid fun _ => rfl
      obtain ⟨A, hA⟩ : ∃ l, daA L W sh = l := ⟨_, rfl⟩
      obtain ⟨B, hB⟩ : ∃ l, da0 L W sh = l := ⟨_, rfl⟩
      rw [hA, hB] at HN3 HY3
      rw [hA, hB]
      obtain ⟨i0, hi, hz0, hz1, hz2⟩ := info_parts (show (Try.prog.info? 31).map (fun i => (i.zero, i.size, i.bytes)) = some (some (.float .f32 0), 1, 4) by kernel_rfl)
      have HK1 : Hid (∀ o k, k < lb → daQ W o k = true → (∀ j, j < k → daQ W o j = false) → daK W o = k) := Lib.hid fun o k hk q1 q2 => daK_at (by rw [g.1]; exact hk) q1 q2
      have HK0 : Hid (∀ o, (∀ j, j < lb → daQ W o j = false) → daK W o = lb - 1) := Lib.hid fun o q => by rw [daK_none (by rw [g.1]; exact q), g.1]
      clear h g h1 h2 k1 k2 k3 k5 hA hB
      go_enter Try.func43, Try.ntmps43
      go_wp2_with fail
      refine (sWeighed_any a lb ca L b lb cb W _ HT.out HV.out).mono ?_
      rintro e w1 ⟨rfl, d1⟩
      rw [H1.out]
      have D := Lib.hid d1
      clear d1
      go_wp2_with fail
      refine (c_specShare sh _).mono ?_
      rintro e w2 ⟨rfl, rfl⟩
      rw [H2.out]
      go_wp2_with fail
      go_loopg [8, 27] lb (fun n s i wr => ∃ k x : Nat, s = .float .f32 x ∧ i = .int .i64 (k : Int) ∧ Hid (k + n = lb) ∧ k ≤ lb ∧ Hid (F32.Is (sm (at_ W) k) x) ∧ Hid (Drawn w wr))
      case atStart => exact ⟨0, 0, rfl, rfl, by show _ = _; omega, Nat.zero_le _, zero_is, D.out⟩
      case round =>
        clear D
        obtain ⟨k, x, rfl, rfl, hk, hkl, hX, hD⟩ := hrel
        by_cases hlt : k < lb
        · have HJ : Hid (k + 1 + (gk - 1) = lb) := by have := hk.out; show _ = _; omega
          have HG : Hid (gk - 1 < gk) := by have := hk.out; show _ < _; omega
          obtain ⟨b1, o1, rfl, hb1, hc1⟩ := (frow_drawn HV.out hD.out).2.2.2 k hlt
          have i1 := HWI.out k hlt
          generalize W.getD k 0 = z at *
          obtain ⟨x1, v1, r1, j1, l1, e1⟩ := F32.arith_ex (P := Try.prog) (op := .add) (.inl rfl) 31 hX.out i1 wr
          have DD := Lib.hid e1
          have J1 : Hid (F32.Is (sm (at_ W) (k + 1)) x1) := j1
          have DR := Lib.hid (hD.out.trans DD.out)
          clear j1 l1 e1
          clear hb1 i1 hX hD DD
          go_wp2_with fail
          go_roundg (gk - 1)
          case measure => exact HG.out
          case rel => exact ⟨k + 1, x1, rfl, by go_num, HJ, by omega, J1.out, DR.out⟩
        · obtain rfl : k = lb := by omega
          have HTT : Hid (F32.Is (daT W) x) := by show F32.Is _ _; rw [HDT.out]; exact hX.out
          have hp := pos_is HTT.out
          generalize x = tot at *
          generalize wr = w3 at *
          cases hq : posO (daT W) with
          | false =>
            rw [hq] at hp
            have HP := Lib.hid hp
            have HE := Lib.hid (HN3.out hq)
            clear hq hp hlt hk
            go_wp2_with fail
            refine (c_specAbove tot _).mono ?_
            rintro e w4 ⟨rfl, d4⟩
            rw [HP.out]
            have D4 := Lib.hid (hD.out.trans d4)
            clear d4
            go_wp2_with fail
            go_ret2
            rw [HE.out.1, HE.out.2]
            first | exact ⟨⟨_, _, rfl, frow_nil _ _⟩, D4.out.below _⟩ | exact ⟨⟨_, ⟨_, rfl⟩, frow_nil _ _⟩, D4.out.below _⟩
          | true =>
            rw [hq] at hp
            have HP := Lib.hid hp
            have HE := Lib.hid (HY3.out hq)
            clear hq hp hlt hk
            go_wp2_with fail
            refine (c_specAbove tot _).mono ?_
            rintro e w4 ⟨rfl, d4⟩
            rw [HP.out]
            have D4 := Lib.hid (hD.out.trans d4)
            have HGE : Hid (w.heap.size ≤ w4.heap.size) := (D4.out.below w.heap.size).size
            have HB1 : Hid (Below w.heap.size w (w4.alloc (.cells #[] 31))) := Lib.hid ((D4.out.below w.heap.size).alloc HGE.out _)
            clear d4 hD
            go_wp2_with fail
            go_loopg [10, 43] k (fun q v6 i wr => ∃ (m c3 : Nat) (a3 : Option Addr) (zs : List Nat), v6 = .slice a3 m c3 ∧ i = .int .i64 (m : Int) ∧ Hid (m + q = k) ∧ m ≤ k ∧ Hid (zs.length = m) ∧ Hid (∀ j, j < m → F32.Is (daE L W k sh j) (zs.getD j 0) ∧ zs.getD j 0 < 4294967296) ∧ Hid (wr.ownsRow w4.heap.size 31 1 (.slice a3 m c3) m (fv zs)) ∧ Hid (w4.heap.size ≤ wr.heap.size) ∧ Hid (Below w.heap.size w wr))
            case atStart => exact ⟨0, _, _, [], rfl, rfl, by show _ = _; omega, Nat.zero_le _, rfl, (show Hid _ from fun j hj => absurd hj (Nat.not_lt_zero _)), World.ownsRow_made w4 #[] 0 (Nat.le_refl _) (Nat.zero_le _) rfl, (by show _ ≤ _; simp), HB1.out⟩
            case round =>
              clear D4 HB1
              obtain ⟨m, c3, a3, zs, rfl, rfl, hk, hkl, hzl, hI, hO, HBB, hB⟩ := hrel
              by_cases hlt : m < k
              · have HJ : Hid (m + 1 + (gk - 1) = k) := by have := hk.out; show _ = _; omega
                have HG : Hid (gk - 1 < gk) := by have := hk.out; show _ < _; omega
                obtain ⟨x1, v1, r1, j1, l1, e1⟩ := F32.arith_ex (P := Try.prog) (op := .add) (.inl rfl) 31 (whole_is m (by omega)) HSH.out wr
                obtain ⟨x2, v2, r2, j2, l2, e2⟩ := F32.arith_ex (P := Try.prog) (op := .quo) (.inr (.inr (.inr rfl))) 31 j1 HN.out v1
                obtain ⟨x3, v3, r3, j3, l3, e3⟩ := F32.arith_ex (P := Try.prog) (op := .mul) (.inr (.inr (.inl rfl))) 31 j2 HTT.out v2
                have DV := Lib.hid ((e1.trans e2).trans e3)
                have HBR : Hid (F32.Is (daR k sh m (daT W)) x3) := j3
                obtain ⟨BO, hBO⟩ : ∃ o, daR k sh m (daT W) = o := ⟨_, rfl⟩
                have HBO := Lib.hid hBO
                rw [hBO] at HBR
                clear j1 l1 e1 j2 l2 e2 j3 l3 e3
                clear hBO
                generalize x3 = bar at *
                have hkk : (k : Int) - 1 = ((k - 1 : Nat) : Int) := by omega
                generalize hwv : v3 = wi at *
                go_wp2_with fail
                clear r1 r2 r3 hkk
                generalize hwo : wr = wo at *
                generalize gk = go1 at *
                go_loopg [13, 14, 61] k (fun n at' s i wr => ∃ d p y : Nat, at' = .int .i64 (p : Int) ∧ s = .float .f32 y ∧ i = .int .i64 (d : Int) ∧ Hid (d + n = k) ∧ d ≤ k ∧ Hid (F32.Is (sm (at_ W) d) y) ∧ p < k ∧ Hid ((p = k - 1 ∧ ∀ j, j < d → daQ W BO j = false) ∨ (p < d ∧ daQ W BO p = true ∧ ∀ j, j < p → daQ W BO j = false)) ∧ Hid (Drawn wi wr))
                case atStart => exact ⟨0, k - 1, 0, rfl, rfl, rfl, by show _ = _; omega, Nat.zero_le _, zero_is, by omega, .inl ⟨rfl, fun j hj => absurd hj (Nat.not_lt_zero _)⟩, Drawn.refl _⟩
                case round =>
                  obtain ⟨d, p, y, rfl, rfl, rfl, hd, hdl, hY, hpk, hQ, hDi⟩ := hrel
                  by_cases hlt2 : d < k
                  · have HJ2 : Hid (d + 1 + (gk - 1) = k) := by have := hd.out; show _ = _; omega
                    have HG2 : Hid (gk - 1 < gk) := by have := hd.out; show _ < _; omega
                    obtain ⟨b1, o1, rfl, hb1, hc1⟩ := (frow_drawn (frow_drawn (HV.out.keep hB.out) DV.out) hDi.out).2.2.2 d hlt2
                    have i1 := HWI.out d hlt2
                    generalize W.getD d 0 = z at *
                    obtain ⟨x1, v1, r1, j1, l1, e1⟩ := F32.arith_ex (P := Try.prog) (op := .add) (.inl rfl) 31 hY.out i1 wr
                    have DD := Lib.hid e1
                    have J1 : Hid (F32.Is (sm (at_ W) (d + 1)) x1) := j1
                    have hq := cmp_is .gt J1.out HBR.out
                    have DR := Lib.hid (hDi.out.trans DD.out)
                    clear j1 l1 e1
                    clear hb1 i1 hY hDi DD
                    cases hc : cmpO .gt (sm (at_ W) (d + 1)) BO with
                    | false =>
                      rw [hc] at hq
                      have HQN : Hid ((p = k - 1 ∧ ∀ j, j < d + 1 → daQ W BO j = false) ∨ (p < d + 1 ∧ daQ W BO p = true ∧ ∀ j, j < p → daQ W BO j = false)) := by
                        rcases hQ.out with ⟨q1, q2⟩ | ⟨q1, q2, q3⟩
                        · refine .inl ⟨q1, fun j hj => ?_⟩
                          by_cases e : j = d
                          · subst e; exact hc
                          · exact q2 j (by omega)
                        · exact .inr ⟨by omega, q2, q3⟩
                      clear hc hQ
                      go_wp2_with fail
                      go_roundg (gk - 1)
                      case measure => exact HG2.out
                      case rel => exact ⟨d + 1, p, x1, rfl, rfl, by go_num, HJ2, by omega, J1.out, hpk, HQN.out, DR.out⟩
                    | true =>
                      rw [hc] at hq
                      by_cases hdp : d < p
                      · have hdp2 : (d : Int) < (p : Int) := by omega
                        have HQN : Hid ((d = k - 1 ∧ ∀ j, j < d + 1 → daQ W BO j = false) ∨ (d < d + 1 ∧ daQ W BO d = true ∧ ∀ j, j < d → daQ W BO j = false)) := by
                          rcases hQ.out with ⟨q1, q2⟩ | ⟨q1, q2, q3⟩
                          · exact .inr ⟨by omega, hc, q2⟩
                          · omega
                        clear hc hQ
                        go_wp2_with fail
                        go_roundg (gk - 1)
                        case measure => exact HG2.out
                        case rel => exact ⟨d + 1, d, x1, rfl, rfl, by go_num, HJ2, by omega, J1.out, by omega, HQN.out, DR.out⟩
                      · have hdp2 : ¬ (d : Int) < (p : Int) := by omega
                        have HQN : Hid ((p = k - 1 ∧ ∀ j, j < d + 1 → daQ W BO j = false) ∨ (p < d + 1 ∧ daQ W BO p = true ∧ ∀ j, j < p → daQ W BO j = false)) := by
                          rcases hQ.out with ⟨q1, q2⟩ | ⟨q1, q2, q3⟩
                          · obtain rfl : p = d := by omega
                            exact .inr ⟨by omega, hc, q2⟩
                          · exact .inr ⟨by omega, q2, q3⟩
                        clear hc hQ
                        go_wp2_with fail
                        go_roundg (gk - 1)
                        case measure => exact HG2.out
                        case rel => exact ⟨d + 1, p, x1, rfl, rfl, by go_num, HJ2, by omega, J1.out, hpk, HQN.out, DR.out⟩
                  · obtain rfl : d = k := by omega
                    have HPK : Hid (daK W BO = p) := by
                      rcases hQ.out with ⟨q1, q2⟩ | ⟨q1, q2, q3⟩
                      · show _ = _; rw [HK0.out _ q2, q1]
                      · exact HK1.out _ _ q1 q2 q3
                    clear hlt2 hd hQ hY
                    have DW := Lib.hid (DV.out.trans hDi.out)
                    generalize wr = w5 at *
                    clear hDi DV
                    obtain ⟨b2, o2, rfl, hb2, hc2⟩ := (frow_drawn (HT.out.keep hB.out) DW.out).2.2.2 p hpk
                    have HX : Hid (F32.Is (daE L W d sh m) (L.getD p 0) ∧ L.getD p 0 < 4294967296) := by
                      have := HLI.out p hpk
                      show _ ∧ _
                      rw [HEE.out, HBO.out, HPK.out]
                      exact ⟨this, this.2.2⟩
                    generalize L.getD p 0 = x1 at *
                    clear hb2
                    have HO4 := Lib.hid (owned_drawn hO.out DW.out)
                    have HB4 := Lib.hid (hB.out.trans (DW.out.below w.heap.size))
                    have HCELL : Hid (∀ (j : Nat) (u : Value), [Value.float .f32 x1][j]? = some u → (w5.alloc (.cells #[.float .f32 x1] 31)).cell? ((⟨w5.heap.size, 0, none⟩ : Addr).add j) = some u) := Lib.hid (Cm.cell_new1 w5 31 (.float .f32 x1))
                    have HO1 := Lib.hid (HO4.out.alloc (.cells #[.float .f32 x1] 31))
                    have HB1 := Lib.hid (HB4.out.alloc HB4.out.size (.cells #[.float .f32 x1] 31))
                    have HBS : Hid (w4.heap.size ≤ (w5.alloc (.cells #[.float .f32 x1] 31)).heap.size) := by show _ ≤ _; obtain ⟨nd, hnd⟩ := DW.out; rw [hnd]; simp; exact Nat.le_trans HBB.out (Nat.le_succ _)
                    have HLE : Hid (m + 1 ≤ maxLen ∧ (m + 1) * 4 ≤ 140737488355328) := by show _ ∧ _; unfold maxLen; omega
                    clear hO hB HO4 HB4 
                    go_wp2_with (at_builtin; refine wpList_append_own _ rfl _ _ 30 rfl (w4.heap.size) 31 i0 (.float .f32 0) 1 4 Try.underlying30 hi hz0 hz1 hz2 rfl (by decide) (.slice a3 m c3) m (fv zs) rfl HO1.out ⟨w5.heap.size, 0, none⟩ 1 1 [.float .f32 x1] rfl rfl HCELL.out (by intro u hu; simp at hu; subst hu; rfl) HLE.out.1 HLE.out.2 HBS.out ?_)
                    intro v' w6 hown' hgrow _
                    have HO3 : Hid (w6.ownsRow (w4.heap.size) 31 1 v' (m + 1) (fv (zs ++ [x1]))) := by
                      show World.ownsRow _ _ _ _ _ _ _
                      rw [Cm.fv_snoc]; exact hown'
                    have HB3 : Hid (Below w.heap.size w w6) := Lib.hid (HB1.out.grown hgrow HB1.out.size (fun q hq => Nat.le_trans HGE.out (HO1.out.lt q hq).1))
                    have HBB3 : Hid (w4.heap.size ≤ w6.heap.size) := Lib.hid (Nat.le_trans HBS.out hgrow.size)
                    clear hown' hgrow HO1 HB1 HCELL HBS HBB
                    obtain ⟨a5, c5, rfl⟩ := Cm.owns_shape HO3.out
                    have HZ2 : Hid ((zs ++ [x1]).length = m + 1) := by show _ = _; rw [List.length_append, hzl.out]; rfl
                    have HI2 : Hid (∀ j, j < m + 1 → F32.Is (daE L W d sh j) ((zs ++ [x1]).getD j 0) ∧ (zs ++ [x1]).getD j 0 < 4294967296) := by
                      show ∀ j, _
                      intro j hj
                      by_cases ej : j = m
                      · subst ej; rw [snoc_last zs x1 hzl.out]; exact HX.out
                      · rw [snoc_old zs x1 (by rw [hzl.out]; omega)]; exact hI.out j (by omega)
                    go_wp2_with fail
                    go_roundg (go1 - 1)
                    case measure => exact HG.out
                    case rel => exact ⟨m + 1, c5, a5, zs ++ [x1], rfl, by go_num, HJ, by omega, HZ2.out, HI2.out, HO3.out, HBB3.out, HB3.out⟩
              · obtain rfl : m = k := by omega
                have hrow := Cm.row_owned hO.out hzl.out (by omega) (lt_mem hzl.out fun j hj => (hI.out j hj).2)
                have HR := Lib.hid hrow
                have HY : Hid (A = zs) := Lib.hid (HE.out.2 zs hzl.out fun i hi => (hI.out i hi).1)
                have HYB := Lib.hid HE.out.1
                generalize wr = w5 at *
                clear hlt hO hrow hk
                go_wp2_with fail
                go_ret2
                rw [HY.out, HYB.out, hzl.out]
                first | exact ⟨⟨_, _, rfl, HR.out⟩, hB.out⟩ | exact ⟨⟨_, ⟨_, rfl⟩, HR.out⟩, hB.out⟩
set_option maxRecDepth 100000 in
set_option maxHeartbeats 8000000 in
theorem iDrawAgain_any (a : Option Addr) (la ca : Nat) (L : List Nat) (b : Option Addr) (lb cb : Nat) (W : List Nat) (sh : Nat) (w : World) (h : FRow w a la L) (g : FRow w b lb W) (_hc : la ≤ ca) (_hc2 : lb ≤ cb) (hs : sh < 4294967296) :
    Calls Try.prog 44 #[.slice a la ca, .slice b lb cb, .float .f32 sh] w fun e w' => (∃ a' c', e = .returned (.tuple #[.slice a' (daA L W sh).length c', .bool (da0 L W sh)]) ∧ FRow w' a' (daA L W sh).length (daA L W sh) ∧ Dec.Own w' w.heap.size a' (daA L W sh).length 31) ∧ Below w.heap.size w w' := by
  have HT := Lib.hid h
  have HV := Lib.hid g
  have HLa := Lib.hid h.1
  have HLb := Lib.hid g.1
  cases h1 : wd0 L W with
  | false =>
    have HA := Lib.hid (da_w (sh := sh) h1)
    have HE := Lib.hid (da_no HA.out)
    have H1 := Lib.hid h1
    clear h g h1
    go_enter Try.func44, Try.ntmps44
    go_wp2_with fail
    refine (iWeighed_any a la ca L b lb cb W _ HT.out HV.out).mono ?_
    rintro e w1 ⟨rfl, d1⟩
    rw [H1.out]
    have D := Lib.hid d1
    clear d1
    go_wp2_with fail
    go_ret2
    rw [HE.out, HA.out]
    first | exact ⟨⟨_, _, rfl, frow_nil _ _, .inl rfl⟩, D.out.below _⟩ | exact ⟨⟨_, ⟨_, rfl⟩, frow_nil _ _, .inl rfl⟩, D.out.below _⟩
  | true =>
    have H1 := Lib.hid h1
    obtain ⟨k1, k2, k3⟩ := wd_parts h1
    obtain ⟨k4, k5⟩ := cl_parts k1
    obtain rfl : lb = la := by rw [← h.1, ← g.1, k2]
    rw [h.1] at k4
    cases h2 : shr sh with
    | false =>
      have HA := Lib.hid (da_s (L := L) (W := W) h2)
      have HE := Lib.hid (da_no HA.out)
      have H2 := Lib.hid h2
      clear h g h1 h2 k1 k2 k3 k5
      go_enter Try.func44, Try.ntmps44
      go_wp2_with fail
      refine (iWeighed_any a lb ca L b lb cb W _ HT.out HV.out).mono ?_
      rintro e w1 ⟨rfl, d1⟩
      rw [H1.out]
      have D := Lib.hid d1
      clear d1
      go_wp2_with fail
      refine (c_implChance sh _).mono ?_
      rintro e w2 ⟨rfl, rfl⟩
      rw [H2.out]
      go_wp2_with fail
      go_ret2
      rw [HE.out, HA.out]
      first | exact ⟨⟨_, _, rfl, frow_nil _ _, .inl rfl⟩, D.out.below _⟩ | exact ⟨⟨_, ⟨_, rfl⟩, frow_nil _ _, .inl rfl⟩, D.out.below _⟩
    | true =>
      have H2 := Lib.hid h2
      have HSH := Lib.hid (shr_is h2 hs)
      have HW3 := Lib.hid k3
      have HN : Hid (F32.Is (fi lb) (Go.floatOfInt .f32 (lb : Int))) := Lib.hid (whole_is lb (by omega))
      have HWI : Hid (∀ k, k < lb → F32.Is (at_ W k) (W.getD k 0)) := Lib.hid fun k hk => at_is (nng_finL k3) g hk
      have HLI : Hid (∀ k, k < lb → F32.Is (some (L.getD k 0)) (L.getD k 0)) := Lib.hid fun k hk => at_is k5 h hk
      have HDT : Hid (daT W = sm (at_ W) lb) := by show _ = _; unfold daT; rw [g.1]
      have HKL : Hid (∀ o, daK W o < lb) := Lib.hid fun o => by rw [← g.1]; exact daK_lt (by rw [g.1]; omega)
      have HN3 : Hid (posO (daT W) = false → daA L W sh = [] ∧ da0 L W sh = false) := Lib.hid fun q => ⟨da_no (da_t q), da_t q⟩
      have HY3 : Hid (posO (daT W) = true → da0 L W sh = true ∧ ∀ Z : List Nat, Z.length = lb → (∀ i, i < lb → F32.Is (daE L W lb sh i) (Z.getD i 0)) → daA L W sh = Z) := Lib.hid fun q => ⟨da_yes h1 h2 q, fun Z hz hg => daA_yes (da_yes h1 h2 q) h.1 hz fun i hi => (hg i hi).1⟩
      have HEE : Hid (∀ i, daE L W lb sh i = some (L.getD (daK W (daR lb sh i (daT W))) 0)) := Lib.hid fun _ => rfl
      obtain ⟨A, hA⟩ : ∃ l, daA L W sh = l := ⟨_, rfl⟩
      obtain ⟨B, hB⟩ : ∃ l, da0 L W sh = l := ⟨_, rfl⟩
      rw [hA, hB] at HN3 HY3
      rw [hA, hB]
      have hmk : ∀ w, (Instr.makeSlice 30 (.int .i64 (lb : Int)) (.int .i64 (lb : Int))).run Try.prog w = .ok (.slice (some ⟨w.heap.size, 0, none⟩) lb lb) (w.alloc (.cells (madeCells (Value.float .f32 0).cells (lb * 1)) 31)) := by
        intro w
        obtain ⟨i, hi, hz0, hz1, hz2⟩ := info_parts (show (Try.prog.info? 31).map (fun i => (i.zero, i.size, i.bytes)) = some (some (.float .f32 0), 1, 4) by kernel_rfl)
        have := run_make (P := Try.prog) w 30 31 i (.float .f32 0) Try.underlying30 hi hz0 .i64 .i64 (lb : Int) (lb : Int) (by omega) (Int.le_refl _) (by rw [hz2]; omega) (by omega)
        rw [hz1, Int.toNat_natCast] at this
        exact this
      have HMD : Hid (∀ w : World, Hld.FHd 31 (w.alloc (.cells (madeCells (Value.float .f32 0).cells (lb * 1)) 31)) w.heap.size lb (List.replicate lb 0)) := Lib.hid fun w => Hld.FHd.made w 31 lb
      generalize madeCells (Value.float .f32 0).cells (lb * 1) = C0 at *
      have HSO : Hid (Flt.sumO W = daT W) := by show _ = _; rw [sumO_sm (nng_finL k3)]; rfl
      clear h g h1 h2 k1 k2 k3 k5 hA hB
      go_enter Try.func44, Try.ntmps44
      go_wp2_with fail
      refine (iWeighed_any a lb ca L b lb cb W _ HT.out HV.out).mono ?_
      rintro e w1 ⟨rfl, d1⟩
      rw [H1.out]
      have D := Lib.hid d1
      clear d1
      go_wp2_with fail
      refine (c_implChance sh _).mono ?_
      rintro e w2 ⟨rfl, rfl⟩
      rw [H2.out]
      go_wp2_with fail
      refine (sumOf_is b lb cb W _ _ (frow_drawn HV.out D.out) (by omega) HSO.out).mono ?_
      rintro e w3 ⟨⟨tot, rfl, g3⟩, d3⟩
      have HTT := Lib.hid g3
      have D3 := Lib.hid (D.out.trans d3)
      have hp := pos_is g3
      clear g3 d3 D
      cases hq : posO (daT W) with
      | false =>
        rw [hq] at hp
        have HP := Lib.hid hp
        have HE := Lib.hid (HN3.out hq)
        clear hq hp
        go_wp2_with fail
        refine (c_implAbove tot _).mono ?_
        rintro e w4 ⟨rfl, d4⟩
        rw [HP.out]
        have D4 := Lib.hid (D3.out.trans d4)
        clear d4
        go_wp2_with fail
        go_ret2
        rw [HE.out.1, HE.out.2]
        first | exact ⟨⟨_, _, rfl, frow_nil _ _, .inl rfl⟩, D4.out.below _⟩ | exact ⟨⟨_, ⟨_, rfl⟩, frow_nil _ _, .inl rfl⟩, D4.out.below _⟩
      | true =>
        rw [hq] at hp
        have HP := Lib.hid hp
        have HE := Lib.hid (HY3.out hq)
        clear hq hp
        go_wp2_with fail
        refine (c_implAbove tot _).mono ?_
        rintro e w4 ⟨rfl, d4⟩
        rw [HP.out]
        have D4 := Lib.hid (D3.out.trans d4)
        have HGE : Hid (w.heap.size ≤ w4.heap.size) := (D4.out.below w.heap.size).size
        have HB1 : Hid (Below w.heap.size w (w4.alloc (.cells C0 31))) := Lib.hid ((D4.out.below w.heap.size).alloc HGE.out _)
        have HM1 := Lib.hid (HMD.out w4)
        clear d4
        go_wp2_with fail
        go_loopg [30] lb (fun q i wr => ∃ (k : Nat) (M : List Nat), i = .int .i64 (k : Int) ∧ Hid (k + q = lb) ∧ k ≤ lb ∧ Hid (FHd 31 wr w4.heap.size lb M) ∧ Hid (∀ j, j < lb → (j < k → F32.Is (daE L W lb sh j) (M.getD j 0)) ∧ M.getD j 0 < 4294967296) ∧ Hid (Below w.heap.size w wr))
        case atStart => exact ⟨0, _, rfl, by show _ = _; omega, Nat.zero_le _, HM1.out, (show Hid _ from fun j hj => ⟨fun h => absurd h (Nat.not_lt_zero _), by simp [List.getD, hj]⟩), HB1.out⟩
        case round =>
          clear D3 D4 HB1 HM1 HMD
          obtain ⟨k, M, rfl, hk, hkl, hS, hI, hB⟩ := hrel
          by_cases hlt : k < lb
          · have HJ : Hid (k + 1 + (gk - 1) = lb) := by have := hk.out; show _ = _; omega
            have HG : Hid (gk - 1 < gk) := by have := hk.out; show _ < _; omega
            obtain ⟨x1, v1, r1, j1, l1, e1⟩ := F32.arith_ex (P := Try.prog) (op := .add) (.inl rfl) 31 (whole_is k (by omega)) HSH.out wr
            obtain ⟨x2, v2, r2, j2, l2, e2⟩ := F32.arith_ex (P := Try.prog) (op := .quo) (.inr (.inr (.inr rfl))) 31 j1 HN.out v1
            obtain ⟨x3, v3, r3, j3, l3, e3⟩ := F32.arith_ex (P := Try.prog) (op := .mul) (.inr (.inr (.inl rfl))) 31 j2 HTT.out v2
            have DV := Lib.hid ((e1.trans e2).trans e3)
            have HBR : Hid (F32.Is (daR lb sh k (daT W)) x3) := j3
            clear j1 l1 e1 j2 l2 e2 j3 l3 e3
            go_wp2_with fail
            refine (firstAbove_any b lb cb W x3 _ _ (frow_drawn (HV.out.keep hB.out) DV.out) HW3.out k4 HBR.out).mono ?_
            rintro e w5 ⟨rfl, d5⟩
            have DW := Lib.hid (DV.out.trans d5)
            obtain ⟨p, hp⟩ : ∃ p, daK W (daR lb sh k (daT W)) = p := ⟨_, rfl⟩
            have hpk : p < lb := by rw [← hp]; exact HKL.out _
            rw [hp]
            have HPK := Lib.hid hp
            obtain ⟨b2, o2, rfl, hb2, hc2⟩ := (frow_drawn (HT.out.keep hB.out) DW.out).2.2.2 p hpk
            have HX : Hid (F32.Is (daE L W lb sh k) (L.getD p 0) ∧ L.getD p 0 < 4294967296) := by
              have := HLI.out p hpk
              show _ ∧ _
              rw [HEE.out, HPK.out]
              exact ⟨this, this.2.2⟩
            generalize L.getD p 0 = x1 at *
            clear hb2 d5 hp r1 r2 r3 DV HBR
            have hs4 := Cr.fhd_drawn hS.out DW.out
            have HB4 := Lib.hid (hB.out.trans (DW.out.below w.heap.size))
            obtain ⟨u4, hu4⟩ := hs4.1.cell (show k < lb by omega)
            have hfr4 := hs4.1.frozen (k)
            have HS5 := Lib.hid (hs4.set (show k < lb by omega) x1)
            have HB5 := Lib.hid (HB4.out.setCell (p := ⟨w4.heap.size, k, none⟩) HGE.out (.float .f32 x1))
            have HLL := Lib.hid hs4.2.1
            have HI5 : Hid (∀ j, j < lb → (j < k + 1 → F32.Is (daE L W lb sh j) ((M.set (k) x1).getD j 0)) ∧ (M.set (k) x1).getD j 0 < 4294967296) := by
              show ∀ j, _
              intro j hj
              by_cases ej : j = k
              · have : (M.set (k) x1).getD (k) 0 = x1 := by simp [List.getD, show k < M.length by rw [HLL.out]; omega]
                rw [ej, this]; exact ⟨fun _ => HX.out.1, HX.out.2⟩
              · have : (M.set (k) x1).getD j 0 = M.getD j 0 := by simp [List.getD, show ¬ k = j by omega]
                rw [this]; exact ⟨fun h => (hI.out j hj).1 (by omega), (hI.out j hj).2⟩
            clear hS hB hs4 HB4
            go_wp2_with fail
            go_roundg (gk - 1)
            case measure => exact HG.out
            case rel => exact ⟨k + 1, M.set k x1, by go_num, HJ, by omega, HS5.out, HI5.out, HB5.out⟩
          · obtain rfl : k = lb := by omega
            have HR := Lib.hid (hS.out.row (by omega) (lt_mem hS.out.2.1 fun j hj => (hI.out j hj).2))
            have HY : Hid (A = M) := Lib.hid (HE.out.2 M hS.out.2.1 fun i hi => (hI.out i hi).1 hi)
            have HYB := Lib.hid HE.out.1
            have HSL := Lib.hid hS.out.1
            have HYL := Lib.hid hS.out.2.1
            generalize wr = w5 at *
            clear hlt hS hk
            go_wp2_with fail
            go_ret2
            rw [HY.out, HYB.out, HYL.out]
            first | exact ⟨⟨_, _, rfl, HR.out, .inr ⟨_, rfl, HGE.out, HSL.out⟩⟩, hB.out⟩ | exact ⟨⟨_, ⟨_, rfl⟩, HR.out, .inr ⟨_, rfl, HGE.out, HSL.out⟩⟩, hB.out⟩
end Go.Proofs.Ytppkeabkjabhdaa
