/-
  Spares that are split: both functions. Conditions: the list reads as a list of 32-bit numbers.
-/
import Derived.Test.YtcknbfkpilleaaaSplW
import Derived.Test.YtcknbfkpilleaaaIntW
namespace Flt.Nd
open Go Flt Dec
theorem FHead1.keep {w w' : World} {g : Nat} {l : List Nat} (h : FHead1 w g l) (hg : g < w.heap.size) (hb : Go.RowKit.Below w.heap.size w w') : FHead1 w' g l := by
  intro j hj
  rw [World.cell?_of_block (w := w) (hb.block g hg)]; exact h j hj
theorem FHead1.row {w : World} {g : Nat} {l : List Nat} (h : FHead1 w g l) (hg : g < w.heap.size) (hm : l.length ≤ 1048576) (hz : ∀ z ∈ l, z < 4294967296) : FRow w (some ⟨g, 0, none⟩) l.length l :=
  ⟨rfl, by unfold maxLen; omega, hz, fun i hi => ⟨g, 0, rfl, hg, by rw [Nat.zero_add]; exact h i hi⟩⟩
end Flt.Nd
namespace Flt.Spl
open Go Flt Nd Cm Dec
theorem irow_nil (w : World) (a : Option Addr) : IRow w a 0 [] := ⟨rfl, Nat.zero_le _, by simp, fun i hi => absurd hi (Nat.not_lt_zero _)⟩
theorem lkL_snoc (zs : List Nat) (v : List Int) (n : Nat) : lkL zs v (n + 1) = lkL zs v n ++ [lkA zs v n] := by simp [lkL, List.range_succ]
theorem splB_len {zs : List Nat} {n : Int} (h : ¬ (1 ≤ zs.length ∧ zs.length ≤ 8)) : splB zs n = false := by unfold splB; rw [decide_eq_false h, Bool.false_and]
theorem splB_tot {zs : List Nat} {n : Int} (h : ¬ (0 ≤ n ∧ n ≤ 32)) : splB zs n = false := by unfold splB; rw [decide_eq_false h, Bool.false_and, Bool.and_false]
theorem splB_mn {zs : List Nat} {n : Int} (h : zs.all mn = false) : splB zs n = false := by unfold splB; rw [h, Bool.and_false, Bool.and_false]
theorem all_no {zs : List Nat} {k : Nat} (hk : k < zs.length) (h : mn (zs.getD k 0) = false) : zs.all mn = false := by
  rw [List.all_eq_false]
  exact ⟨zs.getD k 0, by simp [List.getD, hk], by rw [h]; decide⟩
theorem all_yes {zs : List Nat} (h : ∀ k, k < zs.length → mn (zs.getD k 0) = true) : zs.all mn = true := by
  rw [List.all_eq_true]
  intro z hz
  obtain ⟨j, hj, rfl⟩ := List.mem_iff_getElem.1 hz
  have := h j hj
  rw [show zs.getD j 0 = zs[j] from by simp [List.getD, hj]] at this
  exact this
theorem splA_yes {zs : List Nat} {N : Nat} (h1 : 1 ≤ zs.length ∧ zs.length ≤ 8) (h2 : N ≤ 32) (h3 : zs.all mn = true) : splB zs N = true ∧ splA zs N = spl zs N := by
  have : splB zs N = true := by unfold splB; rw [decide_eq_true h1, decide_eq_true (show 0 ≤ (N : Int) ∧ (N : Int) ≤ 32 by omega), h3]; rfl
  refine ⟨this, ?_⟩
  unfold splA; rw [this, Int.toNat_natCast]; rfl
/-- the greatest number so far -/
def most (zs : List Nat) (v : List Int) (k : Nat) : Nat := if k = 0 then 0 else lkA zs v (bs (key zs v) k)
theorem bs_one (f : Nat → Int) : bs f 1 = 0 := by simp [bs]
theorem bs_gt {f : Nat → Int} {k : Nat} (h0 : 0 < k) (h : f (bs f k) < f k) : bs f (k + 1) = k := by unfold bs; rw [if_neg (by omega), if_pos h]
theorem bs_le {f : Nat → Int} {k : Nat} (h0 : 0 < k) (h : ¬ f (bs f k) < f k) : bs f (k + 1) = bs f k := by
  show (if k = 0 then 0 else if f (bs f k) < f k then k else bs f k) = _
  rw [if_neg (by omega), if_neg h]
/-- all that the walks ask of a place -/
theorem lkA_ok {zs : List Nat} {v : List Int} {k : Nat} (hz : mean (zs.getD k 0)) (hv : 0 ≤ v.getD k 0 ∧ v.getD k 0 ≤ 32) : ∃ c : Nat, v.getD k 0 = (c : Int) ∧ c ≤ 32 ∧ Go.floatBits .sub .f32 1065353216 (srv (zs.getD k 0) (c + 1)) = some (lkA zs v k) ∧ nan .f32 (lkA zs v k) = false ∧ lkA zs v k < 4294967296 := by
  obtain ⟨h1, h2, h3⟩ := lk_ok hz hv
  refine ⟨(v.getD k 0).toNat, by omega, by omega, h1, h2, h3⟩
end Flt.Spl
namespace Go.Proofs.Ytcknbfkpilleaaa
open Go.RowKit Flt Dec Cm Nd Liv Spl Hld
set_option maxRecDepth 40000 in
set_option maxHeartbeats 8000000 in
theorem sSplitSpares_any (a : Option Addr) (len cap : Nat) (zs : List Nat) (n : Int) (w : World) (h : FRow w a len zs) :
    Calls Try.prog 29 #[.slice a len cap, .int .i64 n] w fun e w' => (∃ a' c', e = .returned (.tuple #[.slice a' (splA zs n).length c', .bool (splB zs n)]) ∧ IRow w' a' (splA zs n).length (splA zs n)) ∧ Below w.heap.size w w' := by
  have H := Lib.hid h
  have hm : len ≤ 9223372036854775807 := by have := h.2.1; unfold maxLen at this; exact this
  clear h
  by_cases hl : 1 ≤ len ∧ len ≤ 8
  · have hl1 : ¬ ((len : Int) < 1) := by omega
    have hl2 : ¬ ((8 : Int) < len) := by omega
    by_cases hn : 0 ≤ n ∧ n ≤ 32
    · obtain ⟨N, rfl⟩ : ∃ N : Nat, n = N := ⟨n.toNat, by omega⟩
      have hN : N ≤ 32 := by omega
      have HD : Hid (decide ((0 : Int) ≤ (N : Int) ∧ (N : Int) ≤ 32) = true) := decide_eq_true hn
      have hmk : ∀ w, (Instr.makeSlice 41 (.int .i64 (len : Int)) (.int .i64 (len : Int))).run Try.prog w = .ok (.slice (some ⟨w.heap.size, 0, none⟩) len len) (w.alloc (.cells (madeCells (Value.int .i64 0).cells (len * 1)) 2)) := by
        intro w
        obtain ⟨i, hi, hz0, hz1, hz2⟩ := info_parts (show (Try.prog.info? 2).map (fun i => (i.zero, i.size, i.bytes)) = some (some (.int .i64 0), 1, 8) by kernel_rfl)
        have := run_make (P := Try.prog) w 41 2 i (.int .i64 0) Try.underlying41 hi hz0 .i64 .i64 len len (by omega) (Int.le_refl _) (by rw [hz2]; omega) (by omega)
        rw [this, hz1, Int.toNat_natCast]
      have HMD : Hid (∀ w : World, IHd 2 (w.alloc (.cells (madeCells (Value.int .i64 0).cells (len * 1)) 2)) w.heap.size len (List.replicate len 0)) := Lib.hid fun w => IHd.made w 2 len
      generalize madeCells (Value.int .i64 0).cells (len * 1) = C0 at *
      clear hn
      go_enter Try.func29, Try.ntmps29
      go_wp2_with fail
      refine (c_In _ _ _ _).mono ?_
      rintro e w1 ⟨rfl, rfl⟩
      rw [HD.out]
      go_wp2_with fail
      clear hl1 hl2
      go_loopg [6] len (fun q i wr => ∃ k : Nat, i = .int .i64 k ∧ Hid (k + q = len) ∧ k ≤ len ∧ w = wr ∧ Hid (∀ j, j < k → mn (zs.getD j 0) = true))
      case atStart => exact ⟨0, rfl, by show _ = _; omega, Nat.zero_le _, rfl, fun j hj => absurd hj (Nat.not_lt_zero _)⟩
      case round =>
        obtain ⟨k, rfl, hk, hkl, rfl, hN1⟩ := hrel
        by_cases hlt : k < len
        · obtain ⟨b, off, rfl, hbl, hc⟩ := H.out.2.2.2 k hlt
          have HJ : Hid (k + 1 + (gk - 1) = len) := by have := hk.out; show _ = _; omega
          have HG : Hid (gk - 1 < gk) := by have := hk.out; show _ < _; omega
          have HZ : Hid (k < zs.length) := by show _ < _; rw [H.out.1]; exact hlt
          obtain ⟨z, hz⟩ : ∃ z, zs.getD k 0 = z := ⟨_, rfl⟩
          rw [hz] at hc
          have HE := Lib.hid hz
          clear hz
          cases hq : mn z with
          | false =>
            have HQ := Lib.hid hq
            have hb := splB_mn (n := (N : Int)) (all_no HZ.out (by rw [HE.out]; exact hq))
            have HB := Lib.hid hb
            have HA := Lib.hid (splA_no hb)
            clear hq hb
            go_wp2_with fail
            refine (c_specMean z _).mono ?_
            rintro e w1 ⟨rfl, rfl⟩
            rw [HQ.out]
            go_wp2_with fail
            go_ret2
            rw [HA.out, HB.out]
            first | exact ⟨⟨_, _, rfl, Spl.irow_nil _ _⟩, Below.refl _ _⟩ | exact ⟨⟨_, ⟨_, rfl⟩, Spl.irow_nil _ _⟩, Below.refl _ _⟩
          | true =>
            have HQ := Lib.hid hq
            clear hq
            go_wp2_with fail
            refine (c_specMean z _).mono ?_
            rintro e w1 ⟨rfl, rfl⟩
            rw [HQ.out]
            go_wp2_with fail
            go_roundg (gk - 1)
            case measure => exact HG.out
            case rel =>
              refine ⟨k + 1, by go_num, HJ, by omega, rfl, (show Hid _ from fun j hj => ?_)⟩
              by_cases e : j = k
              · subst e; rw [HE.out]; exact HQ.out
              · exact hN1.out j (by omega)
        · obtain rfl : k = len := by have := hk.out; omega
          have hall : zs.all mn = true := all_yes (by rw [H.out.1]; exact hN1.out)
          have HM : Hid (∀ i, i < k → mean (zs.getD i 0)) := Lib.hid fun i hi => mean_of (H.out.2.2.1 _ (by simp [List.getD, H.out.1, hi])) (hN1.out i hi)
          obtain ⟨hb, ha⟩ := splA_yes (zs := zs) (N := N) (by rw [H.out.1]; exact hl) hN hall
          have HB := Lib.hid hb
          have HA := Lib.hid ha
          have HS0 := Lib.hid (HMD.out w)
          have HR0 : Hid (spl zs 0 = List.replicate k 0) := by show List.replicate zs.length 0 = _; rw [H.out.1]
          have HLN := Lib.hid H.out.1
          clear hlt hall hb ha hN1 hk
          go_wp2_with fail
          go_loopg [1] N (fun q u wr => u = .int .i64 q ∧ ∃ t : Nat, Hid (t + q = N) ∧ Hid (IHd 2 wr w.heap.size k (spl zs t)) ∧ Hid (Below w.heap.size w wr))
          case atStart => exact ⟨rfl, 0, by show _ = _; omega, by show IHd _ _ _ _ _; rw [HR0.out]; exact HS0.out, (Below.refl _ _).alloc (Nat.le_refl _) _⟩
          case round =>
            obtain ⟨rfl, t, ht, hI, hB⟩ := hrel
            cases gk with
            | zero =>
              obtain rfl : t = N := by have := ht.out; omega
              have hr := hI.out.row (by omega) (spl_mem zs t hN)
              have HR := Lib.hid hr
              have HLS := Lib.hid (spl_len zs t)
              clear hr
              go_wp2_with fail
              go_ret2
              rw [HB.out, HA.out, HLS.out, HLN.out]
              first | exact ⟨⟨_, _, rfl, HR.out⟩, hB.out⟩ | exact ⟨⟨_, ⟨_, rfl⟩, HR.out⟩, hB.out⟩
            | succ q =>
              have htN : t < N := by have := ht.out; omega
              have HT2 : Hid (t + 1 + q = N) := by have := ht.out; show _ = _; omega
              have hpos : (0 : Int) < (q : Int) + 1 := by omega
              obtain ⟨v, hv⟩ : ∃ v, spl zs t = v := ⟨_, rfl⟩
              have hvb := spl_bd zs t
              rw [hv] at hI hvb
              have HV := Lib.hid hv
              have HVB : Hid (∀ i, 0 ≤ v.getD i 0 ∧ v.getD i 0 ≤ 31) := Lib.hid fun i => by have := hvb i; omega
              have HST : Hid (spl zs (t + 1) = v.set (bs (key zs v) k) (v.getD (bs (key zs v) k) 0 + 1)) := by
                show stp zs (spl zs t) = _
                rw [hv]; unfold stp; rw [HLN.out]
              have hqb : (q : Int) ≤ 32 := by have := ht.out; omega
              clear hv hvb ht
              generalize wr = wo at *
              go_wp2_with fail
              go_loopg [8, 9, 10] k (fun q b m i wi => ∃ j : Nat, b = .int .i64 (bs (key zs v) j : Nat) ∧ m = .float .f32 (most zs v j) ∧ i = .int .i64 j ∧ Hid (j + q = k) ∧ j ≤ k ∧ Hid (Below wo.heap.size wo wi))
              case atStart => exact ⟨0, rfl, rfl, rfl, by show _ = _; omega, Nat.zero_le _, Below.refl _ _⟩
              case round =>
                obtain ⟨j, rfl, rfl, rfl, hj, hjk, hW⟩ := hrel
                by_cases hjl : j < k
                · obtain ⟨b, off, rfl, hbl, hc⟩ := ((H.out.keep hB.out).keep hW.out).2.2.2 j hjl
                  have hi := (hI.out.keep hW.out).2.2 j hjl
                  have hgl := (hI.out.keep hW.out).1.lt
                  have HGL := Lib.hid hgl
                  have HBL := Lib.hid hbl
                  have HJ : Hid (j + 1 + (gk - 1) = k) := by have := hj.out; show _ = _; omega
                  have HG : Hid (gk - 1 < gk) := by have := hj.out; show _ < _; omega
                  obtain ⟨c, c1, c2, c3, c4, c5⟩ := lkA_ok (v := v) (HM.out j hjl) (by have := HVB.out j; omega)
                  rw [c1] at hi
                  have HMJ := Lib.hid (HM.out j hjl)
                  have hr : ∀ w, (binOp .sub 32 (.float .f32 1065353216) (.float .f32 (srv (zs.getD j 0) (c + 1)))).run Try.prog w = .ok (.float .f32 (lkA zs v j)) w := fun w => run_float_arith w .sub 32 .f32 _ _ _ c3
                  rcases Nat.eq_zero_or_pos j with hj0 | hj0
                  · subst hj0
                    have HE : Hid (lkA zs v 0 = most zs v (0 + 1) ∧ bs (key zs v) (0 + 1) = 0) := by
                      show _ ∧ _
                      refine ⟨?_, bs_one _⟩
                      unfold most; rw [if_neg (by omega), show bs (key zs v) (0 + 1) = 0 from bs_one _]
                    rw [HE.out.1] at hr
                    generalize zs.getD 0 0 = z at *
                    rw [Nat.add_zero] at hc
                    clear c1 c3 c4 c5
                    have S0 : Hid (wr.drew.cell? ⟨b, off, none⟩ = some (.float .f32 z) ∧ wr.drew.cell? ⟨w.heap.size, 0, none⟩ = some (.int .i64 c)) := ⟨hc, hi⟩
                    have W1 : Hid (Below wo.heap.size wo wr.drew) := hW.out.drew
                    clear hc hi hgl
                    go_wp2_with fail
                    go_region_held3 (fun W => W.cell? ⟨b, off, none⟩ = some (.float .f32 z) ∧ W.cell? ⟨w.heap.size, 0, none⟩ = some (.int .i64 (c : Int)))
                      (first | exact S0.out | exact S2.out)
                      ((go_at_call 68; refine (specService_any z c HMJ.out c2 _).mono ?_; rintro e w2 ⟨rfl, b2⟩; have W2 := Lib.hid (W1.out.trans (b2.mono W1.out.size)); have S2 : Hid (w2.cell? ⟨b, off, none⟩ = some (.float .f32 z) ∧ w2.cell? ⟨w.heap.size, 0, none⟩ = some (.int .i64 (c : Int))) := ⟨(b2.cell (p := ⟨b, off, none⟩) HBL.out).trans S0.out.1, (b2.cell (p := ⟨w.heap.size, 0, none⟩) HGL.out).trans S0.out.2⟩; clear b2))
                    go_wp2_with fail
                    go_roundg (gk - 1)
                    case measure => exact HG.out
                    case rel => exact ⟨0 + 1, by rw [HE.out.2]; rfl, rfl, by go_num, HJ, by omega, W2.out⟩
                  · have hbj := bs_lt (key zs v) j hj0
                    obtain ⟨_, _, _, _, d4, d5⟩ := lkA_ok (v := v) (HM.out (bs (key zs v) j) (by omega)) (by have := HVB.out (bs (key zs v) j); omega)
                    have hM : most zs v j = lkA zs v (bs (key zs v) j) := by unfold most; rw [if_neg (by omega)]
                    have hgt := gtB .f32 (lkA zs v j) (most zs v j) c4 (by rw [hM]; exact d4)
                    have hz0 : ((j : Int) == 0) = false := by simp; omega
                    by_cases hcmp : key zs v (bs (key zs v) j) < key zs v j
                    · rw [decide_eq_true (show S .f32 (most zs v j) < S .f32 (lkA zs v j) by rw [hM]; exact hcmp)] at hgt
                      have HE : Hid (bs (key zs v) (j + 1) = j ∧ most zs v (j + 1) = lkA zs v j) := by
                        show _ ∧ _
                        have := bs_gt hj0 hcmp
                        refine ⟨this, ?_⟩
                        unfold most; rw [if_neg (by omega), this]
                      generalize most zs v j = mo at *
                      generalize lkA zs v j = x at *
                      generalize zs.getD j 0 = z at *
                      clear c1 c3 c4 c5 d4 d5 hM hcmp hbj
                      have S0 : Hid (wr.drew.cell? ⟨b, off + j, none⟩ = some (.float .f32 z) ∧ wr.drew.cell? ⟨w.heap.size, j, none⟩ = some (.int .i64 c)) := ⟨hc, hi⟩
                      have W1 : Hid (Below wo.heap.size wo wr.drew) := hW.out.drew
                      clear hc hi hgl
                      go_wp2_with fail
                      go_region_held3 (fun W => W.cell? ⟨b, off + j, none⟩ = some (.float .f32 z) ∧ W.cell? ⟨w.heap.size, j, none⟩ = some (.int .i64 (c : Int)))
                        (first | exact S0.out | exact S2.out)
                        ((go_at_call 68; refine (specService_any z c HMJ.out c2 _).mono ?_; rintro e w2 ⟨rfl, b2⟩; have W2 := Lib.hid (W1.out.trans (b2.mono W1.out.size)); have S2 : Hid (w2.cell? ⟨b, off + j, none⟩ = some (.float .f32 z) ∧ w2.cell? ⟨w.heap.size, j, none⟩ = some (.int .i64 (c : Int))) := ⟨(b2.cell (p := ⟨b, off + j, none⟩) HBL.out).trans S0.out.1, (b2.cell (p := ⟨w.heap.size, j, none⟩) HGL.out).trans S0.out.2⟩; clear b2))
                      go_wp2_with fail
                      go_roundg (gk - 1)
                      case measure => exact HG.out
                      case rel => exact ⟨j + 1, by rw [HE.out.1], by rw [HE.out.2], by go_num, HJ, by omega, W2.out⟩
                    · rw [decide_eq_false (show ¬ S .f32 (most zs v j) < S .f32 (lkA zs v j) by rw [hM]; exact hcmp)] at hgt
                      have HE : Hid (bs (key zs v) (j + 1) = bs (key zs v) j ∧ most zs v (j + 1) = most zs v j) := by
                        show _ ∧ _
                        have := bs_le hj0 hcmp
                        refine ⟨this, ?_⟩
                        rw [hM]; unfold most; rw [if_neg (by omega), this]
                      generalize most zs v j = mo at *
                      generalize lkA zs v j = x at *
                      generalize zs.getD j 0 = z at *
                      clear c1 c3 c4 c5 d4 d5 hM hcmp hbj
                      have S0 : Hid (wr.drew.cell? ⟨b, off + j, none⟩ = some (.float .f32 z) ∧ wr.drew.cell? ⟨w.heap.size, j, none⟩ = some (.int .i64 c)) := ⟨hc, hi⟩
                      have W1 : Hid (Below wo.heap.size wo wr.drew) := hW.out.drew
                      clear hc hi hgl
                      go_wp2_with fail
                      go_region_held3 (fun W => W.cell? ⟨b, off + j, none⟩ = some (.float .f32 z) ∧ W.cell? ⟨w.heap.size, j, none⟩ = some (.int .i64 (c : Int)))
                        (first | exact S0.out | exact S2.out)
                        ((go_at_call 68; refine (specService_any z c HMJ.out c2 _).mono ?_; rintro e w2 ⟨rfl, b2⟩; have W2 := Lib.hid (W1.out.trans (b2.mono W1.out.size)); have S2 : Hid (w2.cell? ⟨b, off + j, none⟩ = some (.float .f32 z) ∧ w2.cell? ⟨w.heap.size, j, none⟩ = some (.int .i64 (c : Int))) := ⟨(b2.cell (p := ⟨b, off + j, none⟩) HBL.out).trans S0.out.1, (b2.cell (p := ⟨w.heap.size, j, none⟩) HGL.out).trans S0.out.2⟩; clear b2))
                      go_wp2_with fail
                      go_roundg (gk - 1)
                      case measure => exact HG.out
                      case rel => exact ⟨j + 1, by rw [HE.out.1], by rw [HE.out.2], by go_num, HJ, by omega, W2.out⟩
                · obtain rfl : j = k := by have := hj.out; omega
                  have hbj := bs_lt (key zs v) j (by omega)
                  have hi := hI.out.keep hW.out
                  have hB2 := hB.out.trans (hW.out.mono hB.out.size)
                  obtain ⟨bi, hbi⟩ : ∃ bi, bs (key zs v) j = bi := ⟨_, rfl⟩
                  rw [hbi] at hbj HST
                  have hcell := hi.2.2 bi hbj
                  have hfr := hi.1.frozen bi
                  have HI3 := Lib.hid (hi.set hbj (v.getD bi 0 + 1))
                  rw [← HST.out] at HI3
                  have HB3 := Lib.hid (hB2.setCell (p := ⟨w.heap.size, bi, none⟩) (Nat.le_refl _) (.int .i64 (v.getD bi 0 + 1)))
                  have hvb := HVB.out bi
                  have hbl : (bi : Int) < (j : Int) := by omega
                  obtain ⟨x, hx⟩ : ∃ x, v.getD bi 0 = x := ⟨_, rfl⟩
                  rw [hx] at hcell HI3 HB3 hvb
                  rw [hbi]
                  clear hjl hi hB2 hbi hx hI hB hW
                  go_wp2_with fail
                  go_roundg q
                  case measure => omega
                  case rel => exact ⟨by go_num, t + 1, HT2, HI3.out, HB3.out⟩
    · have hb := splB_tot (zs := zs) hn
      have HB := Lib.hid hb
      have HA := Lib.hid (splA_no hb)
      have HD : Hid (decide ((0 : Int) ≤ n ∧ n ≤ 32) = false) := decide_eq_false hn
      clear hb hn
      go_enter Try.func29, Try.ntmps29
      go_wp2_with fail
      refine (c_In _ _ _ _).mono ?_
      rintro e w1 ⟨rfl, rfl⟩
      rw [HD.out]
      go_wp2_with fail
      go_ret2
      rw [HA.out, HB.out]
      first | exact ⟨⟨_, _, rfl, Spl.irow_nil _ _⟩, Below.refl _ _⟩ | exact ⟨⟨_, ⟨_, rfl⟩, Spl.irow_nil _ _⟩, Below.refl _ _⟩
  · have hb := splB_len (zs := zs) (n := n) (by rw [H.out.1]; exact hl)
    have HB := Lib.hid hb
    have HA := Lib.hid (splA_no hb)
    clear hb
    by_cases h1 : (len : Int) < 1
    · go_enter Try.func29, Try.ntmps29
      go_wp2_with fail
      go_ret2
      rw [HA.out, HB.out]
      first | exact ⟨⟨_, _, rfl, Spl.irow_nil _ _⟩, Below.refl _ _⟩ | exact ⟨⟨_, ⟨_, rfl⟩, Spl.irow_nil _ _⟩, Below.refl _ _⟩
    · have h2 : (8 : Int) < len := by omega
      go_enter Try.func29, Try.ntmps29
      go_wp2_with fail
      go_ret2
      rw [HA.out, HB.out]
      first | exact ⟨⟨_, _, rfl, Spl.irow_nil _ _⟩, Below.refl _ _⟩ | exact ⟨⟨_, ⟨_, rfl⟩, Spl.irow_nil _ _⟩, Below.refl _ _⟩
end Go.Proofs.Ytcknbfkpilleaaa
