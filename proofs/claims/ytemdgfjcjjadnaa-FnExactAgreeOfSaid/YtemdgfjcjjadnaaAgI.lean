/-
  How far two agree: the program's contract. Conditions: the list reads as a list of integers.
-/
import Derived.Test.YtemdgfjcjjadnaaAgS
namespace Ag
open Go Flt Dec F32 We
def RP (Z : List Int) (n i j : Nat) (zr : List Int) : Prop := ∀ x, x < n → zr.getD x 0 = rS Z n x (if x < i then n else if x = i then j else 0)
def CP (Z : List Int) (n i j : Nat) (zc : List Int) : Prop := ∀ x, x < n → zc.getD x 0 = cS Z n x (if x < j then i + 1 else i)
theorem get_set (zs : List Int) (k x : Nat) (v : Int) (hk : k < zs.length) : (zs.set k v).getD x 0 = if x = k then v else zs.getD x 0 := by
  by_cases e : x = k
  · subst e; rw [if_pos rfl]; simp [List.getD, hk]
  · rw [if_neg e]; simp [List.getD, show ¬ k = x by omega]
theorem RP.zero (Z : List Int) (n : Nat) : RP Z n 0 0 (List.replicate n 0) := by
  intro x hx
  rw [if_neg (by omega)]
  have : rS Z n x (if x = 0 then 0 else 0) = 0 := by split <;> rfl
  rw [this]; simp [List.getD, hx]
theorem CP.zero (Z : List Int) (n : Nat) : CP Z n 0 0 (List.replicate n 0) := by
  intro x hx
  rw [if_neg (by omega)]
  show _ = (0 : Int)
  simp [List.getD, hx]
theorem RP.at {Z : List Int} {n i j : Nat} {zr : List Int} (h : RP Z n i j zr) (hi : i < n) : zr.getD i 0 = rS Z n i j := by
  rw [h i hi, if_neg (Nat.lt_irrefl i), if_pos rfl]
theorem CP.at {Z : List Int} {n i j : Nat} {zc : List Int} (h : CP Z n i j zc) (hj : j < n) : zc.getD j 0 = cS Z n j i := by
  rw [h j hj, if_neg (Nat.lt_irrefl j)]
theorem RP.next {Z : List Int} {n i j : Nat} {zr : List Int} (h : RP Z n i j zr) (hl : zr.length = n) (hi : i < n) : RP Z n i (j + 1) (zr.set i (rS Z n i j + g Z (i * n + j))) := by
  intro x hx
  rw [get_set _ _ _ _ (by omega)]
  by_cases e : x = i
  · subst e; rw [if_pos rfl, if_neg (Nat.lt_irrefl x), if_pos rfl]; rfl
  · rw [if_neg e, h x hx, if_neg e, if_neg e]
theorem CP.next {Z : List Int} {n i j : Nat} {zc : List Int} (h : CP Z n i j zc) (hl : zc.length = n) (hj : j < n) : CP Z n i (j + 1) (zc.set j (cS Z n j i + g Z (i * n + j))) := by
  intro x hx
  rw [get_set _ _ _ _ (by omega)]
  by_cases e : x = j
  · subst e; rw [if_pos rfl, if_pos (by omega)]; rfl
  · rw [if_neg e, h x hx]
    by_cases e2 : x < j
    · rw [if_pos e2, if_pos (by omega)]
    · rw [if_neg e2, if_neg (by omega)]
theorem RP.row {Z : List Int} {n i : Nat} {zr : List Int} (h : RP Z n i n zr) : RP Z n (i + 1) 0 zr := by
  intro x hx
  rw [h x hx]
  by_cases e : x = i
  · subst e; rw [if_neg (Nat.lt_irrefl x), if_pos rfl, if_pos (by omega)]
  · by_cases e2 : x < i
    · rw [if_pos e2, if_pos (by omega)]
    · rw [if_neg e2, if_neg e, if_neg (by omega)]
      split <;> rfl
theorem CP.row {Z : List Int} {n i : Nat} {zc : List Int} (h : CP Z n i n zc) : CP Z n (i + 1) 0 zc := by
  intro x hx
  rw [h x hx, if_pos hx, if_neg (by omega)]
theorem RP.all {Z : List Int} {n : Nat} {zr : List Int} (h : RP Z n n 0 zr) {k : Nat} (hk : k < n) : zr.getD k 0 = rS Z n k n := by rw [h k hk, if_pos hk]
theorem CP.all {Z : List Int} {n : Nat} {zc : List Int} (h : CP Z n n 0 zc) {k : Nat} (hk : k < n) : zc.getD k 0 = cS Z n k n := by rw [h k hk, if_neg (by omega)]
end Ag
namespace Go.Proofs.Ytemdgfjcjjadnaa
open Go.RowKit Flt Dec Cm We F32 Hld Ag
theorem ihd_drawn {w w' : World} {e : TypeId} {g n : Nat} {zs : List Int} (h : IHd e w g n zs) (d : Drawn w w') : IHd e w' g n zs := by obtain ⟨n, rfl⟩ := d; exact h
set_option maxRecDepth 40000 in
set_option maxHeartbeats 8000000 in
theorem iAgree_any (a : Option Addr) (len cap : Nat) (Z : List Int) (n0 : Int) (w : World) (h : IRow w a len Z) :
    Calls Try.prog 34 #[.slice a len cap, .int .i64 n0] w fun e w' => e = .returned (.tuple #[.float .f32 (okV (ag0 Z n0) (agE Z n0.toNat)), .bool (okB (ag0 Z n0) (agE Z n0.toNat))]) ∧ Below w.heap.size w w' := by
  have H := Lib.hid h
  have HL : Hid (Z.length = len) := Lib.hid h.1
  clear h
  cases h1 : agC Z n0 with
  | false =>
    have HN := Lib.hid (ok_no (ag_c h1) (agE Z n0.toNat))
    have H1 := Lib.hid h1
    clear h1
    go_enter Try.func34, Try.ntmps34
    go_wp2_with fail
    refine (areRatings_any a len cap Z n0 _ H.out).mono ?_
    rintro e w1 ⟨rfl, rfl⟩
    rw [H1.out]
    go_wp2_with fail
    go_ret2
    rw [HN.out.1, HN.out.2]
    exact ⟨rfl, Below.refl _ _⟩
  | true =>
    have HAC := Lib.hid h1
    have hp := h1
    unfold agC at hp
    simp only [Bool.and_eq_true, decide_eq_true_eq] at hp
    obtain ⟨h2, h3, h4⟩ := hp
    obtain ⟨n, rfl⟩ : ∃ n : Nat, n0 = n := ⟨n0.toNat, by omega⟩
    have hn1 : 1 ≤ n := by omega
    have hn8 : n ≤ 8 := by omega
    have HOKZ := Lib.hid h4
    have HT : Hid (n * n = len) := by show _ = _; rw [HL.out, ← Int.natCast_mul] at h3; exact (Int.ofNat_inj.1 h3).symm
    obtain ⟨i0, hi, hz0, hz1, hz2⟩ := info_parts (show (Try.prog.info? 2).map (fun i => (i.zero, i.size, i.bytes)) = some (some (.int .i64 0), 1, 8) by kernel_rfl)
    have hmk : ∀ w, (Instr.makeSlice 33 (.int .i64 (n : Int)) (.int .i64 (n : Int))).run Try.prog w = .ok (.slice (some ⟨w.heap.size, 0, none⟩) n n) (w.alloc (.cells (madeCells (Value.int .i64 0).cells (n * 1)) 2)) := by
      intro w
      have := run_make (P := Try.prog) w 33 2 i0 (.int .i64 0) Try.underlying33 hi hz0 .i64 .i64 n n (by omega) (Int.le_refl _) (by rw [hz2]; omega) (by omega)
      rw [this, hz1, Int.toNat_natCast]
    have hFn : ∀ w : World, IHd 2 (w.alloc (.cells (madeCells (Value.int .i64 0).cells (n * 1)) 2)) w.heap.size n (List.replicate n 0) := fun w => IHd.made w 2 n
    obtain ⟨X, hX⟩ : ∃ X, madeCells (Value.int .i64 0).cells (n * 1) = X := ⟨_, rfl⟩
    rw [hX] at hmk hFn
    have HFn := Lib.hid hFn
    rw [Int.toNat_natCast]
    clear hX hFn h1 h2 h3 h4 hz0 hz1 hz2 hi
    go_enter Try.func34, Try.ntmps34
    go_wp2_with fail
    refine (areRatings_any a len cap Z (n : Int) _ H.out).mono ?_
    rintro e w1 ⟨rfl, rfl⟩
    rw [HAC.out]
    go_wp2_with fail
    go_region
    · have hsz : (w.alloc (.cells X 2)).heap.size = w.heap.size + 1 := by simp
      have hkA : Below w.heap.size w (((w.alloc (.cells X 2)).alloc (.cells X 2)).drew) := (((Below.refl _ _).alloc (Nat.le_refl _) _).alloc (by simp) _).drew
      have hF1 := HFn.out w
      have hF1' := ihd_drawn (hF1.keep ((Below.refl _ _).alloc (Nat.le_refl _) (.cells X 2))) (Drawn.one _)
      have hF2 := HFn.out (w.alloc (.cells X 2))
      rw [hsz] at hF2
      have hF2' := ihd_drawn hF2 (Drawn.one _)
      obtain ⟨W0, hW0⟩ : ∃ W, ((w.alloc (.cells X 2)).alloc (.cells X 2)).drew = W := ⟨_, rfl⟩
      rw [hW0] at hkA hF1' hF2' ⊢
      obtain ⟨g0, hg0⟩ : ∃ g, w.heap.size = g := ⟨_, rfl⟩
      obtain ⟨g1, hg1⟩ : ∃ g, w.heap.size + 1 = g := ⟨_, rfl⟩
      have HG0 : Hid (w.heap.size ≤ g0) := by show _ ≤ _; omega
      have HG1 : Hid (w.heap.size ≤ g1) := by show _ ≤ _; omega
      have HNE : Hid (g0 ≠ g1) := by show _ ≠ _; omega
      have HF0 : Hid (IHd 2 W0 g0 n (List.replicate n 0)) := by rw [← hg0]; exact hF1'
      have HF1 : Hid (IHd 2 W0 g1 n (List.replicate n 0)) := by rw [← hg1]; exact hF2'
      have HB0 := Lib.hid hkA
      rw [hg1, hg0]
      have HGR := HG0
      have HGC := HG1
      have HR0 := HF0
      have HC0 := HF1
      clear hW0 hg0 hg1 hsz hkA hF1 hF1' hF2 hF2' HG0 HG1 HF0 HF1 hmk
      generalize g0 = gr at *
      generalize g1 = gc at *
      go_wp2_with fail
      go_loopg [6, 7, 25] n (fun q s6 s7 s25 wr => ∃ (i : Nat) (zr zc : List Int), s6 = .int .i64 (tS Z (i * n)) ∧ s7 = .int .i64 (dS Z n i) ∧ s25 = .int .i64 (i : Int) ∧ Hid (i + q = n) ∧ i ≤ n ∧ Hid (IHd 2 wr gr n zr) ∧ Hid (IHd 2 wr gc n zc) ∧ Hid (RP Z n i 0 zr) ∧ Hid (CP Z n i 0 zc) ∧ Hid (Below w.heap.size w wr))
      case atStart => exact ⟨0, _, _, by rw [Nat.zero_mul]; rfl, rfl, rfl, by show _ = _; omega, Nat.zero_le _, HR0.out, HC0.out, RP.zero Z n, CP.zero Z n, HB0.out⟩
      case round =>
        obtain ⟨i, zr, zc, rfl, rfl, rfl, hi, hil, hR, hC, hRP, hCP, hB⟩ := hrel
        by_cases hlt : i < n
        · obtain ⟨go, hgo⟩ : ∃ go, go = gk := ⟨_, rfl⟩
          have HJ : Hid (i + 1 + (go - 1) = n) := by have := hi.out; show _ = _; omega
          have HG : Hid (go - 1 < gk) := by have := hi.out; show _ < _; omega
          clear hgo
          obtain ⟨m1, hm1⟩ : ∃ m1 : Nat, (i : Int) * (n : Int) = (m1 : Int) := ⟨i * n, by rw [Int.natCast_mul]⟩
          have hm1e : i * n = m1 := by have := hm1; rw [← Int.natCast_mul] at this; exact Int.ofNat_inj.1 this
          have hm1n : m1 + n ≤ len := by rw [← hm1e, ← HT.out, ← Nat.succ_mul]; exact Nat.mul_le_mul_right _ (by omega)
          have hm64 : len ≤ 64 := by rw [← HT.out]; exact Nat.le_trans (Nat.mul_le_mul hn8 hn8) (by decide)
          have HM1 := Lib.hid hm1e
          have hds := dS_bd HOKZ.out n i
          have hts0 := tS_bd HOKZ.out m1
          rw [hm1e]
          have HDS : Hid (dS Z n (i + 1) = dS Z n i + g Z (m1 + i)) := by show _ = _; rw [← hm1e]; rfl
          clear hm1e
          go_wp2_with fail
          go_loopg [6, 29] n (fun q s6 s29 wq => ∃ (j : Nat) (yr yc : List Int), s6 = .int .i64 (tS Z (m1 + j)) ∧ s29 = .int .i64 (j : Int) ∧ Hid (j + q = n) ∧ j ≤ n ∧ Hid (IHd 2 wq gr n yr) ∧ Hid (IHd 2 wq gc n yc) ∧ Hid (RP Z n i j yr) ∧ Hid (CP Z n i j yc) ∧ Hid (Below w.heap.size w wq))
          case atStart => exact ⟨0, zr, zc, rfl, rfl, by show _ = _; omega, Nat.zero_le _, hR.out, hC.out, hRP.out, hCP.out, hB.out⟩
          case round =>
            obtain ⟨j, yr, yc, rfl, rfl, hj, hjl, kR, kC, kRP, kCP, kB⟩ := hrel
            clear hR hC hRP hCP hB
            by_cases hjt : j < n
            · have HJ2 : Hid (j + 1 + (gk - 1) = n) := by have := hj.out; show _ = _; omega
              have HG2 : Hid (gk - 1 < gk) := by have := hj.out; show _ < _; omega
              obtain ⟨b, off, hae, hbl, hc1⟩ := (H.out.keep kB.out).2.2.2 (m1 + j) (by omega)
              subst hae
              have hts := tS_bd HOKZ.out (m1 + j)
              have hz := g_bd HOKZ.out (m1 + j)
              have HTS : Hid (tS Z (m1 + (j + 1)) = tS Z (m1 + j) + g Z (m1 + j)) := Lib.hid rfl
              have hc1' : wr.cell? ⟨b, off + (m1 + j), none⟩ = some (.int .i64 (g Z (m1 + j))) := hc1
              have hr1 := kR.out.2.2 i hlt
              have hr2 := kR.out.1.frozen i
              have hrv := rS_bd HOKZ.out n i j
              have hcv := cS_bd HOKZ.out n j i
              rw [kRP.out.at hlt] at hr1
              have HRP := Lib.hid (kRP.out.next kR.out.2.1 hlt)
              have HCP := Lib.hid (kCP.out.next kC.out.2.1 hjt)
              rw [HM1.out] at HRP HCP
              have HR1 := Lib.hid (kR.out.set hlt (rS Z n i j + g Z (m1 + j)))
              have HC1 := Lib.hid (kC.out.other i (.int .i64 (rS Z n i j + g Z (m1 + j))) HNE.out)
              have hx1 := HC1.out.2.2 j hjt
              have hx2 := HC1.out.1.frozen j
              rw [kCP.out.at hjt] at hx1
              have HR2 := Lib.hid (HR1.out.other j (.int .i64 (cS Z n j i + g Z (m1 + j))) (Ne.symm HNE.out))
              have HC2 := Lib.hid (HC1.out.set hjt (cS Z n j i + g Z (m1 + j)))
              have HB2 := Lib.hid ((kB.out.setCell (p := ⟨gr, i, none⟩) HGR.out (.int .i64 (rS Z n i j + g Z (m1 + j)))).setCell (p := ⟨gc, j, none⟩) HGC.out (.int .i64 (cS Z n j i + g Z (m1 + j))))
              generalize g Z (m1 + j) = z at *
              generalize rS Z n i j = rv at *
              generalize cS Z n j i = cv at *
              generalize tS Z (m1 + j) = tv at *
              clear hc1 hbl kR kC kRP kCP kB HR1 HC1
              go_wp2_with fail
              go_roundg (gk - 1)
              case measure => exact HG2.out
              case rel => exact ⟨j + 1, _, _, by rw [HTS.out], by go_num, HJ2, by omega, HR2.out, HC2.out, HRP.out, HCP.out, HB2.out⟩
            · obtain rfl : j = n := by omega
              obtain ⟨b, off, hae, hbl, hc1⟩ := (H.out.keep kB.out).2.2.2 (m1 + i) (by omega)
              subst hae
              have hz := g_bd HOKZ.out (m1 + i)
              have hc1' : wr.cell? ⟨b, off + (m1 + i), none⟩ = some (.int .i64 (g Z (m1 + i))) := hc1
              have HTN : Hid (tS Z ((i + 1) * j) = tS Z (m1 + j)) := by show _ = _; rw [Nat.succ_mul, HM1.out]
              have HRP := Lib.hid kRP.out.row
              have HCP := Lib.hid kCP.out.row
              have HB2 := Lib.hid kB.out
              generalize g Z (m1 + i) = z at *
              generalize dS Z j i = dv at *
              generalize tS Z (m1 + j) = tv at *
              clear hc1 hbl hjt hj kRP kCP kB
              go_wp2_with fail
              go_roundg (go - 1)
              case measure => exact HG.out
              case rel => exact ⟨i + 1, yr, yc, by rw [HTN.out], by rw [HDS.out], by go_num, HJ, by omega, kR.out, kC.out, HRP.out, HCP.out, HB2.out⟩
        · obtain rfl : i = n := by omega
          have HTT : Hid (tS Z (i * i) = agT Z) := by show _ = _; unfold agT; rw [HL.out, HT.out]
          have hm64 : len ≤ 64 := by rw [← HT.out]; exact Nat.le_trans (Nat.mul_le_mul hn8 hn8) (by decide)
          have hts := tS_bd HOKZ.out (i * i)
          rw [HT.out] at hts HTT ⊢
          have hds := dS_bd HOKZ.out i i
          have HB2 := Lib.hid hB.out
          have HDV : Hid (∃ dv, dS Z i i = dv) := ⟨_, rfl⟩
          obtain ⟨tv, htv⟩ : ∃ tv, tS Z len = tv := ⟨_, rfl⟩
          rw [htv] at hts HTT ⊢
          clear hlt hi hB htv
          by_cases ht0 : tv = 0
          case pos =>
            have HN := Lib.hid (ok_no (ag_t (n := (i : Int)) (HTT.out.symm.trans ht0)) (agE Z i))
            go_wp2_with fail
            go_ret2
            rw [HN.out.1, HN.out.2]
            exact ⟨rfl, HB2.out⟩
          case neg =>
            have HT0 : Hid (¬ agT Z = 0) := by show ¬ _; rw [← HTT.out]; exact ht0
            obtain ⟨qv, hqv⟩ : ∃ qv, tv * tv = qv := ⟨_, rfl⟩
            have hqb : 0 ≤ qv ∧ qv ≤ 64000 * 64000 := by
              rw [← hqv]; exact ⟨Int.mul_nonneg hts.1 hts.1, Int.mul_le_mul (by omega) (by omega) hts.1 (by omega)⟩
            have HQV : Hid (qv = agT Z * agT Z) := by show _ = _; rw [← hqv, HTT.out]
            generalize wr = W5 at *
            go_wp2_with fail
            go_loopg [13, 73] i (fun q s13 s73 wr => ∃ t p : Nat, s13 = .float .f32 p ∧ s73 = .int .i64 (t : Int) ∧ Hid (t + q = i) ∧ t ≤ i ∧ Hid (F32.Is (bS Z i t) p) ∧ Hid (Drawn W5 wr))
            case atStart => exact ⟨0, 0, rfl, rfl, by show _ = _; omega, Nat.zero_le _, zero_is, Drawn.refl _⟩
            case round =>
              obtain ⟨t, p, rfl, rfl, ht, htl, hP, hDr⟩ := hrel
              by_cases hlt : t < i
              · have HJ : Hid (t + 1 + (gk - 1) = i) := by have := ht.out; show _ = _; omega
                have HG : Hid (gk - 1 < gk) := by have := ht.out; show _ < _; omega
                have hr1 := (hR.out.keep (hDr.out.below _)).2.2 t hlt
                have hx1 := (hC.out.keep (hDr.out.below _)).2.2 t hlt
                rw [hRP.out.all hlt] at hr1
                rw [hCP.out.all hlt] at hx1
                have hrv := rS_bd HOKZ.out i t i
                have hcv := cS_bd HOKZ.out i t i
                have HBS : Hid (bS Z i (t + 1) = F32.opO .add (bS Z i t) (F32.opO .quo (fl (rS Z i t i * cS Z i t i)) (fl qv))) := by show _ = _; rw [HQV.out]; rfl
                generalize rS Z i t i = rv at *
                generalize cS Z i t i = cv at *
                obtain ⟨pv, hpv⟩ : ∃ pv, rv * cv = pv := ⟨_, rfl⟩
                have hpb : 0 ≤ pv ∧ pv ≤ 8000 * 8000 := by
                  rw [← hpv]; exact ⟨Int.mul_nonneg hrv.1 hcv.1, Int.mul_le_mul (by omega) (by omega) hcv.1 (by omega)⟩
                obtain ⟨xq, vq, rq, jq, lq, eq⟩ := F32.arith_ex (P := Try.prog) (op := .quo) (.inr (.inr (.inr rfl))) 44 (fl_is pv) (fl_is qv) wr
                obtain ⟨xs, vs, rs, js, ls, es⟩ := F32.arith_ex (P := Try.prog) (op := .add) (.inl rfl) 44 hP.out jq vq
                have DX := Lib.hid (eq.trans es)
                have JS : Hid (F32.Is (bS Z i (t + 1)) xs) := by show F32.Is _ _; rw [HBS.out, hpv]; exact js
                have DR := Lib.hid (hDr.out.trans DX.out)
                clear jq lq eq js ls es
                clear hP hDr DX
                go_wp2_with fail
                go_roundg (gk - 1)
                case measure => exact HG.out
                case rel => exact ⟨t + 1, xs, rfl, by go_num, HJ, by omega, JS.out, DR.out⟩
              · obtain rfl : t = i := by omega
                have HP := Lib.hid hP.out
                have B5 : Hid (Below w.heap.size w wr) := Lib.hid (HB2.out.trans ((hDr.out.below _).mono HB2.out.size))
                have hcmp := cmp_is .eq HP.out one_is
                clear hlt ht hP hDr
                cases hb1 : cmpO .eq (bS Z t t) (some 1065353216) with
                | true =>
                  rw [hb1] at hcmp
                  have HN := Lib.hid (ok_no (ag_b (n := (t : Int)) (by rw [Int.toNat_natCast]; exact hb1)) (agE Z t))
                  clear hb1
                  go_wp2_with fail
                  go_ret2
                  rw [HN.out.1, HN.out.2]
                  exact ⟨rfl, B5.out⟩
                | false =>
                  rw [hb1] at hcmp
                  have HY := Lib.hid (ok_yes (ag_yes (n := (t : Int)) HAC.out HT0.out (by rw [Int.toNat_natCast]; exact hb1)) (agE Z t))
                  clear hb1
                  obtain ⟨xa, va, ra, ja, la, ea⟩ := F32.arith_ex (P := Try.prog) (op := .quo) (.inr (.inr (.inr rfl))) 44 (fl_is (dS Z t t)) (fl_is tv) wr
                  obtain ⟨xr, vr, rr, jr, lr, er⟩ := F32.arith_ex (P := Try.prog) (op := .sub) (.inr (.inl rfl)) 44 ja HP.out va
                  obtain ⟨xs, vs, rs, js, ls, es⟩ := F32.arith_ex (P := Try.prog) (op := .sub) (.inr (.inl rfl)) 44 one_is HP.out vr
                  obtain ⟨xf, vf, rf, jf, lf, ef⟩ := F32.arith_ex (P := Try.prog) (op := .quo) (.inr (.inr (.inr rfl))) 44 jr js vs
                  have DY := Lib.hid (((ea.trans er).trans es).trans ef)
                  have JF : F32.Is (agE Z t) xf := by unfold agE; rw [← HTT.out]; exact jf
                  obtain ⟨e1, e2⟩ := F32.fin_is JF
                  have E1 := Lib.hid e1
                  have E2 := Lib.hid e2
                  have B6 : Hid (Below w.heap.size w vf) := Lib.hid (B5.out.trans ((DY.out.below _).mono B5.out.size))
                  clear ja la ea jr lr er js ls es jf lf ef
                  clear e1 e2 JF DY
                  go_wp2_with fail
                  refine (c_onlyFinite xf _).mono ?_
                  rintro e w3 ⟨rfl, d3⟩
                  have B7 := Lib.hid (B6.out.trans ((d3.below _).mono B6.out.size))
                  rw [E2.out, E1.out, ← HY.out.2, ← HY.out.1]
                  clear d3
                  go_wp2_with fail
                  go_ret2
                  exact ⟨rfl, B7.out⟩
    · have hsz : (w.alloc (.cells X 2)).heap.size = w.heap.size + 1 := by simp
      have hkA : Below w.heap.size w (((w.alloc (.cells X 2)).alloc (.cells X 2)).drew) := (((Below.refl _ _).alloc (Nat.le_refl _) _).alloc (by simp) _).drew
      have hF1 := HFn.out w
      have hF1' := ihd_drawn (hF1.keep ((Below.refl _ _).alloc (Nat.le_refl _) (.cells X 2))) (Drawn.one _)
      have hF2 := HFn.out (w.alloc (.cells X 2))
      rw [hsz] at hF2
      have hF2' := ihd_drawn hF2 (Drawn.one _)
      obtain ⟨W0, hW0⟩ : ∃ W, ((w.alloc (.cells X 2)).alloc (.cells X 2)).drew = W := ⟨_, rfl⟩
      rw [hW0] at hkA hF1' hF2' ⊢
      obtain ⟨g0, hg0⟩ : ∃ g, w.heap.size = g := ⟨_, rfl⟩
      obtain ⟨g1, hg1⟩ : ∃ g, w.heap.size + 1 = g := ⟨_, rfl⟩
      have HG0 : Hid (w.heap.size ≤ g0) := by show _ ≤ _; omega
      have HG1 : Hid (w.heap.size ≤ g1) := by show _ ≤ _; omega
      have HNE : Hid (g1 ≠ g0) := by show _ ≠ _; omega
      have HF0 : Hid (IHd 2 W0 g0 n (List.replicate n 0)) := by rw [← hg0]; exact hF1'
      have HF1 : Hid (IHd 2 W0 g1 n (List.replicate n 0)) := by rw [← hg1]; exact hF2'
      have HB0 := Lib.hid hkA
      rw [hg1, hg0]
      have HGR := HG1
      have HGC := HG0
      have HR0 := HF1
      have HC0 := HF0
      clear hW0 hg0 hg1 hsz hkA hF1 hF1' hF2 hF2' HG0 HG1 HF0 HF1 hmk
      generalize g1 = gr at *
      generalize g0 = gc at *
      go_wp2_with fail
      go_loopg [6, 7, 25] n (fun q s6 s7 s25 wr => ∃ (i : Nat) (zr zc : List Int), s6 = .int .i64 (tS Z (i * n)) ∧ s7 = .int .i64 (dS Z n i) ∧ s25 = .int .i64 (i : Int) ∧ Hid (i + q = n) ∧ i ≤ n ∧ Hid (IHd 2 wr gr n zr) ∧ Hid (IHd 2 wr gc n zc) ∧ Hid (RP Z n i 0 zr) ∧ Hid (CP Z n i 0 zc) ∧ Hid (Below w.heap.size w wr))
      case atStart => exact ⟨0, _, _, by rw [Nat.zero_mul]; rfl, rfl, rfl, by show _ = _; omega, Nat.zero_le _, HR0.out, HC0.out, RP.zero Z n, CP.zero Z n, HB0.out⟩
      case round =>
        obtain ⟨i, zr, zc, rfl, rfl, rfl, hi, hil, hR, hC, hRP, hCP, hB⟩ := hrel
        by_cases hlt : i < n
        · obtain ⟨go, hgo⟩ : ∃ go, go = gk := ⟨_, rfl⟩
          have HJ : Hid (i + 1 + (go - 1) = n) := by have := hi.out; show _ = _; omega
          have HG : Hid (go - 1 < gk) := by have := hi.out; show _ < _; omega
          clear hgo
          obtain ⟨m1, hm1⟩ : ∃ m1 : Nat, (i : Int) * (n : Int) = (m1 : Int) := ⟨i * n, by rw [Int.natCast_mul]⟩
          have hm1e : i * n = m1 := by have := hm1; rw [← Int.natCast_mul] at this; exact Int.ofNat_inj.1 this
          have hm1n : m1 + n ≤ len := by rw [← hm1e, ← HT.out, ← Nat.succ_mul]; exact Nat.mul_le_mul_right _ (by omega)
          have hm64 : len ≤ 64 := by rw [← HT.out]; exact Nat.le_trans (Nat.mul_le_mul hn8 hn8) (by decide)
          have HM1 := Lib.hid hm1e
          have hds := dS_bd HOKZ.out n i
          have hts0 := tS_bd HOKZ.out m1
          rw [hm1e]
          have HDS : Hid (dS Z n (i + 1) = dS Z n i + g Z (m1 + i)) := by show _ = _; rw [← hm1e]; rfl
          clear hm1e
          go_wp2_with fail
          go_loopg [6, 29] n (fun q s6 s29 wq => ∃ (j : Nat) (yr yc : List Int), s6 = .int .i64 (tS Z (m1 + j)) ∧ s29 = .int .i64 (j : Int) ∧ Hid (j + q = n) ∧ j ≤ n ∧ Hid (IHd 2 wq gr n yr) ∧ Hid (IHd 2 wq gc n yc) ∧ Hid (RP Z n i j yr) ∧ Hid (CP Z n i j yc) ∧ Hid (Below w.heap.size w wq))
          case atStart => exact ⟨0, zr, zc, rfl, rfl, by show _ = _; omega, Nat.zero_le _, hR.out, hC.out, hRP.out, hCP.out, hB.out⟩
          case round =>
            obtain ⟨j, yr, yc, rfl, rfl, hj, hjl, kR, kC, kRP, kCP, kB⟩ := hrel
            clear hR hC hRP hCP hB
            by_cases hjt : j < n
            · have HJ2 : Hid (j + 1 + (gk - 1) = n) := by have := hj.out; show _ = _; omega
              have HG2 : Hid (gk - 1 < gk) := by have := hj.out; show _ < _; omega
              obtain ⟨b, off, hae, hbl, hc1⟩ := (H.out.keep kB.out).2.2.2 (m1 + j) (by omega)
              subst hae
              have hts := tS_bd HOKZ.out (m1 + j)
              have hz := g_bd HOKZ.out (m1 + j)
              have HTS : Hid (tS Z (m1 + (j + 1)) = tS Z (m1 + j) + g Z (m1 + j)) := Lib.hid rfl
              have hc1' : wr.cell? ⟨b, off + (m1 + j), none⟩ = some (.int .i64 (g Z (m1 + j))) := hc1
              have hr1 := kR.out.2.2 i hlt
              have hr2 := kR.out.1.frozen i
              have hrv := rS_bd HOKZ.out n i j
              have hcv := cS_bd HOKZ.out n j i
              rw [kRP.out.at hlt] at hr1
              have HRP := Lib.hid (kRP.out.next kR.out.2.1 hlt)
              have HCP := Lib.hid (kCP.out.next kC.out.2.1 hjt)
              rw [HM1.out] at HRP HCP
              have HR1 := Lib.hid (kR.out.set hlt (rS Z n i j + g Z (m1 + j)))
              have HC1 := Lib.hid (kC.out.other i (.int .i64 (rS Z n i j + g Z (m1 + j))) HNE.out)
              have hx1 := HC1.out.2.2 j hjt
              have hx2 := HC1.out.1.frozen j
              rw [kCP.out.at hjt] at hx1
              have HR2 := Lib.hid (HR1.out.other j (.int .i64 (cS Z n j i + g Z (m1 + j))) (Ne.symm HNE.out))
              have HC2 := Lib.hid (HC1.out.set hjt (cS Z n j i + g Z (m1 + j)))
              have HB2 := Lib.hid ((kB.out.setCell (p := ⟨gr, i, none⟩) HGR.out (.int .i64 (rS Z n i j + g Z (m1 + j)))).setCell (p := ⟨gc, j, none⟩) HGC.out (.int .i64 (cS Z n j i + g Z (m1 + j))))
              generalize g Z (m1 + j) = z at *
              generalize rS Z n i j = rv at *
              generalize cS Z n j i = cv at *
              generalize tS Z (m1 + j) = tv at *
              clear hc1 hbl kR kC kRP kCP kB HR1 HC1
              go_wp2_with fail
              go_roundg (gk - 1)
              case measure => exact HG2.out
              case rel => exact ⟨j + 1, _, _, by rw [HTS.out], by go_num, HJ2, by omega, HR2.out, HC2.out, HRP.out, HCP.out, HB2.out⟩
            · obtain rfl : j = n := by omega
              obtain ⟨b, off, hae, hbl, hc1⟩ := (H.out.keep kB.out).2.2.2 (m1 + i) (by omega)
              subst hae
              have hz := g_bd HOKZ.out (m1 + i)
              have hc1' : wr.cell? ⟨b, off + (m1 + i), none⟩ = some (.int .i64 (g Z (m1 + i))) := hc1
              have HTN : Hid (tS Z ((i + 1) * j) = tS Z (m1 + j)) := by show _ = _; rw [Nat.succ_mul, HM1.out]
              have HRP := Lib.hid kRP.out.row
              have HCP := Lib.hid kCP.out.row
              have HB2 := Lib.hid kB.out
              generalize g Z (m1 + i) = z at *
              generalize dS Z j i = dv at *
              generalize tS Z (m1 + j) = tv at *
              clear hc1 hbl hjt hj kRP kCP kB
              go_wp2_with fail
              go_roundg (go - 1)
              case measure => exact HG.out
              case rel => exact ⟨i + 1, yr, yc, by rw [HTN.out], by rw [HDS.out], by go_num, HJ, by omega, kR.out, kC.out, HRP.out, HCP.out, HB2.out⟩
        · obtain rfl : i = n := by omega
          have HTT : Hid (tS Z (i * i) = agT Z) := by show _ = _; unfold agT; rw [HL.out, HT.out]
          have hm64 : len ≤ 64 := by rw [← HT.out]; exact Nat.le_trans (Nat.mul_le_mul hn8 hn8) (by decide)
          have hts := tS_bd HOKZ.out (i * i)
          rw [HT.out] at hts HTT ⊢
          have hds := dS_bd HOKZ.out i i
          have HB2 := Lib.hid hB.out
          have HDV : Hid (∃ dv, dS Z i i = dv) := ⟨_, rfl⟩
          obtain ⟨tv, htv⟩ : ∃ tv, tS Z len = tv := ⟨_, rfl⟩
          rw [htv] at hts HTT ⊢
          clear hlt hi hB htv
          by_cases ht0 : tv = 0
          case pos =>
            have HN := Lib.hid (ok_no (ag_t (n := (i : Int)) (HTT.out.symm.trans ht0)) (agE Z i))
            go_wp2_with fail
            go_ret2
            rw [HN.out.1, HN.out.2]
            exact ⟨rfl, HB2.out⟩
          case neg =>
            have HT0 : Hid (¬ agT Z = 0) := by show ¬ _; rw [← HTT.out]; exact ht0
            obtain ⟨qv, hqv⟩ : ∃ qv, tv * tv = qv := ⟨_, rfl⟩
            have hqb : 0 ≤ qv ∧ qv ≤ 64000 * 64000 := by
              rw [← hqv]; exact ⟨Int.mul_nonneg hts.1 hts.1, Int.mul_le_mul (by omega) (by omega) hts.1 (by omega)⟩
            have HQV : Hid (qv = agT Z * agT Z) := by show _ = _; rw [← hqv, HTT.out]
            generalize wr = W5 at *
            go_wp2_with fail
            go_loopg [13, 73] i (fun q s13 s73 wr => ∃ t p : Nat, s13 = .float .f32 p ∧ s73 = .int .i64 (t : Int) ∧ Hid (t + q = i) ∧ t ≤ i ∧ Hid (F32.Is (bS Z i t) p) ∧ Hid (Drawn W5 wr))
            case atStart => exact ⟨0, 0, rfl, rfl, by show _ = _; omega, Nat.zero_le _, zero_is, Drawn.refl _⟩
            case round =>
              obtain ⟨t, p, rfl, rfl, ht, htl, hP, hDr⟩ := hrel
              by_cases hlt : t < i
              · have HJ : Hid (t + 1 + (gk - 1) = i) := by have := ht.out; show _ = _; omega
                have HG : Hid (gk - 1 < gk) := by have := ht.out; show _ < _; omega
                have hr1 := (hR.out.keep (hDr.out.below _)).2.2 t hlt
                have hx1 := (hC.out.keep (hDr.out.below _)).2.2 t hlt
                rw [hRP.out.all hlt] at hr1
                rw [hCP.out.all hlt] at hx1
                have hrv := rS_bd HOKZ.out i t i
                have hcv := cS_bd HOKZ.out i t i
                have HBS : Hid (bS Z i (t + 1) = F32.opO .add (bS Z i t) (F32.opO .quo (fl (rS Z i t i * cS Z i t i)) (fl qv))) := by show _ = _; rw [HQV.out]; rfl
                generalize rS Z i t i = rv at *
                generalize cS Z i t i = cv at *
                obtain ⟨pv, hpv⟩ : ∃ pv, rv * cv = pv := ⟨_, rfl⟩
                have hpb : 0 ≤ pv ∧ pv ≤ 8000 * 8000 := by
                  rw [← hpv]; exact ⟨Int.mul_nonneg hrv.1 hcv.1, Int.mul_le_mul (by omega) (by omega) hcv.1 (by omega)⟩
                obtain ⟨xq, vq, rq, jq, lq, eq⟩ := F32.arith_ex (P := Try.prog) (op := .quo) (.inr (.inr (.inr rfl))) 44 (fl_is pv) (fl_is qv) wr
                obtain ⟨xs, vs, rs, js, ls, es⟩ := F32.arith_ex (P := Try.prog) (op := .add) (.inl rfl) 44 hP.out jq vq
                have DX := Lib.hid (eq.trans es)
                have JS : Hid (F32.Is (bS Z i (t + 1)) xs) := by show F32.Is _ _; rw [HBS.out, hpv]; exact js
                have DR := Lib.hid (hDr.out.trans DX.out)
                clear jq lq eq js ls es
                clear hP hDr DX
                go_wp2_with fail
                go_roundg (gk - 1)
                case measure => exact HG.out
                case rel => exact ⟨t + 1, xs, rfl, by go_num, HJ, by omega, JS.out, DR.out⟩
              · obtain rfl : t = i := by omega
                have HP := Lib.hid hP.out
                have B5 : Hid (Below w.heap.size w wr) := Lib.hid (HB2.out.trans ((hDr.out.below _).mono HB2.out.size))
                have hcmp := cmp_is .eq HP.out one_is
                clear hlt ht hP hDr
                cases hb1 : cmpO .eq (bS Z t t) (some 1065353216) with
                | true =>
                  rw [hb1] at hcmp
                  have HN := Lib.hid (ok_no (ag_b (n := (t : Int)) (by rw [Int.toNat_natCast]; exact hb1)) (agE Z t))
                  clear hb1
                  go_wp2_with fail
                  go_ret2
                  rw [HN.out.1, HN.out.2]
                  exact ⟨rfl, B5.out⟩
                | false =>
                  rw [hb1] at hcmp
                  have HY := Lib.hid (ok_yes (ag_yes (n := (t : Int)) HAC.out HT0.out (by rw [Int.toNat_natCast]; exact hb1)) (agE Z t))
                  clear hb1
                  obtain ⟨xa, va, ra, ja, la, ea⟩ := F32.arith_ex (P := Try.prog) (op := .quo) (.inr (.inr (.inr rfl))) 44 (fl_is (dS Z t t)) (fl_is tv) wr
                  obtain ⟨xr, vr, rr, jr, lr, er⟩ := F32.arith_ex (P := Try.prog) (op := .sub) (.inr (.inl rfl)) 44 ja HP.out va
                  obtain ⟨xs, vs, rs, js, ls, es⟩ := F32.arith_ex (P := Try.prog) (op := .sub) (.inr (.inl rfl)) 44 one_is HP.out vr
                  obtain ⟨xf, vf, rf, jf, lf, ef⟩ := F32.arith_ex (P := Try.prog) (op := .quo) (.inr (.inr (.inr rfl))) 44 jr js vs
                  have DY := Lib.hid (((ea.trans er).trans es).trans ef)
                  have JF : F32.Is (agE Z t) xf := by unfold agE; rw [← HTT.out]; exact jf
                  obtain ⟨e1, e2⟩ := F32.fin_is JF
                  have E1 := Lib.hid e1
                  have E2 := Lib.hid e2
                  have B6 : Hid (Below w.heap.size w vf) := Lib.hid (B5.out.trans ((DY.out.below _).mono B5.out.size))
                  clear ja la ea jr lr er js ls es jf lf ef
                  clear e1 e2 JF DY
                  go_wp2_with fail
                  refine (c_onlyFinite xf _).mono ?_
                  rintro e w3 ⟨rfl, d3⟩
                  have B7 := Lib.hid (B6.out.trans ((d3.below _).mono B6.out.size))
                  rw [E2.out, E1.out, ← HY.out.2, ← HY.out.1]
                  clear d3
                  go_wp2_with fail
                  go_ret2
                  exact ⟨rfl, B7.out⟩
end Go.Proofs.Ytemdgfjcjjadnaa
