/-
  How likely the top of a diagram fails, in the model. Conditions: the lists read as lists of numbers.
-/
import Derived.Test.YtaecdeickncpcaaDgW
import Derived.Test.YtaecdeickncpcaaCrP
import Derived.Test.YtaecdeickncpcaaRgt
import Derived.Test.YtaecdeickncpcaaAlC
namespace Flt.Dg
open Go Flt Chn Syl
def nodV (wr : World) (bd od bm om c3 len cap k i iA iB n1 n2 x uA uB : Nat) (vA vB : Int) (o1 o2 : Option Nat) : Nat → Value → Prop
  | 0, v => v = .slice (some ⟨bm, om, none⟩) (k + 2) c3
  | 1, v => v = .float .f32 x
  | 2, v => ∃ zz, v = .float .f32 zz ∧ F32.Is (F32.opO .sub (some 1065353216) (some x)) zz ∧ zz < 4294967296
  | 3, v => v = .slice (some ⟨bm, om, none⟩) (k + 2) c3
  | 4, v => v = .slice (some ⟨bd, od, none⟩) len cap
  | 5, v => v = .int .i64 (i : Int)
  | 6, v => v = .int .i64 (iA : Int)
  | 7, v => v = .pointer (some ⟨bd, od + iA, none⟩)
  | 8, v => v = .int .i64 vA
  | 9, v => v = .int .i64 (n1 : Int)
  | 10, v => v = .pointer (some ⟨bm, om + n1, none⟩)
  | 11, v => v = .float .f32 uA
  | 12, v => ∃ zz, v = .float .f32 zz ∧ F32.Is (F32.opO .mul (F32.opO .sub (some 1065353216) (some x)) o1) zz ∧ zz < 4294967296
  | 13, v => v = .float .f32 x
  | 14, v => v = .slice (some ⟨bm, om, none⟩) (k + 2) c3
  | 15, v => v = .slice (some ⟨bd, od, none⟩) len cap
  | 16, v => v = .int .i64 (i : Int)
  | 17, v => v = .int .i64 (iB : Int)
  | 18, v => v = .pointer (some ⟨bd, od + iB, none⟩)
  | 19, v => v = .int .i64 vB
  | 20, v => v = .int .i64 (n2 : Int)
  | 21, v => v = .pointer (some ⟨bm, om + n2, none⟩)
  | 22, v => v = .float .f32 uB
  | 23, v => ∃ zz, v = .float .f32 zz ∧ F32.Is (F32.opO .mul (some x) o2) zz ∧ zz < 4294967296
  | 24, v => ∃ zz, v = .float .f32 zz ∧ F32.Is (F32.opO .add (F32.opO .mul (F32.opO .sub (some 1065353216) (some x)) o1) (F32.opO .mul (some x) o2)) zz ∧ zz < 4294967296
  | 25, v => v = .slice (some ⟨wr.heap.size, 0, none⟩) 1 1
  | _, _ => True
theorem dg_no_len {d : List Int} {cs : List Nat} (h : lenB d.length = false) : dgB d cs = false := by unfold dgB nodB; rw [h]; simp
theorem dg_no_parts {d : List Int} {cs : List Nat} (h : partsB (cs.length : Int) = false) : dgB d cs = false := by unfold dgB; rw [h]; simp
theorem dg_no_ch {d : List Int} {cs : List Nat} (h : chsB cs = false) : dgB d cs = false := by unfold dgB; rw [h]; simp
theorem dg_no_at {d : List Int} {cs : List Nat} {p : Nat} (hp : p < d.length) (h : okP d (cs.length : Int) p = false) : dgB d cs = false := by unfold dgB; rw [nod_no hp h]; simp
theorem dgE_no {d : List Int} {cs : List Nat} (h : dgB d cs = false) : dgE d cs = some 0 := by unfold dgE; rw [h]; rfl
theorem is_zero : F32.Is (some 0) 0 := ⟨rfl, by decide, by decide⟩
theorem owned_two (w : World) (e : TypeId) (v u : Value) : (w.alloc (.cells #[v, u] e)).ownsRow w.heap.size e 1 (.slice (some ⟨w.heap.size, 0, none⟩) 2 2) 2 [v, u] :=
  ⟨rfl, .inr ⟨w.heap.size, 2, #[v, u], rfl, Nat.le_refl _, heap_alloc_new _ _, Nat.le_refl _, by decide, rfl, rfl⟩⟩
theorem snoc_at {k : Nat} (L : List Nat) (x : Nat) (h : L.length = k) : (L ++ [x]).getD k 0 = x := by
  subst h; simp [List.getD]
theorem snoc_old (L : List Nat) (x : Nat) {q : Nat} (h : q < L.length) : (L ++ [x]).getD q 0 = L.getD q 0 := by
  simp only [List.getD]; rw [List.getElem?_append_left h]
/-- what the walk asks of the three numbers of a node -/
theorem node_of {d : List Int} {m : Int} {i k : Nat} (hi : i = 3 * k) (h0 : okP d m i = true) (h1 : okP d m (i + 1) = true) (h2 : okP d m (i + 2) = true) :
    ∃ n0 n1 n2 : Nat, d.getD i 0 = (n0 : Int) ∧ (n0 : Int) ≤ m - 1 ∧ d.getD (i + 1) 0 + 2 = (n1 : Int) ∧ n1 < k + 2 ∧ d.getD (i + 2) 0 + 2 = (n2 : Int) ∧ n2 < k + 2 := by
  subst hi
  rw [ok_first] at h0
  rw [ok_more (by omega) (by omega)] at h1 h2
  have h0 := of_decide_eq_true h0
  have h1 := of_decide_eq_true h1
  have h2 := of_decide_eq_true h2
  exact ⟨(d.getD (3 * k) 0).toNat, (d.getD (3 * k + 1) 0 + 2).toNat, (d.getD (3 * k + 2) 0 + 2).toNat, by omega, by omega, by omega, by omega, by omega, by omega⟩
end Flt.Dg
namespace Go.Proofs.Ytaecdeickncpcaa
open Go.RowKit Dec Flt Syl Sep Chn Dg Cm Cr
set_option maxRecDepth 100000 in
set_option maxHeartbeats 3000000 in
theorem sDiagramChance_any (a : Option Addr) (len cap : Nat) (d : List Int) (b : Option Addr) (lb cb : Nat) (cs : List Nat) (w : World) (h : IRow w a len d) (hc : FRow w b lb cs) :
    Calls Try.prog 39 #[.slice a len cap, .slice b lb cb] w fun e w' => (∃ v, e = .returned (.tuple #[.float .f32 v, .bool (dgB d cs)]) ∧ F32.Is (dgE d cs) v ∧ v < 4294967296) ∧ Below w.heap.size w w' := by
  have H := Lib.hid h
  have HC := Lib.hid hc
  have HL := Lib.hid h.1
  have HLC := Lib.hid hc.1
  have hlm : len ≤ 9223372036854775807 := by have := h.2.1; unfold maxLen at this; exact this
  have hlc : lb ≤ 9223372036854775807 := by have := hc.2.1; unfold maxLen at this; exact this
  have htm : (len : Int).tmod 3 = ((len % 3 : Nat) : Int) := (Int.ofNat_tmod len 3).symm
  clear h hc
  cases hb : lenB len with
  | false =>
    have HN := Lib.hid (dg_no_len (d := d) (cs := cs) (by rw [HL.out]; exact hb))
    have HE := Lib.hid (dgE_no HN.out)
    unfold lenB at hb
    by_cases h1 : 3 ≤ len
    · by_cases h2 : len ≤ 3072
      · have h3 : ¬ (len % 3 = 0) := by intro h3; rw [decide_eq_true h1, decide_eq_true h2, decide_eq_true h3] at hb; cases hb
        have h3' : (((len % 3 : Nat) : Int) != 0) = true := by simp; omega
        have h1' : ¬ ((len : Int) < 3) := by omega
        have h2' : ¬ ((3072 : Int) < (len : Int)) := by omega
        generalize len % 3 = r at *
        clear hb
        go_enter Try.func39, Try.ntmps39
        go_wp2_with fail
        go_ret2
        rw [HN.out, HE.out]
        exact ⟨⟨0, rfl, is_zero, by decide⟩, Below.refl _ _⟩
      · have h1' : ¬ ((len : Int) < 3) := by omega
        have h2' : (3072 : Int) < (len : Int) := by omega
        clear hb
        go_enter Try.func39, Try.ntmps39
        go_wp2_with fail
        go_ret2
        rw [HN.out, HE.out]
        exact ⟨⟨0, rfl, is_zero, by decide⟩, Below.refl _ _⟩
    · have h1' : (len : Int) < 3 := by omega
      clear hb
      go_enter Try.func39, Try.ntmps39
      go_wp2_with fail
      go_ret2
      rw [HN.out, HE.out]
      exact ⟨⟨0, rfl, is_zero, by decide⟩, Below.refl _ _⟩
  | true =>
    have HB := Lib.hid hb
    unfold lenB at hb
    simp only [Bool.and_eq_true, decide_eq_true_eq] at hb
    obtain ⟨h1, h2, h3⟩ := hb
    have h1' : ¬ ((len : Int) < 3) := by omega
    have h2' : ¬ ((3072 : Int) < (len : Int)) := by omega
    have HDV : Hid (len = 3 * (len / 3)) := by show _ = _; omega
    rw [h3] at htm
    clear h3
    cases hp : partsB (lb : Int) with
    | false =>
      have HN := Lib.hid (dg_no_parts (d := d) (cs := cs) (by rw [HLC.out]; exact hp))
      have HE := Lib.hid (dgE_no HN.out)
      have hp := of_decide_eq_false hp
      by_cases p1 : (lb : Int) < 1
      · clear hp
        go_enter Try.func39, Try.ntmps39
        go_wp2_with fail
        go_ret2
        rw [HN.out, HE.out]
        exact ⟨⟨0, rfl, is_zero, by decide⟩, Below.refl _ _⟩
      · have p2 : (10 : Int) < (lb : Int) := by omega
        clear hp
        go_enter Try.func39, Try.ntmps39
        go_wp2_with fail
        go_ret2
        rw [HN.out, HE.out]
        exact ⟨⟨0, rfl, is_zero, by decide⟩, Below.refl _ _⟩
    | true =>
      have HP := Lib.hid hp
      have hp := of_decide_eq_true hp
      have p1 : ¬ ((lb : Int) < 1) := by omega
      have p2 : ¬ ((10 : Int) < (lb : Int)) := by omega
      have HDL : Hid (decide ((cs.length : Int) = (lb : Int)) = true) := by show _ = _; rw [HLC.out]; simp
      cases hq : chsB cs with
      | false =>
        have HN := Lib.hid (dg_no_ch (d := d) hq)
        have HE := Lib.hid (dgE_no HN.out)
        have HQ := Lib.hid hq
        clear hp hq
        go_enter Try.func39, Try.ntmps39
        go_wp2_with fail
        refine (specChances_any (lb : Int) b lb cb cs _ HC.out).mono ?_
        rintro e w1 ⟨rfl, rfl⟩
        rw [HDL.out, HQ.out]
        go_wp2_with fail
        go_ret2
        rw [HN.out, HE.out]
        exact ⟨⟨0, rfl, is_zero, by decide⟩, Below.refl _ _⟩
      | true =>
        have HQ := Lib.hid hq
        have HU : Hid (∀ n, n < lb → nan .f32 (cs.getD n 0) = false ∧ cs.getD n 0 < 4294967296) := Lib.hid fun n hn => by
          have hm : cs.getD n 0 ∈ cs := by simp [List.getD, HC.out.1, hn]
          have := chs_unis HC.out.2.2.1 hq _ hm
          exact ⟨uni_num this, uni_lt this⟩
        obtain ⟨i0, hzi, hz0, hz1, hz2⟩ := info_parts (show (Try.prog.info? 51).map (fun i => (i.zero, i.size, i.bytes)) = some (some (.float .f32 0), 1, 4) by kernel_rfl)
        obtain ⟨N, hN⟩ : ∃ N, len / 3 = N := ⟨_, rfl⟩
        rw [hN] at HDV
        have HNN := Lib.hid hN
        have hlb : lb ≤ 10 := by omega
        have HO0 : Hid ((w.alloc (.cells #[.float .f32 1065353216, .float .f32 0] 51)).ownsRow w.heap.size 51 1 (.slice (some ⟨w.heap.size, 0, none⟩) 2 2) 2 (fv [1065353216, 0])) := Lib.hid (owned_two _ _ _ _)
        have HB0 : Hid (Below w.heap.size w (w.alloc (.cells #[.float .f32 1065353216, .float .f32 0] 51))) := (Below.refl _ _).alloc (Nat.le_refl _) _
        clear hp hq hN
        go_enter Try.func39, Try.ntmps39
        go_wp2_with fail
        refine (specChances_any (lb : Int) b lb cb cs _ HC.out).mono ?_
        rintro e w1 ⟨rfl, rfl⟩
        rw [HDL.out, HQ.out]
        go_wp2_with fail
        clear htm
        go_loopg [7, 8] N (fun q v7 v8 wr => ∃ (k i c3 : Nat) (a3 : Option Addr) (M : List Nat), v7 = .slice a3 (k + 2) c3 ∧ v8 = .int .i64 (i : Int) ∧ Hid (i = 3 * k) ∧ Hid (k + q = N) ∧ k ≤ N ∧ Hid (M.length = k + 2) ∧ Hid (∀ j, j < k + 2 → F32.Is (dgO d cs j) (M.getD j 0) ∧ M.getD j 0 < 4294967296) ∧ Hid (∀ p, p < 3 * k → okP d (cs.length : Int) p = true) ∧ Hid (wr.ownsRow w.heap.size 51 1 (.slice a3 (k + 2) c3) (k + 2) (fv M)) ∧ Hid (Below w.heap.size w wr))
        case atStart =>
          refine ⟨0, 0, 2, _, [1065353216, 0], rfl, rfl, rfl, by show _ = _; omega, Nat.zero_le _, rfl, (show Hid _ from fun j hj => ?_), (show Hid _ from fun p hp => absurd hp (by omega)), HO0.out, HB0.out⟩
          rcases j with _ | _ | j
          · rw [(dgO_zero d cs).1]; exact ⟨⟨rfl, by decide, by decide⟩, by decide⟩
          · rw [(dgO_zero d cs).2]; exact ⟨⟨rfl, by decide, by decide⟩, by decide⟩
          · omega
        case round =>
          obtain ⟨k, i, c3, a3, M, rfl, rfl, hi, hk, hkl, hML, hM, hok, hO, hB⟩ := hrel
          by_cases hlt : k < N
          · have hil : i + 2 < len := by have := hi.out; have := HDV.out; omega
            have HIL : Hid (i + 2 < d.length) := by show _ < _; rw [HL.out]; exact hil
            have hkd : (i : Int).tdiv 3 = (k : Int) := by rw [show (i : Int).tdiv 3 = ((i / 3 : Nat) : Int) from (Int.ofNat_tdiv i 3).symm, show i / 3 = k by have := hi.out; omega]
            have hlt2 : (i : Int) < (len : Int) := by omega
            have HJ : Hid (k + 1 + (gk - 1) = N) := by have := hk.out; show _ = _; omega
            have HG : Hid (gk - 1 < gk) := by have := hk.out; show _ < _; omega
            have hrow := H.out.keep hB.out
            obtain ⟨bd, od, rfl, hbd, c0⟩ := hrow.2.2.2 i (by omega)
            obtain ⟨_, _, e1, _, c1⟩ := hrow.2.2.2 (i + 1) (by omega)
            cases e1
            obtain ⟨_, _, e2, _, c2⟩ := hrow.2.2.2 (i + 2) hil
            cases e2
            have HK0 : Hid (okP d (lb : Int) i = decide (0 ≤ d.getD i 0 ∧ d.getD i 0 ≤ (lb : Int) - 1)) := by show _ = _; rw [hi.out]; exact ok_first
            have HK1 : Hid (okP d (lb : Int) (i + 1) = decide (-2 ≤ d.getD (i + 1) 0 ∧ d.getD (i + 1) 0 ≤ (k : Int) - 1)) := by show _ = _; rw [hi.out]; exact ok_more (by omega) (by omega)
            have HK2 : Hid (okP d (lb : Int) (i + 2) = decide (-2 ≤ d.getD (i + 2) 0 ∧ d.getD (i + 2) 0 ≤ (k : Int) - 1)) := by show _ = _; rw [hi.out]; exact ok_more (by omega) (by omega)
            have hkb : k ≤ 1024 := by have := HDV.out; omega
            have HBR := Lib.hid hB.out
            have HNO : Hid (∀ p, p < i + 3 → okP d (lb : Int) p = false → dgB d cs = false) := Lib.hid fun p hp h => dg_no_at (p := p) (by have := HIL.out; omega) (by rw [HLC.out]; exact h)
            cases q0 : okP d (lb : Int) i with
            | false =>
              have HN := Lib.hid (HNO.out i (by omega) q0)
              have HE := Lib.hid (dgE_no HN.out)
              rw [q0] at HK0
              generalize d.getD i 0 = v0 at *
              generalize d.getD (i + 1) 0 = v1 at *
              generalize d.getD (i + 2) 0 = v2 at *
              clear hrow q0
              go_wp2_with fail
              refine (c_In _ _ _ _).mono ?_
              rintro e w1 ⟨rfl, rfl⟩
              rw [← HK0.out]
              go_wp2_with fail
              go_ret2
              rw [HN.out, HE.out]
              exact ⟨⟨0, rfl, is_zero, by decide⟩, hB.out⟩
            | true =>
              cases q1 : okP d (lb : Int) (i + 1) with
              | false =>
                have HN := Lib.hid (HNO.out (i + 1) (by omega) q1)
                have HE := Lib.hid (dgE_no HN.out)
                rw [q0] at HK0
                rw [q1] at HK1
                generalize d.getD i 0 = v0 at *
                generalize d.getD (i + 1) 0 = v1 at *
                generalize d.getD (i + 2) 0 = v2 at *
                clear hrow q0 q1
                go_wp2_with fail
                refine (c_In _ _ _ _).mono ?_
                rintro e w1 ⟨rfl, rfl⟩
                rw [← HK0.out]
                go_wp2_with fail
                refine (c_In _ _ _ _).mono ?_
                rintro e w1 ⟨rfl, rfl⟩
                rw [← HK1.out]
                go_wp2_with fail
                go_ret2
                rw [HN.out, HE.out]
                exact ⟨⟨0, rfl, is_zero, by decide⟩, hB.out⟩
              | true =>
                cases q2 : okP d (lb : Int) (i + 2) with
                | false =>
                  have HN := Lib.hid (HNO.out (i + 2) (by omega) q2)
                  have HE := Lib.hid (dgE_no HN.out)
                  rw [q0] at HK0
                  rw [q1] at HK1
                  rw [q2] at HK2
                  generalize d.getD i 0 = v0 at *
                  generalize d.getD (i + 1) 0 = v1 at *
                  generalize d.getD (i + 2) 0 = v2 at *
                  clear hrow q0 q1 q2
                  go_wp2_with fail
                  refine (c_In _ _ _ _).mono ?_
                  rintro e w1 ⟨rfl, rfl⟩
                  rw [← HK0.out]
                  go_wp2_with fail
                  refine (c_In _ _ _ _).mono ?_
                  rintro e w1 ⟨rfl, rfl⟩
                  rw [← HK1.out]
                  go_wp2_with fail
                  refine (c_In _ _ _ _).mono ?_
                  rintro e w1 ⟨rfl, rfl⟩
                  rw [← HK2.out]
                  go_wp2_with fail
                  go_ret2
                  rw [HN.out, HE.out]
                  exact ⟨⟨0, rfl, is_zero, by decide⟩, hB.out⟩
                | true =>
                  obtain ⟨n0, n1, n2, e0, l0, e1, l1, e2, l2⟩ := node_of hi.out q0 q1 q2
                  have hn0 : n0 < lb := by omega
                  have HNODE : Hid (dgO d cs (k + 2) = F32.opO .add (F32.opO .mul (F32.opO .sub (some 1065353216) (some (cs.getD n0 0))) (dgO d cs n1)) (F32.opO .mul (some (cs.getD n0 0)) (dgO d cs n2))) := by
                    have := dgO_node d cs k (by rw [← hi.out, e1]; omega) (by rw [← hi.out, e2]; omega)
                    rw [← hi.out, e0, e1, e2, Int.toNat_natCast, Int.toNat_natCast, Int.toNat_natCast] at this
                    exact this
                  have hok2 : Hid (∀ p, p < 3 * (k + 1) → okP d (cs.length : Int) p = true) := by
                    show ∀ p, _
                    intro p hp
                    rw [HLC.out]
                    by_cases p1 : p < 3 * k
                    · have := hok.out p p1; rw [HLC.out] at this; exact this
                    · have hi' := hi.out
                      rcases (by omega : p = i ∨ p = i + 1 ∨ p = i + 2) with rfl | rfl | rfl <;> assumption
                  obtain ⟨bc, oc, rfl, hbc, cx⟩ := (HC.out.keep hB.out).2.2.2 n0 hn0
                  have hrm : FRow wr a3 (k + 2) M := Cm.row_owned hO.out hML.out (by omega) (fun z hz => by obtain ⟨j, hj, rfl⟩ := List.mem_iff_getElem.1 hz; have := (hM.out j (by rw [← hML.out]; exact hj)).2; rw [show M.getD j 0 = M[j] from by simp [List.getD, hj]] at this; exact this)
                  obtain ⟨bm, om, rfl, hbm, mA⟩ := hrm.2.2.2 n1 l1
                  obtain ⟨_, _, e3, _, mB⟩ := hrm.2.2.2 n2 l2
                  cases e3
                  rw [q0] at HK0
                  rw [q1] at HK1
                  rw [q2] at HK2
                  rw [e0] at c0 HK0
                  have HU0 := Lib.hid (HU.out n0 hn0)
                  have M1 := Lib.hid (hM.out n1 l1)
                  have M2 := Lib.hid (hM.out n2 l2)
                  have hw1 : IntKind.i64.wrap (d.getD (i + 1) 0 + 2) = (n1 : Int) := by rw [e1]; exact IntWalk.i64_in _ (by omega)
                  have hw2 : IntKind.i64.wrap (d.getD (i + 2) 0 + 2) = (n2 : Int) := by rw [e2]; exact IntWalk.i64_in _ (by omega)
                  generalize d.getD (i + 1) 0 = vA at *
                  generalize d.getD (i + 2) 0 = vB at *
                  generalize cs.getD n0 0 = x at *
                  generalize M.getD n1 0 = uA at *
                  generalize M.getD n2 0 = uB at *
                  generalize dgO d cs n1 = o1 at *
                  generalize dgO d cs n2 = o2 at *
                  have HW := Lib.hid (And.intro hw1 hw2)
                  have hnl : (n0 : Int) < (lb : Int) := by omega
                  clear hrow q0 q1 q2 e0 e1 e2 hw1 hw2
                  go_wp2_with fail
                  refine (c_In _ _ _ _).mono ?_
                  rintro e w1 ⟨rfl, rfl⟩
                  rw [← HK0.out]
                  go_wp2_with fail
                  refine (c_In _ _ _ _).mono ?_
                  rintro e w1 ⟨rfl, rfl⟩
                  rw [← HK1.out]
                  go_wp2_with fail
                  refine (c_In _ _ _ _).mono ?_
                  rintro e w1 ⟨rfl, rfl⟩
                  rw [← HK2.out]
                  go_wp2_with fail
                  obtain ⟨iA, hiA⟩ : ∃ iA, i + 1 = iA := ⟨_, rfl⟩
                  obtain ⟨iB, hiB⟩ : ∃ iB, i + 2 = iB := ⟨_, rfl⟩
                  rw [hiA] at c1
                  rw [hiB] at c2
                  have HI1 : Hid (IntKind.i64.wrap ((i : Int) + 1) = (iA : Int)) := by show _ = _; rw [show (i : Int) + 1 = (iA : Int) by omega]; exact IntWalk.i64_in _ (by omega)
                  have HI2 : Hid (IntKind.i64.wrap ((i : Int) + 2) = (iB : Int)) := by show _ = _; rw [show (i : Int) + 2 = (iB : Int) by omega]; exact IntWalk.i64_in _ (by omega)
                  have hnA : (n1 : Int) < (k : Int) + 2 := by omega
                  have hnB : (n2 : Int) < (k : Int) + 2 := by omega
                  have hl1 : iA < len := by omega
                  have hl2 : iB < len := by omega
                  have HIL2 := Lib.hid (And.intro hiA hiB)
                  have HX := Lib.hid (show F32.Is (some x) x from ⟨rfl, HU0.out.1, HU0.out.2⟩)
                  have HONE := Lib.hid (show F32.Is (some 1065353216) 1065353216 from ⟨rfl, by decide, by decide⟩)
                  have hDd : Drawn wr wr.drew := Drawn.one wr
                  have HBD := Lib.hid hbd
                  have HBM := Lib.hid hbm
                  clear hiA hiB
                  refine wp_region_head 26 25 (C := F32.allC wr 51 (F32.opO .add (F32.opO .mul (F32.opO .sub (some 1065353216) (some x)) o1) (F32.opO .mul (some x) o2))) (V := nodV wr bd od bm om c3 len cap k i iA iB n1 n2 x uA uB vA vB o1 o2) (by kernel_rfl) hDd (by kernel_rfl) ?_ ?_
                  · intro i o hin ho A W bb hbb hC hdep hbase
                    have m0 : W.cell? ⟨bd, od + iA, none⟩ = some (.int .i64 vA) := by rw [F32.allC_cell hC (p := ⟨bd, od + iA, none⟩) HBD.out]; exact c1
                    have m1 : W.cell? ⟨bd, od + iB, none⟩ = some (.int .i64 vB) := by rw [F32.allC_cell hC (p := ⟨bd, od + iB, none⟩) HBD.out]; exact c2
                    have m2 : W.cell? ⟨bm, om + n1, none⟩ = some (.float .f32 uA) := by rw [F32.allC_cell hC (p := ⟨bm, om + n1, none⟩) HBM.out]; exact mA
                    have m3 : W.cell? ⟨bm, om + n2, none⟩ = some (.float .f32 uB) := by rw [F32.allC_cell hC (p := ⟨bm, om + n2, none⟩) HBM.out]; exact mB
                    have q1 := HI1.out
                    have q2 := HI2.out
                    have q3 := HW.out.1
                    have q4 := HW.out.2
                    rcases i with _ | _ | _ | _ | _ | _ | _ | _ | _ | _ | _ | _ | _ | _ | _ | _ | _ | _ | _ | _ | _ | _ | _ | _ | _ | _ | i
                    · obtain rfl := Option.some.inj ho
                      have b0 : A.tmps.getD 7 undef = .slice (some ⟨bm, om, none⟩) (k + 2) c3 := hbase 7 (by kernel_rfl)
                      refine stepH (.slice (some ⟨bm, om, none⟩) (k + 2) c3) W rfl hC fun K hK => ?_
                      simp only [Array.getD_eq_getD_getElem?] at b0
                      unfold Oper.wp
                      go_simp
                      exact hK
                    · obtain rfl := Option.some.inj ho
                      have b0 : A.tmps.getD 10 undef = .float .f32 x := hbase 10 (by kernel_rfl)
                      refine stepH (.float .f32 x) W rfl hC fun K hK => ?_
                      simp only [Array.getD_eq_getD_getElem?] at b0
                      unfold Oper.wp
                      go_simp
                      exact hK
                    · obtain rfl := Option.some.inj ho
                      have b0 : A.tmps.getD 88 undef = .float .f32 x := hdep ⟨1, .data⟩ (by simp) rfl 88 rfl
                      obtain ⟨zr, W', hr, iz, lz, dz⟩ := F32.arith_ex (P := Try.prog) (op := .sub) (.inr (.inl rfl)) 51 (HONE.out) (HX.out) W
                      refine stepH (.float .f32 zr) W' ⟨zr, rfl, iz, lz⟩ (F32.allC_trans hC dz) fun K hK => ?_
                      simp only [Array.getD_eq_getD_getElem?] at b0
                      unfold Oper.wp
                      go_simp
                      exact hK
                    · obtain rfl := Option.some.inj ho
                      have b0 : A.tmps.getD 7 undef = .slice (some ⟨bm, om, none⟩) (k + 2) c3 := hbase 7 (by kernel_rfl)
                      refine stepH (.slice (some ⟨bm, om, none⟩) (k + 2) c3) W rfl hC fun K hK => ?_
                      simp only [Array.getD_eq_getD_getElem?] at b0
                      unfold Oper.wp
                      go_simp
                      exact hK
                    · obtain rfl := Option.some.inj ho
                      have b0 : A.tmps.getD 0 undef = .slice (some ⟨bd, od, none⟩) len cap := hbase 0 (by kernel_rfl)
                      refine stepH (.slice (some ⟨bd, od, none⟩) len cap) W rfl hC fun K hK => ?_
                      simp only [Array.getD_eq_getD_getElem?] at b0
                      unfold Oper.wp
                      go_simp
                      exact hK
                    · obtain rfl := Option.some.inj ho
                      have b0 : A.tmps.getD 8 undef = .int .i64 (i : Int) := hbase 8 (by kernel_rfl)
                      refine stepH (.int .i64 (i : Int)) W rfl hC fun K hK => ?_
                      simp only [Array.getD_eq_getD_getElem?] at b0
                      unfold Oper.wp
                      go_simp
                      exact hK
                    · obtain rfl := Option.some.inj ho
                      have b0 : A.tmps.getD 92 undef = .int .i64 (i : Int) := hdep ⟨5, .data⟩ (by simp) rfl 92 rfl
                      refine stepH (.int .i64 (iA : Int)) W rfl hC fun K hK => ?_
                      simp only [Array.getD_eq_getD_getElem?] at b0
                      unfold Oper.wp
                      go_simp
                      exact hK
                    · obtain rfl := Option.some.inj ho
                      have b0 : A.tmps.getD 91 undef = .slice (some ⟨bd, od, none⟩) len cap := hdep ⟨4, .data⟩ (by simp) rfl 91 rfl
                      have b1 : A.tmps.getD 93 undef = .int .i64 (iA : Int) := hdep ⟨6, .data⟩ (by simp) rfl 93 rfl
                      refine stepH (.pointer (some ⟨bd, od + iA, none⟩)) W rfl hC fun K hK => ?_
                      simp only [Array.getD_eq_getD_getElem?] at b0 b1
                      unfold Oper.wp
                      go_simp
                      exact hK
                    · obtain rfl := Option.some.inj ho
                      have b0 : A.tmps.getD 94 undef = .pointer (some ⟨bd, od + iA, none⟩) := hdep ⟨7, .data⟩ (by simp) rfl 94 rfl
                      refine stepH (.int .i64 vA) W rfl hC fun K hK => ?_
                      simp only [Array.getD_eq_getD_getElem?] at b0
                      unfold Oper.wp
                      go_simp
                      exact hK
                    · obtain rfl := Option.some.inj ho
                      have b0 : A.tmps.getD 95 undef = .int .i64 vA := hdep ⟨8, .data⟩ (by simp) rfl 95 rfl
                      refine stepH (.int .i64 (n1 : Int)) W rfl hC fun K hK => ?_
                      simp only [Array.getD_eq_getD_getElem?] at b0
                      unfold Oper.wp
                      go_simp
                      exact hK
                    · obtain rfl := Option.some.inj ho
                      have b0 : A.tmps.getD 90 undef = .slice (some ⟨bm, om, none⟩) (k + 2) c3 := hdep ⟨3, .data⟩ (by simp) rfl 90 rfl
                      have b1 : A.tmps.getD 96 undef = .int .i64 (n1 : Int) := hdep ⟨9, .data⟩ (by simp) rfl 96 rfl
                      refine stepH (.pointer (some ⟨bm, om + n1, none⟩)) W rfl hC fun K hK => ?_
                      simp only [Array.getD_eq_getD_getElem?] at b0 b1
                      unfold Oper.wp
                      go_simp
                      exact hK
                    · obtain rfl := Option.some.inj ho
                      have b0 : A.tmps.getD 97 undef = .pointer (some ⟨bm, om + n1, none⟩) := hdep ⟨10, .data⟩ (by simp) rfl 97 rfl
                      refine stepH (.float .f32 uA) W rfl hC fun K hK => ?_
                      simp only [Array.getD_eq_getD_getElem?] at b0
                      unfold Oper.wp
                      go_simp
                      exact hK
                    · obtain rfl := Option.some.inj ho
                      obtain ⟨y0, b0, j0, k0⟩ := hdep ⟨2, .data⟩ (by simp) rfl 89 rfl
                      have b1 : A.tmps.getD 98 undef = .float .f32 uA := hdep ⟨11, .data⟩ (by simp) rfl 98 rfl
                      obtain ⟨zr, W', hr, iz, lz, dz⟩ := F32.arith_ex (P := Try.prog) (op := .mul) (.inr (.inr (.inl rfl))) 51 j0 (M1.out.1) W
                      refine stepH (.float .f32 zr) W' ⟨zr, rfl, iz, lz⟩ (F32.allC_trans hC dz) fun K hK => ?_
                      simp only [Array.getD_eq_getD_getElem?] at b0 b1
                      unfold Oper.wp
                      go_simp
                      exact hK
                    · obtain rfl := Option.some.inj ho
                      have b0 : A.tmps.getD 10 undef = .float .f32 x := hbase 10 (by kernel_rfl)
                      refine stepH (.float .f32 x) W rfl hC fun K hK => ?_
                      simp only [Array.getD_eq_getD_getElem?] at b0
                      unfold Oper.wp
                      go_simp
                      exact hK
                    · obtain rfl := Option.some.inj ho
                      have b0 : A.tmps.getD 7 undef = .slice (some ⟨bm, om, none⟩) (k + 2) c3 := hbase 7 (by kernel_rfl)
                      refine stepH (.slice (some ⟨bm, om, none⟩) (k + 2) c3) W rfl hC fun K hK => ?_
                      simp only [Array.getD_eq_getD_getElem?] at b0
                      unfold Oper.wp
                      go_simp
                      exact hK
                    · obtain rfl := Option.some.inj ho
                      have b0 : A.tmps.getD 0 undef = .slice (some ⟨bd, od, none⟩) len cap := hbase 0 (by kernel_rfl)
                      refine stepH (.slice (some ⟨bd, od, none⟩) len cap) W rfl hC fun K hK => ?_
                      simp only [Array.getD_eq_getD_getElem?] at b0
                      unfold Oper.wp
                      go_simp
                      exact hK
                    · obtain rfl := Option.some.inj ho
                      have b0 : A.tmps.getD 8 undef = .int .i64 (i : Int) := hbase 8 (by kernel_rfl)
                      refine stepH (.int .i64 (i : Int)) W rfl hC fun K hK => ?_
                      simp only [Array.getD_eq_getD_getElem?] at b0
                      unfold Oper.wp
                      go_simp
                      exact hK
                    · obtain rfl := Option.some.inj ho
                      have b0 : A.tmps.getD 103 undef = .int .i64 (i : Int) := hdep ⟨16, .data⟩ (by simp) rfl 103 rfl
                      refine stepH (.int .i64 (iB : Int)) W rfl hC fun K hK => ?_
                      simp only [Array.getD_eq_getD_getElem?] at b0
                      unfold Oper.wp
                      go_simp
                      exact hK
                    · obtain rfl := Option.some.inj ho
                      have b0 : A.tmps.getD 102 undef = .slice (some ⟨bd, od, none⟩) len cap := hdep ⟨15, .data⟩ (by simp) rfl 102 rfl
                      have b1 : A.tmps.getD 104 undef = .int .i64 (iB : Int) := hdep ⟨17, .data⟩ (by simp) rfl 104 rfl
                      refine stepH (.pointer (some ⟨bd, od + iB, none⟩)) W rfl hC fun K hK => ?_
                      simp only [Array.getD_eq_getD_getElem?] at b0 b1
                      unfold Oper.wp
                      go_simp
                      exact hK
                    · obtain rfl := Option.some.inj ho
                      have b0 : A.tmps.getD 105 undef = .pointer (some ⟨bd, od + iB, none⟩) := hdep ⟨18, .data⟩ (by simp) rfl 105 rfl
                      refine stepH (.int .i64 vB) W rfl hC fun K hK => ?_
                      simp only [Array.getD_eq_getD_getElem?] at b0
                      unfold Oper.wp
                      go_simp
                      exact hK
                    · obtain rfl := Option.some.inj ho
                      have b0 : A.tmps.getD 106 undef = .int .i64 vB := hdep ⟨19, .data⟩ (by simp) rfl 106 rfl
                      refine stepH (.int .i64 (n2 : Int)) W rfl hC fun K hK => ?_
                      simp only [Array.getD_eq_getD_getElem?] at b0
                      unfold Oper.wp
                      go_simp
                      exact hK
                    · obtain rfl := Option.some.inj ho
                      have b0 : A.tmps.getD 101 undef = .slice (some ⟨bm, om, none⟩) (k + 2) c3 := hdep ⟨14, .data⟩ (by simp) rfl 101 rfl
                      have b1 : A.tmps.getD 107 undef = .int .i64 (n2 : Int) := hdep ⟨20, .data⟩ (by simp) rfl 107 rfl
                      refine stepH (.pointer (some ⟨bm, om + n2, none⟩)) W rfl hC fun K hK => ?_
                      simp only [Array.getD_eq_getD_getElem?] at b0 b1
                      unfold Oper.wp
                      go_simp
                      exact hK
                    · obtain rfl := Option.some.inj ho
                      have b0 : A.tmps.getD 108 undef = .pointer (some ⟨bm, om + n2, none⟩) := hdep ⟨21, .data⟩ (by simp) rfl 108 rfl
                      refine stepH (.float .f32 uB) W rfl hC fun K hK => ?_
                      simp only [Array.getD_eq_getD_getElem?] at b0
                      unfold Oper.wp
                      go_simp
                      exact hK
                    · obtain rfl := Option.some.inj ho
                      have b0 : A.tmps.getD 100 undef = .float .f32 x := hdep ⟨13, .data⟩ (by simp) rfl 100 rfl
                      have b1 : A.tmps.getD 109 undef = .float .f32 uB := hdep ⟨22, .data⟩ (by simp) rfl 109 rfl
                      obtain ⟨zr, W', hr, iz, lz, dz⟩ := F32.arith_ex (P := Try.prog) (op := .mul) (.inr (.inr (.inl rfl))) 51 (HX.out) (M2.out.1) W
                      refine stepH (.float .f32 zr) W' ⟨zr, rfl, iz, lz⟩ (F32.allC_trans hC dz) fun K hK => ?_
                      simp only [Array.getD_eq_getD_getElem?] at b0 b1
                      unfold Oper.wp
                      go_simp
                      exact hK
                    · obtain rfl := Option.some.inj ho
                      obtain ⟨y0, b0, j0, k0⟩ := hdep ⟨12, .data⟩ (by simp) rfl 99 rfl
                      obtain ⟨y1, b1, j1, k1⟩ := hdep ⟨23, .data⟩ (by simp) rfl 110 rfl
                      obtain ⟨zr, W', hr, iz, lz, dz⟩ := F32.arith_ex (P := Try.prog) (op := .add) (.inl rfl) 51 j0 j1 W
                      refine stepH (.float .f32 zr) W' ⟨zr, rfl, iz, lz⟩ (F32.allC_trans hC dz) fun K hK => ?_
                      simp only [Array.getD_eq_getD_getElem?] at b0 b1
                      unfold Oper.wp
                      go_simp
                      exact hK
                    · obtain rfl := Option.some.inj ho
                      obtain ⟨y0, b0, j0, k0⟩ := hdep ⟨24, .data⟩ (by simp) rfl 111 rfl
                      obtain rfl := hbb rfl
                      have hsz := F32.allC_size hC
                      refine stepH (.slice (some ⟨wr.heap.size, 0, none⟩) 1 1) (W.alloc (.cells #[.float .f32 y0] 51)) rfl (F32.allC_made hC j0 k0) fun K hK => ?_
                      simp only [Array.getD_eq_getD_getElem?] at b0
                      unfold Oper.wp
                      go_simp
                      exact hK
                    · exact absurd hin (by omega)
                  · intro vals W hC hlen hV
                    match vals, hlen with
                    | [v0, v1, v2, v3, v4, v5, v6, v7, v8, v9, v10, v11, v12, v13, v14, v15, v16, v17, v18, v19, v20, v21, v22, v23, v24, v25], _ =>
                      obtain rfl : v0 = _ := hV 0 (by simp)
                      obtain rfl : v1 = _ := hV 1 (by simp)
                      have h2 : nodV wr bd od bm om c3 len cap k i iA iB n1 n2 x uA uB vA vB o1 o2 2 v2 := hV 2 (by simp)
                      obtain ⟨x2, rfl, i2, l2⟩ := h2
                      obtain rfl : v3 = _ := hV 3 (by simp)
                      obtain rfl : v4 = _ := hV 4 (by simp)
                      obtain rfl : v5 = _ := hV 5 (by simp)
                      obtain rfl : v6 = _ := hV 6 (by simp)
                      obtain rfl : v7 = _ := hV 7 (by simp)
                      obtain rfl : v8 = _ := hV 8 (by simp)
                      obtain rfl : v9 = _ := hV 9 (by simp)
                      obtain rfl : v10 = _ := hV 10 (by simp)
                      obtain rfl : v11 = _ := hV 11 (by simp)
                      have h12 : nodV wr bd od bm om c3 len cap k i iA iB n1 n2 x uA uB vA vB o1 o2 12 v12 := hV 12 (by simp)
                      obtain ⟨x12, rfl, i12, l12⟩ := h12
                      obtain rfl : v13 = _ := hV 13 (by simp)
                      obtain rfl : v14 = _ := hV 14 (by simp)
                      obtain rfl : v15 = _ := hV 15 (by simp)
                      obtain rfl : v16 = _ := hV 16 (by simp)
                      obtain rfl : v17 = _ := hV 17 (by simp)
                      obtain rfl : v18 = _ := hV 18 (by simp)
                      obtain rfl : v19 = _ := hV 19 (by simp)
                      obtain rfl : v20 = _ := hV 20 (by simp)
                      obtain rfl : v21 = _ := hV 21 (by simp)
                      obtain rfl : v22 = _ := hV 22 (by simp)
                      have h23 : nodV wr bd od bm om c3 len cap k i iA iB n1 n2 x uA uB vA vB o1 o2 23 v23 := hV 23 (by simp)
                      obtain ⟨x23, rfl, i23, l23⟩ := h23
                      have h24 : nodV wr bd od bm om c3 len cap k i iA iB n1 n2 x uA uB vA vB o1 o2 24 v24 := hV 24 (by simp)
                      obtain ⟨x24, rfl, i24, l24⟩ := h24
                      obtain rfl : v25 = _ := hV 25 (by simp)
                      clear hV hlen
                      simp only [puts, Act.put, List.zip_cons_cons, List.zip_nil_right, List.take_succ_cons, List.take_zero, List.drop_succ_cons, List.drop_zero, List.foldl_cons, List.foldl_nil, List.setIfInBounds_toArray, List.set_cons_zero, List.set_cons_succ]
                      obtain ⟨xx, ix, lx, hdW⟩ := (show F32.allC wr 51 (F32.opO .add (F32.opO .mul (F32.opO .sub (some 1065353216) (some x)) o1) (F32.opO .mul (some x) o2)) true W from hC)
                      obtain ⟨nn, rfl⟩ := hdW
                      rw [← HNODE.out] at ix
                      have IX := Lib.hid ix
                      have LX := Lib.hid lx
                      have HCELL : Hid (∀ (q : Nat) (u : Value), [Value.float .f32 xx][q]? = some u → ((wr.alloc (.cells #[.float .f32 xx] 51)).drewN nn).cell? ((⟨wr.heap.size, 0, none⟩ : Addr).add q) = some u) := Lib.hid (Cm.cell_new1 wr 51 (.float .f32 xx))
                      have HO1 : Hid (((wr.alloc (.cells #[.float .f32 xx] 51)).drewN nn).ownsRow w.heap.size 51 1 (.slice (some ⟨bm, om, none⟩) (k + 2) c3) (k + 2) (fv M)) := Lib.hid (hO.out.alloc (.cells #[.float .f32 xx] 51))
                      have HB1 : Hid (Below w.heap.size w ((wr.alloc (.cells #[.float .f32 xx] 51)).drewN nn)) := Lib.hid (below_drewN (hB.out.alloc hB.out.size (.cells #[.float .f32 xx] 51)) nn)
                      have HLE2 : Hid (k + 2 + 1 ≤ maxLen ∧ (k + 2 + 1) * 4 ≤ 140737488355328) := by show _ ∧ _; unfold maxLen; omega
                      clear hC ix lx i2 l2 i12 l12 i23 l23 i24 l24 hO hB HBR
                      generalize (wr.alloc (.cells #[.float .f32 xx] 51)).drewN nn = wa at *
                      go_wp2_with (at_builtin; refine wpList_append_own _ rfl _ _ 50 rfl w.heap.size 51 i0 (.float .f32 0) 1 4 Try.underlying50 hzi hz0 hz1 hz2 rfl (by decide) (.slice (some ⟨bm, om, none⟩) (k + 2) c3) (k + 2) (fv M) rfl HO1.out ⟨wr.heap.size, 0, none⟩ 1 1 [.float .f32 xx] rfl rfl HCELL.out (by intro u hu; simp at hu; subst hu; rfl) HLE2.out.1 HLE2.out.2 HB1.out.size ?_)
                      intro v' w6 hown' hgrow _
                      have HO3 : Hid (w6.ownsRow w.heap.size 51 1 v' (k + 1 + 2) (fv (M ++ [xx]))) := by
                        show World.ownsRow _ _ _ _ _ _ _
                        rw [Cm.fv_snoc]; exact hown'
                      have HB3 : Hid (Below w.heap.size w w6) := Lib.hid (HB1.out.grown hgrow HB1.out.size (fun q hq => (HO1.out.lt q hq).1))
                      clear hown' hgrow HO1 HB1 HCELL
                      obtain ⟨a5, c5, rfl⟩ := Cm.owns_shape HO3.out
                      have HZ2 : Hid ((M ++ [xx]).length = k + 1 + 2) := by show _ = _; rw [List.length_append, hML.out]; rfl
                      have HI4 : Hid (∀ q, q < k + 1 + 2 → F32.Is (dgO d cs q) ((M ++ [xx]).getD q 0) ∧ (M ++ [xx]).getD q 0 < 4294967296) := by
                        show ∀ q : Nat, _
                        intro q hq
                        by_cases eq : q = k + 2
                        · subst eq; rw [snoc_at M xx hML.out]; exact ⟨IX.out, LX.out⟩
                        · rw [snoc_old M xx (by rw [hML.out]; omega)]; exact hM.out q (by omega)
                      have HI5 : Hid (i + 3 = 3 * (k + 1)) := by have := hi.out; show _ = _; omega
                      clear hM hML
                      go_wp2_with fail
                      go_roundg (gk - 1)
                      case measure => exact HG.out
                      case rel => exact ⟨k + 1, i + 3, c5, a5, M ++ [xx], rfl, by go_num, HI5, HJ, by omega, HZ2, HI4, hok2, HO3, HB3⟩
          · obtain rfl : k = N := by have := hk.out; omega
            have hkb : k ≤ 1024 := by have := HDV.out; omega
            have hge : ¬ ((i : Int) < (len : Int)) := by have := hi.out; have := HDV.out; omega
            have hnod : dgB d cs = true := by
              unfold dgB
              rw [HLC.out, HP.out, HQ.out]
              rw [nod_yes (by rw [HL.out]; exact HB.out) (fun p hp => by have := hok.out p (by rw [HL.out, HDV.out] at hp; exact hp); rw [HLC.out] at this; exact this)]
              rfl
            have HN := Lib.hid hnod
            have HE : Hid (dgE d cs = dgO d cs (k + 1)) := by show _ = _; unfold dgE; rw [hnod, if_pos rfl, HL.out, HNN.out]
            have hrm : FRow wr a3 (k + 2) M := Cm.row_owned hO.out hML.out (by omega) (fun z hz => by obtain ⟨j, hj, rfl⟩ := List.mem_iff_getElem.1 hz; have := (hM.out j (by rw [← hML.out]; exact hj)).2; rw [show M.getD j 0 = M[j] from by simp [List.getD, hj]] at this; exact this)
            obtain ⟨bm, om, rfl, _, cm⟩ := hrm.2.2.2 (k + 1) (by omega)
            have ML := Lib.hid (hM.out (k + 1) (by omega))
            generalize M.getD (k + 1) 0 = u at *
            obtain ⟨L2, hL2⟩ : ∃ L2, k + 2 = L2 := ⟨_, rfl⟩
            obtain ⟨K1, hK1⟩ : ∃ K1, k + 1 = K1 := ⟨_, rfl⟩
            have hs : (L2 : Int) - 1 = (K1 : Int) := by omega
            have hs2 : K1 < L2 := by omega
            have hs3 : L2 ≤ 1048576 := by have := HDV.out; omega
            rw [hL2]
            rw [hK1] at cm
            clear hL2 hK1 hrm hnod hlt hk hO
            go_wp2_with fail
            go_ret2
            rw [HN.out, HE.out]
            exact ⟨⟨u, rfl, ML.out.1, ML.out.2⟩, hB.out⟩
end Go.Proofs.Ytaecdeickncpcaa
