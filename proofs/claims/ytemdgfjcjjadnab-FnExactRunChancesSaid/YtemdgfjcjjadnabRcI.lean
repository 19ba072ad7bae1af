/-
  How likely a run has been seen: the program's walk. Conditions: shares are words.
-/
import Derived.Test.YtemdgfjcjjadnabRcS
import Derived.Test.YtemdgfjcjjadnabRgt
import Derived.Test.YtemdgfjcjjadnabCrI0
namespace Sq
open Go Flt F32 Cm We Dec
theorem sqSet_eq {zs : List Nat} {k v : Nat} (h : k < zs.length) : (zs.set k v).getD k 0 = v := by simp [List.getD, h]
theorem sqSet_ne {zs : List Nat} {k j v : Nat} (h : j ≠ k) : (zs.set k v).getD j 0 = zs.getD j 0 := by simp [List.getD, Ne.symm h]
def rcvA (gL gM n N M t T sh u1 u2 : Nat) (o1 o2 : Option Nat) : Nat → Value → Prop
  | 0, v => v = .slice (some ⟨gM, 0, none⟩) M M
  | 1, v => v = .int .i64 (t : Int)
  | 2, v => v = .int .i64 (T : Int)
  | 3, v => v = .slice (some ⟨gM, 0, none⟩) M M
  | 4, v => v = .int .i64 (t : Int)
  | 5, v => v = .pointer (some ⟨gM, t, none⟩)
  | 6, v => v = .float .f32 u1
  | 7, v => v = .slice (some ⟨gL, 0, none⟩) n n
  | 8, v => v = .int .i64 (n : Int)
  | 9, v => v = .int .i64 (N : Int)
  | 10, v => v = .pointer (some ⟨gL, N, none⟩)
  | 11, v => v = .float .f32 u2
  | 12, v => v = .float .f32 sh
  | 13, v => ∃ zz, v = .float .f32 zz ∧ F32.Is (F32.opO .mul o2 (some sh)) zz ∧ zz < 4294967296
  | 14, v => ∃ zz, v = .float .f32 zz ∧ F32.Is (F32.opO .add o1 (F32.opO .mul o2 (some sh))) zz ∧ zz < 4294967296
  | 15, v => v = .pointer (some ⟨gM, T, none⟩)
  | _, _ => True
def rcvB (gL gM n N M t T sh u1 u2 : Nat) (o1 o2 : Option Nat) : Nat → Value → Prop
  | 0, v => v = .slice (some ⟨gM, 0, none⟩) M M
  | 1, v => v = .int .i64 (t : Int)
  | 2, v => v = .int .i64 (T : Int)
  | 3, v => v = .slice (some ⟨gM, 0, none⟩) M M
  | 4, v => v = .int .i64 (t : Int)
  | 5, v => v = .pointer (some ⟨gM, t, none⟩)
  | 6, v => v = .float .f32 u1
  | 7, v => v = .slice (some ⟨gL, 0, none⟩) n n
  | 8, v => v = .int .i64 (n : Int)
  | 9, v => v = .int .i64 (N : Int)
  | 10, v => v = .pointer (some ⟨gL, N, none⟩)
  | 11, v => v = .float .f32 u2
  | 12, v => v = .float .f32 sh
  | 13, v => ∃ zz, v = .float .f32 zz ∧ F32.Is (F32.opO .mul o2 (some sh)) zz ∧ zz < 4294967296
  | 14, v => ∃ zz, v = .float .f32 zz ∧ F32.Is (F32.opO .add o1 (F32.opO .mul o2 (some sh))) zz ∧ zz < 4294967296
  | 15, v => v = .pointer (some ⟨gM, T, none⟩)
  | _, _ => True
end Sq
namespace Go.Proofs.Ytemdgfjcjjadnab
open Go.RowKit Flt Dec Cm We F32 Sq Hld Cr
set_option maxRecDepth 40000 in
set_option maxHeartbeats 8000000 in
theorem iRunChances_any (sh : Nat) (n m : Int) (w : World) (hsh : sh < 4294967296) :
    Calls Try.prog 20 #[.float .f32 sh, .int .i64 n, .int .i64 m] w fun e w' => (∃ a' c', e = .returned (.tuple #[.slice a' (rcA sh n m).length c', .bool (rcB sh n m)]) ∧ FRow w' a' (rcA sh n m).length (rcA sh n m) ∧ Dec.Own w' w.heap.size a' (rcA sh n m).length 24) ∧ Below w.heap.size w w' := by
  cases h1 : wf0 sh n with
  | false =>
    have HR := Lib.hid (rc_no (show rc0 sh n m = false by unfold rc0; rw [h1]; rfl))
    have H1 := Lib.hid h1
    clear h1
    go_enter Try.func20, Try.ntmps20
    go_wp2_with fail
    refine (c_isRun sh n _).mono ?_
    rintro e w1 ⟨rfl, rfl⟩
    rw [H1.out]
    go_wp2_with fail
    go_ret2
    rw [HR.out.1, HR.out.2]
    exact ⟨⟨_, _, rfl, frow_nil _ _, .inl rfl⟩, Below.refl _ _⟩
  | true =>
    have H1 := Lib.hid h1
    by_cases hm : 0 ≤ m ∧ m ≤ 256
    rotate_left
    · have HR := Lib.hid (rc_no (show rc0 sh n m = false by unfold rc0; rw [decide_eq_false hm, Bool.and_false]))
      clear h1
      by_cases q1 : m < 0
      · clear hm
        go_enter Try.func20, Try.ntmps20
        go_wp2_with fail
        refine (c_isRun sh n _).mono ?_
        rintro e w1 ⟨rfl, rfl⟩
        rw [H1.out]
        go_wp2_with fail
        go_ret2
        rw [HR.out.1, HR.out.2]
        exact ⟨⟨_, _, rfl, frow_nil _ _, .inl rfl⟩, Below.refl _ _⟩
      · have q2 : m > 256 := by omega
        clear hm
        go_enter Try.func20, Try.ntmps20
        go_wp2_with fail
        refine (c_isRun sh n _).mono ?_
        rintro e w1 ⟨rfl, rfl⟩
        rw [H1.out]
        go_wp2_with fail
        go_ret2
        rw [HR.out.1, HR.out.2]
        exact ⟨⟨_, _, rfl, frow_nil _ _, .inl rfl⟩, Below.refl _ _⟩
    have h0 : rc0 sh n m = true := by unfold rc0; rw [h1, decide_eq_true hm]; rfl
    have hp : shr sh = true ∧ gt0 sh = true ∧ (1 ≤ n ∧ n ≤ 32) := by
      unfold wf0 at h1
      simp only [Bool.and_eq_true, decide_eq_true_eq] at h1
      exact h1
    have HSH : Hid (F32.Is (some sh) sh) := ⟨rfl, shr_num hp.1, hsh⟩
    have hn := hp.2.2
    obtain ⟨n, rfl⟩ : ∃ k : Nat, n = k := ⟨n.toNat, by omega⟩
    obtain ⟨m, rfl⟩ : ∃ k : Nat, m = k := ⟨m.toNat, by omega⟩
    have HY := Lib.hid (fun h => rc_yes (sh := sh) (n := n) (m := m) h0 h)
    have HN := Lib.hid (fun h => rc_bad (sh := sh) (n := n) (m := m) h)
    have hn1 : 1 ≤ n := by omega
    have hn2 : n ≤ 32 := by omega
    have hm2 : m ≤ 256 := by omega
    obtain ⟨M, hM⟩ : ∃ M, m + 1 = M := ⟨_, rfl⟩
    have hM2 : M ≤ m + 1 := by omega
    have hM3 : m + 1 ≤ M := by omega
    have hMI : IntKind.i64.wrap ((m : Int) + 1) = (M : Int) := by rw [← hM]; exact IntWalk.i64_in _ (by omega)
    have HMM := Lib.hid hM
    obtain ⟨i0, hi, hz0, hz1, hz2⟩ := info_parts (show (Try.prog.info? 24).map (fun i => (i.zero, i.size, i.bytes)) = some (some (.float .f32 0), 1, 4) by kernel_rfl)
    have hmk : ∀ w, (Instr.makeSlice 35 (.int .i64 (n : Int)) (.int .i64 (n : Int))).run Try.prog w = .ok (.slice (some ⟨w.heap.size, 0, none⟩) n n) (w.alloc (.cells (madeCells (Value.float .f32 0).cells (n * 1)) 24)) := by
      intro w
      have := run_make (P := Try.prog) w 35 24 i0 (.float .f32 0) Try.underlying35 hi hz0 .i64 .i64 n n (by omega) (Int.le_refl _) (by rw [hz2]; omega) (by omega)
      rw [this, hz1, Int.toNat_natCast]
    have hmM : ∀ w, (Instr.makeSlice 35 (.int .i64 (M : Int)) (.int .i64 (M : Int))).run Try.prog w = .ok (.slice (some ⟨w.heap.size, 0, none⟩) M M) (w.alloc (.cells (madeCells (Value.float .f32 0).cells (M * 1)) 24)) := by
      intro w
      have := run_make (P := Try.prog) w 35 24 i0 (.float .f32 0) Try.underlying35 hi hz0 .i64 .i64 M M (by omega) (Int.le_refl _) (by rw [hz2]; omega) (by omega)
      rw [this, hz1, Int.toNat_natCast]
    have hFn : ∀ w : World, FHd 24 (w.alloc (.cells (madeCells (Value.float .f32 0).cells (n * 1)) 24)) w.heap.size n (List.replicate n 0) := fun w => FHd.made w 24 n
    have hFM : ∀ w : World, FHd 24 (w.alloc (.cells (madeCells (Value.float .f32 0).cells (M * 1)) 24)) w.heap.size M (List.replicate M 0) := fun w => FHd.made w 24 M
    obtain ⟨X, hX⟩ : ∃ X, madeCells (Value.float .f32 0).cells (n * 1) = X := ⟨_, rfl⟩
    obtain ⟨Y, hY⟩ : ∃ Y, madeCells (Value.float .f32 0).cells (M * 1) = Y := ⟨_, rfl⟩
    rw [hX] at hmk hFn
    rw [hY] at hmM hFM
    have HFn := Lib.hid hFn
    have HFM := Lib.hid hFM
    have hd1 : decide ((m : Int) < 0) = false := decide_eq_false (by omega)
    have hd2 : decide ((256 : Int) < (m : Int)) = false := decide_eq_false (by omega)
    have hd3 : ¬ ((m : Int) < 0) := by omega
    have hd4 : ¬ ((256 : Int) < (m : Int)) := by omega
    have hd5 : decide (256 < m) = false := decide_eq_false (by omega)
    clear hX hY hFn hFM h0 h1 hp hn hm hM hz0 hz1 hz2 hi
    go_enter Try.func20, Try.ntmps20
    go_wp2_with fail
    refine (c_isRun sh (n : Int) _).mono ?_
    rintro e w1 ⟨rfl, rfl⟩
    rw [H1.out]
    go_wp2_with fail
    go_region
    · clear hd1 hd2 hd3 hd4 hd5 hmk hmM hMI
      have hsz : (w.alloc (.cells X 24)).heap.size = w.heap.size + 1 := by simp
      have hkA : Below w.heap.size w (((w.alloc (.cells X 24)).alloc (.cells Y 24)).drew) := (((Below.refl _ _).alloc (Nat.le_refl _) _).alloc (by simp) _).drew
      have hF1 := HFn.out w
      have hF1' := hF1.keep ((Below.refl _ _).alloc (Nat.le_refl _) (.cells Y 24))
      have hF2 := HFM.out (w.alloc (.cells X 24))
      rw [hsz] at hF2
      have h1d := fhd_drawn hF1' (Drawn.one _)
      have h2d := fhd_drawn hF2 (Drawn.one _)
      obtain ⟨W0, hW0⟩ : ∃ W, ((w.alloc (.cells X 24)).alloc (.cells Y 24)).drew = W := ⟨_, rfl⟩
      rw [hW0] at hkA h1d h2d ⊢
      obtain ⟨gL, hgL⟩ : ∃ g, w.heap.size = g := ⟨_, rfl⟩
      obtain ⟨gM, hgM⟩ : ∃ g, w.heap.size + 1 = g := ⟨_, rfl⟩
      have HGL : Hid (w.heap.size ≤ gL) := by show _ ≤ _; omega
      have HGM : Hid (w.heap.size ≤ gM) := by show _ ≤ _; omega
      have HNE : Hid (gL ≠ gM) := by show _ ≠ _; omega
      have HL0 : Hid (FHd 24 W0 gL n (List.replicate n 0)) := by rw [← hgL]; exact h1d
      have HM0 : Hid (FHd 24 W0 gM M (List.replicate M 0)) := by rw [← hgM]; exact h2d
      have HB0 := Lib.hid hkA
      rw [hgM, hgL]
      clear hW0 hgL hgM hsz hkA hF1 hF1' hF2 h1d h2d
      obtain ⟨cur0, hcur0⟩ := HL0.out.1.cell (show 0 < n by omega)
      have hfr0 := HL0.out.1.frozen 0
      have hz : (0 : Int) < (n : Int) := by omega
      have HL1 := Lib.hid (HL0.out.set (show 0 < n by omega) 1065353216)
      have HM1 := Lib.hid (HM0.out.other 0 (.float .f32 1065353216) HNE.out)
      have HB1 := Lib.hid (HB0.out.setCell (p := ⟨gL, 0, none⟩) HGL.out (.float .f32 1065353216))
      have HCL : Hid (∀ j, j < n → F32.Is (rcC sh n 0 j) (((List.replicate n 0).set 0 1065353216).getD j 0) ∧ ((List.replicate n 0).set 0 1065353216).getD j 0 < 4294967296) := Lib.hid fun j hj => by
        cases j with
        | zero =>
          have e : ((List.replicate n 0).set 0 1065353216).getD 0 0 = 1065353216 := by simp [List.getD, hj]
          rw [e]; exact ⟨one_is, by decide⟩
        | succ j =>
          have e : ((List.replicate n 0).set 0 1065353216).getD (j + 1) 0 = 0 := by simp [List.getD, hj]
          rw [e]; exact ⟨zero_is, by decide⟩
      have HOL : Hid (∀ j, j < M → (List.replicate M 0).getD j 0 = 0) := Lib.hid fun j hj => by simp [List.getD, hj]
      clear HL0 HM0 HB0
      go_wp2_with fail
      clear hcur0 hfr0
      obtain ⟨N, hN⟩ : ∃ N, n = N + 1 := ⟨n - 1, by omega⟩
      have hnI : (n : Int) - 1 = (N : Int) := by omega
      have HNW : Hid (IntKind.i64.wrap (N : Int) = (N : Int)) := Lib.hid (IntWalk.i64_in _ (by omega))
      have HRD : Hid (∀ t, rcD sh n (t + 1) = F32.opO .add (rcD sh n t) (F32.opO .mul (rcC sh n t N) (some sh))) := Lib.hid fun t => by rw [show N = n - 1 from by omega]; rfl
      have hN2 : N + 1 ≤ n := by omega
      have hN3 : n ≤ N + 1 := by omega
      clear hN
      go_loopg [10, 11, 12, 33] m (fun q v10 v11 v12 v33 wr => ∃ (t : Nat) (cs os : List Nat), v33 = .int .i64 (t : Int) ∧ Hid (t + q = m) ∧ t ≤ m ∧ Hid (FHd 24 wr gL n cs) ∧ Hid (∀ j, j < n → F32.Is (rcC sh n t j) (cs.getD j 0) ∧ cs.getD j 0 < 4294967296) ∧ Hid (FHd 24 wr gM M os) ∧ Hid (∀ j, j < t + 1 → F32.Is (rcD sh n j) (os.getD j 0)) ∧ Hid (∀ j, j < M → os.getD j 0 < 4294967296) ∧ Hid (Below w.heap.size w wr))
      case atStart => exact ⟨0, _, _, by go_num, by show _ = _; omega, Nat.zero_le _, HL1.out, HCL.out, HM1.out, (show Hid _ from fun j hj => by obtain rfl : j = 0 := (by omega); rw [HOL.out 0 (by omega)]; exact zero_is), (show Hid _ from fun j hj => by rw [HOL.out j hj]; decide), HB1.out⟩
      case round =>
        clear HL1 HM1 HB1 HCL HOL
        obtain ⟨t, cs, os, rfl, ht, htm, hL, hLI, hM, hMI, hML, hB⟩ := hrel
        by_cases hlt : t < m
        · have hltI : (t : Int) < (m : Int) := by omega
          have HJ : Hid (t + 1 + (gk - 1) = m ∧ gk - 1 < gk) := by have := ht.out; show _ ∧ _; omega
          obtain ⟨T, hT⟩ : ∃ T, t + 1 = T := ⟨_, rfl⟩
          have HQ1 : Hid (IntKind.i64.wrap ((t : Int) + 1) = (T : Int)) := Lib.hid (by rw [← hT]; exact IntWalk.i64_in _ (by omega))
          have HTT := Lib.hid hT
          have hT1 : T ≤ t + 1 := by omega
          have hT2 : t + 1 ≤ T := by omega
          have hTM : T < M := by omega
          have htM : t < M := by omega
          have hc1 := hM.out.2.2 t htM
          have hc2 := hL.out.2.2 N (by omega)
          have HI1 := Lib.hid (hMI.out t (by omega))
          have HI2 := Lib.hid (hLI.out N (by omega)).1
          have HU1 := Lib.hid (show os.getD t 0 = os.getD t 0 from rfl)
          generalize hu1 : os.getD t 0 = u1 at hc1 HI1
          generalize hu2 : cs.getD N 0 = u2 at hc2 HI2
          have hDd : Drawn wr wr.drew := Drawn.one wr
          clear ht hT hu1 hu2 HU1
          go_wp2_with fail
          refine wp_region_head 16 16 (C := fun _ w' => Drawn wr w') (V := rcvA gL gM n N M t T sh u1 u2 (rcD sh n t) (rcC sh n t N)) (by kernel_rfl) hDd (by kernel_rfl) ?_ ?_
          · intro i o hin ho A W bb hbb hC hdep hbase
            have m0 : W.cell? ⟨gM, t, none⟩ = some (.float .f32 u1) := by rw [hC.cell]; exact hc1
            have m1 : W.cell? ⟨gL, N, none⟩ = some (.float .f32 u2) := by rw [hC.cell]; exact hc2
            have q1 := HQ1.out
            have q2 := HNW.out
            have q3 : N < n := by omega
            rcases i with _ | _ | _ | _ | _ | _ | _ | _ | _ | _ | _ | _ | _ | _ | _ | _ | i
            · obtain rfl := Option.some.inj ho
              have b0 : A.tmps.getD 9 undef = .slice (some ⟨gM, 0, none⟩) M M := hbase 9 (by kernel_rfl)
              refine stepH (b := bb) (C := fun _ w' => Drawn wr w') (.slice (some ⟨gM, 0, none⟩) M M) W rfl hC fun K hK => ?_
              simp only [Array.getD_eq_getD_getElem?] at b0
              unfold Oper.wp
              go_simp
              exact hK
            · obtain rfl := Option.some.inj ho
              have b0 : A.tmps.getD 10 undef = .int .i64 (t : Int) := hbase 10 (by kernel_rfl)
              refine stepH (b := bb) (C := fun _ w' => Drawn wr w') (.int .i64 (t : Int)) W rfl hC fun K hK => ?_
              simp only [Array.getD_eq_getD_getElem?] at b0
              unfold Oper.wp
              go_simp
              exact hK
            · obtain rfl := Option.some.inj ho
              have b0 : A.tmps.getD 37 undef = .int .i64 (t : Int) := hdep ⟨1, .data⟩ (by simp) rfl 37 rfl
              refine stepH (b := bb) (C := fun _ w' => Drawn wr w') (.int .i64 (T : Int)) W rfl hC fun K hK => ?_
              simp only [Array.getD_eq_getD_getElem?] at b0
              unfold Oper.wp
              go_simp
              exact hK
            · obtain rfl := Option.some.inj ho
              have b0 : A.tmps.getD 9 undef = .slice (some ⟨gM, 0, none⟩) M M := hbase 9 (by kernel_rfl)
              refine stepH (b := bb) (C := fun _ w' => Drawn wr w') (.slice (some ⟨gM, 0, none⟩) M M) W rfl hC fun K hK => ?_
              simp only [Array.getD_eq_getD_getElem?] at b0
              unfold Oper.wp
              go_simp
              exact hK
            · obtain rfl := Option.some.inj ho
              have b0 : A.tmps.getD 10 undef = .int .i64 (t : Int) := hbase 10 (by kernel_rfl)
              refine stepH (b := bb) (C := fun _ w' => Drawn wr w') (.int .i64 (t : Int)) W rfl hC fun K hK => ?_
              simp only [Array.getD_eq_getD_getElem?] at b0
              unfold Oper.wp
              go_simp
              exact hK
            · obtain rfl := Option.some.inj ho
              have b0 : A.tmps.getD 39 undef = .slice (some ⟨gM, 0, none⟩) M M := hdep ⟨3, .data⟩ (by simp) rfl 39 rfl
              have b1 : A.tmps.getD 40 undef = .int .i64 (t : Int) := hdep ⟨4, .data⟩ (by simp) rfl 40 rfl
              refine stepH (b := bb) (C := fun _ w' => Drawn wr w') (.pointer (some ⟨gM, t, none⟩)) W rfl hC fun K hK => ?_
              simp only [Array.getD_eq_getD_getElem?] at b0 b1
              unfold Oper.wp
              go_simp
              exact hK
            · obtain rfl := Option.some.inj ho
              have b0 : A.tmps.getD 41 undef = .pointer (some ⟨gM, t, none⟩) := hdep ⟨5, .data⟩ (by simp) rfl 41 rfl
              refine stepH (b := bb) (C := fun _ w' => Drawn wr w') (.float .f32 u1) W rfl hC fun K hK => ?_
              simp only [Array.getD_eq_getD_getElem?] at b0
              unfold Oper.wp
              go_simp
              exact hK
            · obtain rfl := Option.some.inj ho
              have b0 : A.tmps.getD 8 undef = .slice (some ⟨gL, 0, none⟩) n n := hbase 8 (by kernel_rfl)
              refine stepH (b := bb) (C := fun _ w' => Drawn wr w') (.slice (some ⟨gL, 0, none⟩) n n) W rfl hC fun K hK => ?_
              simp only [Array.getD_eq_getD_getElem?] at b0
              unfold Oper.wp
              go_simp
              exact hK
            · obtain rfl := Option.some.inj ho
              have b0 : A.tmps.getD 1 undef = .int .i64 (n : Int) := hbase 1 (by kernel_rfl)
              refine stepH (b := bb) (C := fun _ w' => Drawn wr w') (.int .i64 (n : Int)) W rfl hC fun K hK => ?_
              simp only [Array.getD_eq_getD_getElem?] at b0
              unfold Oper.wp
              go_simp
              exact hK
            · obtain rfl := Option.some.inj ho
              have b0 : A.tmps.getD 44 undef = .int .i64 (n : Int) := hdep ⟨8, .data⟩ (by simp) rfl 44 rfl
              refine stepH (b := bb) (C := fun _ w' => Drawn wr w') (.int .i64 (N : Int)) W rfl hC fun K hK => ?_
              simp only [Array.getD_eq_getD_getElem?] at b0
              unfold Oper.wp
              go_simp
              exact hK
            · obtain rfl := Option.some.inj ho
              have b0 : A.tmps.getD 43 undef = .slice (some ⟨gL, 0, none⟩) n n := hdep ⟨7, .data⟩ (by simp) rfl 43 rfl
              have b1 : A.tmps.getD 45 undef = .int .i64 (N : Int) := hdep ⟨9, .data⟩ (by simp) rfl 45 rfl
              refine stepH (b := bb) (C := fun _ w' => Drawn wr w') (.pointer (some ⟨gL, N, none⟩)) W rfl hC fun K hK => ?_
              simp only [Array.getD_eq_getD_getElem?] at b0 b1
              unfold Oper.wp
              go_simp
              exact hK
            · obtain rfl := Option.some.inj ho
              have b0 : A.tmps.getD 46 undef = .pointer (some ⟨gL, N, none⟩) := hdep ⟨10, .data⟩ (by simp) rfl 46 rfl
              refine stepH (b := bb) (C := fun _ w' => Drawn wr w') (.float .f32 u2) W rfl hC fun K hK => ?_
              simp only [Array.getD_eq_getD_getElem?] at b0
              unfold Oper.wp
              go_simp
              exact hK
            · obtain rfl := Option.some.inj ho
              have b0 : A.tmps.getD 0 undef = .float .f32 sh := hbase 0 (by kernel_rfl)
              refine stepH (b := bb) (C := fun _ w' => Drawn wr w') (.float .f32 sh) W rfl hC fun K hK => ?_
              simp only [Array.getD_eq_getD_getElem?] at b0
              unfold Oper.wp
              go_simp
              exact hK
            · obtain rfl := Option.some.inj ho
              have b0 : A.tmps.getD 47 undef = .float .f32 u2 := hdep ⟨11, .data⟩ (by simp) rfl 47 rfl
              have b1 : A.tmps.getD 48 undef = .float .f32 sh := hdep ⟨12, .data⟩ (by simp) rfl 48 rfl
              obtain ⟨zr, W', hr, iz, lz, dz⟩ := F32.arith_ex (P := Try.prog) (op := .mul) (.inr (.inr (.inl rfl))) 24 (HI2.out) (HSH.out) W
              refine stepH (b := bb) (C := fun _ w' => Drawn wr w') (.float .f32 zr) W' ⟨zr, rfl, iz, lz⟩ (hC.trans dz) fun K hK => ?_
              simp only [Array.getD_eq_getD_getElem?] at b0 b1
              unfold Oper.wp
              go_simp
              exact hK
            · obtain rfl := Option.some.inj ho
              have b0 : A.tmps.getD 42 undef = .float .f32 u1 := hdep ⟨6, .data⟩ (by simp) rfl 42 rfl
              obtain ⟨y1, b1, j1, k1⟩ := hdep ⟨13, .data⟩ (by simp) rfl 49 rfl
              obtain ⟨zr, W', hr, iz, lz, dz⟩ := F32.arith_ex (P := Try.prog) (op := .add) (.inl rfl) 24 (HI1.out) j1 W
              refine stepH (b := bb) (C := fun _ w' => Drawn wr w') (.float .f32 zr) W' ⟨zr, rfl, iz, lz⟩ (hC.trans dz) fun K hK => ?_
              simp only [Array.getD_eq_getD_getElem?] at b0 b1
              unfold Oper.wp
              go_simp
              exact hK
            · obtain rfl := Option.some.inj ho
              have b0 : A.tmps.getD 36 undef = .slice (some ⟨gM, 0, none⟩) M M := hdep ⟨0, .data⟩ (by simp) rfl 36 rfl
              have b1 : A.tmps.getD 38 undef = .int .i64 (T : Int) := hdep ⟨2, .data⟩ (by simp) rfl 38 rfl
              refine stepH (b := bb) (C := fun _ w' => Drawn wr w') (.pointer (some ⟨gM, T, none⟩)) W rfl hC fun K hK => ?_
              simp only [Array.getD_eq_getD_getElem?] at b0 b1
              unfold Oper.wp
              go_simp
              exact hK
            · exact absurd hin (by omega)
          · intro vals W hC hlen hV
            match vals, hlen with
            | [v0, v1, v2, v3, v4, v5, v6, v7, v8, v9, v10, v11, v12, v13, v14, v15], _ =>
              obtain rfl : v0 = _ := hV 0 (by simp)
              obtain rfl : v1 = _ := hV 1 (by simp)
              obtain rfl : v2 = _ := hV 2 (by simp)
              obtain rfl : v3 = _ := hV 3 (by simp)
              obtain rfl : v4 = _ := hV 4 (by simp)
              obtain rfl : v5 = _ := hV 5 (by simp)
              obtain rfl : v6 = _ := hV 6 (by simp)
              obtain rfl : v7 = _ := hV 7 (by simp)
              obtain rfl : v8 = _ := hV 8 (by simp)
              obtain rfl : v9 = _ := hV 9 (by simp)
              obtain rfl : v10 = _ := hV 10 (by simp)
              obtain rfl : v11 = _ := hV 11 (by simp)
              obtain rfl : v12 = _ := hV 12 (by simp)
              have h13 : rcvA gL gM n N M t T sh u1 u2 (rcD sh n t) (rcC sh n t N) 13 v13 := hV 13 (by simp)
              obtain ⟨x13, rfl, i13, l13⟩ := h13
              have h14 : rcvA gL gM n N M t T sh u1 u2 (rcD sh n t) (rcC sh n t N) 14 v14 := hV 14 (by simp)
              obtain ⟨x14, rfl, i14, l14⟩ := h14
              obtain rfl : v15 = _ := hV 15 (by simp)
              clear hV hlen
              simp only [puts, Act.put, List.zip_cons_cons, List.zip_nil_right, List.take_succ_cons, List.take_zero, List.drop_succ_cons, List.drop_zero, List.foldl_cons, List.foldl_nil, List.setIfInBounds_toArray, List.set_cons_zero, List.set_cons_succ]
              obtain ⟨nn, rfl⟩ := (show Drawn wr W from hC)
              have J14 : Hid (F32.Is (rcD sh n T) x14) := by show F32.Is _ _; rw [← HTT.out, HRD.out]; exact i14
              have L14 := Lib.hid l14
              have hM2 := fhd_drawn hM.out ⟨nn, rfl⟩
              have hL2 := fhd_drawn hL.out ⟨nn, rfl⟩
              have hfr := hM2.1.frozen T
              obtain ⟨u0, hu0⟩ := hM2.1.cell hTM
              have HM3 := Lib.hid (hM2.set hTM x14)
              have HL3 := Lib.hid (hL2.other T (.float .f32 x14) (Ne.symm HNE.out))
              have HB3 := Lib.hid ((below_drewN hB.out nn).setCell (p := ⟨gM, T, none⟩) HGM.out (.float .f32 x14))
              have HLR := Lib.hid (HL3.out.row (by omega) (lt_mem hL.out.2.1 fun j hj => (hLI.out j hj).2))
              have HSUM : Hid (Flt.sumO cs = We.sm (rcC sh n t) n) := Lib.hid (by
                have := sum_is (U := rcC sh n t) (S := We.sm (rcC sh n t)) rfl (fun _ => rfl) cs (fun k hk => (hLI.out k (by rw [← hL.out.2.1]; exact hk)).1)
                rw [this, hL.out.2.1])
              clear hM2 hL2 hc1 hc2 i13 l13 i14 l14 hM hL hB hC
              go_wp2_with fail
              obtain ⟨w3, hw3⟩ : ∃ W, (wr.drewN nn).setCell ⟨gM, T, none⟩ (.float .f32 x14) = W := ⟨_, rfl⟩
              rw [hw3] at HM3 HL3 HB3 HLR ⊢
              clear hw3 hfr hu0
              refine (sumOf_is _ n n cs _ _ HLR.out (by omega) HSUM.out).mono ?_
              rintro e w4 ⟨⟨s1, rfl, hs1⟩, d4⟩
              obtain ⟨y1, v1, r1, j1, k1, e1⟩ := F32.arith_ex (P := Try.prog) (op := .sub) (.inr (.inl rfl)) 24 one_is HSH.out w4
              obtain ⟨y2, v2, r2, j2, k2, e2⟩ := F32.arith_ex (P := Try.prog) (op := .mul) (.inr (.inr (.inl rfl))) 24 hs1 j1 v1
              have D2 := Lib.hid ((d4.trans e1).trans e2)
              have J2 : Hid (F32.Is (rcC sh n (t + 1) 0) y2) := j2
              have L2 := Lib.hid k2
              have HM4 := Lib.hid (fhd_drawn HM3.out D2.out)
              have HL4 := Lib.hid (fhd_drawn HL3.out D2.out)
              have HB4 := Lib.hid (HB3.out.trans ((D2.out.below _).mono HB3.out.size))
              clear d4 e1 e2 j1 k1 j2 k2 hs1 HM3 HL3 HB3 HLR
              go_wp2_with fail
              generalize go1 : gk = go0 at *
              clear go1 r1 r2
              go_loopg [12] N (fun q v12 wr => ∃ (k : Nat) (ds : List Nat), v12 = .int .i64 (k : Int) ∧ Hid (k = q) ∧ k ≤ N ∧ Hid (FHd 24 wr gL n ds) ∧ Hid (∀ j, j ≤ k → F32.Is (rcC sh n t j) (ds.getD j 0) ∧ ds.getD j 0 < 4294967296) ∧ Hid (∀ j, k < j → j < n → F32.Is (rcC sh n (t + 1) j) (ds.getD j 0) ∧ ds.getD j 0 < 4294967296) ∧ Hid (FHd 24 wr gM M (os.set T x14)) ∧ Hid (Below w.heap.size w wr))
              case atStart => exact ⟨N, cs, by go_num, rfl, Nat.le_refl _, HL4.out, (show Hid _ from fun j hj => hLI.out j (by omega)), (show Hid _ from fun j h1 h2 => absurd h2 (by omega)), HM4.out, HB4.out⟩
              case round =>
                clear HM4 HL4 HB4
                obtain ⟨k, ds, rfl, hk, hkN, hL, hLO, hLN, hM, hB⟩ := hrel
                by_cases hk0 : 1 ≤ k
                · have hkI : (k : Int) ≥ 1 := by omega
                  obtain ⟨K, hK⟩ : ∃ K, k = K + 1 := ⟨k - 1, by omega⟩
                  have hkI2 : (k : Int) - 1 = (K : Int) := by omega
                  have hK2 : K + 1 ≤ k := by omega
                  have hK3 : k ≤ K + 1 := by omega
                  have HKK := Lib.hid hK
                  have HMs : Hid (K = gk - 1 ∧ gk - 1 < gk) := by have := hk.out; show _ ∧ _; omega
                  have hc := hL.out.2.2 K (by omega)
                  obtain ⟨cu, hcu⟩ := hL.out.1.cell (show k < n by omega)
                  have hfr := hL.out.1.frozen k
                  obtain ⟨z1, v1, r1, j1, l1, e1⟩ := F32.arith_ex (P := Try.prog) (op := .mul) (.inr (.inr (.inl rfl))) 24 (hLO.out K (by omega)).1 HSH.out wr
                  have J1 : Hid (F32.Is (rcC sh n (t + 1) (K + 1)) z1) := j1
                  have L1 := Lib.hid l1
                  have hcu1 := (e1.cell _).trans hcu
                  have hfr1 : v1.frozen? ⟨gL, k, none⟩ = false := (fhd_drawn hL.out e1).1.frozen k
                  have HL5 := Lib.hid ((fhd_drawn hL.out e1).set (show k < n by omega) z1)
                  have HM5 := Lib.hid ((fhd_drawn hM.out e1).other k (.float .f32 z1) HNE.out)
                  have HB5 := Lib.hid ((hB.out.trans ((e1.below _).mono hB.out.size)).setCell (p := ⟨gL, k, none⟩) HGL.out (.float .f32 z1))
                  have HLO5 : Hid (∀ j, j ≤ K → F32.Is (rcC sh n t j) ((ds.set k z1).getD j 0) ∧ (ds.set k z1).getD j 0 < 4294967296) := Lib.hid fun j hj => by
                    rw [sqSet_ne (by omega)]; exact hLO.out j (by omega)
                  have HLN5 : Hid (∀ j, K < j → j < n → F32.Is (rcC sh n (t + 1) j) ((ds.set k z1).getD j 0) ∧ (ds.set k z1).getD j 0 < 4294967296) := Lib.hid fun j h1 h2 => by
                    by_cases ej : j = k
                    · rw [ej, sqSet_eq (by rw [hL.out.2.1]; omega), HKK.out]; exact ⟨J1.out, L1.out⟩
                    · rw [sqSet_ne (by omega)]; exact hLN.out j (by omega) h2
                  generalize ds.getD K 0 = zu at *
                  clear hL hM hB hLO hLN j1 l1 e1 hK hk hcu hfr
                  go_wp2_with fail
                  go_roundg (gk - 1)
                  case measure => exact HMs.out.2
                  case rel => exact ⟨K, ds.set k z1, by go_num, HMs.out.1, by omega, HL5.out, HLO5.out, HLN5.out, HM5.out, HB5.out⟩
                · have hk00 : k = 0 := by omega
                  subst hk00
                  have hkI : ¬ ((0 : Int) ≥ 1) := by omega
                  obtain ⟨cu, hcu⟩ := hL.out.1.cell (show 0 < n by omega)
                  have hfr := hL.out.1.frozen 0
                  have HL5 := Lib.hid (hL.out.set (show 0 < n by omega) y2)
                  have HM5 := Lib.hid (hM.out.other 0 (.float .f32 y2) HNE.out)
                  have HB5 := Lib.hid (hB.out.setCell (p := ⟨gL, 0, none⟩) HGL.out (.float .f32 y2))
                  have HLN5 : Hid (∀ j, j < n → F32.Is (rcC sh n (t + 1) j) ((ds.set 0 y2).getD j 0) ∧ (ds.set 0 y2).getD j 0 < 4294967296) := Lib.hid fun j h2 => by
                    by_cases ej : j = 0
                    · rw [ej, sqSet_eq (by rw [hL.out.2.1]; omega)]; exact ⟨J2.out, L2.out⟩
                    · rw [sqSet_ne (by omega)]; exact hLN.out j (by omega) h2
                  have HO5 : Hid (∀ j, j < t + 1 + 1 → F32.Is (rcD sh n j) ((os.set T x14).getD j 0)) := Lib.hid fun j hj => by
                    by_cases ej : j = T
                    · rw [ej, sqSet_eq (by have := hM.out.2.1; rw [List.length_set] at this; omega)]; exact J14.out
                    · rw [sqSet_ne (by omega)]; exact hMI.out j (by omega)
                  have HO6 : Hid (∀ j, j < M → (os.set T x14).getD j 0 < 4294967296) := Lib.hid fun j hj => by
                    by_cases ej : j = T
                    · rw [ej, sqSet_eq (by have := hM.out.2.1; rw [List.length_set] at this; omega)]; exact L14.out
                    · rw [sqSet_ne (by omega)]; exact hML.out j hj
                  clear hL hM hB hLO hLN hk hkN
                  go_wp2_with fail
                  go_roundg (go0 - 1)
                  case measure => exact HJ.out.2
                  case rel => exact ⟨t + 1, ds.set 0 y2, os.set T x14, by go_num, HJ.out.1, by omega, HL5.out, HLN5.out, HM5.out, HO5.out, HO6.out, HB5.out⟩
        · have hltI : ¬ ((t : Int) < (m : Int)) := by omega
          have htm' : t = m := by omega
          subst htm'
          have HR2 := Lib.hid (hM.out.row (by omega) (lt_mem hM.out.2.1 hML.out))
          have HOW : Hid (∀ W, Below wr.heap.size wr W → Dec.Own W w.heap.size (some ⟨gM, 0, none⟩) M 24) := Lib.hid fun W hW => .inr ⟨gM, rfl, HGM.out, (hM.out.keep hW).1⟩
          obtain ⟨g1, g2⟩ := F32.all_is (O := rcD sh n) hM.out.2.1 (fun j hj => hMI.out j (by omega))
          have G1 := Lib.hid g1
          have G2 := Lib.hid g2
          have HLEN := Lib.hid hM.out.2.1
          clear hlt ht g1 g2 hM hL
          go_wp2_with fail
          refine (onlyFin_any _ M M os _ HR2.out).mono ?_
          rintro e w7 ⟨rfl, b7⟩
          rw [G1.out]
          have R7 := Lib.hid (HR2.out.keep b7)
          have O7 := Lib.hid (HOW.out w7 b7)
          have B7 := Lib.hid (hB.out.trans (b7.mono hB.out.size))
          clear b7
          cases hq : F32.oks (rcD sh n) M with
          | true =>
            have HA := Lib.hid (HY.out (by rw [HMM.out]; exact hq))
            have HL : Hid (outs (rcD sh n) (t + 1) = os) := Lib.hid (by rw [HMM.out]; exact (G2.out hq).symm)
            rw [if_pos rfl]
            go_wp2_with fail
            go_ret2
            rw [HA.out.1, HA.out.2, HL.out, HLEN.out]
            first | exact ⟨⟨_, _, rfl, R7.out, O7.out⟩, B7.out⟩ | exact ⟨⟨_, ⟨_, rfl⟩, R7.out, O7.out⟩, B7.out⟩
          | false =>
            have HA := Lib.hid (HN.out (by rw [HMM.out]; exact hq))
            rw [if_neg (by decide)]
            go_wp2_with fail
            go_ret2
            rw [HA.out.1, HA.out.2]
            first | exact ⟨⟨_, _, rfl, frow_nil _ _, .inl rfl⟩, B7.out⟩ | exact ⟨⟨_, ⟨_, rfl⟩, frow_nil _ _, .inl rfl⟩, B7.out⟩
    · clear hd1 hd2 hd3 hd4 hd5 hmk hmM hMI
      have hsz : (w.alloc (.cells Y 24)).heap.size = w.heap.size + 1 := by simp
      have hkA : Below w.heap.size w (((w.alloc (.cells Y 24)).alloc (.cells X 24)).drew) := (((Below.refl _ _).alloc (Nat.le_refl _) _).alloc (by simp) _).drew
      have hF1 := HFM.out w
      have hF1' := hF1.keep ((Below.refl _ _).alloc (Nat.le_refl _) (.cells X 24))
      have hF2 := HFn.out (w.alloc (.cells Y 24))
      rw [hsz] at hF2
      have h1d := fhd_drawn hF1' (Drawn.one _)
      have h2d := fhd_drawn hF2 (Drawn.one _)
      obtain ⟨W0, hW0⟩ : ∃ W, ((w.alloc (.cells Y 24)).alloc (.cells X 24)).drew = W := ⟨_, rfl⟩
      rw [hW0] at hkA h1d h2d ⊢
      obtain ⟨gL, hgL⟩ : ∃ g, w.heap.size + 1 = g := ⟨_, rfl⟩
      obtain ⟨gM, hgM⟩ : ∃ g, w.heap.size = g := ⟨_, rfl⟩
      have HGL : Hid (w.heap.size ≤ gL) := by show _ ≤ _; omega
      have HGM : Hid (w.heap.size ≤ gM) := by show _ ≤ _; omega
      have HNE : Hid (gL ≠ gM) := by show _ ≠ _; omega
      have HL0 : Hid (FHd 24 W0 gL n (List.replicate n 0)) := by rw [← hgL]; exact h2d
      have HM0 : Hid (FHd 24 W0 gM M (List.replicate M 0)) := by rw [← hgM]; exact h1d
      have HB0 := Lib.hid hkA
      rw [hgL, hgM]
      clear hW0 hgL hgM hsz hkA hF1 hF1' hF2 h1d h2d
      obtain ⟨cur0, hcur0⟩ := HL0.out.1.cell (show 0 < n by omega)
      have hfr0 := HL0.out.1.frozen 0
      have hz : (0 : Int) < (n : Int) := by omega
      have HL1 := Lib.hid (HL0.out.set (show 0 < n by omega) 1065353216)
      have HM1 := Lib.hid (HM0.out.other 0 (.float .f32 1065353216) HNE.out)
      have HB1 := Lib.hid (HB0.out.setCell (p := ⟨gL, 0, none⟩) HGL.out (.float .f32 1065353216))
      have HCL : Hid (∀ j, j < n → F32.Is (rcC sh n 0 j) (((List.replicate n 0).set 0 1065353216).getD j 0) ∧ ((List.replicate n 0).set 0 1065353216).getD j 0 < 4294967296) := Lib.hid fun j hj => by
        cases j with
        | zero =>
          have e : ((List.replicate n 0).set 0 1065353216).getD 0 0 = 1065353216 := by simp [List.getD, hj]
          rw [e]; exact ⟨one_is, by decide⟩
        | succ j =>
          have e : ((List.replicate n 0).set 0 1065353216).getD (j + 1) 0 = 0 := by simp [List.getD, hj]
          rw [e]; exact ⟨zero_is, by decide⟩
      have HOL : Hid (∀ j, j < M → (List.replicate M 0).getD j 0 = 0) := Lib.hid fun j hj => by simp [List.getD, hj]
      clear HL0 HM0 HB0
      go_wp2_with fail
      clear hcur0 hfr0
      obtain ⟨N, hN⟩ : ∃ N, n = N + 1 := ⟨n - 1, by omega⟩
      have hnI : (n : Int) - 1 = (N : Int) := by omega
      have HNW : Hid (IntKind.i64.wrap (N : Int) = (N : Int)) := Lib.hid (IntWalk.i64_in _ (by omega))
      have HRD : Hid (∀ t, rcD sh n (t + 1) = F32.opO .add (rcD sh n t) (F32.opO .mul (rcC sh n t N) (some sh))) := Lib.hid fun t => by rw [show N = n - 1 from by omega]; rfl
      have hN2 : N + 1 ≤ n := by omega
      have hN3 : n ≤ N + 1 := by omega
      clear hN
      go_loopg [10, 11, 12, 33] m (fun q v10 v11 v12 v33 wr => ∃ (t : Nat) (cs os : List Nat), v33 = .int .i64 (t : Int) ∧ Hid (t + q = m) ∧ t ≤ m ∧ Hid (FHd 24 wr gL n cs) ∧ Hid (∀ j, j < n → F32.Is (rcC sh n t j) (cs.getD j 0) ∧ cs.getD j 0 < 4294967296) ∧ Hid (FHd 24 wr gM M os) ∧ Hid (∀ j, j < t + 1 → F32.Is (rcD sh n j) (os.getD j 0)) ∧ Hid (∀ j, j < M → os.getD j 0 < 4294967296) ∧ Hid (Below w.heap.size w wr))
      case atStart => exact ⟨0, _, _, by go_num, by show _ = _; omega, Nat.zero_le _, HL1.out, HCL.out, HM1.out, (show Hid _ from fun j hj => by obtain rfl : j = 0 := (by omega); rw [HOL.out 0 (by omega)]; exact zero_is), (show Hid _ from fun j hj => by rw [HOL.out j hj]; decide), HB1.out⟩
      case round =>
        clear HL1 HM1 HB1 HCL HOL
        obtain ⟨t, cs, os, rfl, ht, htm, hL, hLI, hM, hMI, hML, hB⟩ := hrel
        by_cases hlt : t < m
        · have hltI : (t : Int) < (m : Int) := by omega
          have HJ : Hid (t + 1 + (gk - 1) = m ∧ gk - 1 < gk) := by have := ht.out; show _ ∧ _; omega
          obtain ⟨T, hT⟩ : ∃ T, t + 1 = T := ⟨_, rfl⟩
          have HQ1 : Hid (IntKind.i64.wrap ((t : Int) + 1) = (T : Int)) := Lib.hid (by rw [← hT]; exact IntWalk.i64_in _ (by omega))
          have HTT := Lib.hid hT
          have hT1 : T ≤ t + 1 := by omega
          have hT2 : t + 1 ≤ T := by omega
          have hTM : T < M := by omega
          have htM : t < M := by omega
          have hc1 := hM.out.2.2 t htM
          have hc2 := hL.out.2.2 N (by omega)
          have HI1 := Lib.hid (hMI.out t (by omega))
          have HI2 := Lib.hid (hLI.out N (by omega)).1
          have HU1 := Lib.hid (show os.getD t 0 = os.getD t 0 from rfl)
          generalize hu1 : os.getD t 0 = u1 at hc1 HI1
          generalize hu2 : cs.getD N 0 = u2 at hc2 HI2
          have hDd : Drawn wr wr.drew := Drawn.one wr
          clear ht hT hu1 hu2 HU1
          go_wp2_with fail
          refine wp_region_head 16 16 (C := fun _ w' => Drawn wr w') (V := rcvB gL gM n N M t T sh u1 u2 (rcD sh n t) (rcC sh n t N)) (by kernel_rfl) hDd (by kernel_rfl) ?_ ?_
          · intro i o hin ho A W bb hbb hC hdep hbase
            have m0 : W.cell? ⟨gM, t, none⟩ = some (.float .f32 u1) := by rw [hC.cell]; exact hc1
            have m1 : W.cell? ⟨gL, N, none⟩ = some (.float .f32 u2) := by rw [hC.cell]; exact hc2
            have q1 := HQ1.out
            have q2 := HNW.out
            have q3 : N < n := by omega
            rcases i with _ | _ | _ | _ | _ | _ | _ | _ | _ | _ | _ | _ | _ | _ | _ | _ | i
            · obtain rfl := Option.some.inj ho
              have b0 : A.tmps.getD 9 undef = .slice (some ⟨gM, 0, none⟩) M M := hbase 9 (by kernel_rfl)
              refine stepH (b := bb) (C := fun _ w' => Drawn wr w') (.slice (some ⟨gM, 0, none⟩) M M) W rfl hC fun K hK => ?_
              simp only [Array.getD_eq_getD_getElem?] at b0
              unfold Oper.wp
              go_simp
              exact hK
            · obtain rfl := Option.some.inj ho
              have b0 : A.tmps.getD 10 undef = .int .i64 (t : Int) := hbase 10 (by kernel_rfl)
              refine stepH (b := bb) (C := fun _ w' => Drawn wr w') (.int .i64 (t : Int)) W rfl hC fun K hK => ?_
              simp only [Array.getD_eq_getD_getElem?] at b0
              unfold Oper.wp
              go_simp
              exact hK
            · obtain rfl := Option.some.inj ho
              have b0 : A.tmps.getD 37 undef = .int .i64 (t : Int) := hdep ⟨1, .data⟩ (by simp) rfl 37 rfl
              refine stepH (b := bb) (C := fun _ w' => Drawn wr w') (.int .i64 (T : Int)) W rfl hC fun K hK => ?_
              simp only [Array.getD_eq_getD_getElem?] at b0
              unfold Oper.wp
              go_simp
              exact hK
            · obtain rfl := Option.some.inj ho
              have b0 : A.tmps.getD 9 undef = .slice (some ⟨gM, 0, none⟩) M M := hbase 9 (by kernel_rfl)
              refine stepH (b := bb) (C := fun _ w' => Drawn wr w') (.slice (some ⟨gM, 0, none⟩) M M) W rfl hC fun K hK => ?_
              simp only [Array.getD_eq_getD_getElem?] at b0
              unfold Oper.wp
              go_simp
              exact hK
            · obtain rfl := Option.some.inj ho
              have b0 : A.tmps.getD 10 undef = .int .i64 (t : Int) := hbase 10 (by kernel_rfl)
              refine stepH (b := bb) (C := fun _ w' => Drawn wr w') (.int .i64 (t : Int)) W rfl hC fun K hK => ?_
              simp only [Array.getD_eq_getD_getElem?] at b0
              unfold Oper.wp
              go_simp
              exact hK
            · obtain rfl := Option.some.inj ho
              have b0 : A.tmps.getD 39 undef = .slice (some ⟨gM, 0, none⟩) M M := hdep ⟨3, .data⟩ (by simp) rfl 39 rfl
              have b1 : A.tmps.getD 40 undef = .int .i64 (t : Int) := hdep ⟨4, .data⟩ (by simp) rfl 40 rfl
              refine stepH (b := bb) (C := fun _ w' => Drawn wr w') (.pointer (some ⟨gM, t, none⟩)) W rfl hC fun K hK => ?_
              simp only [Array.getD_eq_getD_getElem?] at b0 b1
              unfold Oper.wp
              go_simp
              exact hK
            · obtain rfl := Option.some.inj ho
              have b0 : A.tmps.getD 41 undef = .pointer (some ⟨gM, t, none⟩) := hdep ⟨5, .data⟩ (by simp) rfl 41 rfl
              refine stepH (b := bb) (C := fun _ w' => Drawn wr w') (.float .f32 u1) W rfl hC fun K hK => ?_
              simp only [Array.getD_eq_getD_getElem?] at b0
              unfold Oper.wp
              go_simp
              exact hK
            · obtain rfl := Option.some.inj ho
              have b0 : A.tmps.getD 8 undef = .slice (some ⟨gL, 0, none⟩) n n := hbase 8 (by kernel_rfl)
              refine stepH (b := bb) (C := fun _ w' => Drawn wr w') (.slice (some ⟨gL, 0, none⟩) n n) W rfl hC fun K hK => ?_
              simp only [Array.getD_eq_getD_getElem?] at b0
              unfold Oper.wp
              go_simp
              exact hK
            · obtain rfl := Option.some.inj ho
              have b0 : A.tmps.getD 1 undef = .int .i64 (n : Int) := hbase 1 (by kernel_rfl)
              refine stepH (b := bb) (C := fun _ w' => Drawn wr w') (.int .i64 (n : Int)) W rfl hC fun K hK => ?_
              simp only [Array.getD_eq_getD_getElem?] at b0
              unfold Oper.wp
              go_simp
              exact hK
            · obtain rfl := Option.some.inj ho
              have b0 : A.tmps.getD 44 undef = .int .i64 (n : Int) := hdep ⟨8, .data⟩ (by simp) rfl 44 rfl
              refine stepH (b := bb) (C := fun _ w' => Drawn wr w') (.int .i64 (N : Int)) W rfl hC fun K hK => ?_
              simp only [Array.getD_eq_getD_getElem?] at b0
              unfold Oper.wp
              go_simp
              exact hK
            · obtain rfl := Option.some.inj ho
              have b0 : A.tmps.getD 43 undef = .slice (some ⟨gL, 0, none⟩) n n := hdep ⟨7, .data⟩ (by simp) rfl 43 rfl
              have b1 : A.tmps.getD 45 undef = .int .i64 (N : Int) := hdep ⟨9, .data⟩ (by simp) rfl 45 rfl
              refine stepH (b := bb) (C := fun _ w' => Drawn wr w') (.pointer (some ⟨gL, N, none⟩)) W rfl hC fun K hK => ?_
              simp only [Array.getD_eq_getD_getElem?] at b0 b1
              unfold Oper.wp
              go_simp
              exact hK
            · obtain rfl := Option.some.inj ho
              have b0 : A.tmps.getD 46 undef = .pointer (some ⟨gL, N, none⟩) := hdep ⟨10, .data⟩ (by simp) rfl 46 rfl
              refine stepH (b := bb) (C := fun _ w' => Drawn wr w') (.float .f32 u2) W rfl hC fun K hK => ?_
              simp only [Array.getD_eq_getD_getElem?] at b0
              unfold Oper.wp
              go_simp
              exact hK
            · obtain rfl := Option.some.inj ho
              have b0 : A.tmps.getD 0 undef = .float .f32 sh := hbase 0 (by kernel_rfl)
              refine stepH (b := bb) (C := fun _ w' => Drawn wr w') (.float .f32 sh) W rfl hC fun K hK => ?_
              simp only [Array.getD_eq_getD_getElem?] at b0
              unfold Oper.wp
              go_simp
              exact hK
            · obtain rfl := Option.some.inj ho
              have b0 : A.tmps.getD 47 undef = .float .f32 u2 := hdep ⟨11, .data⟩ (by simp) rfl 47 rfl
              have b1 : A.tmps.getD 48 undef = .float .f32 sh := hdep ⟨12, .data⟩ (by simp) rfl 48 rfl
              obtain ⟨zr, W', hr, iz, lz, dz⟩ := F32.arith_ex (P := Try.prog) (op := .mul) (.inr (.inr (.inl rfl))) 24 (HI2.out) (HSH.out) W
              refine stepH (b := bb) (C := fun _ w' => Drawn wr w') (.float .f32 zr) W' ⟨zr, rfl, iz, lz⟩ (hC.trans dz) fun K hK => ?_
              simp only [Array.getD_eq_getD_getElem?] at b0 b1
              unfold Oper.wp
              go_simp
              exact hK
            · obtain rfl := Option.some.inj ho
              have b0 : A.tmps.getD 42 undef = .float .f32 u1 := hdep ⟨6, .data⟩ (by simp) rfl 42 rfl
              obtain ⟨y1, b1, j1, k1⟩ := hdep ⟨13, .data⟩ (by simp) rfl 49 rfl
              obtain ⟨zr, W', hr, iz, lz, dz⟩ := F32.arith_ex (P := Try.prog) (op := .add) (.inl rfl) 24 (HI1.out) j1 W
              refine stepH (b := bb) (C := fun _ w' => Drawn wr w') (.float .f32 zr) W' ⟨zr, rfl, iz, lz⟩ (hC.trans dz) fun K hK => ?_
              simp only [Array.getD_eq_getD_getElem?] at b0 b1
              unfold Oper.wp
              go_simp
              exact hK
            · obtain rfl := Option.some.inj ho
              have b0 : A.tmps.getD 36 undef = .slice (some ⟨gM, 0, none⟩) M M := hdep ⟨0, .data⟩ (by simp) rfl 36 rfl
              have b1 : A.tmps.getD 38 undef = .int .i64 (T : Int) := hdep ⟨2, .data⟩ (by simp) rfl 38 rfl
              refine stepH (b := bb) (C := fun _ w' => Drawn wr w') (.pointer (some ⟨gM, T, none⟩)) W rfl hC fun K hK => ?_
              simp only [Array.getD_eq_getD_getElem?] at b0 b1
              unfold Oper.wp
              go_simp
              exact hK
            · exact absurd hin (by omega)
          · intro vals W hC hlen hV
            match vals, hlen with
            | [v0, v1, v2, v3, v4, v5, v6, v7, v8, v9, v10, v11, v12, v13, v14, v15], _ =>
              obtain rfl : v0 = _ := hV 0 (by simp)
              obtain rfl : v1 = _ := hV 1 (by simp)
              obtain rfl : v2 = _ := hV 2 (by simp)
              obtain rfl : v3 = _ := hV 3 (by simp)
              obtain rfl : v4 = _ := hV 4 (by simp)
              obtain rfl : v5 = _ := hV 5 (by simp)
              obtain rfl : v6 = _ := hV 6 (by simp)
              obtain rfl : v7 = _ := hV 7 (by simp)
              obtain rfl : v8 = _ := hV 8 (by simp)
              obtain rfl : v9 = _ := hV 9 (by simp)
              obtain rfl : v10 = _ := hV 10 (by simp)
              obtain rfl : v11 = _ := hV 11 (by simp)
              obtain rfl : v12 = _ := hV 12 (by simp)
              have h13 : rcvB gL gM n N M t T sh u1 u2 (rcD sh n t) (rcC sh n t N) 13 v13 := hV 13 (by simp)
              obtain ⟨x13, rfl, i13, l13⟩ := h13
              have h14 : rcvB gL gM n N M t T sh u1 u2 (rcD sh n t) (rcC sh n t N) 14 v14 := hV 14 (by simp)
              obtain ⟨x14, rfl, i14, l14⟩ := h14
              obtain rfl : v15 = _ := hV 15 (by simp)
              clear hV hlen
              simp only [puts, Act.put, List.zip_cons_cons, List.zip_nil_right, List.take_succ_cons, List.take_zero, List.drop_succ_cons, List.drop_zero, List.foldl_cons, List.foldl_nil, List.setIfInBounds_toArray, List.set_cons_zero, List.set_cons_succ]
              obtain ⟨nn, rfl⟩ := (show Drawn wr W from hC)
              have J14 : Hid (F32.Is (rcD sh n T) x14) := by show F32.Is _ _; rw [← HTT.out, HRD.out]; exact i14
              have L14 := Lib.hid l14
              have hM2 := fhd_drawn hM.out ⟨nn, rfl⟩
              have hL2 := fhd_drawn hL.out ⟨nn, rfl⟩
              have hfr := hM2.1.frozen T
              obtain ⟨u0, hu0⟩ := hM2.1.cell hTM
              have HM3 := Lib.hid (hM2.set hTM x14)
              have HL3 := Lib.hid (hL2.other T (.float .f32 x14) (Ne.symm HNE.out))
              have HB3 := Lib.hid ((below_drewN hB.out nn).setCell (p := ⟨gM, T, none⟩) HGM.out (.float .f32 x14))
              have HLR := Lib.hid (HL3.out.row (by omega) (lt_mem hL.out.2.1 fun j hj => (hLI.out j hj).2))
              have HSUM : Hid (Flt.sumO cs = We.sm (rcC sh n t) n) := Lib.hid (by
                have := sum_is (U := rcC sh n t) (S := We.sm (rcC sh n t)) rfl (fun _ => rfl) cs (fun k hk => (hLI.out k (by rw [← hL.out.2.1]; exact hk)).1)
                rw [this, hL.out.2.1])
              clear hM2 hL2 hc1 hc2 i13 l13 i14 l14 hM hL hB hC
              go_wp2_with fail
              obtain ⟨w3, hw3⟩ : ∃ W, (wr.drewN nn).setCell ⟨gM, T, none⟩ (.float .f32 x14) = W := ⟨_, rfl⟩
              rw [hw3] at HM3 HL3 HB3 HLR ⊢
              clear hw3 hfr hu0
              refine (sumOf_is _ n n cs _ _ HLR.out (by omega) HSUM.out).mono ?_
              rintro e w4 ⟨⟨s1, rfl, hs1⟩, d4⟩
              obtain ⟨y1, v1, r1, j1, k1, e1⟩ := F32.arith_ex (P := Try.prog) (op := .sub) (.inr (.inl rfl)) 24 one_is HSH.out w4
              obtain ⟨y2, v2, r2, j2, k2, e2⟩ := F32.arith_ex (P := Try.prog) (op := .mul) (.inr (.inr (.inl rfl))) 24 hs1 j1 v1
              have D2 := Lib.hid ((d4.trans e1).trans e2)
              have J2 : Hid (F32.Is (rcC sh n (t + 1) 0) y2) := j2
              have L2 := Lib.hid k2
              have HM4 := Lib.hid (fhd_drawn HM3.out D2.out)
              have HL4 := Lib.hid (fhd_drawn HL3.out D2.out)
              have HB4 := Lib.hid (HB3.out.trans ((D2.out.below _).mono HB3.out.size))
              clear d4 e1 e2 j1 k1 j2 k2 hs1 HM3 HL3 HB3 HLR
              go_wp2_with fail
              generalize go1 : gk = go0 at *
              clear go1 r1 r2
              go_loopg [12] N (fun q v12 wr => ∃ (k : Nat) (ds : List Nat), v12 = .int .i64 (k : Int) ∧ Hid (k = q) ∧ k ≤ N ∧ Hid (FHd 24 wr gL n ds) ∧ Hid (∀ j, j ≤ k → F32.Is (rcC sh n t j) (ds.getD j 0) ∧ ds.getD j 0 < 4294967296) ∧ Hid (∀ j, k < j → j < n → F32.Is (rcC sh n (t + 1) j) (ds.getD j 0) ∧ ds.getD j 0 < 4294967296) ∧ Hid (FHd 24 wr gM M (os.set T x14)) ∧ Hid (Below w.heap.size w wr))
              case atStart => exact ⟨N, cs, by go_num, rfl, Nat.le_refl _, HL4.out, (show Hid _ from fun j hj => hLI.out j (by omega)), (show Hid _ from fun j h1 h2 => absurd h2 (by omega)), HM4.out, HB4.out⟩
              case round =>
                clear HM4 HL4 HB4
                obtain ⟨k, ds, rfl, hk, hkN, hL, hLO, hLN, hM, hB⟩ := hrel
                by_cases hk0 : 1 ≤ k
                · have hkI : (k : Int) ≥ 1 := by omega
                  obtain ⟨K, hK⟩ : ∃ K, k = K + 1 := ⟨k - 1, by omega⟩
                  have hkI2 : (k : Int) - 1 = (K : Int) := by omega
                  have hK2 : K + 1 ≤ k := by omega
                  have hK3 : k ≤ K + 1 := by omega
                  have HKK := Lib.hid hK
                  have HMs : Hid (K = gk - 1 ∧ gk - 1 < gk) := by have := hk.out; show _ ∧ _; omega
                  have hc := hL.out.2.2 K (by omega)
                  obtain ⟨cu, hcu⟩ := hL.out.1.cell (show k < n by omega)
                  have hfr := hL.out.1.frozen k
                  obtain ⟨z1, v1, r1, j1, l1, e1⟩ := F32.arith_ex (P := Try.prog) (op := .mul) (.inr (.inr (.inl rfl))) 24 (hLO.out K (by omega)).1 HSH.out wr
                  have J1 : Hid (F32.Is (rcC sh n (t + 1) (K + 1)) z1) := j1
                  have L1 := Lib.hid l1
                  have hcu1 := (e1.cell _).trans hcu
                  have hfr1 : v1.frozen? ⟨gL, k, none⟩ = false := (fhd_drawn hL.out e1).1.frozen k
                  have HL5 := Lib.hid ((fhd_drawn hL.out e1).set (show k < n by omega) z1)
                  have HM5 := Lib.hid ((fhd_drawn hM.out e1).other k (.float .f32 z1) HNE.out)
                  have HB5 := Lib.hid ((hB.out.trans ((e1.below _).mono hB.out.size)).setCell (p := ⟨gL, k, none⟩) HGL.out (.float .f32 z1))
                  have HLO5 : Hid (∀ j, j ≤ K → F32.Is (rcC sh n t j) ((ds.set k z1).getD j 0) ∧ (ds.set k z1).getD j 0 < 4294967296) := Lib.hid fun j hj => by
                    rw [sqSet_ne (by omega)]; exact hLO.out j (by omega)
                  have HLN5 : Hid (∀ j, K < j → j < n → F32.Is (rcC sh n (t + 1) j) ((ds.set k z1).getD j 0) ∧ (ds.set k z1).getD j 0 < 4294967296) := Lib.hid fun j h1 h2 => by
                    by_cases ej : j = k
                    · rw [ej, sqSet_eq (by rw [hL.out.2.1]; omega), HKK.out]; exact ⟨J1.out, L1.out⟩
                    · rw [sqSet_ne (by omega)]; exact hLN.out j (by omega) h2
                  generalize ds.getD K 0 = zu at *
                  clear hL hM hB hLO hLN j1 l1 e1 hK hk hcu hfr
                  go_wp2_with fail
                  go_roundg (gk - 1)
                  case measure => exact HMs.out.2
                  case rel => exact ⟨K, ds.set k z1, by go_num, HMs.out.1, by omega, HL5.out, HLO5.out, HLN5.out, HM5.out, HB5.out⟩
                · have hk00 : k = 0 := by omega
                  subst hk00
                  have hkI : ¬ ((0 : Int) ≥ 1) := by omega
                  obtain ⟨cu, hcu⟩ := hL.out.1.cell (show 0 < n by omega)
                  have hfr := hL.out.1.frozen 0
                  have HL5 := Lib.hid (hL.out.set (show 0 < n by omega) y2)
                  have HM5 := Lib.hid (hM.out.other 0 (.float .f32 y2) HNE.out)
                  have HB5 := Lib.hid (hB.out.setCell (p := ⟨gL, 0, none⟩) HGL.out (.float .f32 y2))
                  have HLN5 : Hid (∀ j, j < n → F32.Is (rcC sh n (t + 1) j) ((ds.set 0 y2).getD j 0) ∧ (ds.set 0 y2).getD j 0 < 4294967296) := Lib.hid fun j h2 => by
                    by_cases ej : j = 0
                    · rw [ej, sqSet_eq (by rw [hL.out.2.1]; omega)]; exact ⟨J2.out, L2.out⟩
                    · rw [sqSet_ne (by omega)]; exact hLN.out j (by omega) h2
                  have HO5 : Hid (∀ j, j < t + 1 + 1 → F32.Is (rcD sh n j) ((os.set T x14).getD j 0)) := Lib.hid fun j hj => by
                    by_cases ej : j = T
                    · rw [ej, sqSet_eq (by have := hM.out.2.1; rw [List.length_set] at this; omega)]; exact J14.out
                    · rw [sqSet_ne (by omega)]; exact hMI.out j (by omega)
                  have HO6 : Hid (∀ j, j < M → (os.set T x14).getD j 0 < 4294967296) := Lib.hid fun j hj => by
                    by_cases ej : j = T
                    · rw [ej, sqSet_eq (by have := hM.out.2.1; rw [List.length_set] at this; omega)]; exact L14.out
                    · rw [sqSet_ne (by omega)]; exact hML.out j hj
                  clear hL hM hB hLO hLN hk hkN
                  go_wp2_with fail
                  go_roundg (go0 - 1)
                  case measure => exact HJ.out.2
                  case rel => exact ⟨t + 1, ds.set 0 y2, os.set T x14, by go_num, HJ.out.1, by omega, HL5.out, HLN5.out, HM5.out, HO5.out, HO6.out, HB5.out⟩
        · have hltI : ¬ ((t : Int) < (m : Int)) := by omega
          have htm' : t = m := by omega
          subst htm'
          have HR2 := Lib.hid (hM.out.row (by omega) (lt_mem hM.out.2.1 hML.out))
          have HOW : Hid (∀ W, Below wr.heap.size wr W → Dec.Own W w.heap.size (some ⟨gM, 0, none⟩) M 24) := Lib.hid fun W hW => .inr ⟨gM, rfl, HGM.out, (hM.out.keep hW).1⟩
          obtain ⟨g1, g2⟩ := F32.all_is (O := rcD sh n) hM.out.2.1 (fun j hj => hMI.out j (by omega))
          have G1 := Lib.hid g1
          have G2 := Lib.hid g2
          have HLEN := Lib.hid hM.out.2.1
          clear hlt ht g1 g2 hM hL
          go_wp2_with fail
          refine (onlyFin_any _ M M os _ HR2.out).mono ?_
          rintro e w7 ⟨rfl, b7⟩
          rw [G1.out]
          have R7 := Lib.hid (HR2.out.keep b7)
          have O7 := Lib.hid (HOW.out w7 b7)
          have B7 := Lib.hid (hB.out.trans (b7.mono hB.out.size))
          clear b7
          cases hq : F32.oks (rcD sh n) M with
          | true =>
            have HA := Lib.hid (HY.out (by rw [HMM.out]; exact hq))
            have HL : Hid (outs (rcD sh n) (t + 1) = os) := Lib.hid (by rw [HMM.out]; exact (G2.out hq).symm)
            rw [if_pos rfl]
            go_wp2_with fail
            go_ret2
            rw [HA.out.1, HA.out.2, HL.out, HLEN.out]
            first | exact ⟨⟨_, _, rfl, R7.out, O7.out⟩, B7.out⟩ | exact ⟨⟨_, ⟨_, rfl⟩, R7.out, O7.out⟩, B7.out⟩
          | false =>
            have HA := Lib.hid (HN.out (by rw [HMM.out]; exact hq))
            rw [if_neg (by decide)]
            go_wp2_with fail
            go_ret2
            rw [HA.out.1, HA.out.2]
            first | exact ⟨⟨_, _, rfl, frow_nil _ _, .inl rfl⟩, B7.out⟩ | exact ⟨⟨_, ⟨_, rfl⟩, frow_nil _ _, .inl rfl⟩, B7.out⟩
end Go.Proofs.Ytemdgfjcjjadnab
