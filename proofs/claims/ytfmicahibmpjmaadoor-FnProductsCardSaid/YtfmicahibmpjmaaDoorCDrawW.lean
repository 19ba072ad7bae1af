/-
  Draws of complex numbers from a source of choices. Conditions: the source lies in a block of its own, its bytes below it.
-/
import Derived.Test.YtfmicahibmpjmaaDoorDrawW
import Derived.Test.YtfmicahibmpjmaaDoorCReadW
import Derived.Test.YtfmicahibmpjmaaDoorInt
import Derived.Laws.Cover3
namespace Go.Proofs.YtfmicahibmpjmaaDoor
open Go.RowKit Flt Dec
set_option maxRecDepth 20000 in
theorem fine_any (g : Nat) (a : Option Addr) (len cap K : Nat) (zs : List Nat) (w : World) (hK : K ≤ 1046000) (hS : Src w g a len cap K) (hR : BRow w a len zs) (hg : 0 < len → ∀ b off, a = some ⟨b, off, none⟩ → b ≠ g) :
    Calls Tryd.prog 68 #[.pointer (some ⟨g, 0, none⟩)] w fun e w' => ∃ r1 r2 : Nat, (r1 < 4294967296 ∧ r2 < 4294967296) ∧ e = .returned (.complex .f32 r1 r2) ∧ Src w' g a len cap (K + 4) ∧ w.grownBy w' (some g) := by
  have H1 := Lib.hid (pick_any 65 (by decide) (by decide) g a len cap K zs w (by omega) hS hR hg)
  have H2 : Hid (∀ w', Src w' g a len cap (K + 2) → w.grownBy w' (some g) → Calls Tryd.prog 40 #[.pointer (some ⟨g, 0, none⟩), .int .i64 (65 : Nat)] w' fun e w'' => ∃ v : Nat, v < 65 ∧ e = .returned (.int .i64 v) ∧ Src w'' g a len cap (K + 4) ∧ w'.grownBy w'' (some g)) :=
    fun w' h1 h2 => pick_any 65 (by decide) (by decide) g a len cap (K + 2) zs w' (by omega) h1 (hR.grown h2 hg) hg
  have HQ : Hid (∀ v : Nat, v < 65 → ∃ r, Go.floatBits .quo .f32 (Go.floatOfInt .f32 ((v : Int) - 32)) 1098907648 = some r ∧ r < 4294967296) := by
    intro v hv
    obtain ⟨_, r, h1, h2⟩ := quo_at (v + 32) (by omega)
    rw [show (((v + 32 : Nat)) : Int) - 64 = (v : Int) - 32 by omega] at h1
    exact ⟨r, h1, h2⟩
  clear hS hR hg
  go_enter Tryd.func68, Tryd.ntmps68
  go_wp2_with fail
  refine H1.out.mono ?_
  rintro e w1 ⟨v, hv, rfl, hS1, hg1⟩
  have HS1 := Lib.hid hS1
  have HG1 := Lib.hid hg1
  clear hS1 hg1
  obtain ⟨r1, hr1, hl1⟩ := HQ.out v hv
  have hq1 : ∀ w, (binOp .quo 24 (.float .f32 (floatOfInt .f32 ((v : Int) - 32))) (.float .f32 1098907648)).run Tryd.prog w = .ok (.float .f32 r1) w := fun w => run_float_arith w .quo 24 .f32 _ _ _ hr1
  clear hr1
  go_wp2_with fail
  refine (H2.out w1 HS1.out HG1.out).mono ?_
  rintro e w2 ⟨u, hu, rfl, hS2, hg2⟩
  have HS2 := Lib.hid hS2
  have HG2 := Lib.hid (HG1.out.trans hg2)
  clear hS2 hg2
  obtain ⟨r2, hr2, hl2⟩ := HQ.out u hu
  have hq2 : ∀ w, (binOp .quo 24 (.float .f32 (floatOfInt .f32 ((u : Int) - 32))) (.float .f32 1098907648)).run Tryd.prog w = .ok (.float .f32 r2) w := fun w => run_float_arith w .quo 24 .f32 _ _ _ hr2
  clear hr2
  go_wp2_with fail
  go_ret
  exact ⟨r1, r2, ⟨hl1, hl2⟩, rfl, HS2.out, HG2.out⟩
theorem drawCx_any (g : Nat) (a : Option Addr) (len cap K : Nat) (zs : List Nat) (w : World) (hK : K ≤ 1045000) (hS : Src w g a len cap K) (hR : BRow w a len zs) (hg : 0 < len → ∀ b off, a = some ⟨b, off, none⟩ → b ≠ g) :
    Calls Tryd.prog 67 #[.pointer (some ⟨g, 0, none⟩)] w fun e w' => ∃ r1 r2 : Nat, (r1 < 4294967296 ∧ r2 < 4294967296) ∧ e = .returned (.complex .f32 r1 r2) ∧ Src w' g a len cap (K + 20) ∧ w.grownBy w' (some g) := by
  have H1 := Lib.hid (float_any g a len cap K zs w (by omega) hS hR hg)
  have H2 : Hid (∀ w', Src w' g a len cap (K + 10) → w.grownBy w' (some g) → Calls Tryd.prog 42 #[.pointer (some ⟨g, 0, none⟩)] w' fun e w'' => ∃ r : Nat, r < 4294967296 ∧ e = .returned (.float .f32 r) ∧ Src w'' g a len cap (K + 20) ∧ w'.grownBy w'' (some g)) :=
    fun w' h1 h2 => float_any g a len cap (K + 10) zs w' (by omega) h1 (hR.grown h2 hg) hg
  clear hS hR hg
  go_enter Tryd.func67, Tryd.ntmps67
  go_wp2_with fail
  refine H1.out.mono ?_
  rintro e w1 ⟨r1, hr1, rfl, hS1, hg1⟩
  have HS1 := Lib.hid hS1
  have HG1 := Lib.hid hg1
  clear hS1 hg1
  go_wp2_with fail
  refine (H2.out w1 HS1.out HG1.out).mono ?_
  rintro e w2 ⟨r2, hr2, rfl, hS2, hg2⟩
  have HS2 := Lib.hid hS2
  have HG2 := Lib.hid (HG1.out.trans hg2)
  clear hS2 hg2
  go_wp2_with fail
  go_ret
  exact ⟨r1, r2, ⟨hr1, hr2⟩, rfl, HS2.out, HG2.out⟩
set_option maxRecDepth 20000 in
set_option maxHeartbeats 1600000 in
theorem cxs_any (n : Nat) (hn : n ≤ 300) (g : Nat) (a : Option Addr) (len cap K : Nat) (zs : List Nat) (w : World) (hK : K ≤ 1000) (hS : Src w g a len cap K) (hR : BRow w a len zs) (hg : 0 < len → ∀ b off, a = some ⟨b, off, none⟩ → b ≠ g) :
    Calls Tryd.prog 62 #[.pointer (some ⟨g, 0, none⟩), .int .i64 n] w fun e w' => ∃ a' c' Z, e = .returned (.slice a' n c') ∧ CRow w' a' n Z ∧ Src w' g a len cap (K + 2 + 20 * n) ∧ w.grownBy w' (some g) := by
  obtain ⟨i0, hi, hz0, hz1, hz2⟩ := info_parts (show (Tryd.prog.info? 42).map (fun i => (i.zero, i.size, i.bytes)) = some (some (.complex .f32 0 0), 1, 8) by kernel_rfl)
  have hlt0 := hS.lt
  have H1 : Hid (∀ w', Src w' g a len cap K → w.grownBy w' (some g) → Calls Tryd.prog 39 #[.pointer (some ⟨g, 0, none⟩), .int .i64 (5 : Nat)] w' fun e w'' => ∃ q : Bool, e = .returned (.bool q) ∧ Src w'' g a len cap (K + 2) ∧ w'.grownBy w'' (some g)) :=
    fun w' h1 h2 => one_any 5 (by decide) (by decide) g a len cap K zs w' (by omega) h1 (hR.grown h2 hg) hg
  have HPL : Hid (∀ J w', J ≤ 1000000 → Src w' g a len cap J → w.grownBy w' (some g) → Calls Tryd.prog 68 #[.pointer (some ⟨g, 0, none⟩)] w' fun e w'' => ∃ r1 r2 : Nat, (r1 < 4294967296 ∧ r2 < 4294967296) ∧ e = .returned (.complex .f32 r1 r2) ∧ Src w'' g a len cap (J + 4) ∧ w'.grownBy w'' (some g)) :=
    fun J w' hJ h1 h2 => fine_any g a len cap J zs w' (by omega) h1 (hR.grown h2 hg) hg
  have HFL : Hid (∀ J w', J ≤ 1000000 → Src w' g a len cap J → w.grownBy w' (some g) → Calls Tryd.prog 67 #[.pointer (some ⟨g, 0, none⟩)] w' fun e w'' => ∃ r1 r2 : Nat, (r1 < 4294967296 ∧ r2 < 4294967296) ∧ e = .returned (.complex .f32 r1 r2) ∧ Src w'' g a len cap (J + 20) ∧ w'.grownBy w'' (some g)) :=
    fun J w' hJ h1 h2 => drawCx_any g a len cap J zs w' (by omega) h1 (hR.grown h2 hg) hg
  have HS0 := Lib.hid (fun o => hS.grown (World.grownBy_alloc w o none) (by simp))
  clear hS hR hg
  go_enter Tryd.func62, Tryd.ntmps62
  go_wp2_with fail
  refine (H1.out _ (HS0.out _) (World.grownBy_alloc w _ _)).mono ?_
  rintro e w1 ⟨q, rfl, hS1, hg1⟩
  have HS1 := Lib.hid hS1
  have HG1 := Lib.hid ((World.grownBy_alloc w _ (some g)).trans hg1)
  have hO0 : (w.alloc (.cells #[] 42)).ownsRow w.heap.size 42 1 (.slice (some ⟨w.heap.size, 0, none⟩) 0 0) 0 [] := World.ownsRow_made w #[] 0 (Nat.le_refl _) (Nat.zero_le _) rfl
  have HO1 := Lib.hid (hO0.kept hg1 (.inr (by intro e2; have : w.heap.size = g := Option.some.inj e2; omega)))
  clear hO0
  clear hS1 hg1
  go_wp2_with fail
  go_loopg [1, 5] n (fun m nv v wr => ∃ (k : Nat) (Z : List (Nat × Nat)), nv = .int .i64 ((n : Int) - k) ∧ k ≤ n ∧ Hid (k + m = n) ∧ Hid (wr.ownsRow w.heap.size 42 1 v k (cv Z)) ∧ Hid (v.ownBlock = none ∨ v.ownBlock ≠ some g) ∧ Hid (∃ o, v.ownBlock = some o ∧ w.heap.size ≤ o) ∧ Hid (Src wr g a len cap (K + 2 + 20 * k)) ∧ Hid (w.grownBy wr (some g)) ∧ Hid (Z.length = k ∧ ∀ z ∈ Z, z.1 < 4294967296 ∧ z.2 < 4294967296))
  case atStart => exact ⟨0, [], by go_num, Nat.zero_le _, by show _ = _; omega, HO1.out, .inr (by intro e2; have : w.heap.size = g := Option.some.inj e2; omega), ⟨_, rfl, Nat.le_refl _⟩, HS1.out, HG1.out, rfl, by simp⟩
  case round =>
    obtain ⟨k, Z, rfl, hkl, hk, HO, HOW, HOB, HS, HG, HZ⟩ := hrel
    by_cases hlt : k < n
    · have hpos : (0 : Int) < (n : Int) - k := by omega
      have HJ : Hid (k + 1 + (gk - 1) = n) := by have := hk.out; show _ = _; omega
      have HGk : Hid (gk - 1 < gk) := by have := hk.out; show _ < _; omega
      clear HO1 HS1 HG1 HS0 H1
      cases q
      ·
        go_wp2_with fail
        refine (HPL.out (K + 2 + 20 * k) wr (by omega) HS.out HG.out).mono ?_
        rintro e w2 ⟨r1, r2, hr, rfl, hS2, hg2⟩
        have HS2 := Lib.hid hS2
        have HG2 := Lib.hid (HG.out.trans hg2)
        have HO2 := Lib.hid (HO.out.kept hg2 (HOW.out))
        clear hS2 hg2
        go_wp2_with (at_builtin; go_must (refine wpList_append_own_at _ rfl _ _ 45 rfl w.heap.size 42 i0 (.complex .f32 0 0) 1 8 Tryd.underlying45 hi hz0 hz1 hz2 rfl (by decide) _ _ _ rfl (HO2.out.alloc _) ⟨w2.heap.size, 0, none⟩ 1 1 [.complex .f32 r1 r2] rfl (by simp) (cell_one_new _ _ _) (by intro u hu; simp at hu; subst hu; rfl) (by unfold maxLen; omega) (by omega) (by have := HG2.out.size; simp; omega) ?_))
        intro v' w3 hown' hgrow _ hat
        have HO3 : Hid (w3.ownsRow w.heap.size 42 1 v' (k + 1) (cv (Z ++ [(r1, r2)]))) := by
          have : cv (Z ++ [(r1, r2)]) = cv Z ++ [.complex .f32 r1 r2] := by simp [cv]
          show World.ownsRow _ _ _ _ _ _ _
          rw [this]; exact hown'
        have HOW3 : Hid (v'.ownBlock = none ∨ v'.ownBlock ≠ some g) := by
          cases hv' : v'.ownBlock with
          | none => exact .inl rfl
          | some o =>
            have := (HO3.out.lt o hv').1
            exact .inr (by intro e2; have := Option.some.inj e2; omega)
        obtain ⟨o, ho1, ho2⟩ := HOB.out
        have HOB3 : Hid (∃ o, v'.ownBlock = some o ∧ w.heap.size ≤ o) := by
          rcases hat with h | h
          · exact ⟨o, by rw [h]; exact ho1, ho2⟩
          · exact ⟨_, h, by have := HG2.out.size; simp; omega⟩
        rw [ho1] at hgrow
        have HS3 := Lib.hid ((HS2.out.grown (World.grownBy_alloc w2 _ none) (by simp)).grown hgrow (by intro e2; have := Option.some.inj e2; omega))
        have HG3 := Lib.hid (grown_far (grown_alloc HG2.out _) hgrow ho2)
        have HZ2 : Hid ((Z ++ [(r1, r2)]).length = k + 1 ∧ ∀ z ∈ Z ++ [(r1, r2)], z.1 < 4294967296 ∧ z.2 < 4294967296) := by
          obtain ⟨z1, z2⟩ := HZ.out
          refine ⟨by simp [z1], fun z hz => ?_⟩
          rcases List.mem_append.1 hz with h | h
          · exact z2 z h
          · simp at h; subst h; exact hr
        clear hown' hgrow hat HO HO2 HS HS2 HG HG2 ho1 ho2 HOW HOB HZ
        go_wp2_with fail
        go_roundg (gk - 1)
        case measure => exact HGk.out
        case rel => exact ⟨k + 1, Z ++ [(r1, r2)], by go_num, by omega, HJ, HO3.out, HOW3.out, HOB3.out, HS3.out.more (by omega), HG3.out, HZ2.out⟩
      ·
        go_wp2_with fail
        refine (HFL.out (K + 2 + 20 * k) wr (by omega) HS.out HG.out).mono ?_
        rintro e w2 ⟨r1, r2, hr, rfl, hS2, hg2⟩
        have HS2 := Lib.hid hS2
        have HG2 := Lib.hid (HG.out.trans hg2)
        have HO2 := Lib.hid (HO.out.kept hg2 (HOW.out))
        clear hS2 hg2
        go_wp2_with (at_builtin; go_must (refine wpList_append_own_at _ rfl _ _ 45 rfl w.heap.size 42 i0 (.complex .f32 0 0) 1 8 Tryd.underlying45 hi hz0 hz1 hz2 rfl (by decide) _ _ _ rfl (HO2.out.alloc _) ⟨w2.heap.size, 0, none⟩ 1 1 [.complex .f32 r1 r2] rfl (by simp) (cell_one_new _ _ _) (by intro u hu; simp at hu; subst hu; rfl) (by unfold maxLen; omega) (by omega) (by have := HG2.out.size; simp; omega) ?_))
        intro v' w3 hown' hgrow _ hat
        have HO3 : Hid (w3.ownsRow w.heap.size 42 1 v' (k + 1) (cv (Z ++ [(r1, r2)]))) := by
          have : cv (Z ++ [(r1, r2)]) = cv Z ++ [.complex .f32 r1 r2] := by simp [cv]
          show World.ownsRow _ _ _ _ _ _ _
          rw [this]; exact hown'
        have HOW3 : Hid (v'.ownBlock = none ∨ v'.ownBlock ≠ some g) := by
          cases hv' : v'.ownBlock with
          | none => exact .inl rfl
          | some o =>
            have := (HO3.out.lt o hv').1
            exact .inr (by intro e2; have := Option.some.inj e2; omega)
        obtain ⟨o, ho1, ho2⟩ := HOB.out
        have HOB3 : Hid (∃ o, v'.ownBlock = some o ∧ w.heap.size ≤ o) := by
          rcases hat with h | h
          · exact ⟨o, by rw [h]; exact ho1, ho2⟩
          · exact ⟨_, h, by have := HG2.out.size; simp; omega⟩
        rw [ho1] at hgrow
        have HS3 := Lib.hid ((HS2.out.grown (World.grownBy_alloc w2 _ none) (by simp)).grown hgrow (by intro e2; have := Option.some.inj e2; omega))
        have HG3 := Lib.hid (grown_far (grown_alloc HG2.out _) hgrow ho2)
        have HZ2 : Hid ((Z ++ [(r1, r2)]).length = k + 1 ∧ ∀ z ∈ Z ++ [(r1, r2)], z.1 < 4294967296 ∧ z.2 < 4294967296) := by
          obtain ⟨z1, z2⟩ := HZ.out
          refine ⟨by simp [z1], fun z hz => ?_⟩
          rcases List.mem_append.1 hz with h | h
          · exact z2 z h
          · simp at h; subst h; exact hr
        clear hown' hgrow hat HO HO2 HS HS2 HG HG2 ho1 ho2 HOW HOB HZ
        go_wp2_with fail
        go_roundg (gk - 1)
        case measure => exact HGk.out
        case rel => exact ⟨k + 1, Z ++ [(r1, r2)], by go_num, by omega, HJ, HO3.out, HOW3.out, HOB3.out, HS3.out.more (by omega), HG3.out, HZ2.out⟩
    · obtain rfl : k = n := by omega
      have hneg : ¬ (0 : Int) < (k : Int) - k := by omega
      obtain ⟨z1, z2⟩ := HZ.out
      have hO2 := HO.out
      rw [← z1] at hO2
      obtain ⟨a', c', rfl, hF⟩ := crow_of_owned hO2 (by omega) z2
      rw [z1] at hF
      have HF := Lib.hid hF
      have HZ1 := Lib.hid z1
      clear hO2 hF z1 z2 hlt
      go_wp2_with fail
      go_ret
      first
        | exact ⟨a', c', Z, by rw [← HZ1.out], HF.out, HS.out, HG.out⟩
        | exact ⟨a', ⟨c', by rw [← HZ1.out] <;> rfl⟩, ⟨Z, HF.out⟩, HS.out, HG.out⟩
        | exact ⟨a', ⟨c', rfl⟩, ⟨Z, HF.out⟩, HS.out, HG.out⟩
theorem b10Any_any (n : Nat) (hn : n ≤ 300) (a : Option Addr) (len cap : Nat) (zs : List Nat) (w : World) (hR : BRow w a len zs) :
    Calls Tryd.prog 29 #[.slice a len cap, .int .i64 n] w fun e w' => ∃ a' c' Z, e = .returned (.slice a' n c') ∧ CRow w' a' n Z ∧ Below w.heap.size w w' := by
  have HR := Lib.hid hR
  have HF := Lib.hid (far_src hR)
  clear hR
  go_enter Tryd.func29, Tryd.ntmps29
  go_wp2_with fail
  refine (from_any a len cap w).mono ?_
  rintro e w1 ⟨rfl, hS, b1, _⟩
  have H1 := Lib.hid (cxs_any n hn w.heap.size a len cap 0 zs w1 (by decide) hS (HR.out.keep b1) HF.out)
  have HB := Lib.hid b1
  clear hS b1
  go_wp2_with fail
  refine H1.out.mono ?_
  rintro e w2 ⟨a', c', Z, rfl, hF, hS2, hg2⟩
  have HF2 := Lib.hid hF
  have HB2 := Lib.hid (below_src HB.out hg2)
  clear hF hS2 hg2
  go_wp2_with fail
  go_ret
  exact ⟨a', c', Z, rfl, HF2.out, HB2.out⟩
theorem b10Complex_any (a : Option Addr) (len cap : Nat) (zs : List Nat) (w : World) (hR : BRow w a len zs) :
    Calls Tryd.prog 32 #[.slice a len cap] w fun e w' => ∃ r1 r2 : Nat, (r1 < 4294967296 ∧ r2 < 4294967296) ∧ e = .returned (.complex .f32 r1 r2) ∧ Below w.heap.size w w' := by
  have HR := Lib.hid hR
  have HF := Lib.hid (far_src hR)
  clear hR
  go_enter Tryd.func32, Tryd.ntmps32
  go_wp2_with fail
  refine (from_any a len cap w).mono ?_
  rintro e w1 ⟨rfl, hS, b1, _⟩
  have HR1 := Lib.hid (HR.out.keep b1)
  have HS := Lib.hid hS
  have HB := Lib.hid b1
  have H1 := Lib.hid (one_any 4 (by decide) (by decide) w.heap.size a len cap 0 zs w1 (by decide) HS.out HR1.out HF.out)
  have HPL : Hid (∀ w', Src w' w.heap.size a len cap 2 → w1.grownBy w' (some w.heap.size) → Calls Tryd.prog 68 #[.pointer (some ⟨w.heap.size, 0, none⟩)] w' fun e w'' => ∃ r1 r2 : Nat, (r1 < 4294967296 ∧ r2 < 4294967296) ∧ e = .returned (.complex .f32 r1 r2) ∧ Src w'' w.heap.size a len cap (2 + 4) ∧ w'.grownBy w'' (some w.heap.size)) :=
    fun w' h1 h2 => fine_any w.heap.size a len cap 2 zs w' (by omega) h1 (HR1.out.grown h2 HF.out) HF.out
  have HFL : Hid (∀ w', Src w' w.heap.size a len cap 2 → w1.grownBy w' (some w.heap.size) → Calls Tryd.prog 67 #[.pointer (some ⟨w.heap.size, 0, none⟩)] w' fun e w'' => ∃ r1 r2 : Nat, (r1 < 4294967296 ∧ r2 < 4294967296) ∧ e = .returned (.complex .f32 r1 r2) ∧ Src w'' w.heap.size a len cap (2 + 20) ∧ w'.grownBy w'' (some w.heap.size)) :=
    fun w' h1 h2 => drawCx_any w.heap.size a len cap 2 zs w' (by omega) h1 (HR1.out.grown h2 HF.out) HF.out
  clear hS b1
  go_wp2_with fail
  refine H1.out.mono ?_
  rintro e w2 ⟨q, rfl, hS2, hg2⟩
  have HS2 := Lib.hid hS2
  have HG2 := Lib.hid hg2
  clear hS2 hg2
  cases q
  · go_wp2_with fail
    refine (HPL.out w2 HS2.out HG2.out).mono ?_
    rintro e w3 ⟨r1, r2, hr, rfl, hS3, hg3⟩
    have HB3 := Lib.hid (below_src HB.out (HG2.out.trans hg3))
    clear hS3 hg3
    go_wp2_with fail
    go_ret
    exact ⟨r1, r2, hr, rfl, HB3.out⟩
  · go_wp2_with fail
    refine (HFL.out w2 HS2.out HG2.out).mono ?_
    rintro e w3 ⟨r1, r2, hr, rfl, hS3, hg3⟩
    have HB3 := Lib.hid (below_src HB.out (HG2.out.trans hg3))
    clear hS3 hg3
    go_wp2_with fail
    go_ret
    exact ⟨r1, r2, hr, rfl, HB3.out⟩
theorem crow_of_owned2 {w : World} {B t n : Nat} {v : Value} {Z : List (Nat × Nat)} (h : w.ownsRow B t 1 v n (cv Z)) (hl : Z.length = n) (hn : n ≤ 1048576) (hz : ∀ z ∈ Z, z.1 < 4294967296 ∧ z.2 < 4294967296) : ∃ a c, v = .slice a n c ∧ CRow w a n Z := by
  subst hl
  exact crow_of_owned h hn hz
def Small (z : Nat × Nat) : Prop := ∃ i j : Int, i.natAbs ≤ 200 ∧ j.natAbs ≤ 200 ∧ IV .f32 z.1 i ∧ IV .f32 z.2 j
theorem small_lt {z : Nat × Nat} (h : Small z) : z.1 < 4294967296 ∧ z.2 < 4294967296 := by
  obtain ⟨i, j, _, _, h1, h2⟩ := h
  have e : 2 ^ FloatKind.f32.format.width = 4294967296 := by decide
  have := h1.lt
  have := h2.lt
  omega
theorem small_of {v u : Nat} (hv : v < 401) (hu : u < 401) : Small (floatOfInt .f32 ((v : Int) - 200), floatOfInt .f32 ((u : Int) - 200)) := by
  have p : 2 ^ (FloatKind.f32.format.fractionBits + 1) = 16777216 := by decide
  exact ⟨(v : Int) - 200, (u : Int) - 200, by omega, by omega, IV.ofInt .f32 _ (by rw [p]; omega), IV.ofInt .f32 _ (by rw [p]; omega)⟩
set_option maxRecDepth 20000 in
set_option maxHeartbeats 1600000 in
theorem b10Whole_any (a : Option Addr) (len cap : Nat) (zs : List Nat) (w0 : World) (hR0 : BRow w0 a len zs) :
    Calls Tryd.prog 21 #[.slice a len cap, .int .i64 1, .int .i64 200] w0 fun e w' => ∃ a' c' Z, e = .returned (.slice a' 1 c') ∧ CRow w' a' 1 Z ∧ (∀ z ∈ Z, Small z) ∧ Below w0.heap.size w0 w' := by
  obtain ⟨i0, hi, hz0, hz1, hz2⟩ := info_parts (show (Tryd.prog.info? 42).map (fun i => (i.zero, i.size, i.bytes)) = some (some (.complex .f32 0 0), 1, 8) by kernel_rfl)
  have HR := Lib.hid hR0
  have HF := Lib.hid (far_src hR0)
  clear hR0
  go_enter Tryd.func21, Tryd.ntmps21
  go_wp2_with fail
  refine (from_any a len cap w0).mono ?_
  rintro e w ⟨rfl, hS, b1, h4⟩
  clear h4
  have hlt0 := hS.lt
  have HR1 := Lib.hid (HR.out.keep b1)
  have HB := Lib.hid b1
  obtain ⟨g, hgE⟩ : ∃ g, w0.heap.size = g := ⟨_, rfl⟩
  have HE := Lib.hid hgE
  rw [hgE] at hS hlt0 HB HF
  have HPK : Hid (∀ J w', J ≤ 100 → Src w' g a len cap J → w.grownBy w' (some g) → Calls Tryd.prog 40 #[.pointer (some ⟨g, 0, none⟩), .int .i64 (401 : Nat)] w' fun e w'' => ∃ v : Nat, v < 401 ∧ e = .returned (.int .i64 v) ∧ Src w'' g a len cap (J + 2) ∧ w'.grownBy w'' (some g)) :=
    fun J w' hJ h1 h2 => pick_any 401 (by decide) (by decide) g a len cap J zs w' (by omega) h1 (HR1.out.grown h2 HF.out) HF.out
  have HS0 := Lib.hid (hS.grown (World.grownBy_alloc w (.cells #[] 42) none) (by simp))
  have HO0 : Hid ((w.alloc (.cells #[] 42)).ownsRow w.heap.size 42 1 (.slice (some ⟨w.heap.size, 0, none⟩) 0 0) 0 []) := World.ownsRow_made w #[] 0 (Nat.le_refl _) (Nat.zero_le _) rfl
  have HG0 := Lib.hid (World.grownBy_alloc w (.cells #[] 42) (some g))
  clear hS b1
  rw [hgE]
  clear hgE
  go_wp2_with fail
  go_loopg [1, 8] 1 (fun m nv v wr => ∃ (k : Nat) (Z : List (Nat × Nat)), nv = .int .i64 ((1 : Int) - k) ∧ k ≤ 1 ∧ Hid (k + m = 1) ∧ Hid (wr.ownsRow w.heap.size 42 1 v k (cv Z)) ∧ Hid (v.ownBlock = none ∨ v.ownBlock ≠ some g) ∧ Hid (∃ o, v.ownBlock = some o ∧ w.heap.size ≤ o) ∧ Hid (Src wr g a len cap (4 * k)) ∧ Hid (w.grownBy wr (some g)) ∧ Hid (Z.length = k ∧ ∀ z ∈ Z, Small z))
  case atStart => exact ⟨0, [], by go_num, Nat.zero_le _, by show _ = _; omega, HO0.out, .inr (by intro e2; have : w.heap.size = g := Option.some.inj e2; omega), ⟨_, rfl, Nat.le_refl _⟩, HS0.out, HG0.out, rfl, by simp⟩
  case round =>
    obtain ⟨k, Z, rfl, hkl, hk, HO, HOW, HOB, HS, HG, HZ⟩ := hrel
    by_cases hlt : k < 1
    · have hpos : (0 : Int) < (1 : Int) - k := by omega
      have HJ : Hid (k + 1 + (gk - 1) = 1) := by have := hk.out; show _ = _; omega
      have HGk : Hid (gk - 1 < gk) := by have := hk.out; show _ < _; omega
      clear HO0 HS0 HG0
      go_wp2_with fail
      refine (HPK.out (4 * k) wr (by omega) HS.out HG.out).mono ?_
      rintro e wx ⟨v1, hv1, rfl, hSx, hgx⟩
      have HSx := Lib.hid hSx
      have HGx := Lib.hid (HG.out.trans hgx)
      have HOx := Lib.hid (HO.out.kept hgx HOW.out)
      clear hSx hgx
      go_wp2_with fail
      refine (HPK.out (4 * k + 2) wx (by omega) HSx.out HGx.out).mono ?_
      rintro e w2 ⟨v2, hv2, rfl, hS2, hg2⟩
      have hr := small_of hv1 hv2
      generalize floatOfInt .f32 ((v1 : Int) - 200) = r1 at *
      have hq1 := hr
      clear hq1
      have HS2 := Lib.hid hS2
      have HG2 := Lib.hid (HGx.out.trans hg2)
      have HO2 := Lib.hid (HOx.out.kept hg2 HOW.out)
      clear hS2 hg2
      go_wp2_with (at_builtin; go_must (refine wpList_append_own_at _ rfl _ _ 45 rfl w.heap.size 42 i0 (.complex .f32 0 0) 1 8 Tryd.underlying45 hi hz0 hz1 hz2 rfl (by decide) _ _ _ rfl (HO2.out.alloc _) ⟨w2.heap.size, 0, none⟩ 1 1 [.complex .f32 r1 (floatOfInt .f32 ((v2 : Int) - 200))] rfl (by simp) (cell_one_new _ _ _) (by intro u hu; simp at hu; subst hu; rfl) (by unfold maxLen; omega) (by omega) (by have := HG2.out.size; simp; omega) ?_))
      intro v' w3 hown' hgrow _ hat
      have HO3 : Hid (w3.ownsRow w.heap.size 42 1 v' (k + 1) (cv (Z ++ [(r1, floatOfInt .f32 ((v2 : Int) - 200))]))) := by
        have : cv (Z ++ [(r1, floatOfInt .f32 ((v2 : Int) - 200))]) = cv Z ++ [.complex .f32 r1 (floatOfInt .f32 ((v2 : Int) - 200))] := by simp [cv]
        show World.ownsRow _ _ _ _ _ _ _
        rw [this]; exact hown'
      have HOW3 : Hid (v'.ownBlock = none ∨ v'.ownBlock ≠ some g) := by
        cases hv' : v'.ownBlock with
        | none => exact .inl rfl
        | some o =>
          have := (HO3.out.lt o hv').1
          exact .inr (by intro e2; have := Option.some.inj e2; omega)
      obtain ⟨o, ho1, ho2⟩ := HOB.out
      have HOB3 : Hid (∃ o, v'.ownBlock = some o ∧ w.heap.size ≤ o) := by
        rcases hat with h | h
        · exact ⟨o, by rw [h]; exact ho1, ho2⟩
        · exact ⟨_, h, by have := HG2.out.size; simp; omega⟩
      rw [ho1] at hgrow
      have HS3 := Lib.hid ((HS2.out.grown (World.grownBy_alloc w2 _ none) (by simp)).grown hgrow (by intro e2; have := Option.some.inj e2; omega))
      have HG3 := Lib.hid (grown_far (grown_alloc HG2.out _) hgrow ho2)
      have HZ2 : Hid ((Z ++ [(r1, floatOfInt .f32 ((v2 : Int) - 200))]).length = k + 1 ∧ ∀ z ∈ Z ++ [(r1, floatOfInt .f32 ((v2 : Int) - 200))], Small z) := by
        obtain ⟨z1, z2⟩ := HZ.out
        refine ⟨by simp [z1], fun z hz => ?_⟩
        rcases List.mem_append.1 hz with h | h
        · exact z2 z h
        · simp at h; subst h; exact hr
      clear hown' hgrow hat HO HO2 HS HS2 HG HG2 ho1 ho2 HOW HOB HZ HSx HGx HOx
      go_wp2_with fail
      go_roundg (gk - 1)
      case measure => exact HGk.out
      case rel => exact ⟨k + 1, Z ++ [(r1, floatOfInt .f32 ((v2 : Int) - 200))], by go_num, by omega, HJ, HO3.out, HOW3.out, HOB3.out, HS3.out.more (by omega), HG3.out, HZ2.out⟩
    · obtain rfl : k = 1 := by omega
      obtain ⟨z1, z2⟩ := HZ.out
      have hO2 := HO.out
      obtain ⟨a', c', rfl, hF⟩ := crow_of_owned2 hO2 z1 (by omega) (fun z hz => small_lt (z2 z hz))
      have HF2 := Lib.hid hF
      have HZ1 := Lib.hid z1
      have HZ2 := Lib.hid z2
      have HB2 := Lib.hid (below_src2 HB.out HG.out (Nat.le_of_lt hlt0))
      clear hO2 hF z1 z2 hlt HO HOW HOB HS HG HZ
      go_wp2_with fail
      go_ret
      first
        | exact ⟨a', c', Z, rfl, HF2.out, HZ2.out, by rw [HE.out]; exact HB2.out⟩
        | exact ⟨a', ⟨c', rfl⟩, Z, HF2.out, HZ2.out, by rw [HE.out]; exact HB2.out⟩
        | exact ⟨a', ⟨c', rfl⟩, ⟨Z, HF2.out, HZ2.out⟩, by rw [HE.out]; exact HB2.out⟩
        | exact ⟨a', ⟨c', rfl⟩, ⟨Z, HF2.out, HZ2.out⟩, by rw [HE.out]; exact HB2.out⟩
end Go.Proofs.YtfmicahibmpjmaaDoor
