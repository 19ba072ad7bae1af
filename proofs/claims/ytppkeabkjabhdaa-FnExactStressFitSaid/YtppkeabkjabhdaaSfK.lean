/-
  The line of lives over stresses, in both, for whatever is given. Conditions: the lists read as lists of at most 2^20 numbers.
-/
import Derived.Test.YtppkeabkjabhdaaSfJ
namespace Go.Proofs.Ytppkeabkjabhdaa
open Go.RowKit Flt Dec Cm We Cr Liv Hld
theorem sf_all {kd : Int} {S L : List Nat} (hk : 0 ≤ kd ∧ kd ≤ 2) (h1 : S.all pos = true) (h2 : L.all pos = true) (hl : S.length = L.length) : sf0 kd S L = true := by
  unfold sf0; rw [decide_eq_true hk, decide_eq_true hl, h1, h2]; rfl
theorem sf_s {kd : Int} {S L : List Nat} (h : S.all pos = false) : sf0 kd S L = false := by unfold sf0; rw [h]; simp
theorem sf_l {kd : Int} {S L : List Nat} (h : L.all pos = false) : sf0 kd S L = false := by unfold sf0; rw [h]; simp
theorem sf_len {kd : Int} {S L : List Nat} (h : ¬ S.length = L.length) : sf0 kd S L = false := by unfold sf0; rw [decide_eq_false h]; simp
theorem sf_kd {kd : Int} {S L : List Nat} (h : ¬ (0 ≤ kd ∧ kd ≤ 2)) : sf0 kd S L = false := by unfold sf0; rw [decide_eq_false h]; rfl
set_option maxRecDepth 100000 in
set_option maxHeartbeats 8000000 in
theorem iSf_any (kd : Int) (A f : Nat) (p : Nat → Option Nat) (hk : 0 ≤ kd ∧ kd ≤ 2)
    (hst : ∀ w, Calls Try.prog 98 #[.int .i64 kd] w fun e w' => e = .returned (.tuple #[.agg #[.func (.func A) #[] #[], .func (.func f) #[] #[]], .bool true]) ∧ Below w.heap.size w w')
    (eg : ∀ args w, (callFunc f args).run Try.prog w = .ok (.enter f args) w) (hp : PTest p f) (hsp : ∀ (S : List Nat) (j : Nat), sfp kd S j = p (S.getD j 0))
    (a : Option Addr) (n ca : Nat) (S : List Nat) (b : Option Addr) (m cb : Nat) (L : List Nat) (w : World) (h : FRow w a n S) (g : FRow w b m L) (hn : n ≤ 1048576) (hm : m ≤ 1048576) :
    Calls Try.prog 48 #[.int .i64 kd, .slice a n ca, .slice b m cb] w fun e w' => e = .returned (.tuple #[.float .f32 (sfB kd S L), .float .f32 (sfM kd S L), .bool (sfC kd S L)]) ∧ Below w.heap.size w w' := by
  have HS := Lib.hid h
  have HL := Lib.hid g
  have HSL : Hid (S.length = n) := h.1
  have HLL : Hid (L.length = m) := g.1
  have HST := Lib.hid hst
  have HEG := Lib.hid eg
  have HP := Lib.hid hp
  have HN : Hid (n ≤ 1048576) := hn
  have HM : Hid (m ≤ 1048576) := hm
  have HE2 : Hid (∀ args w, (callFunc 100 args).run Try.prog w = .ok (.enter 100 args) w) := by show ∀ args, _; intro args w; kernel_rfl
  have HNO : Hid (sf0 kd S L = false → sfC kd S L = false ∧ sfB kd S L = 0 ∧ sfM kd S L = 0) := Lib.hid fun q => sf_no q
  have HYES : Hid (∀ X Y : List Nat, S.all pos = true → L.all pos = true → X.length = n → Y.length = m → (∀ j, j < n → F32.Is (p (S.getD j 0)) (X.getD j 0)) → (∀ j, j < m → F32.Is (logOut (L.getD j 0)) (Y.getD j 0)) → sfC kd S L = plC X Y ∧ sfB kd S L = plV X Y (plB X Y) ∧ sfM kd S L = plV X Y (plS X Y)) := Lib.hid fun X Y a1 a2 hx hy gx gy => by
    by_cases hl : n = m
    · subst hl
      exact sf_end (sf_all hk a1 a2 (HSL.out.trans HLL.out.symm)) HSL.out hx hy (fun j hj => by rw [hsp]; exact gx j hj) (fun j hj => gy j hj)
    · have h0 := sf_no (sf_len (kd := kd) (S := S) (L := L) (by rw [HSL.out, HLL.out]; exact hl))
      have hc : plC X Y = false := plC_0 (pl_same (by rw [hx, hy]; exact fun e => hl e.symm))
      rw [h0.1, h0.2.1, h0.2.2, plv_no hc, plv_no hc]
      exact ⟨hc.symm, rfl, rfl⟩
  obtain ⟨ya, hya⟩ : ∃ y, sfB kd S L = y := ⟨_, rfl⟩
  obtain ⟨yb, hyb⟩ : ∃ y, sfM kd S L = y := ⟨_, rfl⟩
  obtain ⟨yc, hyc⟩ : ∃ y, sfC kd S L = y := ⟨_, rfl⟩
  rw [hya, hyb, hyc] at HNO HYES
  rw [hya, hyb, hyc]
  clear h g hn hm hst eg hp hsp hya hyb hyc
  go_enter Try.func48, Try.ntmps48
  go_wp2_with fail
  refine (HST.out _).mono ?_
  rintro e w1 ⟨rfl, b1⟩
  have B1 := Lib.hid (b1.alloc b1.size (.cells #[.func (.func A) #[] #[], .func (.func f) #[] #[]] 93))
  have y7 : (w1.alloc (.cells #[.func (.func A) #[] #[], .func (.func f) #[] #[]] 93)).cell? ⟨w1.heap.size, 1, none⟩ = some (.func (.func f) #[] #[]) := (Blk.Blk.new w1 #[.func (.func A) #[] #[], .func (.func f) #[] #[]] 93).cell 1
  clear b1
  go_wp2_with fail
  refine (placesOf_any p f HEG.out HP.out a n ca S _ (HS.out.keep B1.out) HN.out).mono ?_
  rintro e w2 ⟨hres, b2⟩
  have B2 := Lib.hid (B1.out.trans (b2.mono B1.out.size))
  clear b2 y7
  rcases hres with ⟨hS, g1, X, rfl, hXl, hX, hXR⟩ | ⟨hS, rfl⟩
  · have RX := Lib.hid hXR
    have KX := Lib.hid (And.intro hS (And.intro hXl hX))
    clear hXR hS hXl hX
    go_wp2_with fail
    refine (placesOf_any logOut 100 HE2.out place1_any b m cb L _ (HL.out.keep B2.out) HM.out).mono ?_
    rintro e w3 ⟨hres, b3⟩
    have B3 := Lib.hid (B2.out.trans (b3.mono B2.out.size))
    have RX3 := Lib.hid (RX.out.keep b3)
    clear b3
    rcases hres with ⟨hL, g2, Y, rfl, hYl, hY, hYR⟩ | ⟨hL, rfl⟩
    · have RY := Lib.hid hYR
      have HE := Lib.hid (HYES.out X Y KX.out.1 hL KX.out.2.1 hYl KX.out.2.2 hY)
      clear hYR hL hYl hY
      go_wp2_with fail
      refine (iPathLine_any _ n n X _ m m Y _ RX3.out RY.out (Nat.le_refl _) (Nat.le_refl _)).mono ?_
      rintro e w4 ⟨rfl, b4⟩
      have B4 := Lib.hid (B3.out.trans (b4.mono B3.out.size))
      rw [← HE.out.1, ← HE.out.2.1, ← HE.out.2.2]
      clear b4
      go_wp2_with fail
      go_returns
      exact ⟨rfl, B4.out⟩
    · have HQ := Lib.hid (HNO.out (sf_l hL))
      clear hL
      go_wp2_with fail
      go_returns
      rw [HQ.out.1, HQ.out.2.1, HQ.out.2.2]
      exact ⟨rfl, B3.out⟩
  · have HQ := Lib.hid (HNO.out (sf_s hS))
    clear hS
    go_wp2_with fail
    refine (placesOf_any logOut 100 HE2.out place1_any b m cb L _ (HL.out.keep B2.out) HM.out).mono ?_
    rintro e w3 ⟨hres, b3⟩
    have B3 := Lib.hid (B2.out.trans (b3.mono B2.out.size))
    clear b3
    rcases hres with ⟨-, g2, Y, rfl, -, -, -⟩ | ⟨-, rfl⟩
    all_goals
      go_wp2_with fail
      go_returns
      rw [HQ.out.1, HQ.out.2.1, HQ.out.2.2]
      exact ⟨rfl, B3.out⟩
theorem iStressFit_any (kd : Int) (a : Option Addr) (n ca : Nat) (S : List Nat) (b : Option Addr) (m cb : Nat) (L : List Nat) (w : World) (h : FRow w a n S) (g : FRow w b m L) (_hc : n ≤ ca) (_hc2 : m ≤ cb) (hn : n ≤ 1048576) (hm : m ≤ 1048576) :
    Calls Try.prog 48 #[.int .i64 kd, .slice a n ca, .slice b m cb] w fun e w' => e = .returned (.tuple #[.float .f32 (sfB kd S L), .float .f32 (sfM kd S L), .bool (sfC kd S L)]) ∧ Below w.heap.size w w' := by
  by_cases hk : 0 ≤ kd ∧ kd ≤ 2
  · obtain rfl | rfl | rfl : kd = 0 ∨ kd = 1 ∨ kd = 2 := by omega
    · exact iSf_any 0 _ _ (fun z => F32.opO .quo (some 1065353216) (some z)) hk stressOf0_any (by intro args w; kernel_rfl) place0_any (fun _ _ => rfl) a n ca S b m cb L w h g hn hm
    · exact iSf_any 1 _ _ logOut hk stressOf1_any (by intro args w; kernel_rfl) place1_any (fun _ _ => rfl) a n ca S b m cb L w h g hn hm
    · exact iSf_any 2 _ _ (fun z => some z) hk stressOf2_any (by intro args w; kernel_rfl) place2_any (fun _ _ => rfl) a n ca S b m cb L w h g hn hm
  · have HQ := Lib.hid (sf_no (sf_kd (S := S) (L := L) hk))
    have HK := Lib.hid hk
    clear h g hk
    go_enter Try.func48, Try.ntmps48
    go_wp2_with fail
    refine (stressOfN_any kd HK.out _).mono ?_
    rintro e w1 ⟨rfl, b1⟩
    have B1 := Lib.hid (b1.alloc b1.size (.cells #[.nilFunc, .nilFunc] 93))
    clear b1
    go_wp2_with fail
    go_returns
    rw [HQ.out.1, HQ.out.2.1, HQ.out.2.2]
    exact ⟨rfl, B1.out⟩
theorem sStressFit_any (kd : Int) (a : Option Addr) (n ca : Nat) (S : List Nat) (b : Option Addr) (m cb : Nat) (L : List Nat) (w : World) (h : FRow w a n S) (g : FRow w b m L) (hn : n ≤ 1048576) (_hm : m ≤ 1048576) :
    Calls Try.prog 47 #[.int .i64 kd, .slice a n ca, .slice b m cb] w fun e w' => e = .returned (.tuple #[.float .f32 (sfB kd S L), .float .f32 (sfM kd S L), .bool (sfC kd S L)]) ∧ Below w.heap.size w w' := by
  by_cases hk : 0 ≤ kd ∧ kd ≤ 2
  · by_cases hl : n = m
    · subst hl
      obtain rfl | rfl | rfl : kd = 0 ∨ kd = 1 ∨ kd = 2 := by omega
      · exact sSfYes0_any a n ca S b cb L w h g hn
      · exact sSfYes1_any a n ca S b cb L w h g hn
      · exact sSfYes2_any a n ca S b cb L w h g hn
    · have HQ := Lib.hid (sf_no (sf_len (kd := kd) (S := S) (L := L) (by rw [h.1, g.1]; exact hl)))
      have HD : Hid (decide ((0 : Int) ≤ kd ∧ kd ≤ 2) = true) := Lib.hid (decide_eq_true hk)
      have q3 : ((n : Int) != (m : Int)) = true := by simp; omega
      clear h g hk
      go_enter Try.func47, Try.ntmps47
      go_wp2_with fail
      refine (c_In kd 0 2 _).mono ?_
      rintro e w0 ⟨rfl, rfl⟩
      rw [HD.out]
      go_wp2_with fail
      go_returns
      rw [HQ.out.1, HQ.out.2.1, HQ.out.2.2]
      exact ⟨rfl, Below.refl _ _⟩
  · have HQ := Lib.hid (sf_no (sf_kd (S := S) (L := L) hk))
    have HD : Hid (decide ((0 : Int) ≤ kd ∧ kd ≤ 2) = false) := Lib.hid (decide_eq_false hk)
    clear h g hk
    go_enter Try.func47, Try.ntmps47
    go_wp2_with fail
    refine (c_In kd 0 2 _).mono ?_
    rintro e w0 ⟨rfl, rfl⟩
    rw [HD.out]
    go_wp2_with fail
    go_returns
    rw [HQ.out.1, HQ.out.2.1, HQ.out.2.2]
    exact ⟨rfl, Below.refl _ _⟩
end Go.Proofs.Ytppkeabkjabhdaa
