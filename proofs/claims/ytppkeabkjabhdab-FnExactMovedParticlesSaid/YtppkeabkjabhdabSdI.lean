/-
  Steps that a seed tells, as functions that are made and called, in the program; lists that are asked for being finite, with the seed. Conditions: the seed is one.
-/
import Derived.Test.YtppkeabkjabhdabSdW
import Derived.Test.YtppkeabkjabhdabFinW
namespace We
open Go Flt Dec F32 Cm Liv
/-- one step -/
def stO (o : Option Nat) (dr wi s : Nat) : Option Nat := F32.opO .add (F32.opO .add o (some dr)) (F32.opO .mul (some wi) (nmO s))
theorem cell_of {w : World} {g : Nat} {v : Value} {t : TypeId} (h : Blk.Blk w g [v] t) : w.cell? ⟨g, 0, none⟩ = some v := h.cell 0
theorem froz_of {w : World} {g : Nat} {v : Value} {t : TypeId} (h : Blk.Blk w g [v] t) : w.frozen? ⟨g, 0, none⟩ = false := h.frozen 0
end We
namespace Go.Proofs.Ytppkeabkjabhdab
open Go.RowKit Flt Dec Cm We Cr Liv Hld
/-- the boxes of a function that makes steps -/
def Clo (w : World) (g dr wi b7 b4 b5 b1 B : Nat) : Prop :=
  Blk.Blk w b1 [.pointer (some ⟨g, 0, none⟩)] 52 ∧ Blk.Blk w b7 [.func (.func 61) #[] #[.pointer (some ⟨b1, 0, none⟩)]] 55 ∧ Blk.Blk w b4 [.float .f32 dr] 22 ∧ Blk.Blk w b5 [.float .f32 wi] 22 ∧ (b1 ≠ g ∧ b7 ≠ g ∧ b4 ≠ g ∧ b5 ≠ g) ∧ (b1 < B ∧ b7 < B ∧ b4 < B ∧ b5 < B)
theorem Clo.only {w w' : World} {g dr wi b7 b4 b5 b1 B : Nat} (h : Clo w g dr wi b7 b4 b5 b1 B) (o : Only g w w') : Clo w' g dr wi b7 b4 b5 b1 B := by
  obtain ⟨h1, h2, h3, h4, ⟨h5, h6, h7, h8⟩, h9⟩ := h
  exact ⟨blk_only h1 o h5, blk_only h2 o h6, blk_only h3 o h7, blk_only h4 o h8, ⟨h5, h6, h7, h8⟩, h9⟩
theorem Clo.below {w w' : World} {g dr wi b7 b4 b5 b1 B : Nat} (h : Clo w g dr wi b7 b4 b5 b1 B) (o : Below B w w') : Clo w' g dr wi b7 b4 b5 b1 B := by
  obtain ⟨h1, h2, h3, h4, h5, h6, h7, h8, h9⟩ := h
  exact ⟨h1.below o h6, h2.below o h7, h3.below o h8, h4.below o h9, h5, h6, h7, h8, h9⟩
set_option maxHeartbeats 3200000 in
theorem iStep_any (g s x dr wi b7 b4 b5 b1 B : Nat) (o : Option Nat) (w : World) (hs : s < 4294967296) (hb : Blk.Blk w g [.int .i64 (s : Int)] 2) (hc : Clo w g dr wi b7 b4 b5 b1 B) (hx : F32.Is o x) (hd : F32.Is (some dr) dr) (hw : F32.Is (some wi) wi) :
    Calls Try.prog 63 #[.float .f32 x, .pointer (some ⟨b7, 0, none⟩), .pointer (some ⟨b4, 0, none⟩), .pointer (some ⟨b5, 0, none⟩)] w fun e w' => (∃ y, e = .returned (.float .f32 y) ∧ F32.Is (stO o dr wi s) y ∧ y < 4294967296) ∧ Blk.Blk w' g [.int .i64 ((nxk s 4 : Nat) : Int)] 2 ∧ Only g w w' := by
  have HB := Lib.hid hb
  have HC := Lib.hid hc
  have HX := Lib.hid hx
  have HDI := Lib.hid hd
  have HWI := Lib.hid hw
  have eg : ∀ args w, (callFunc 61 args).run Try.prog w = .ok (.enter 61 args) w := by intro args w; kernel_rfl
  clear hb hc hx hd hw
  go_enter Try.func63, Try.ntmps63
  go_wp2_with fail
  go_loopg [6, 8] 4 (fun n a i wr => ∃ k y : Nat, a = .float .f32 y ∧ i = .int .i64 (k : Int) ∧ Hid (k + n = 4) ∧ k ≤ 4 ∧ Hid (F32.Is (nsO s k) y) ∧ Hid (Blk.Blk wr g [.int .i64 ((nxk s k : Nat) : Int)] 2) ∧ Hid (Only g w wr))
  case atStart => exact ⟨0, 0, rfl, rfl, rfl, Nat.zero_le _, zero_is, HB.out, Only.refl _ _⟩
  case round =>
    obtain ⟨k, y, rfl, rfl, hk, hkl, hY, hS, hO⟩ := hrel
    have HCR := Lib.hid (HC.out.only hO.out)
    by_cases hlt : k < 4
    · have HJ : Hid (k + 1 + (gk - 1) = 4) := by have := hk.out; show _ = _; omega
      have HG : Hid (gk - 1 < gk) := by have := hk.out; show _ < _; omega
      have hz : (k : Int) < 4 := by omega
      have hcb := cell_of HCR.out.2.1
      go_wp2_with fail
      refine (iDraw_any g b1 (nxk s k) _ (nxk_lt hs k) hS.out HCR.out.1 HCR.out.2.2.2.2.1.1).mono ?_
      rintro e w1 ⟨⟨z, rfl, i1, li⟩, hb1, ho1⟩
      obtain ⟨x1, v1, r1, j1, l1, e1⟩ := F32.arith_ex (P := Try.prog) (op := .sub) (.inr (.inl rfl)) 22 i1 half_is w1
      obtain ⟨x2, v2, r2, j2, l2, e2⟩ := F32.arith_ex (P := Try.prog) (op := .add) (.inl rfl) 22 hY.out j1 v1
      have DD := Lib.hid (e1.trans e2)
      have J : Hid (F32.Is (nsO s (k + 1)) x2) := j2
      have S1 : Hid (Blk.Blk v2 g [.int .i64 ((nxk s (k + 1) : Nat) : Int)] 2) := blk_drawn hb1 DD.out
      have O1 := Lib.hid (only_drawn (only_trans hO.out ho1) DD.out)
      clear j1 l1 e1 j2 l2 e2
      clear i1 li hb1 ho1 hY hS hO DD hcb
      go_wp2_with fail
      go_roundg (gk - 1)
      case measure => exact HG.out
      case rel => exact ⟨k + 1, x2, rfl, by go_num, HJ, by omega, J.out, S1.out, O1.out⟩
    · obtain rfl : k = 4 := by omega
      generalize wr = w3 at *
      have hc4 := cell_of HCR.out.2.2.1
      have hc5 := cell_of HCR.out.2.2.2.1
      obtain ⟨x1, v1, r1, j1, l1, e1⟩ := F32.arith_ex (P := Try.prog) (op := .mul) (.inr (.inr (.inl rfl))) 22 hY.out root_is w3
      obtain ⟨x2, v2, r2, j2, l2, e2⟩ := F32.arith_ex (P := Try.prog) (op := .add) (.inl rfl) 22 HX.out HDI.out v1
      obtain ⟨x3, v3, r3, j3, l3, e3⟩ := F32.arith_ex (P := Try.prog) (op := .mul) (.inr (.inr (.inl rfl))) 22 HWI.out j1 v2
      obtain ⟨x4, v4, r4, j4, l4, e4⟩ := F32.arith_ex (P := Try.prog) (op := .add) (.inl rfl) 22 j2 j3 v3
      have DD := Lib.hid (((e1.trans e2).trans e3).trans e4)
      have J : Hid (F32.Is (stO o dr wi s) x4 ∧ x4 < 4294967296) := ⟨j4, l4⟩
      have S1 := Lib.hid (blk_drawn hS.out DD.out)
      have O1 := Lib.hid (only_drawn hO.out DD.out)
      have hc4' : v1.cell? ⟨b4, 0, none⟩ = some (.float .f32 dr) := by rw [e1.cell]; exact hc4
      have hc5' : v2.cell? ⟨b5, 0, none⟩ = some (.float .f32 wi) := by rw [e2.cell, e1.cell]; exact hc5
      clear j1 l1 e1 j2 l2 e2 j3 l3 e3 j4 l4 e4
      clear hY hS hO DD hlt hk
      go_wp2_with fail
      go_ret
      exact ⟨⟨x4, rfl, J.out.1, J.out.2⟩, S1.out, O1.out⟩
theorem iDraws_any (p : Value) (w : World) (hp : ∃ a, p = .pointer a) :
    Calls Try.prog 37 #[p] w fun e w' => e = .returned (.func (.func 61) #[] #[.pointer (some ⟨w.heap.size, 0, none⟩)]) ∧ w' = w.alloc (.cells #[p] 52) := by
  obtain ⟨a, rfl⟩ := hp
  go_enter Try.func37, Try.ntmps37
  go_wp2_with fail
  go_ret
  exact ⟨rfl, rfl⟩
@[go_sem] theorem run_store_func {P : Program} {w : World} {a : Addr} {m : Mode} (f : Fn) (xs : Array Value) (ys : Array Value) : (store a (.func f xs ys) m).run P w = stored P w a (.func f xs ys) m := run_store P w a _ m rfl
set_option maxHeartbeats 1600000 in
theorem iSteps_any (g dr wi : Nat) (w : World) (hg : g < w.heap.size) :
    Calls Try.prog 41 #[.pointer (some ⟨g, 0, none⟩), .float .f32 dr, .float .f32 wi] w fun e w' => (∃ b7 b4 b5 b1, e = .returned (.func (.func 63) #[] #[.pointer (some ⟨b7, 0, none⟩), .pointer (some ⟨b4, 0, none⟩), .pointer (some ⟨b5, 0, none⟩)]) ∧ Clo w' g dr wi b7 b4 b5 b1 w'.heap.size) ∧ Below w.heap.size w w' := by
  have k4 := Blk.Blk.new w #[.float .f32 dr] 22
  have k5 := Blk.Blk.new (w.alloc (.cells #[.float .f32 dr] 22)) #[.float .f32 wi] 22
  have k1 := Blk.Blk.new ((w.alloc (.cells #[.float .f32 dr] 22)).alloc (.cells #[.float .f32 wi] 22)) #[.pointer (some ⟨g, 0, none⟩)] 52
  have k7 := Blk.Blk.new (((w.alloc (.cells #[.float .f32 dr] 22)).alloc (.cells #[.float .f32 wi] 22)).alloc (.cells #[.pointer (some ⟨g, 0, none⟩)] 52)) #[.func (.func 61) #[] #[.pointer (some ⟨w.heap.size + 1 + 1, 0, none⟩)]] 55
  simp only [World.size_alloc] at k5 k1 k7
  have K4 := Lib.hid (((k4.alloc (.cells #[.float .f32 wi] 22)).alloc (.cells #[.pointer (some ⟨g, 0, none⟩)] 52)).alloc (.cells #[.func (.func 61) #[] #[.pointer (some ⟨w.heap.size + 1 + 1, 0, none⟩)]] 55))
  have K5 := Lib.hid ((k5.alloc (.cells #[.pointer (some ⟨g, 0, none⟩)] 52)).alloc (.cells #[.func (.func 61) #[] #[.pointer (some ⟨w.heap.size + 1 + 1, 0, none⟩)]] 55))
  have K1 := Lib.hid (k1.alloc (.cells #[.func (.func 61) #[] #[.pointer (some ⟨w.heap.size + 1 + 1, 0, none⟩)]] 55))
  have K7 := Lib.hid k7
  have HB : Hid (Below w.heap.size w ((((w.alloc (.cells #[.float .f32 dr] 22)).alloc (.cells #[.float .f32 wi] 22)).alloc (.cells #[.pointer (some ⟨g, 0, none⟩)] 52)).alloc (.cells #[.func (.func 61) #[] #[.pointer (some ⟨w.heap.size + 1 + 1, 0, none⟩)]] 55))) := ((((Below.refl _ _).alloc (Nat.le_refl _) _).alloc (by simp) _).alloc (by simp; omega) _).alloc (by simp; omega) _
  have HG := Lib.hid hg
  clear hg k4 k5 k1 k7
  go_enter Try.func41, Try.ntmps41
  go_wp2_with fail
  refine (iDraws_any _ _ ⟨_, rfl⟩).mono ?_
  rintro e w1 ⟨rfl, rfl⟩
  go_wp2_with fail
  go_ret
  have hgl := HG.out
  exact ⟨⟨_, _, _, _, rfl, K1.out, K7.out, K4.out, K5.out, ⟨by omega, by omega, by omega, by omega⟩, by simp <;> omega, by simp, by simp <;> omega, by simp <;> omega⟩, HB.out⟩
theorem onlyDrawn_any (a : Option Addr) (len cap : Nat) (zs : List Nat) (s : Int) (w : World) (h : FRow w a len zs) :
    Calls Try.prog 38 #[.slice a len cap, .int .i64 s] w fun e w' => e = .returned (if zs.all fun z => fin .f32 z then .tuple #[.slice a len cap, .int .i64 s, .bool true] else .tuple #[.slice none 0 0, .int .i64 0, .bool false]) ∧ Drawn w w' := by
  have H := Lib.hid h
  clear h
  cases hq : zs.all fun z => fin .f32 z with
  | false =>
    have HQ := Lib.hid hq
    clear hq
    go_enter Try.func38, Try.ntmps38
    go_wp2_with fail
    refine (areFinD_any a len cap zs _ H.out).mono ?_
    rintro e w1 ⟨rfl, b1⟩
    rw [HQ.out]
    go_wp2_with fail
    go_ret3
    exact ⟨rfl, b1⟩
  | true =>
    have HQ := Lib.hid hq
    clear hq
    go_enter Try.func38, Try.ntmps38
    go_wp2_with fail
    refine (areFinD_any a len cap zs _ H.out).mono ?_
    rintro e w1 ⟨rfl, b1⟩
    rw [HQ.out]
    go_wp2_with fail
    go_ret3
    exact ⟨rfl, b1⟩
end Go.Proofs.Ytppkeabkjabhdab
