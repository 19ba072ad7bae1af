/-
  The exact laws of functions that read lives and return what owns no memory. No conditions beyond the statements' own.
-/
import Derived.Test.YtncekpiabklkeaaFit
namespace Go.Proofs.Ytncekpiabklkeaa
open Go.RowKit Liv Flt
theorem lim3 {len : Nat} (h : ¬ ((1048576 : Int) < (len : Int))) : len ≤ 1048576 := by omega
set_option maxRecDepth 40000 in
set_option maxHeartbeats 1600000 in
theorem fnExactFitRate_walk (a : Option Addr) (len cap : Nat) (zs : List (Nat × Bool)) (w : World) (h : LRow w a len zs) :
    Calls Try.prog 10 #[.slice a len cap] w fun e w' => e = .returned (.bool true) ∧ Below w.heap.size w w' := by
  have hml : len ≤ maxLen := h.2.1
  have H := Lib.hid h
  have HZ := Lib.hid h.2.2.1
  have HL := Lib.hid h.1
  have hx : ∀ x : Bool, (x != x) = false := by simp
  have hxi : ∀ x : Int, (x != x) = false := by simp
  clear h
  by_cases hn : (1048576 : Int) < (len : Int)
  · go_enter Try.func10, Try.ntmps10
    go_wp2_with fail
    refine (szLifeS_any a len cap 1048576 _ (by decide) hml).mono ?_
    rintro e w1 ⟨rfl, rfl⟩
    rw [if_pos hn]
    go_wp2_with fail
    go_ret
    exact ⟨rfl, Below.refl _ _⟩
  · have hn' := lim3 hn
    have hnn : ¬ ((1048576 : Int) - len < 0) := by omega
    have hsn := fitS_num zs
    have hcn := fitC_num zs
    have HEQ := fun w => Lib.hid (eqLaw_any 0 (fitS zs) (fitC zs) hsn hcn w)
    have HSF := fun a len cap w h hn => Lib.hid (specFit_any a len cap zs w h hn)
    have HIF := fun a len cap w h hn => Lib.hid (implFit_any a len cap zs w h hn)
    clear hsn hcn
    generalize fitS zs = fs at *
    generalize fitC zs = fc at *
    generalize fitB zs = fb at *
    go_enter Try.func10, Try.ntmps10
    go_wp2_with fail
    refine (szLifeS_any a len cap 1048576 _ (by decide) hml).mono ?_
    rintro e w1 ⟨rfl, rfl⟩
    rw [if_neg (show ¬ ((1048576 : Int) < (len : Int)) by omega)]
    go_wp2_with fail
    refine (toLifeS_made a len cap zs _ H.out hn').mono ?_
    rintro e w1 ⟨rfl, m1, b1⟩
    have R1 := Lib.hid (m1.row HL.out hml HZ.out)
    have B1 := Lib.hid b1
    clear m1 b1
    go_wp2_with fail
    refine (HSF _ len len _ R1.out hn').out.mono ?_
    rintro e w2 ⟨rfl, b2⟩
    have B2 := Lib.hid ((B1.out.trans (b2.mono B1.out.size)).alloc (B1.out.trans (b2.mono B1.out.size)).size (Obj.cells #[.int .i64 0, .float .f32 fs, .float .f32 fc] 46 (0, 0)))
    have hr : (w2.alloc (Obj.cells #[.int .i64 0, .float .f32 fs, .float .f32 fc] 46 (0, 0))).heap[w2.heap.size]? = some (Obj.cells #[.int .i64 0, .float .f32 fs, .float .f32 fc] 46 (0, 0)) := heap_alloc_new _ _
    have HR2 := Lib.hid hr
    clear b2 hr
    go_wp2_with fail
    generalize w2.alloc (Obj.cells #[.int .i64 0, .float .f32 fs, .float .f32 fc] 46 (0, 0)) = w2x at *
    refine (toLifeS_made a len cap zs _ (H.out.keep B2.out) hn').mono ?_
    rintro e w3 ⟨rfl, m3, b3⟩
    have R3 := Lib.hid (m3.row HL.out hml HZ.out)
    have B3 := Lib.hid (B2.out.trans (b3.mono B2.out.size))
    have K3 := Lib.hid b3
    clear m3 b3
    go_wp2_with fail
    refine (HIF _ len len _ R3.out hn').out.mono ?_
    rintro e w4 ⟨rfl, b4⟩
    have R4 := Lib.hid (R3.out.keep b4)
    have R4 := Lib.hid (R4.out.keep (Below.alloc (Below.refl _ w4) (Nat.le_refl _) (Obj.cells #[.int .i64 0, .float .f32 fs, .float .f32 fc] 46 (0, 0))))
    have B4 := Lib.hid ((B3.out.trans (b4.mono B3.out.size)).alloc (B3.out.trans (b4.mono B3.out.size)).size (Obj.cells #[.int .i64 0, .float .f32 fs, .float .f32 fc] 46 (0, 0)))
    have hr : (w4.alloc (Obj.cells #[.int .i64 0, .float .f32 fs, .float .f32 fc] 46 (0, 0))).heap[w4.heap.size]? = some (Obj.cells #[.int .i64 0, .float .f32 fs, .float .f32 fc] 46 (0, 0)) := heap_alloc_new _ _
    obtain ⟨⟨t0, t1, t2⟩, _, hlt4⟩ := three hr (Below.refl _ _)
    have K4 := K3.out.trans (b4.mono K3.out.size)
    obtain ⟨⟨u0, u1, u2⟩, _, hlt2⟩ := three HR2.out (K4.alloc K4.size (Obj.cells #[.int .i64 0, .float .f32 fs, .float .f32 fc] 46 (0, 0)))
    clear b4 hr K4
    go_wp2_with fail
    refine (HEQ _).out.mono ?_
    rintro e w5 ⟨rfl, b5⟩
    have R4 := Lib.hid (R4.out.keep b5)
    have B4 := Lib.hid (B4.out.trans (b5.mono B4.out.size))
    clear b5 t0 t1 t2 u0 u1 u2
    go_wp2_with fail
    refine (toLifeS_made a len cap zs _ (H.out.keep B4.out) hn').mono ?_
    rintro e w5 ⟨rfl, m5, b5⟩
    have R5 := Lib.hid (m5.row HL.out hml HZ.out)
    have R45 := Lib.hid (R4.out.keep b5)
    have B5 := Lib.hid (B4.out.trans (b5.mono B4.out.size))
    clear m5 b5
    go_wp2_with fail
    refine (eqLifeS_any _ _ len len len zs _ R45.out R5.out hn').mono ?_
    rintro e w6 ⟨rfl, b6⟩
    have B6 := Lib.hid (B5.out.trans (b6.mono B5.out.size))
    clear b6
    go_wp2_with fail
    go_ret
    exact ⟨rfl, B6.out⟩
end Go.Proofs.Ytncekpiabklkeaa
