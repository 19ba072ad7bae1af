/-
  The line of lives over stresses, in the program. Conditions: the lists read as lists of at most 2^20 numbers.
-/
import Derived.Test.YtppkeabkjabhdaaSfI
import Derived.Test.YtppkeabkjabhdaaSfM
namespace Go.Proofs.Ytppkeabkjabhdaa
open Go.RowKit Flt Dec Cm We Cr Liv Hld
@[go_sem] theorem run_store_fn {P : Program} {w : World} {a : Addr} {m : Mode} (f : Fn) (xs : Array Value) (ys : Array Value) : (store a (.func f xs ys) m).run P w = stored P w a (.func f xs ys) m := run_store P w a _ m rfl
@[go_sem] theorem run_store_nilfn {P : Program} {w : World} {a : Addr} {m : Mode} : (store a .nilFunc m).run P w = stored P w a .nilFunc m := run_store P w a _ m rfl
theorem stressOf0_any (w : World) : Calls Try.prog 98 #[.int .i64 0] w fun e w' => e = .returned (.tuple #[.agg #[.func (.func 113) #[] #[], .func (.func 114) #[] #[]], .bool true]) ∧ Below w.heap.size w w' := by
  have hb := Blk.Blk.new w #[.func (.func 113) #[] #[], .func (.func 114) #[] #[]] 93
  have y6 : (w.alloc (.cells #[.func (.func 113) #[] #[], .func (.func 114) #[] #[]] 93)).cell? ⟨w.heap.size, 0, none⟩ = some (.func (.func 113) #[] #[]) := hb.cell 0
  have y7 : (w.alloc (.cells #[.func (.func 113) #[] #[], .func (.func 114) #[] #[]] 93)).cell? ⟨w.heap.size, 1, none⟩ = some (.func (.func 114) #[] #[]) := hb.cell 1
  clear hb
  go_enter Try.func98, Try.ntmps98
  go_wp2_with fail
  exact bodyPost_ret (v := .tuple #[.agg #[.func (.func 113) #[] #[], .func (.func 114) #[] #[]], .bool true]) (by simp [results, Try.results98, go_sem, y6, y7]) rfl ⟨rfl, (Below.refl _ _).alloc (Nat.le_refl _) _⟩
theorem stressOf1_any (w : World) : Calls Try.prog 98 #[.int .i64 1] w fun e w' => e = .returned (.tuple #[.agg #[.func (.func 115) #[] #[], .func (.func 100) #[] #[]], .bool true]) ∧ Below w.heap.size w w' := by
  have hb := Blk.Blk.new w #[.func (.func 115) #[] #[], .func (.func 100) #[] #[]] 93
  have y6 : (w.alloc (.cells #[.func (.func 115) #[] #[], .func (.func 100) #[] #[]] 93)).cell? ⟨w.heap.size, 0, none⟩ = some (.func (.func 115) #[] #[]) := hb.cell 0
  have y7 : (w.alloc (.cells #[.func (.func 115) #[] #[], .func (.func 100) #[] #[]] 93)).cell? ⟨w.heap.size, 1, none⟩ = some (.func (.func 100) #[] #[]) := hb.cell 1
  clear hb
  go_enter Try.func98, Try.ntmps98
  go_wp2_with fail
  exact bodyPost_ret (v := .tuple #[.agg #[.func (.func 115) #[] #[], .func (.func 100) #[] #[]], .bool true]) (by simp [results, Try.results98, go_sem, y6, y7]) rfl ⟨rfl, (Below.refl _ _).alloc (Nat.le_refl _) _⟩
theorem stressOf2_any (w : World) : Calls Try.prog 98 #[.int .i64 2] w fun e w' => e = .returned (.tuple #[.agg #[.func (.func 116) #[] #[], .func (.func 117) #[] #[]], .bool true]) ∧ Below w.heap.size w w' := by
  have hb := Blk.Blk.new w #[.func (.func 116) #[] #[], .func (.func 117) #[] #[]] 93
  have y6 : (w.alloc (.cells #[.func (.func 116) #[] #[], .func (.func 117) #[] #[]] 93)).cell? ⟨w.heap.size, 0, none⟩ = some (.func (.func 116) #[] #[]) := hb.cell 0
  have y7 : (w.alloc (.cells #[.func (.func 116) #[] #[], .func (.func 117) #[] #[]] 93)).cell? ⟨w.heap.size, 1, none⟩ = some (.func (.func 117) #[] #[]) := hb.cell 1
  clear hb
  go_enter Try.func98, Try.ntmps98
  go_wp2_with fail
  exact bodyPost_ret (v := .tuple #[.agg #[.func (.func 116) #[] #[], .func (.func 117) #[] #[]], .bool true]) (by simp [results, Try.results98, go_sem, y6, y7]) rfl ⟨rfl, (Below.refl _ _).alloc (Nat.le_refl _) _⟩
theorem stressOfN_any (kd : Int) (h : ¬ (0 ≤ kd ∧ kd ≤ 2)) (w : World) : Calls Try.prog 98 #[.int .i64 kd] w fun e w' => e = .returned (.tuple #[.agg #[.nilFunc, .nilFunc], .bool false]) ∧ Below w.heap.size w w' := by
  have hb := Blk.Blk.new w #[.nilFunc, .nilFunc] 93
  have y6 : (w.alloc (.cells #[.nilFunc, .nilFunc] 93)).cell? ⟨w.heap.size, 0, none⟩ = some .nilFunc := hb.cell 0
  have y7 : (w.alloc (.cells #[.nilFunc, .nilFunc] 93)).cell? ⟨w.heap.size, 1, none⟩ = some .nilFunc := hb.cell 1
  clear hb
  have h0 : ¬ kd = 0 := by omega
  have h1 : ¬ kd = 1 := by omega
  have h2 : ¬ kd = 2 := by omega
  go_enter Try.func98, Try.ntmps98
  go_wp2_with fail
  exact bodyPost_ret (v := .tuple #[.agg #[.nilFunc, .nilFunc], .bool false]) (by simp [results, Try.results98, go_sem, y6, y7]) rfl ⟨rfl, (Below.refl _ _).alloc (Nat.le_refl _) _⟩
theorem place0_any : PTest (fun z => F32.opO .quo (some 1065353216) (some z)) 114 := by
  intro W z hz hp
  have h1I : F32.Is (some 1065353216) 1065353216 := ⟨rfl, by decide, by decide⟩
  obtain ⟨x, v3, r3, j3, l3, d3⟩ := F32.arith_ex (P := Try.prog) (op := .quo) (.inr (.inr (.inr rfl))) 31 h1I (fin_isN (pos_fin hp) hz) W
  go_enter Try.func114, Try.ntmps114
  go_wp2_with fail
  go_ret
  exact ⟨⟨x, rfl, j3, l3⟩, d3⟩
theorem place2_any : PTest (fun z => some z) 117 := by
  intro W z hz hp
  have hI := fin_isN (pos_fin hp) hz
  go_enter Try.func117, Try.ntmps117
  go_wp2_with fail
  go_ret
  exact ⟨⟨z, rfl, hI, hz⟩, Drawn.refl _⟩
theorem place1_any : PTest logOut 100 := by
  intro W z hz hp
  refine (implLogN_any z hz W).mono ?_
  rintro e w' ⟨v, rfl, iv, d⟩
  obtain ⟨u, hu⟩ := log_pos hp hz
  rw [hu] at iv
  exact ⟨⟨v, rfl, by rw [hu]; exact iv, iv.2.2⟩, d⟩
end Go.Proofs.Ytppkeabkjabhdaa
