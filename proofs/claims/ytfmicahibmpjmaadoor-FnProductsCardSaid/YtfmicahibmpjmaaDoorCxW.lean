/-
  Lists of complex numbers of an answer: their rows, comparison, marks and reading. No conditions beyond those stated.
-/
import Derived.Test.YtfmicahibmpjmaaDoorSlW
import Derived.Test.YtfmicahibmpjmaaDoorBnd
import Derived.Test.YtfmicahibmpjmaaDoorMarkW
import Derived.Laws.Cover2
import Derived.Laws.Cover3
import Derived.Laws.ComplexArith
namespace Dec
open Go Flt
def CRow (w : World) (a : Option Addr) (len : Nat) (zs : List (Nat × Nat)) : Prop :=
  zs.length = len ∧ len ≤ maxLen ∧ (∀ z ∈ zs, z.1 < 4294967296 ∧ z.2 < 4294967296) ∧ ∀ i, i < len → ∃ b off, a = some ⟨b, off, none⟩ ∧ b < w.heap.size ∧ w.cell? ⟨b, off + i, none⟩ = some (.complex .f32 (zs.getD i (0, 0)).1 (zs.getD i (0, 0)).2)
theorem CRow.keep {w w' : World} {a : Option Addr} {len : Nat} {zs : List (Nat × Nat)} (h : CRow w a len zs) (hb : Go.RowKit.Below w.heap.size w w') : CRow w' a len zs := by
  obtain ⟨h1, h2, h3, h4⟩ := h
  refine ⟨h1, h2, h3, fun i hi => ?_⟩
  obtain ⟨b, off, e, hlt, hc⟩ := h4 i hi
  exact ⟨b, off, e, Nat.lt_of_lt_of_le hlt hb.size, by rw [World.cell?_of_block (w := w) (hb.block b hlt)]; exact hc⟩
def mc (j : Nat) : Nat := (Go.floatToFloatBits .f64 (Go.floatOfInt .f64 (1 + (j : Int))) .f32).getD 0
def mC (j : Nat) : Value := .complex .f32 (mc j) 1065353216
theorem mc_all : ((List.range 257).all fun j => (cConvBits .f64 (Go.floatOfInt .f64 (1 + (j : Int))) 4607182418800017408 .f32 == some (mc j, 1065353216)) && !nan .f32 (mc j)) = true := by kernel_rfl
theorem mc_at (j : Nat) (h : j ≤ 256) : cConvBits .f64 (Go.floatOfInt .f64 (1 + (j : Int))) 4607182418800017408 .f32 = some (mc j, 1065353216) ∧ nan .f32 (mc j) = false := by
  have := List.all_eq_true.1 mc_all j (List.mem_range.2 (by omega))
  simpa using this
theorem mC_self (j : Nat) (h : j ≤ 256) : (FloatKind.f32.format.order (mc j) (mc j) == some .eq) = true := by
  rw [order_self', (mc_at j h).2]; rfl
def CWide (z y : Nat) : Prop := y < 18446744073709551616 ∧ (if nan .f32 z then nan .f64 y = true else y = W z)
end Dec
namespace Go.Proofs.YtfmicahibmpjmaaDoor
open Go.RowKit Dec Flt
@[go_sem] theorem run_store_cx {P : Program} {w : World} {a : Addr} {m : Mode} (k : FloatKind) (b c : Nat) : (store a (.complex k b c) m).run P w = stored P w a (.complex k b c) m := run_store P w a _ m rfl
theorem mC_run (j : Nat) (h : j ≤ 256) (w : World) : (convert 55 42 (.complex .f64 (Go.floatOfInt .f64 (1 + (j : Int))) 4607182418800017408)).run Tryd.prog w = .ok (mC j) w :=
  run_convert_complex w 55 42 .f64 .f32 _ _ _ _ (by rw [Tryd.underlying55]; rfl) Tryd.underlying42 (mc_at j h).1
theorem fconv_all (z : Nat) (w : World) : ∃ u w', (Conv.floatToFloat .f32 z .f64).run Tryd.prog w = .ok (.float .f64 u) w' ∧ CWide z u ∧ Drawn w w' := by
  unfold CWide
  cases hn : nan .f32 z
  · exact ⟨W z, w, run_floatToFloat w (W_conv z hn), ⟨W_lt z, by simp⟩, Drawn.refl w⟩
  · obtain ⟨s, t, ht⟩ := nan_read hn
    have ht' : FloatKind.f32.decode z = .nan s t := ht
    exact ⟨convNan .f64 z w, w.drew, by simp [Conv.floatToFloat, ht', Question.forced, convNan], ⟨convNan_lt .f64 z w, by simpa using convNan_nan .f64 z w⟩, Drawn.one w⟩
theorem cx_widen (x y : Nat) (w : World) : ∃ u v w', (convert 42 55 (.complex .f32 x y)).run Tryd.prog w = .ok (.complex .f64 u v) w' ∧ CWide x u ∧ CWide y v ∧ Drawn w w' := by
  have hs : Tryd.prog.underlying 42 = some (.complex .f32) := Tryd.underlying42
  have hd : Tryd.prog.underlying 55 = some (.complex .f64) := Tryd.underlying55
  obtain ⟨u, w1, h1, hu, d1⟩ := fconv_all x w
  obtain ⟨v, w2, h2, hv, d2⟩ := fconv_all y w1
  exact ⟨u, v, w2, by simp [convert, run_underlying hs, run_underlying hd, Conv.complexToComplex, h1, h2], hu, hv, d1.trans d2⟩
def eqVC (s1 s2 : Value) (k : Nat) (p1 p2 : Addr) (zx zy : Nat) : Nat → Value → Prop
  | 0, v => v = s1
  | 1, v => v = .int .i64 k
  | 2, v => v = .pointer (some p1)
  | 3, v => v = .complex .f32 zx zy
  | 4, v => ∃ u' v', v = .complex .f64 u' v' ∧ CWide zx u' ∧ CWide zy v'
  | 5, v => v = s2
  | 6, v => v = .int .i64 k
  | 7, v => v = .pointer (some p2)
  | 8, v => v = .complex .f32 zx zy
  | 9, v => ∃ u' v', v = .complex .f64 u' v' ∧ CWide zx u' ∧ CWide zy v'
  | 10, v => v = .bool true
  | 11, v => v = .bool false
  | _, _ => True

end Go.Proofs.YtfmicahibmpjmaaDoor
