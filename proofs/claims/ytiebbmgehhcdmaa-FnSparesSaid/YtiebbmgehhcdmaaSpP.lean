/-
  Needs, services and split spares at the arguments that the law chooses, all of them reckoned. Plain facts; no conditions beyond those stated.
-/
import Derived.Test.YtiebbmgehhcdmaaSplP
namespace Flt.Sp
open Go Flt Nd Cm Spl Go.Proofs.Ytiebbmgehhcdmaa
def mq (i : Nat) : Nat := opC .quo (Go.floatOfInt .f32 (i : Int)) 1082130432
def hq (i : Nat) : Nat := opC .quo (Go.floatOfInt .f32 (i : Int)) 1073741824
def sq (i : Nat) : Nat := opC .quo (Go.floatOfInt .f32 (i : Int)) 1098907648
def opD (op : Go.BinOp) (a b : Nat) : Nat := (Go.floatBits op .f64 a b).getD 0
theorem opC_of {op : Go.BinOp} {a b : Nat} (h : (Go.floatBits op .f32 a b).isSome = true) : Go.floatBits op .f32 a b = some (opC op a b) := by
  unfold opC
  obtain ⟨v, hv⟩ := Option.isSome_iff_exists.1 h
  rw [hv]; rfl
theorem opD_of {op : Go.BinOp} {a b : Nat} (h : (Go.floatBits op .f64 a b).isSome = true) : Go.floatBits op .f64 a b = some (opD op a b) := by
  unfold opD
  obtain ⟨v, hv⟩ := Option.isSome_iff_exists.1 h
  rw [hv]; rfl
/-- the greater one of two numbers of 64 bits, as the builtin tells it -/
def maxD (x y : Nat) : Nat := match FloatKind.f64.format.order x y with
  | some .lt => y
  | some .gt => x
  | _ => if (FloatKind.f64.decode x).neg then y else x
def kd (m k : Nat) : Nat := opC .mul (nd m k) (Go.floatOfInt .f32 (k : Int))
def sm (m : Nat) : Nat → Nat
  | 0 => 0
  | k + 1 => opD .add (sm m k) (W (nd m k))
def g1 (a b : Nat) : Nat := opD .sub (W a) (W b)
def gapOk (a b : Nat) : Bool := !(nan .f32 a) && !(nan .f32 b) && (Go.floatBits .sub .f64 (W a) (W b)).isSome && (Go.floatBits .sub .f64 (W b) (W a)).isSome && !(nan .f64 (g1 a b)) && !(nan .f64 (g1 b a)) && !(FloatKind.f64.format.order (maxD (g1 a b) (g1 b a)) 4562254508917369340 == some .gt)
def chk1 (m k : Nat) : Bool :=
  !(FloatKind.f32.format.order (nd m k) 0 == some .lt) &&
  (Go.floatBits .mul .f32 (nd m k) (Go.floatOfInt .f32 (k : Int))).isSome &&
  (k == 0 || gapOk (kd m k) (mulM m (nd m (k - 1)))) &&
  (Go.floatBits .add .f64 (sm m k) (W (nd m k))).isSome && !(FloatKind.f64.format.order (sm m (k + 1)) 4607186922399644778 == some .gt)
def chk2 (m s : Nat) : Bool :=
  spB m s && decide (0 ≤ spK m s ∧ spK m s ≤ 32) && stB m (spK m s) 1065353216 && !(FloatKind.f32.format.order (stA m (spK m s) 1065353216) s == some .lt) &&
  (decide (spK m s ≤ 0) || (stB m (spK m s - 1) 1065353216 && !(gq (stA m (spK m s - 1) 1065353216) s)))
def chk3 (z n : Nat) : Bool :=
  stB z (n : Int) 1065353216 && decide (stA z (n : Int) 1065353216 = srv z (n + 1)) && decide (S .f32 (lack z (n + 2)) ≤ S .f32 (lack z (n + 1)))
def okM (m : Nat) : Bool := mn m && decide (m < 4294967296)
theorem m_all : ((List.range 24).all fun i => (Go.floatBits .quo .f32 (Go.floatOfInt .f32 (i : Int)) 1082130432).isSome && okM (mq i)) = true := by decide +kernel
theorem h_all : ((List.range 16).all fun i => (Go.floatBits .quo .f32 (Go.floatOfInt .f32 (i : Int)) 1073741824).isSome && okM (hq i)) = true := by decide +kernel
theorem s_all : ((List.range 16).all fun i => (Go.floatBits .quo .f32 (Go.floatOfInt .f32 (i : Int)) 1098907648).isSome && decide (sq i < 4294967296)) = true := by decide +kernel
theorem c1_all : ((List.range 24).all fun i => (List.range 24).all fun k => chk1 (mq i) k) = true := by decide +kernel
theorem c2_all : ((List.range 24).all fun i => (List.range 16).all fun j => chk2 (mq i) (sq j)) = true := by decide +kernel
theorem c3_all : ((List.range 16).all fun i => (List.range 21).all fun n => chk3 (hq i) n) = true := by decide +kernel
end Flt.Sp
