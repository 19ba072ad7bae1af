/-
  What float operations give where a not-a-number is drawn, for every program; worlds that differ by draws alone. No conditions beyond those stated.
-/
import Derived.Laws.FloatArith
import Derived.WalkKit
import Derived.WalkLawsBesides
import Derived.Below
import Derived.Test.YtemdgfjcjjadnaaFlt
namespace Flt
open Go

/-- the world after some draws -/
def Drawn (w w' : World) : Prop := ∃ n, w' = w.drewN n
theorem Drawn.refl (w : World) : Drawn w w := ⟨0, rfl⟩
theorem drew_drewN (w : World) (n : Nat) : (w.drewN n).drew = w.drewN (n + 1) := by simp [World.drew, World.drewN]; omega
theorem drewN_drewN (w : World) (n m : Nat) : (w.drewN n).drewN m = w.drewN (n + m) := by simp [World.drewN]; omega
theorem Drawn.one (w : World) : Drawn w w.drew := ⟨1, rfl⟩
theorem Drawn.drew {w w' : World} (h : Drawn w w') : Drawn w w'.drew := by obtain ⟨n, rfl⟩ := h; exact ⟨n + 1, drew_drewN w n⟩
theorem Drawn.trans {a b c : World} (h : Drawn a b) (g : Drawn b c) : Drawn a c := by obtain ⟨n, rfl⟩ := h; obtain ⟨m, rfl⟩ := g; exact ⟨n + m, drewN_drewN a n m⟩
theorem Drawn.below {w w' : World} (h : Drawn w w') (B : Nat) : Go.RowKit.Below B w w' := by obtain ⟨n, rfl⟩ := h; exact below_drewN (Go.RowKit.Below.refl _ _) n
theorem Drawn.cell {w w' : World} (h : Drawn w w') (p : Addr) : w'.cell? p = w.cell? p := by obtain ⟨n, rfl⟩ := h; rfl

/-- the not-a-number that is drawn -/
def drawNan (k : FloatKind) (x y : Nat) (w : World) : Nat := Question.cut (.nanBits k x y) (w.tape w.drawn (.nanBits k x y))
def convNan (k : FloatKind) (x : Nat) (w : World) : Nat := Question.cut (.nanConv k x) (w.tape w.drawn (.nanConv k x))

theorem cutNan (k : FloatKind) (q : Question) (hq : (∃ x y, q = .nanBits k x y) ∨ (∃ x, q = .nanConv k x)) (t : Nat) : nan k (q.cut t) = true ∧ q.cut t < 2 ^ k.format.width := by
  have h : q.cut t = match k with
      | .f32 => (t % 2) * 2 ^ 31 + 0x7f800000 + 1 + (t / 2) % (2 ^ 23 - 1)
      | .f64 => (t % 2) * 2 ^ 63 + 0x7ff0000000000000 + 1 + (t / 2) % (2 ^ 52 - 1) := by
    rcases hq with ⟨x, y, rfl⟩ | ⟨x, rfl⟩ <;> cases k <;> rfl
  rw [h]
  cases k
  · have e : ∀ b, nan .f32 b = decide (2139095040 < b % 2147483648) := fun _ => rfl
    simp only
    rw [e]
    have h1 : (t / 2) % (2 ^ 23 - 1) < 2 ^ 23 - 1 := Nat.mod_lt _ (by decide)
    have h2 : t % 2 < 2 := Nat.mod_lt _ (by decide)
    clear h hq
    generalize (t / 2) % (2 ^ 23 - 1) = u at *
    generalize t % 2 = v at *
    refine ⟨decide_eq_true (by omega), ?_⟩
    show _ < 2 ^ 32
    omega
  · have e : ∀ b, nan .f64 b = decide (9218868437227405312 < b % 9223372036854775808) := fun _ => rfl
    simp only
    rw [e]
    have h1 : (t / 2) % (2 ^ 52 - 1) < 2 ^ 52 - 1 := Nat.mod_lt _ (by decide)
    have h2 : t % 2 < 2 := Nat.mod_lt _ (by decide)
    clear h hq
    generalize (t / 2) % (2 ^ 52 - 1) = u at *
    generalize t % 2 = v at *
    refine ⟨decide_eq_true (by omega), ?_⟩
    show _ < 2 ^ 64
    omega

theorem drawNan_nan (k : FloatKind) (x y : Nat) (w : World) : nan k (drawNan k x y w) = true := (cutNan k _ (.inl ⟨x, y, rfl⟩) _).1
theorem drawNan_lt (k : FloatKind) (x y : Nat) (w : World) : drawNan k x y w < 2 ^ k.format.width := (cutNan k _ (.inl ⟨x, y, rfl⟩) _).2
theorem convNan_nan (k : FloatKind) (x : Nat) (w : World) : nan k (convNan k x w) = true := (cutNan k _ (.inr ⟨x, rfl⟩) _).1
theorem convNan_lt (k : FloatKind) (x : Nat) (w : World) : convNan k x w < 2 ^ k.format.width := (cutNan k _ (.inr ⟨x, rfl⟩) _).2

def isArith (op : BinOp) : Bool := match op with | .add | .sub | .mul | .quo => true | _ => false

section
variable {P : Program} (w : World)
theorem run_arith_nan (op : BinOp) (hop : isArith op = true) (t : TypeId) (k : FloatKind) (x y : Nat) (h : floatBits op k x y = none) :
    (binOp op t (.float k x) (.float k y)).run P w = .ok (.float k (drawNan k x y w)) w.drew := by
  unfold floatBits at h
  cases op <;> simp [isArith] at hop <;> simp only at h
  all_goals simp [binOp, Op.floatArith, h, Question.forced, drawNan]

theorem run_conv_nan (src dst : TypeId) (s k : FloatKind) (b : Nat) (hs : (P.underlying src).isSome = true) (hd : P.underlying dst = some (.float k)) (hsk : s ≠ k) (h : nan s b = true) :
    (convert src dst (.float s b)).run P w = .ok (.float k (convNan k b w)) w.drew := by
  obtain ⟨u, hs'⟩ := Option.isSome_iff_exists.1 hs
  obtain ⟨t, ht⟩ := read_nan s.format b (by simpa [nan] using h) (bin_le s)
  have ht' : s.decode b = .nan (b / s.format.signWeight % 2 == 1) t := ht
  cases u <;> simp [convert, run_underlying hs', run_underlying hd, Conv.floatToFloat, hsk, ht', Question.forced, convNan]
end
end Flt
