/-
  The library's stable sort of lives: the insertion into blocks. Conditions: the function that compares tells a strict weak order of the elements.
-/
import Derived.Test.YtplfmdjccmhclabSrtL
namespace Liv
open Go Go.Sort
theorem perm_all {α : Type} [Inhabited α] {V : α → Prop} {a b : Nat} {d e : Array α} (h : PermIn a b d e) (hb : b ≤ d.size) (hV : ∀ i, i < d.size → V d[i]!) : ∀ i, i < d.size → V e[i]! := by
  intro i hi
  by_cases hab : a ≤ i ∧ i < b
  · exact permIn_all d e a b V hb h (fun j _ hj => hV j (by omega)) i hab.1 hab.2
  · rw [h.2.1 i (by omega)]; exact hV i hi
theorem ins_start {α : Type} [Inhabited α] {lt : α → α → Bool} {a i : Nat} {d : Array α} (h : SortedIn lt a i d) : Ins lt a i i d :=
  ⟨fun p q hp hpq hq _ hqi => h p q hp hpq (by omega), fun q h1 h2 => by omega⟩
end Liv
namespace Go.Proofs.Ytplfmdjccmhclab
open Go.RowKit Liv Flt Go.Sort Stb
/-- what is asked of a comparison that is handed on -/
def CmpL (cf : Nat × Bool → Nat × Bool → Int) (V : Nat × Bool → Prop) (fc : Nat) (lb : Array Value) : Prop :=
  ∀ (W : World) (x y : Nat × Bool), V x → V y → Calls Try.prog fc (#[.agg #[.float .f32 x.1, .bool x.2], .agg #[.float .f32 y.1, .bool y.2]] ++ lb) W fun e w' => e = .returned (.int .i64 (cf x y)) ∧ Grn W w'
def ltL (cf : Nat × Bool → Nat × Bool → Int) (x y : Nat × Bool) : Bool := decide (cf x y < 0)
end Go.Proofs.Ytplfmdjccmhclab
