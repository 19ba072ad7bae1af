/-
  Lists of 32-bit numbers, and single ones, held against one another by the laws. No conditions beyond those stated.
-/
import Derived.Test.YtemdgfjcjjadnaaEqW
import Derived.Test.YtemdgfjcjjadnaaKeep
namespace Go.Proofs.Ytemdgfjcjjadnaa
open Go.RowKit Flt
theorem samF_any (v : Nat) (w : World) (hn : nan .f32 v = false) :
    Calls Try.prog 35 #[.float .f64 (W v), .float .f64 (W v)] w fun e w' => e = .returned (.bool true) ∧ Below w.heap.size w w' := by
  have hw : Wide v (W v) := ⟨W_lt v, by rw [if_neg (by rw [hn]; decide)]⟩
  refine (same_wide v (W v) (W v) hw hw w).mono fun _ _ h => ⟨h.1, ?_⟩
  rw [← h.2]; exact Below.refl _ _
theorem conv_num (v : Nat) (hn : nan .f32 v = false) : ∀ w, (convert 44 49 (.float .f32 v)).run Try.prog w = .ok (.float .f64 (W v)) w := fun w => by
  have := widen_run v w
  rw [if_neg (by rw [hn]; decide), if_neg (by rw [hn]; decide)] at this
  exact this
end Go.Proofs.Ytemdgfjcjjadnaa
