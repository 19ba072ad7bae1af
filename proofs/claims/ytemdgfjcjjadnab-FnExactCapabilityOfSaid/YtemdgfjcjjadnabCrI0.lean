/-
  The sum of a list of 32-bit numbers, told as a number or none, in the program. Conditions: the list reads as a list of numbers.
-/
import Derived.Test.YtemdgfjcjjadnabCrP
namespace Go.Proofs.Ytemdgfjcjjadnab
open Go.RowKit Flt Dec
theorem sumOf_is (a : Option Addr) (len cap : Nat) (zs : List Nat) (o : Option Nat) (w : World) (h : FRow w a len zs) (hn : len ≤ 256) (hs : Flt.sumO zs = o) :
    Calls Try.prog 56 #[.slice a len cap] w fun e w' => (∃ v, e = .returned (.float .f32 v) ∧ F32.Is o v) ∧ Drawn w w' := by
  have H := Lib.hid h
  have HS := Lib.hid hs
  clear h hs
  go_enter Try.func56, Try.ntmps56
  go_wp2_with fail
  refine (implSum_yes a len cap zs _ H.out hn).mono ?_
  rintro e w1 ⟨v, rfl, hi, d1⟩
  have HI : Hid (F32.Is o v) := by rw [HS.out] at hi; exact hi
  have D1 := Lib.hid d1
  clear hi d1
  go_wp2_with fail
  go_ret
  exact ⟨⟨v, rfl, HI.out⟩, D1.out⟩
end Go.Proofs.Ytemdgfjcjjadnab
