/-
  Contracts: with how many sets of each size a system works, in the program and in its model. Conditions: the lists read as lists of whole numbers.
-/
import Derived.Test.YtaecdeickncpcaaCntW
import Derived.Test.YtaecdeickncpcaaGivW
import Derived.Deep.RegionHeld3
namespace Syl
open Go Dec
def wcL (p : Int) (zs : List Int) : List Int := cntL p.toNat (setsF (2 ^ p.toNat) (worksB zs) (2 ^ p.toNat))
def wcA (p : Int) (zs : List Int) : List Int := if sysB p zs then wcL p zs else []
theorem wcA_len (p : Int) (zs : List Int) : (wcA p zs).length ≤ 1048576 := by
  unfold wcA
  cases h : sysB p zs with
  | false => simp
  | true => have := sysB_parts h; simp only [↓reduceIte]; unfold wcL; rw [cntL_len]; omega
theorem cnt_bd {p T : Nat} {is : Int → Bool} {k : Nat} (hk : k ≤ 1024) : ∀ z ∈ cntL p (setsF T is k), 0 ≤ z ∧ z ≤ 1024 := fun z hz => by
  have h1 := cntL_bd p _ z hz
  have h2 := setsF_len T is k
  omega
end Syl
namespace Go.Proofs.Ytaecdeickncpcaa
open Go.RowKit Dec Flt Syl Sep
theorem worksOf_any (p : Int) (a : Option Addr) (len cap : Nat) (w : World) :
    Calls Try.prog 67 #[.agg #[.int .i64 p, .slice a len cap]] w fun e w' => e = .returned (.func (.func 109) #[] #[.pointer (some ⟨w.heap.size, 0, none⟩)]) ∧ SVar 26 w' w.heap.size p a len cap ∧ Below w.heap.size w w' := by
  have k0 := Lib.hid (Blk.Blk.new w #[.int .i64 p, .slice a len cap] 26)
  go_enter Try.func67, Try.ntmps67
  go_wp2_with fail
  go_ret
  exact ⟨rfl, k0.out, (Below.refl _ _).alloc (Nat.le_refl _) _⟩
theorem worksOf1_any (t : Int) (g : Nat) (p : Int) (a : Option Addr) (len cap : Nat) (zs : List Int) (w : World) (hv : SVar 26 w g p a len cap) (h : IRow w a len zs) :
    Calls Try.prog 109 #[.int .i64 t, .pointer (some ⟨g, 0, none⟩)] w fun e w' => e = .returned (.bool (worksB zs t)) ∧ Below w.heap.size w w' := by
  have H := Lib.hid h
  obtain ⟨⟨v0, v1⟩, _, _⟩ := hv.two
  clear h hv
  go_enter Try.func109, Try.ntmps109
  go_wp2_with fail
  refine (hasOne_any t a len cap zs _ H.out).mono ?_
  rintro e w1 ⟨rfl, b1⟩
  have B1 := Lib.hid b1
  clear b1
  go_wp2_with fail
  go_ret
  exact ⟨rfl, B1.out⟩
end Go.Proofs.Ytaecdeickncpcaa
