/-
  The library's stable sort of 32-bit numbers: the insertion into blocks. Conditions: the function that compares tells a strict weak order of the elements.
-/
import Derived.Test.YtplfmdjccmhclabSrtF
import Derived.Test.YtplfmdjccmhclabSrtL2
namespace Go.Proofs.Ytplfmdjccmhclab
open Go.RowKit Liv Flt Go.Sort Stb
/-- what is asked of a comparison that is handed on -/
def CmpF (cf : Nat → Nat → Int) (V : Nat → Prop) (fc : Nat) (lb : Array Value) : Prop :=
  ∀ (W : World) (x y : Nat), V x → V y → Calls Try.prog fc (#[.float .f32 x, .float .f32 y] ++ lb) W fun e w' => e = .returned (.int .i64 (cf x y)) ∧ Grn W w'
def ltF (cf : Nat → Nat → Int) (x y : Nat) : Bool := decide (cf x y < 0)
set_option maxHeartbeats 4000000 in
theorem insertionF_any (cf : Nat → Nat → Int) (V : Nat → Prop) (fc : Nat) (lb : Array Value) (eg : ∀ args w, (callFunc fc args).run Try.prog w = .ok (.enter fc args) w) (hS : SWO (ltF cf)) (hc : CmpF cf V fc lb)
    (cap g a b sz : Nat) (d : Array (Nat)) (hsz : d.size = sz) (hV : ∀ i, i < d.size → V d[i]!) (w : World) (h : FArr 23 w g d) (hab : a ≤ b) (hb : b ≤ sz) (hs : sz ≤ 1048576) :
    Calls Try.prog 132 #[.slice (some ⟨g, 0, none⟩) sz cap, .int .i64 a, .int .i64 b, .func (.func fc) #[] lb] w fun e w' => e = .returned (.tuple #[]) ∧ (∃ d', PermIn a b d d' ∧ SortedIn (ltF cf) a b d' ∧ FArr 23 w' g d') ∧ Below g w w' := by
  have mixed : Try.prog.follows .mixedOrders = true := by kernel_rfl
  have H := Lib.hid h
  have HSZ := Lib.hid hsz
  have HV := Lib.hid hV
  have HC := Lib.hid hc
  have HS := Lib.hid hS
  clear h hsz hV hc hS
  go_enter Try.func132, Try.ntmps132
  go_wp2_with fail
  go_loopg [8] (b - a) (fun k vi wr => ∃ (i : Nat) (e : Array (Nat)), vi = .int .i64 i ∧ a < i ∧ i ≤ b + 1 ∧ Hid (b - i ≤ k) ∧ Hid (PermIn a b d e) ∧ Hid (SortedIn (ltF cf) a i e) ∧ Hid (FArr 23 wr g e) ∧ Hid (Below g w wr))
  case atStart => exact ⟨a + 1, d, by go_num, by omega, by omega, by show _ ≤ _; omega, permIn_refl d a b, sorted_one d (by omega), H.out, Below.refl _ _⟩
  case round =>
    obtain ⟨i, e, rfl, hai, hib, hk, hP, hO, hA, hB⟩ := hrel
    by_cases hlt : i < b
    · have HG : Hid (b - (i + 1) ≤ gk - 1 ∧ gk - 1 < gk) := by have := hk.out; show _ ∧ _; omega
      have hltz : (i : Int) < (b : Int) := by omega
      go_wp2_with fail
      go_loopg [9] i (fun k2 vj wr2 => ∃ (j : Nat) (e2 : Array (Nat)), vj = .int .i64 j ∧ a ≤ j ∧ j ≤ i ∧ j ≤ k2 ∧ Hid (PermIn a b d e2) ∧ Hid (Ins (ltF cf) a j i e2) ∧ Hid (FArr 23 wr2 g e2) ∧ Hid (Below g w wr2))
      case atStart => exact ⟨i, e, rfl, by omega, Nat.le_refl _, Nat.le_refl _, hP.out, ins_start hO.out, hA.out, hB.out⟩
      case round =>
        obtain ⟨j, e2, rfl, haj, hji, hkj, hP2, hI, hA2, hB2⟩ := hrel
        have hes : Hid (e2.size = sz) := hP2.out.1.trans HSZ.out
        by_cases hja : a < j
        · obtain ⟨jp, rfl⟩ : ∃ jp, j = jp + 1 := ⟨j - 1, by omega⟩
          have HS1 : Hid (jp + 1 < e2.size) := by have := hes.out; show _ < _; omega
          have HS2 : Hid (jp < e2.size) := by have := hes.out; show _ < _; omega
          obtain ⟨x, hx⟩ : ∃ x, e2[jp + 1]! = x := ⟨_, rfl⟩
          obtain ⟨y, hy⟩ : ∃ y, e2[jp]! = y := ⟨_, rfl⟩
          have HX := Lib.hid hx
          have HY := Lib.hid hy
          have hvs := perm_all hP2.out (by have := HSZ.out; omega) HV.out
          have hvx : V x := by rw [← hx]; exact hvs _ (by have := hes.out; have := HSZ.out; omega)
          have hvy : V y := by rw [← hy]; exact hvs _ (by have := hes.out; have := HSZ.out; omega)
          have hAg : ∀ n os, FArr 23 (Go.Sort.grow (wr.drewN n) os) g e2 := fun n os => hA2.out.keep (Grn.below ⟨n, os, rfl⟩)
          have HAg := Lib.hid hAg
          have HBg : Hid (∀ n os, Below g w (Go.Sort.grow (wr.drewN n) os)) := Lib.hid fun n os => hB2.out.trans ((Grn.below ⟨n, os, rfl⟩).mono (Nat.le_of_lt hA2.out.1.lt))
          have r1 := fun n os => (hAg n os).2 (jp + 1) HS1.out
          have r3 := fun n os => (hAg n os).2 jp HS2.out
          rw [hx] at r1
          rw [hy] at r3
          have hcg := fun n os => HC.out (Go.Sort.grow (wr.drewN n) os) x y hvx hvy
          have hjaz : (a : Int) < (jp : Int) + 1 := by omega
          have hwp : IntKind.i64.wrap (jp : Int) = (jp : Int) := by rw [IntKind.wrap_i64]; have := hes.out; have := HS1.out; omega
          have jz : (jp : Int) + 1 < (sz : Int) := by have := hes.out; have := HS1.out; omega
          have jz1 : (jp : Int) < (sz : Int) := by omega
          have p0 : (0 : Int) ≤ (jp : Int) + 1 := by omega
          have e0 : ((jp : Int) + 1).toNat = jp + 1 := by omega
          clear hx hy hvs hvx hvy hAg hA2 hB2
          by_cases hlv : cf x y < 0
          · have HLV : Hid (ltF cf x y = true) := decide_eq_true hlv
            go_wp2_with fail
            go_quiet_grown (first | (go_at_fn fc; refine Go.Calls.grown_of (hcg _ _)))
            go_wp2_with fail
            have hAq := HAg.out nq osq
            have hBq := HBg.out nq osq
            clear r1 r3 hcg HAg HBg
            generalize Go.Sort.grow (wr.drewN nq) osq = wq at *
            obtain ⟨⟨r1, r3⟩, f1, f3⟩ := hAq.way HS1.out HS2.out x y HX.out HY.out
            obtain ⟨n1, n5⟩ := ne_wayF (i := jp + 1) (j := jp) (by omega)
            have HA2 := Lib.hid ((hAq.swp HS1.out HS2.out).keep (below_drewN (Below.refl _ _) 1))
            have HB2 : Hid (Below g w (swF wq g (jp + 1) jp x y).drew) := Lib.hid (below_drewN (hBq.trans (swF_below (Nat.le_refl _))) 1)
            rw [HX.out, HY.out] at HA2
            have HP3 := Lib.hid (permIn_trans d e2 _ a b hP2.out (swp_permIn e2 a b (jp + 1) jp (by omega) (by omega) (by omega) (by omega) (by have := hes.out; omega)))
            have HI3 := Lib.hid (hI.out.step (by rw [HX.out, HY.out]; exact HLV.out) (by omega) HS1.out)
            clear hAq hBq hI hP2
            go_big_region_o
            go_wp2_with fail
            go_roundg jp
            case measure => omega
            case rel => exact ⟨jp, _, by first | rfl | go_num, by omega, by omega, Nat.le_refl _, HP3.out, HI3.out, HA2.out, HB2.out⟩
          · have HLV : Hid (ltF cf x y = false) := decide_eq_false hlv
            have HO3 := Lib.hid (hI.out.stop HS.out (.inr (by rw [Nat.add_sub_cancel, HX.out, HY.out]; exact HLV.out)))
            clear hI
            go_wp2_with fail
            go_quiet_grown (first | (go_at_fn fc; refine Go.Calls.grown_of (hcg _ _)))
            go_wp2_with fail
            go_roundg (b - (i + 1))
            case measure => have := HG.out; omega
            case rel => exact ⟨i + 1, e2, by go_num, by omega, by omega, Nat.le_refl _, hP2.out, HO3.out, HAg.out _ _, HBg.out _ _⟩
        · have hjaz : ¬ (a : Int) < (j : Int) := by omega
          have hjaz2 : decide ((j : Int) > (a : Int)) = false := decide_eq_false (by omega)
          have HO3 := Lib.hid (hI.out.stop HS.out (.inl (by omega)))
          have HA2 : Hid (FArr 23 wr.drew g e2) := Lib.hid (hA2.out.keep (below_drewN (Below.refl _ _) 1))
          have HB2 : Hid (Below g w wr.drew) := Lib.hid (below_drewN hB2.out 1)
          clear hI hA2 hB2
          go_wp2_with fail
          go_big_region_o
          go_wp2_with fail
          go_roundg (b - (i + 1))
          case measure => have := HG.out; omega
          case rel => exact ⟨i + 1, e2, by go_num, by omega, by omega, Nat.le_refl _, hP2.out, HO3.out, HA2.out, HB2.out⟩
    · have hltz : ¬ (i : Int) < (b : Int) := by omega
      have HO3 : Hid (SortedIn (ltF cf) a b e) := Lib.hid fun p q h1 h2 h3 => hO.out p q h1 h2 (by omega)
      clear hO
      go_wp2_with fail
      go_end0
      exact ⟨rfl, ⟨e, hP.out, HO3.out, hA.out⟩, hB.out⟩
end Go.Proofs.Ytplfmdjccmhclab
