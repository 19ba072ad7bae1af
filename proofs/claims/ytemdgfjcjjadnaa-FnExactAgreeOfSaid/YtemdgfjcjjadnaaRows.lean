/-
  No cell of these rows narrows 'for every input' (looked for: loops, veiled, ifaces, maps, wideKeys, modest, calm, conditions, laid).
  DERIVED. THE GIVEN ROWS OF THIS SEAT. 10 by the template 'for every input the law returns true; each argument reads behind the call as it read before'; 0 by the template 'total and deterministic' (their statements: YtemdgfjcjjadnaaTotals.lean).
  GIVEN WITH THE SEED: the statements are not yours to turn. If you find one false, say at which input.
  Laid BY PROGRAM, IN A SANDBOX (cutbox-rows.mjs): the forced cells as the released guide's own fill.sh prints them over the translation 507ca3453dd9f94a… (all of the seat's roots in one cut). By AI agents, Wed Nov 11 2026. No macro, syntax, notation, axiom, sorry.
-/
import Derived.Test.YtemdgfjcjjadnaaChecked
import GoSem.Claim
import GoSem.ClaimJoined
import GoSem.ClaimMapViews
import Derived.JoinedTies
import Derived.KernelRfl
namespace Go.Proofs.Ytemdgfjcjjadnaa
/- THE CELL 'sum', in the pinned program and in every row, IS THE sha256 OF THE DUMP (.gsa) THAT YtemdgfjcjjadnaaProg.lean LOADS. Nothing in Lean hashes anything: it is a label: what it is worth is what the hold of that sum in a sandbox is worth. -/
noncomputable def Try.pinned : Pinned := { name := "ytemdgfjcjjadnaa", sum := "507ca3453dd9f94abc30caa6e489e7b04fe52254c90994372bfae9013e253c3a", checked := Try.checked }
namespace Rows
def none {H : Type} : Left H := { results := [], args := [] }

/-- 'laws.FnExactValidPlan': WHATEVER THE INPUT: true; the input reads as it did. -/
def fnExactValidPlanSpec : ChangeSpec := { name := "fnExactValidPlan", fn := fun _ => fun
  | [d] => { results := [.lit (.bool true)], args := [d] }
  | _ => none }
def fnExactValidPlanRow : OpenClaim := { program := "ytemdgfjcjjadnaa", sum := "507ca3453dd9f94abc30caa6e489e7b04fe52254c90994372bfae9013e253c3a", func := "loop.example/g01382/laws.FnExactValidPlan", spec := "fnExactValidPlan", apart := false }
def FnExactValidPlanSaid : Prop := fnExactValidPlanRow.holds Try.pinned (OpenSpec.ofChange fnExactValidPlanSpec)

/-- ITS FALSE NEIGHBOUR: 'it returns false'. Refute it at one input. -/
def fnExactValidPlanWrong : ChangeSpec := { name := "fnExactValidPlan", fn := fun _ => fun
  | [d] => { results := [.lit (.bool false)], args := [d] }
  | _ => none }
def FnExactValidPlanWrongFalsely : Prop := fnExactValidPlanRow.holds Try.pinned (OpenSpec.ofChange fnExactValidPlanWrong)

/-- 'laws.FnExactSamePlan': WHATEVER THE INPUT: true; the input reads as it did. -/
def fnExactSamePlanSpec : ChangeSpec := { name := "fnExactSamePlan", fn := fun _ => fun
  | [d1, d2] => { results := [.lit (.bool true)], args := [d1, d2] }
  | _ => none }
def fnExactSamePlanRow : OpenClaim := { program := "ytemdgfjcjjadnaa", sum := "507ca3453dd9f94abc30caa6e489e7b04fe52254c90994372bfae9013e253c3a", func := "loop.example/g01382/laws.FnExactSamePlan", spec := "fnExactSamePlan", apart := false }
def FnExactSamePlanSaid : Prop := fnExactSamePlanRow.holds Try.pinned (OpenSpec.ofChange fnExactSamePlanSpec)

/-- ITS FALSE NEIGHBOUR: 'it returns false'. Refute it at one input. -/
def fnExactSamePlanWrong : ChangeSpec := { name := "fnExactSamePlan", fn := fun _ => fun
  | [d1, d2] => { results := [.lit (.bool false)], args := [d1, d2] }
  | _ => none }
def FnExactSamePlanWrongFalsely : Prop := fnExactSamePlanRow.holds Try.pinned (OpenSpec.ofChange fnExactSamePlanWrong)

/-- 'laws.FnExactAcceptShare': WHATEVER THE INPUT: true; the input reads as it did. -/
def fnExactAcceptShareSpec : ChangeSpec := { name := "fnExactAcceptShare", fn := fun _ => fun
  | [d1, d2, d3] => { results := [.lit (.bool true)], args := [d1, d2, d3] }
  | _ => none }
def fnExactAcceptShareRow : OpenClaim := { program := "ytemdgfjcjjadnaa", sum := "507ca3453dd9f94abc30caa6e489e7b04fe52254c90994372bfae9013e253c3a", func := "loop.example/g01382/laws.FnExactAcceptShare", spec := "fnExactAcceptShare", apart := false }
def FnExactAcceptShareSaid : Prop := fnExactAcceptShareRow.holds Try.pinned (OpenSpec.ofChange fnExactAcceptShareSpec)

/-- ITS FALSE NEIGHBOUR: 'it returns false'. Refute it at one input. -/
def fnExactAcceptShareWrong : ChangeSpec := { name := "fnExactAcceptShare", fn := fun _ => fun
  | [d1, d2, d3] => { results := [.lit (.bool false)], args := [d1, d2, d3] }
  | _ => none }
def FnExactAcceptShareWrongFalsely : Prop := fnExactAcceptShareRow.holds Try.pinned (OpenSpec.ofChange fnExactAcceptShareWrong)

/-- 'laws.FnExactAcceptCurve': WHATEVER THE INPUT: true; the input reads as it did. -/
def fnExactAcceptCurveSpec : ChangeSpec := { name := "fnExactAcceptCurve", fn := fun _ => fun
  | [d1, d2] => { results := [.lit (.bool true)], args := [d1, d2] }
  | _ => none }
def fnExactAcceptCurveRow : OpenClaim := { program := "ytemdgfjcjjadnaa", sum := "507ca3453dd9f94abc30caa6e489e7b04fe52254c90994372bfae9013e253c3a", func := "loop.example/g01382/laws.FnExactAcceptCurve", spec := "fnExactAcceptCurve", apart := false }
def FnExactAcceptCurveSaid : Prop := fnExactAcceptCurveRow.holds Try.pinned (OpenSpec.ofChange fnExactAcceptCurveSpec)

/-- ITS FALSE NEIGHBOUR: 'it returns false'. Refute it at one input. -/
def fnExactAcceptCurveWrong : ChangeSpec := { name := "fnExactAcceptCurve", fn := fun _ => fun
  | [d1, d2] => { results := [.lit (.bool false)], args := [d1, d2] }
  | _ => none }
def FnExactAcceptCurveWrongFalsely : Prop := fnExactAcceptCurveRow.holds Try.pinned (OpenSpec.ofChange fnExactAcceptCurveWrong)

/-- 'laws.FnExactBestPlan': WHATEVER THE INPUT: true; the input reads as it did. -/
def fnExactBestPlanSpec : ChangeSpec := { name := "fnExactBestPlan", fn := fun _ => fun
  | [d1, d2, d3, d4, d5] => { results := [.lit (.bool true)], args := [d1, d2, d3, d4, d5] }
  | _ => none }
def fnExactBestPlanRow : OpenClaim := { program := "ytemdgfjcjjadnaa", sum := "507ca3453dd9f94abc30caa6e489e7b04fe52254c90994372bfae9013e253c3a", func := "loop.example/g01382/laws.FnExactBestPlan", spec := "fnExactBestPlan", apart := false }
def FnExactBestPlanSaid : Prop := fnExactBestPlanRow.holds Try.pinned (OpenSpec.ofChange fnExactBestPlanSpec)

/-- ITS FALSE NEIGHBOUR: 'it returns false'. Refute it at one input. -/
def fnExactBestPlanWrong : ChangeSpec := { name := "fnExactBestPlan", fn := fun _ => fun
  | [d1, d2, d3, d4, d5] => { results := [.lit (.bool false)], args := [d1, d2, d3, d4, d5] }
  | _ => none }
def FnExactBestPlanWrongFalsely : Prop := fnExactBestPlanRow.holds Try.pinned (OpenSpec.ofChange fnExactBestPlanWrong)

/-- 'laws.FnExactDoubleShare': WHATEVER THE INPUT: true; the input reads as it did. -/
def fnExactDoubleShareSpec : ChangeSpec := { name := "fnExactDoubleShare", fn := fun _ => fun
  | [d1, d2, d3, d4, d5] => { results := [.lit (.bool true)], args := [d1, d2, d3, d4, d5] }
  | _ => none }
def fnExactDoubleShareRow : OpenClaim := { program := "ytemdgfjcjjadnaa", sum := "507ca3453dd9f94abc30caa6e489e7b04fe52254c90994372bfae9013e253c3a", func := "loop.example/g01382/laws.FnExactDoubleShare", spec := "fnExactDoubleShare", apart := false }
def FnExactDoubleShareSaid : Prop := fnExactDoubleShareRow.holds Try.pinned (OpenSpec.ofChange fnExactDoubleShareSpec)

/-- ITS FALSE NEIGHBOUR: 'it returns false'. Refute it at one input. -/
def fnExactDoubleShareWrong : ChangeSpec := { name := "fnExactDoubleShare", fn := fun _ => fun
  | [d1, d2, d3, d4, d5] => { results := [.lit (.bool false)], args := [d1, d2, d3, d4, d5] }
  | _ => none }
def FnExactDoubleShareWrongFalsely : Prop := fnExactDoubleShareRow.holds Try.pinned (OpenSpec.ofChange fnExactDoubleShareWrong)

/-- 'laws.FnExactMeanLooks': WHATEVER THE INPUT: true; the input reads as it did. -/
def fnExactMeanLooksSpec : ChangeSpec := { name := "fnExactMeanLooks", fn := fun _ => fun
  | [d1, d2, d3] => { results := [.lit (.bool true)], args := [d1, d2, d3] }
  | _ => none }
def fnExactMeanLooksRow : OpenClaim := { program := "ytemdgfjcjjadnaa", sum := "507ca3453dd9f94abc30caa6e489e7b04fe52254c90994372bfae9013e253c3a", func := "loop.example/g01382/laws.FnExactMeanLooks", spec := "fnExactMeanLooks", apart := false }
def FnExactMeanLooksSaid : Prop := fnExactMeanLooksRow.holds Try.pinned (OpenSpec.ofChange fnExactMeanLooksSpec)

/-- ITS FALSE NEIGHBOUR: 'it returns false'. Refute it at one input. -/
def fnExactMeanLooksWrong : ChangeSpec := { name := "fnExactMeanLooks", fn := fun _ => fun
  | [d1, d2, d3] => { results := [.lit (.bool false)], args := [d1, d2, d3] }
  | _ => none }
def FnExactMeanLooksWrongFalsely : Prop := fnExactMeanLooksRow.holds Try.pinned (OpenSpec.ofChange fnExactMeanLooksWrong)

/-- 'laws.FnExactAgreeOf': WHATEVER THE INPUT: true; the input reads as it did. -/
def fnExactAgreeOfSpec : ChangeSpec := { name := "fnExactAgreeOf", fn := fun _ => fun
  | [d1, d2] => { results := [.lit (.bool true)], args := [d1, d2] }
  | _ => none }
def fnExactAgreeOfRow : OpenClaim := { program := "ytemdgfjcjjadnaa", sum := "507ca3453dd9f94abc30caa6e489e7b04fe52254c90994372bfae9013e253c3a", func := "loop.example/g01382/laws.FnExactAgreeOf", spec := "fnExactAgreeOf", inPlace := ["math.Float64bits", "math.Float64frombits"], unfollowed := true, recurses := true, apart := false }
def FnExactAgreeOfSaid : Prop := fnExactAgreeOfRow.holds Try.pinned (OpenSpec.ofChange fnExactAgreeOfSpec)

/-- ITS FALSE NEIGHBOUR: 'it returns false'. Refute it at one input. -/
def fnExactAgreeOfWrong : ChangeSpec := { name := "fnExactAgreeOf", fn := fun _ => fun
  | [d1, d2] => { results := [.lit (.bool false)], args := [d1, d2] }
  | _ => none }
def FnExactAgreeOfWrongFalsely : Prop := fnExactAgreeOfRow.holds Try.pinned (OpenSpec.ofChange fnExactAgreeOfWrong)

/-- 'laws.FnExactChanceAccept': WHATEVER THE INPUT: true; the input reads as it did. -/
def fnExactChanceAcceptSpec : ChangeSpec := { name := "fnExactChanceAccept", fn := fun _ => fun
  | [d1, d2] => { results := [.lit (.bool true)], args := [d1, d2] }
  | _ => none }
def fnExactChanceAcceptRow : OpenClaim := { program := "ytemdgfjcjjadnaa", sum := "507ca3453dd9f94abc30caa6e489e7b04fe52254c90994372bfae9013e253c3a", func := "loop.example/g01382/laws.FnExactChanceAccept", spec := "fnExactChanceAccept", inPlace := ["math.Float64bits", "math.Float64frombits"], apart := false }
def FnExactChanceAcceptSaid : Prop := fnExactChanceAcceptRow.holds Try.pinned (OpenSpec.ofChange fnExactChanceAcceptSpec)

/-- ITS FALSE NEIGHBOUR: 'it returns false'. Refute it at one input. -/
def fnExactChanceAcceptWrong : ChangeSpec := { name := "fnExactChanceAccept", fn := fun _ => fun
  | [d1, d2] => { results := [.lit (.bool false)], args := [d1, d2] }
  | _ => none }
def FnExactChanceAcceptWrongFalsely : Prop := fnExactChanceAcceptRow.holds Try.pinned (OpenSpec.ofChange fnExactChanceAcceptWrong)

/-- 'laws.FnExactOutgoingOf': WHATEVER THE INPUT: true; the input reads as it did. -/
def fnExactOutgoingOfSpec : ChangeSpec := { name := "fnExactOutgoingOf", fn := fun _ => fun
  | [d1, d2, d3] => { results := [.lit (.bool true)], args := [d1, d2, d3] }
  | _ => none }
def fnExactOutgoingOfRow : OpenClaim := { program := "ytemdgfjcjjadnaa", sum := "507ca3453dd9f94abc30caa6e489e7b04fe52254c90994372bfae9013e253c3a", func := "loop.example/g01382/laws.FnExactOutgoingOf", spec := "fnExactOutgoingOf", inPlace := ["math.Float64bits", "math.Float64frombits"], apart := false }
def FnExactOutgoingOfSaid : Prop := fnExactOutgoingOfRow.holds Try.pinned (OpenSpec.ofChange fnExactOutgoingOfSpec)

/-- ITS FALSE NEIGHBOUR: 'it returns false'. Refute it at one input. -/
def fnExactOutgoingOfWrong : ChangeSpec := { name := "fnExactOutgoingOf", fn := fun _ => fun
  | [d1, d2, d3] => { results := [.lit (.bool false)], args := [d1, d2, d3] }
  | _ => none }
def FnExactOutgoingOfWrongFalsely : Prop := fnExactOutgoingOfRow.holds Try.pinned (OpenSpec.ofChange fnExactOutgoingOfWrong)

/- THE SECOND FORM. 'bulk': how many values and letters a reading holds, each counted each time it is reached (what is shared counts as often as it is met; a slice's spare places count too). A statement '..UptoSaid' is the law's where the arguments, and the package variables that the reading takes, are together of bulk at most 1048576: NARROWER than '..Said'. Prove '..Said' where nothing that the law and all that it calls make is longer than what came in: it says more and counts as full. Else prove '..UptoSaid'. A law counts once. -/
mutual
def uptoBulk {H : Type} : DataW H → Nat
  | .lit (.string bytes) => bytes.length + 1
  | .lit _ => 1
  | .nil => 1
  | .ptr d => uptoBulk d + 1
  | .slice elems spare => uptoBulkAll elems + uptoBulkAll spare + 1
  | .agg parts => uptoBulkAll parts + 1
  | .iface _ d => uptoBulk d + 1
  | .map entries => uptoBulkEntries entries + 1
  | .held _ => 1
def uptoBulkAll {H : Type} : List (DataW H) → Nat
  | [] => 0
  | d :: r => uptoBulk d + uptoBulkAll r
def uptoBulkEntries {H : Type} : List (Lit × DataW H) → Nat
  | [] => 0
  | x :: r => uptoBulkEntry x + uptoBulkEntries r
def uptoBulkEntry {H : Type} : Lit × DataW H → Nat
  | (.string bytes, d) => bytes.length + uptoBulk d + 1
  | (_, d) => uptoBulk d + 1
 end
def uptoSmall : (H : Type) → List (DataW H) → Bool := fun _ ds => decide (uptoBulkAll ds ≤ 1048576)
def OpenSpec.upto (s : _root_.Go.ChangeSpec) : _root_.Go.OpenSpec := { _root_.Go.OpenSpec.ofChange s with cond := some uptoSmall }

/-- 'laws.FnExactValidPlan', WHERE WHAT IT READS IS OF BULK AT MOST 1048576: true; the input reads as it did. -/
def fnExactValidPlanUptoRow : OpenClaim := { program := "ytemdgfjcjjadnaa", sum := "507ca3453dd9f94abc30caa6e489e7b04fe52254c90994372bfae9013e253c3a", func := "loop.example/g01382/laws.FnExactValidPlan", spec := "fnExactValidPlan", apart := false, narrowed := true }
def FnExactValidPlanUptoSaid : Prop := fnExactValidPlanUptoRow.holds Try.pinned (OpenSpec.upto fnExactValidPlanSpec)

/-- 'laws.FnExactSamePlan', WHERE WHAT IT READS IS OF BULK AT MOST 1048576: true; the input reads as it did. -/
def fnExactSamePlanUptoRow : OpenClaim := { program := "ytemdgfjcjjadnaa", sum := "507ca3453dd9f94abc30caa6e489e7b04fe52254c90994372bfae9013e253c3a", func := "loop.example/g01382/laws.FnExactSamePlan", spec := "fnExactSamePlan", apart := false, narrowed := true }
def FnExactSamePlanUptoSaid : Prop := fnExactSamePlanUptoRow.holds Try.pinned (OpenSpec.upto fnExactSamePlanSpec)

/-- 'laws.FnExactAcceptShare', WHERE WHAT IT READS IS OF BULK AT MOST 1048576: true; the input reads as it did. -/
def fnExactAcceptShareUptoRow : OpenClaim := { program := "ytemdgfjcjjadnaa", sum := "507ca3453dd9f94abc30caa6e489e7b04fe52254c90994372bfae9013e253c3a", func := "loop.example/g01382/laws.FnExactAcceptShare", spec := "fnExactAcceptShare", apart := false, narrowed := true }
def FnExactAcceptShareUptoSaid : Prop := fnExactAcceptShareUptoRow.holds Try.pinned (OpenSpec.upto fnExactAcceptShareSpec)

/-- 'laws.FnExactAcceptCurve', WHERE WHAT IT READS IS OF BULK AT MOST 1048576: true; the input reads as it did. -/
def fnExactAcceptCurveUptoRow : OpenClaim := { program := "ytemdgfjcjjadnaa", sum := "507ca3453dd9f94abc30caa6e489e7b04fe52254c90994372bfae9013e253c3a", func := "loop.example/g01382/laws.FnExactAcceptCurve", spec := "fnExactAcceptCurve", apart := false, narrowed := true }
def FnExactAcceptCurveUptoSaid : Prop := fnExactAcceptCurveUptoRow.holds Try.pinned (OpenSpec.upto fnExactAcceptCurveSpec)

/-- 'laws.FnExactBestPlan', WHERE WHAT IT READS IS OF BULK AT MOST 1048576: true; the input reads as it did. -/
def fnExactBestPlanUptoRow : OpenClaim := { program := "ytemdgfjcjjadnaa", sum := "507ca3453dd9f94abc30caa6e489e7b04fe52254c90994372bfae9013e253c3a", func := "loop.example/g01382/laws.FnExactBestPlan", spec := "fnExactBestPlan", apart := false, narrowed := true }
def FnExactBestPlanUptoSaid : Prop := fnExactBestPlanUptoRow.holds Try.pinned (OpenSpec.upto fnExactBestPlanSpec)

/-- 'laws.FnExactDoubleShare', WHERE WHAT IT READS IS OF BULK AT MOST 1048576: true; the input reads as it did. -/
def fnExactDoubleShareUptoRow : OpenClaim := { program := "ytemdgfjcjjadnaa", sum := "507ca3453dd9f94abc30caa6e489e7b04fe52254c90994372bfae9013e253c3a", func := "loop.example/g01382/laws.FnExactDoubleShare", spec := "fnExactDoubleShare", apart := false, narrowed := true }
def FnExactDoubleShareUptoSaid : Prop := fnExactDoubleShareUptoRow.holds Try.pinned (OpenSpec.upto fnExactDoubleShareSpec)

/-- 'laws.FnExactMeanLooks', WHERE WHAT IT READS IS OF BULK AT MOST 1048576: true; the input reads as it did. -/
def fnExactMeanLooksUptoRow : OpenClaim := { program := "ytemdgfjcjjadnaa", sum := "507ca3453dd9f94abc30caa6e489e7b04fe52254c90994372bfae9013e253c3a", func := "loop.example/g01382/laws.FnExactMeanLooks", spec := "fnExactMeanLooks", apart := false, narrowed := true }
def FnExactMeanLooksUptoSaid : Prop := fnExactMeanLooksUptoRow.holds Try.pinned (OpenSpec.upto fnExactMeanLooksSpec)

/-- 'laws.FnExactAgreeOf', WHERE WHAT IT READS IS OF BULK AT MOST 1048576: true; the input reads as it did. -/
def fnExactAgreeOfUptoRow : OpenClaim := { program := "ytemdgfjcjjadnaa", sum := "507ca3453dd9f94abc30caa6e489e7b04fe52254c90994372bfae9013e253c3a", func := "loop.example/g01382/laws.FnExactAgreeOf", spec := "fnExactAgreeOf", inPlace := ["math.Float64bits", "math.Float64frombits"], unfollowed := true, recurses := true, apart := false, narrowed := true }
def FnExactAgreeOfUptoSaid : Prop := fnExactAgreeOfUptoRow.holds Try.pinned (OpenSpec.upto fnExactAgreeOfSpec)

/-- 'laws.FnExactChanceAccept', WHERE WHAT IT READS IS OF BULK AT MOST 1048576: true; the input reads as it did. -/
def fnExactChanceAcceptUptoRow : OpenClaim := { program := "ytemdgfjcjjadnaa", sum := "507ca3453dd9f94abc30caa6e489e7b04fe52254c90994372bfae9013e253c3a", func := "loop.example/g01382/laws.FnExactChanceAccept", spec := "fnExactChanceAccept", inPlace := ["math.Float64bits", "math.Float64frombits"], apart := false, narrowed := true }
def FnExactChanceAcceptUptoSaid : Prop := fnExactChanceAcceptUptoRow.holds Try.pinned (OpenSpec.upto fnExactChanceAcceptSpec)

/-- 'laws.FnExactOutgoingOf', WHERE WHAT IT READS IS OF BULK AT MOST 1048576: true; the input reads as it did. -/
def fnExactOutgoingOfUptoRow : OpenClaim := { program := "ytemdgfjcjjadnaa", sum := "507ca3453dd9f94abc30caa6e489e7b04fe52254c90994372bfae9013e253c3a", func := "loop.example/g01382/laws.FnExactOutgoingOf", spec := "fnExactOutgoingOf", inPlace := ["math.Float64bits", "math.Float64frombits"], apart := false, narrowed := true }
def FnExactOutgoingOfUptoSaid : Prop := fnExactOutgoingOfUptoRow.holds Try.pinned (OpenSpec.upto fnExactOutgoingOfSpec)

end Rows
end Go.Proofs.Ytemdgfjcjjadnaa
