/-
  No cell of these rows narrows 'for every input' (looked for: loops, veiled, ifaces, maps, wideKeys, modest, calm, conditions, laid).
  DERIVED. THE GIVEN ROWS OF THIS SEAT. 10 by the template 'for every input the law returns true; each argument reads behind the call as it read before'; 0 by the template 'total and deterministic' (their statements: YtemdgfjcjjadnabTotals.lean).
  GIVEN WITH THE SEED: the statements are not yours to turn. If you find one false, say at which input.
  Laid BY PROGRAM, IN A SANDBOX (cutbox-rows.mjs): the forced cells as the released guide's own fill.sh prints them over the translation 1c4a541ddd3d37e3… (all of the seat's roots in one cut). By AI agents, Wed Nov 11 2026. No macro, syntax, notation, axiom, sorry.
-/
import Derived.Test.YtemdgfjcjjadnabChecked
import GoSem.Claim
import GoSem.ClaimJoined
import GoSem.ClaimMapViews
import Derived.JoinedTies
import Derived.KernelRfl
namespace Go.Proofs.Ytemdgfjcjjadnab
/- THE CELL 'sum', in the pinned program and in every row, IS THE sha256 OF THE DUMP (.gsa) THAT YtemdgfjcjjadnabProg.lean LOADS. Nothing in Lean hashes anything: it is a label: what it is worth is what the hold of that sum in a sandbox is worth. -/
noncomputable def Try.pinned : Pinned := { name := "ytemdgfjcjjadnab", sum := "1c4a541ddd3d37e30b5657e27b512d88c49c0134a99a9342b2943f77f8d52a84", checked := Try.checked }
namespace Rows
def none {H : Type} : Left H := { results := [], args := [] }

/-- 'laws.FnExactWorstOutgoing': WHATEVER THE INPUT: true; the input reads as it did. -/
def fnExactWorstOutgoingSpec : ChangeSpec := { name := "fnExactWorstOutgoing", fn := fun _ => fun
  | [d1, d2, d3] => { results := [.lit (.bool true)], args := [d1, d2, d3] }
  | _ => none }
def fnExactWorstOutgoingRow : OpenClaim := { program := "ytemdgfjcjjadnab", sum := "1c4a541ddd3d37e30b5657e27b512d88c49c0134a99a9342b2943f77f8d52a84", func := "loop.example/g01382/laws.FnExactWorstOutgoing", spec := "fnExactWorstOutgoing", inPlace := ["math.Float64bits", "math.Float64frombits"], apart := false }
def FnExactWorstOutgoingSaid : Prop := fnExactWorstOutgoingRow.holds Try.pinned (OpenSpec.ofChange fnExactWorstOutgoingSpec)

/-- ITS FALSE NEIGHBOUR: 'it returns false'. Refute it at one input. -/
def fnExactWorstOutgoingWrong : ChangeSpec := { name := "fnExactWorstOutgoing", fn := fun _ => fun
  | [d1, d2, d3] => { results := [.lit (.bool false)], args := [d1, d2, d3] }
  | _ => none }
def FnExactWorstOutgoingWrongFalsely : Prop := fnExactWorstOutgoingRow.holds Try.pinned (OpenSpec.ofChange fnExactWorstOutgoingWrong)

/-- 'laws.FnExactWaitForRun': WHATEVER THE INPUT: true; the input reads as it did. -/
def fnExactWaitForRunSpec : ChangeSpec := { name := "fnExactWaitForRun", fn := fun _ => fun
  | [d1, d2] => { results := [.lit (.bool true)], args := [d1, d2] }
  | _ => none }
def fnExactWaitForRunRow : OpenClaim := { program := "ytemdgfjcjjadnab", sum := "1c4a541ddd3d37e30b5657e27b512d88c49c0134a99a9342b2943f77f8d52a84", func := "loop.example/g01382/laws.FnExactWaitForRun", spec := "fnExactWaitForRun", inPlace := ["math.Float64bits", "math.Float64frombits"], apart := false }
def FnExactWaitForRunSaid : Prop := fnExactWaitForRunRow.holds Try.pinned (OpenSpec.ofChange fnExactWaitForRunSpec)

/-- ITS FALSE NEIGHBOUR: 'it returns false'. Refute it at one input. -/
def fnExactWaitForRunWrong : ChangeSpec := { name := "fnExactWaitForRun", fn := fun _ => fun
  | [d1, d2] => { results := [.lit (.bool false)], args := [d1, d2] }
  | _ => none }
def FnExactWaitForRunWrongFalsely : Prop := fnExactWaitForRunRow.holds Try.pinned (OpenSpec.ofChange fnExactWaitForRunWrong)

/-- 'laws.FnExactRunChances': WHATEVER THE INPUT: true; the input reads as it did. -/
def fnExactRunChancesSpec : ChangeSpec := { name := "fnExactRunChances", fn := fun _ => fun
  | [d1, d2, d3] => { results := [.lit (.bool true)], args := [d1, d2, d3] }
  | _ => none }
def fnExactRunChancesRow : OpenClaim := { program := "ytemdgfjcjjadnab", sum := "1c4a541ddd3d37e30b5657e27b512d88c49c0134a99a9342b2943f77f8d52a84", func := "loop.example/g01382/laws.FnExactRunChances", spec := "fnExactRunChances", inPlace := ["math.Float64bits", "math.Float64frombits"], unfollowed := true, recurses := true, apart := false }
def FnExactRunChancesSaid : Prop := fnExactRunChancesRow.holds Try.pinned (OpenSpec.ofChange fnExactRunChancesSpec)

/-- ITS FALSE NEIGHBOUR: 'it returns false'. Refute it at one input. -/
def fnExactRunChancesWrong : ChangeSpec := { name := "fnExactRunChances", fn := fun _ => fun
  | [d1, d2, d3] => { results := [.lit (.bool false)], args := [d1, d2, d3] }
  | _ => none }
def FnExactRunChancesWrongFalsely : Prop := fnExactRunChancesRow.holds Try.pinned (OpenSpec.ofChange fnExactRunChancesWrong)

/-- 'laws.FnExactSequenceBars': WHATEVER THE INPUT: true; the input reads as it did. -/
def fnExactSequenceBarsSpec : ChangeSpec := { name := "fnExactSequenceBars", fn := fun _ => fun
  | [d1, d2] => { results := [.lit (.bool true)], args := [d1, d2] }
  | _ => none }
def fnExactSequenceBarsRow : OpenClaim := { program := "ytemdgfjcjjadnab", sum := "1c4a541ddd3d37e30b5657e27b512d88c49c0134a99a9342b2943f77f8d52a84", func := "loop.example/g01382/laws.FnExactSequenceBars", spec := "fnExactSequenceBars", inPlace := ["math.Float64frombits", "math.Float64bits"], unfollowed := true, recurses := true, apart := false }
def FnExactSequenceBarsSaid : Prop := fnExactSequenceBarsRow.holds Try.pinned (OpenSpec.ofChange fnExactSequenceBarsSpec)

/-- ITS FALSE NEIGHBOUR: 'it returns false'. Refute it at one input. -/
def fnExactSequenceBarsWrong : ChangeSpec := { name := "fnExactSequenceBars", fn := fun _ => fun
  | [d1, d2] => { results := [.lit (.bool false)], args := [d1, d2] }
  | _ => none }
def FnExactSequenceBarsWrongFalsely : Prop := fnExactSequenceBarsRow.holds Try.pinned (OpenSpec.ofChange fnExactSequenceBarsWrong)

/-- 'laws.FnExactSequenceTest': WHATEVER THE INPUT: true; the input reads as it did. -/
def fnExactSequenceTestSpec : ChangeSpec := { name := "fnExactSequenceTest", fn := fun _ => fun
  | [d1, d2, d3, d4, d5] => { results := [.lit (.bool true)], args := [d1, d2, d3, d4, d5] }
  | _ => none }
def fnExactSequenceTestRow : OpenClaim := { program := "ytemdgfjcjjadnab", sum := "1c4a541ddd3d37e30b5657e27b512d88c49c0134a99a9342b2943f77f8d52a84", func := "loop.example/g01382/laws.FnExactSequenceTest", spec := "fnExactSequenceTest", inPlace := ["math.Float64frombits", "math.Float64bits"], unfollowed := true, recurses := true, apart := false }
def FnExactSequenceTestSaid : Prop := fnExactSequenceTestRow.holds Try.pinned (OpenSpec.ofChange fnExactSequenceTestSpec)

/-- ITS FALSE NEIGHBOUR: 'it returns false'. Refute it at one input. -/
def fnExactSequenceTestWrong : ChangeSpec := { name := "fnExactSequenceTest", fn := fun _ => fun
  | [d1, d2, d3, d4, d5] => { results := [.lit (.bool false)], args := [d1, d2, d3, d4, d5] }
  | _ => none }
def FnExactSequenceTestWrongFalsely : Prop := fnExactSequenceTestRow.holds Try.pinned (OpenSpec.ofChange fnExactSequenceTestWrong)

/-- 'laws.FnExactSequenceChances': WHATEVER THE INPUT: true; the input reads as it did. -/
def fnExactSequenceChancesSpec : ChangeSpec := { name := "fnExactSequenceChances", fn := fun _ => fun
  | [d1, d2, d3, d4, d5, d6] => { results := [.lit (.bool true)], args := [d1, d2, d3, d4, d5, d6] }
  | _ => none }
def fnExactSequenceChancesRow : OpenClaim := { program := "ytemdgfjcjjadnab", sum := "1c4a541ddd3d37e30b5657e27b512d88c49c0134a99a9342b2943f77f8d52a84", func := "loop.example/g01382/laws.FnExactSequenceChances", spec := "fnExactSequenceChances", inPlace := ["math.Float64frombits", "math.Float64bits"], unfollowed := true, recurses := true, apart := false }
def FnExactSequenceChancesSaid : Prop := fnExactSequenceChancesRow.holds Try.pinned (OpenSpec.ofChange fnExactSequenceChancesSpec)

/-- ITS FALSE NEIGHBOUR: 'it returns false'. Refute it at one input. -/
def fnExactSequenceChancesWrong : ChangeSpec := { name := "fnExactSequenceChances", fn := fun _ => fun
  | [d1, d2, d3, d4, d5, d6] => { results := [.lit (.bool false)], args := [d1, d2, d3, d4, d5, d6] }
  | _ => none }
def FnExactSequenceChancesWrongFalsely : Prop := fnExactSequenceChancesRow.holds Try.pinned (OpenSpec.ofChange fnExactSequenceChancesWrong)

/-- 'laws.FnExactCapabilityOf': WHATEVER THE INPUT: true; the input reads as it did. -/
def fnExactCapabilityOfSpec : ChangeSpec := { name := "fnExactCapabilityOf", fn := fun _ => fun
  | [d1, d2, d3] => { results := [.lit (.bool true)], args := [d1, d2, d3] }
  | _ => none }
def fnExactCapabilityOfRow : OpenClaim := { program := "ytemdgfjcjjadnab", sum := "1c4a541ddd3d37e30b5657e27b512d88c49c0134a99a9342b2943f77f8d52a84", func := "loop.example/g01382/laws.FnExactCapabilityOf", spec := "fnExactCapabilityOf", inPlace := ["math.sqrt", "math.Float64bits", "math.Float64frombits"], unfollowed := true, recurses := true, apart := false }
def FnExactCapabilityOfSaid : Prop := fnExactCapabilityOfRow.holds Try.pinned (OpenSpec.ofChange fnExactCapabilityOfSpec)

/-- ITS FALSE NEIGHBOUR: 'it returns false'. Refute it at one input. -/
def fnExactCapabilityOfWrong : ChangeSpec := { name := "fnExactCapabilityOf", fn := fun _ => fun
  | [d1, d2, d3] => { results := [.lit (.bool false)], args := [d1, d2, d3] }
  | _ => none }
def FnExactCapabilityOfWrongFalsely : Prop := fnExactCapabilityOfRow.holds Try.pinned (OpenSpec.ofChange fnExactCapabilityOfWrong)

/-- 'laws.FnCharts': WHATEVER THE INPUT: true; the input reads as it did. -/
def fnChartsSpec : ChangeSpec := { name := "fnCharts", fn := fun _ => fun
  | [d1, d2] => { results := [.lit (.bool true)], args := [d1, d2] }
  | _ => none }
def fnChartsRow : OpenClaim := { program := "ytemdgfjcjjadnab", sum := "1c4a541ddd3d37e30b5657e27b512d88c49c0134a99a9342b2943f77f8d52a84", func := "loop.example/g01382/laws.FnCharts", spec := "fnCharts", inPlace := ["math.Float64bits", "math.Float64frombits"], unfollowed := true, recurses := true, apart := false }
def FnChartsSaid : Prop := fnChartsRow.holds Try.pinned (OpenSpec.ofChange fnChartsSpec)

/-- ITS FALSE NEIGHBOUR: 'it returns false'. Refute it at one input. -/
def fnChartsWrong : ChangeSpec := { name := "fnCharts", fn := fun _ => fun
  | [d1, d2] => { results := [.lit (.bool false)], args := [d1, d2] }
  | _ => none }
def FnChartsWrongFalsely : Prop := fnChartsRow.holds Try.pinned (OpenSpec.ofChange fnChartsWrong)

/-- 'laws.FnSequences': WHATEVER THE INPUT: true; the input reads as it did. -/
def fnSequencesSpec : ChangeSpec := { name := "fnSequences", fn := fun _ => fun
  | [d1, d2] => { results := [.lit (.bool true)], args := [d1, d2] }
  | _ => none }
def fnSequencesRow : OpenClaim := { program := "ytemdgfjcjjadnab", sum := "1c4a541ddd3d37e30b5657e27b512d88c49c0134a99a9342b2943f77f8d52a84", func := "loop.example/g01382/laws.FnSequences", spec := "fnSequences", inPlace := ["math.Float64frombits", "math.Float64bits", "math.sqrt"], unfollowed := true, recurses := true, apart := false }
def FnSequencesSaid : Prop := fnSequencesRow.holds Try.pinned (OpenSpec.ofChange fnSequencesSpec)

/-- ITS FALSE NEIGHBOUR: 'it returns false'. Refute it at one input. -/
def fnSequencesWrong : ChangeSpec := { name := "fnSequences", fn := fun _ => fun
  | [d1, d2] => { results := [.lit (.bool false)], args := [d1, d2] }
  | _ => none }
def FnSequencesWrongFalsely : Prop := fnSequencesRow.holds Try.pinned (OpenSpec.ofChange fnSequencesWrong)

/-- 'laws.FnExactSameSide': WHATEVER THE INPUT: true; the input reads as it did. -/
def fnExactSameSideSpec : ChangeSpec := { name := "fnExactSameSide", fn := fun _ => fun
  | [d1, d2, d3] => { results := [.lit (.bool true)], args := [d1, d2, d3] }
  | _ => none }
def fnExactSameSideRow : OpenClaim := { program := "ytemdgfjcjjadnab", sum := "1c4a541ddd3d37e30b5657e27b512d88c49c0134a99a9342b2943f77f8d52a84", func := "loop.example/g01382/laws.FnExactSameSide", spec := "fnExactSameSide", inPlace := ["math.Float64bits", "math.Float64frombits"], unfollowed := true, recurses := true, apart := false }
def FnExactSameSideSaid : Prop := fnExactSameSideRow.holds Try.pinned (OpenSpec.ofChange fnExactSameSideSpec)

/-- ITS FALSE NEIGHBOUR: 'it returns false'. Refute it at one input. -/
def fnExactSameSideWrong : ChangeSpec := { name := "fnExactSameSide", fn := fun _ => fun
  | [d1, d2, d3] => { results := [.lit (.bool false)], args := [d1, d2, d3] }
  | _ => none }
def FnExactSameSideWrongFalsely : Prop := fnExactSameSideRow.holds Try.pinned (OpenSpec.ofChange fnExactSameSideWrong)

/- THE SECOND FORM. 'bulk': how many values and letters a reading holds, each counted each time it is reached (what is shared counts as often as it is met; a slice's spare places count too). A statement '..UptoSaid' is the law's where the arguments, and the package variables that the reading takes, are together of bulk at most 1048576: NARROWER than '..Said'. Prove '..Said' where nothing that the law and all that it calls make is longer than what came in: it says more and counts as full. Else prove '..UptoSaid'. A law counts once. -/
mutual
def uptoBulk {H : Type} : DataW H → Nat
  | .lit (.string bytes) => bytes.length + 1
  | .lit _ => 1
  | .nil => 1
  | .ptr d => uptoBulk d + 1
  | .slice elems spare => uptoBulkAll elems + uptoBulkAll spare + 1
  | .agg parts => uptoBulkAll parts + 1
  | .iface _ d => uptoBulk d + 1
  | .map entries => uptoBulkEntries entries + 1
  | .held _ => 1
def uptoBulkAll {H : Type} : List (DataW H) → Nat
  | [] => 0
  | d :: r => uptoBulk d + uptoBulkAll r
def uptoBulkEntries {H : Type} : List (Lit × DataW H) → Nat
  | [] => 0
  | x :: r => uptoBulkEntry x + uptoBulkEntries r
def uptoBulkEntry {H : Type} : Lit × DataW H → Nat
  | (.string bytes, d) => bytes.length + uptoBulk d + 1
  | (_, d) => uptoBulk d + 1
 end
def uptoSmall : (H : Type) → List (DataW H) → Bool := fun _ ds => decide (uptoBulkAll ds ≤ 1048576)
def OpenSpec.upto (s : _root_.Go.ChangeSpec) : _root_.Go.OpenSpec := { _root_.Go.OpenSpec.ofChange s with cond := some uptoSmall }

/-- 'laws.FnExactWorstOutgoing', WHERE WHAT IT READS IS OF BULK AT MOST 1048576: true; the input reads as it did. -/
def fnExactWorstOutgoingUptoRow : OpenClaim := { program := "ytemdgfjcjjadnab", sum := "1c4a541ddd3d37e30b5657e27b512d88c49c0134a99a9342b2943f77f8d52a84", func := "loop.example/g01382/laws.FnExactWorstOutgoing", spec := "fnExactWorstOutgoing", inPlace := ["math.Float64bits", "math.Float64frombits"], apart := false, narrowed := true }
def FnExactWorstOutgoingUptoSaid : Prop := fnExactWorstOutgoingUptoRow.holds Try.pinned (OpenSpec.upto fnExactWorstOutgoingSpec)

/-- 'laws.FnExactWaitForRun', WHERE WHAT IT READS IS OF BULK AT MOST 1048576: true; the input reads as it did. -/
def fnExactWaitForRunUptoRow : OpenClaim := { program := "ytemdgfjcjjadnab", sum := "1c4a541ddd3d37e30b5657e27b512d88c49c0134a99a9342b2943f77f8d52a84", func := "loop.example/g01382/laws.FnExactWaitForRun", spec := "fnExactWaitForRun", inPlace := ["math.Float64bits", "math.Float64frombits"], apart := false, narrowed := true }
def FnExactWaitForRunUptoSaid : Prop := fnExactWaitForRunUptoRow.holds Try.pinned (OpenSpec.upto fnExactWaitForRunSpec)

/-- 'laws.FnExactRunChances', WHERE WHAT IT READS IS OF BULK AT MOST 1048576: true; the input reads as it did. -/
def fnExactRunChancesUptoRow : OpenClaim := { program := "ytemdgfjcjjadnab", sum := "1c4a541ddd3d37e30b5657e27b512d88c49c0134a99a9342b2943f77f8d52a84", func := "loop.example/g01382/laws.FnExactRunChances", spec := "fnExactRunChances", inPlace := ["math.Float64bits", "math.Float64frombits"], unfollowed := true, recurses := true, apart := false, narrowed := true }
def FnExactRunChancesUptoSaid : Prop := fnExactRunChancesUptoRow.holds Try.pinned (OpenSpec.upto fnExactRunChancesSpec)

/-- 'laws.FnExactSequenceBars', WHERE WHAT IT READS IS OF BULK AT MOST 1048576: true; the input reads as it did. -/
def fnExactSequenceBarsUptoRow : OpenClaim := { program := "ytemdgfjcjjadnab", sum := "1c4a541ddd3d37e30b5657e27b512d88c49c0134a99a9342b2943f77f8d52a84", func := "loop.example/g01382/laws.FnExactSequenceBars", spec := "fnExactSequenceBars", inPlace := ["math.Float64frombits", "math.Float64bits"], unfollowed := true, recurses := true, apart := false, narrowed := true }
def FnExactSequenceBarsUptoSaid : Prop := fnExactSequenceBarsUptoRow.holds Try.pinned (OpenSpec.upto fnExactSequenceBarsSpec)

/-- 'laws.FnExactSequenceTest', WHERE WHAT IT READS IS OF BULK AT MOST 1048576: true; the input reads as it did. -/
def fnExactSequenceTestUptoRow : OpenClaim := { program := "ytemdgfjcjjadnab", sum := "1c4a541ddd3d37e30b5657e27b512d88c49c0134a99a9342b2943f77f8d52a84", func := "loop.example/g01382/laws.FnExactSequenceTest", spec := "fnExactSequenceTest", inPlace := ["math.Float64frombits", "math.Float64bits"], unfollowed := true, recurses := true, apart := false, narrowed := true }
def FnExactSequenceTestUptoSaid : Prop := fnExactSequenceTestUptoRow.holds Try.pinned (OpenSpec.upto fnExactSequenceTestSpec)

/-- 'laws.FnExactSequenceChances', WHERE WHAT IT READS IS OF BULK AT MOST 1048576: true; the input reads as it did. -/
def fnExactSequenceChancesUptoRow : OpenClaim := { program := "ytemdgfjcjjadnab", sum := "1c4a541ddd3d37e30b5657e27b512d88c49c0134a99a9342b2943f77f8d52a84", func := "loop.example/g01382/laws.FnExactSequenceChances", spec := "fnExactSequenceChances", inPlace := ["math.Float64frombits", "math.Float64bits"], unfollowed := true, recurses := true, apart := false, narrowed := true }
def FnExactSequenceChancesUptoSaid : Prop := fnExactSequenceChancesUptoRow.holds Try.pinned (OpenSpec.upto fnExactSequenceChancesSpec)

/-- 'laws.FnExactCapabilityOf', WHERE WHAT IT READS IS OF BULK AT MOST 1048576: true; the input reads as it did. -/
def fnExactCapabilityOfUptoRow : OpenClaim := { program := "ytemdgfjcjjadnab", sum := "1c4a541ddd3d37e30b5657e27b512d88c49c0134a99a9342b2943f77f8d52a84", func := "loop.example/g01382/laws.FnExactCapabilityOf", spec := "fnExactCapabilityOf", inPlace := ["math.sqrt", "math.Float64bits", "math.Float64frombits"], unfollowed := true, recurses := true, apart := false, narrowed := true }
def FnExactCapabilityOfUptoSaid : Prop := fnExactCapabilityOfUptoRow.holds Try.pinned (OpenSpec.upto fnExactCapabilityOfSpec)

/-- 'laws.FnCharts', WHERE WHAT IT READS IS OF BULK AT MOST 1048576: true; the input reads as it did. -/
def fnChartsUptoRow : OpenClaim := { program := "ytemdgfjcjjadnab", sum := "1c4a541ddd3d37e30b5657e27b512d88c49c0134a99a9342b2943f77f8d52a84", func := "loop.example/g01382/laws.FnCharts", spec := "fnCharts", inPlace := ["math.Float64bits", "math.Float64frombits"], unfollowed := true, recurses := true, apart := false, narrowed := true }
def FnChartsUptoSaid : Prop := fnChartsUptoRow.holds Try.pinned (OpenSpec.upto fnChartsSpec)

/-- 'laws.FnSequences', WHERE WHAT IT READS IS OF BULK AT MOST 1048576: true; the input reads as it did. -/
def fnSequencesUptoRow : OpenClaim := { program := "ytemdgfjcjjadnab", sum := "1c4a541ddd3d37e30b5657e27b512d88c49c0134a99a9342b2943f77f8d52a84", func := "loop.example/g01382/laws.FnSequences", spec := "fnSequences", inPlace := ["math.Float64frombits", "math.Float64bits", "math.sqrt"], unfollowed := true, recurses := true, apart := false, narrowed := true }
def FnSequencesUptoSaid : Prop := fnSequencesUptoRow.holds Try.pinned (OpenSpec.upto fnSequencesSpec)

/-- 'laws.FnExactSameSide', WHERE WHAT IT READS IS OF BULK AT MOST 1048576: true; the input reads as it did. -/
def fnExactSameSideUptoRow : OpenClaim := { program := "ytemdgfjcjjadnab", sum := "1c4a541ddd3d37e30b5657e27b512d88c49c0134a99a9342b2943f77f8d52a84", func := "loop.example/g01382/laws.FnExactSameSide", spec := "fnExactSameSide", inPlace := ["math.Float64bits", "math.Float64frombits"], unfollowed := true, recurses := true, apart := false, narrowed := true }
def FnExactSameSideUptoSaid : Prop := fnExactSameSideUptoRow.holds Try.pinned (OpenSpec.upto fnExactSameSideSpec)

end Rows
end Go.Proofs.Ytemdgfjcjjadnab
