/-
  No cell of these rows narrows 'for every input' (looked for: loops, veiled, ifaces, maps, wideKeys, modest, calm, conditions, laid).
  DERIVED. THE GIVEN ROWS OF THIS SEAT. 12 by the template 'for every input the law returns true; each argument reads behind the call as it read before'; 0 by the template 'total and deterministic' (their statements: YtppkeabkjabhdaaTotals.lean).
  GIVEN WITH THE SEED: the statements are not yours to turn. If you find one false, say at which input.
  Laid BY PROGRAM, IN A SANDBOX (cutbox-rows.mjs): the forced cells as the released guide's own fill.sh prints them over the translation 938dfff6a5185118… (all of the seat's roots in one cut). By AI agents, Wed Nov 11 2026. No macro, syntax, notation, axiom, sorry.
-/
import Derived.Test.YtppkeabkjabhdaaChecked
import GoSem.Claim
import GoSem.ClaimJoined
import GoSem.ClaimMapViews
import Derived.JoinedTies
import Derived.KernelRfl
namespace Go.Proofs.Ytppkeabkjabhdaa
/- THE CELL 'sum', in the pinned program and in every row, IS THE sha256 OF THE DUMP (.gsa) THAT YtppkeabkjabhdaaProg.lean LOADS. Nothing in Lean hashes anything: it is a label: what it is worth is what the hold of that sum in a sandbox is worth. -/
noncomputable def Try.pinned : Pinned := { name := "ytppkeabkjabhdaa", sum := "938dfff6a5185118d6eb4b9edad899d1a7b9726311521321593231b6b3a840fe", checked := Try.checked }
namespace Rows
def none {H : Type} : Left H := { results := [], args := [] }

/-- 'laws.FnExactAreUnits': WHATEVER THE INPUT: true; the input reads as it did. -/
def fnExactAreUnitsSpec : ChangeSpec := { name := "fnExactAreUnits", fn := fun _ => fun
  | [d] => { results := [.lit (.bool true)], args := [d] }
  | _ => none }
def fnExactAreUnitsRow : OpenClaim := { program := "ytppkeabkjabhdaa", sum := "938dfff6a5185118d6eb4b9edad899d1a7b9726311521321593231b6b3a840fe", func := "loop.example/g01382/laws.FnExactAreUnits", spec := "fnExactAreUnits", inPlace := ["math.Float64bits", "math.Float64frombits"], unfollowed := true, recurses := true, apart := false }
def FnExactAreUnitsSaid : Prop := fnExactAreUnitsRow.holds Try.pinned (OpenSpec.ofChange fnExactAreUnitsSpec)

/-- ITS FALSE NEIGHBOUR: 'it returns false'. Refute it at one input. -/
def fnExactAreUnitsWrong : ChangeSpec := { name := "fnExactAreUnits", fn := fun _ => fun
  | [d] => { results := [.lit (.bool false)], args := [d] }
  | _ => none }
def FnExactAreUnitsWrongFalsely : Prop := fnExactAreUnitsRow.holds Try.pinned (OpenSpec.ofChange fnExactAreUnitsWrong)

/-- 'laws.FnExactSameUnits': WHATEVER THE INPUT: true; the input reads as it did. -/
def fnExactSameUnitsSpec : ChangeSpec := { name := "fnExactSameUnits", fn := fun _ => fun
  | [d1, d2] => { results := [.lit (.bool true)], args := [d1, d2] }
  | _ => none }
def fnExactSameUnitsRow : OpenClaim := { program := "ytppkeabkjabhdaa", sum := "938dfff6a5185118d6eb4b9edad899d1a7b9726311521321593231b6b3a840fe", func := "loop.example/g01382/laws.FnExactSameUnits", spec := "fnExactSameUnits", inPlace := ["math.Float32bits", "math.Float64bits"], unfollowed := true, recurses := true, apart := false }
def FnExactSameUnitsSaid : Prop := fnExactSameUnitsRow.holds Try.pinned (OpenSpec.ofChange fnExactSameUnitsSpec)

/-- ITS FALSE NEIGHBOUR: 'it returns false'. Refute it at one input. -/
def fnExactSameUnitsWrong : ChangeSpec := { name := "fnExactSameUnits", fn := fun _ => fun
  | [d1, d2] => { results := [.lit (.bool false)], args := [d1, d2] }
  | _ => none }
def FnExactSameUnitsWrongFalsely : Prop := fnExactSameUnitsRow.holds Try.pinned (OpenSpec.ofChange fnExactSameUnitsWrong)

/-- 'laws.FnExactStepAge': WHATEVER THE INPUT: true; the input reads as it did. -/
def fnExactStepAgeSpec : ChangeSpec := { name := "fnExactStepAge", fn := fun _ => fun
  | [d1, d2, d3] => { results := [.lit (.bool true)], args := [d1, d2, d3] }
  | _ => none }
def fnExactStepAgeRow : OpenClaim := { program := "ytppkeabkjabhdaa", sum := "938dfff6a5185118d6eb4b9edad899d1a7b9726311521321593231b6b3a840fe", func := "loop.example/g01382/laws.FnExactStepAge", spec := "fnExactStepAge", inPlace := ["math.Float64bits", "math.Float64frombits"], unfollowed := true, recurses := true, apart := false }
def FnExactStepAgeSaid : Prop := fnExactStepAgeRow.holds Try.pinned (OpenSpec.ofChange fnExactStepAgeSpec)

/-- ITS FALSE NEIGHBOUR: 'it returns false'. Refute it at one input. -/
def fnExactStepAgeWrong : ChangeSpec := { name := "fnExactStepAge", fn := fun _ => fun
  | [d1, d2, d3] => { results := [.lit (.bool false)], args := [d1, d2, d3] }
  | _ => none }
def FnExactStepAgeWrongFalsely : Prop := fnExactStepAgeRow.holds Try.pinned (OpenSpec.ofChange fnExactStepAgeWrong)

/-- 'laws.FnExactPathLine': WHATEVER THE INPUT: true; the input reads as it did. -/
def fnExactPathLineSpec : ChangeSpec := { name := "fnExactPathLine", fn := fun _ => fun
  | [d1, d2] => { results := [.lit (.bool true)], args := [d1, d2] }
  | _ => none }
def fnExactPathLineRow : OpenClaim := { program := "ytppkeabkjabhdaa", sum := "938dfff6a5185118d6eb4b9edad899d1a7b9726311521321593231b6b3a840fe", func := "loop.example/g01382/laws.FnExactPathLine", spec := "fnExactPathLine", inPlace := ["math.Float64bits", "math.Float64frombits"], unfollowed := true, recurses := true, apart := false }
def FnExactPathLineSaid : Prop := fnExactPathLineRow.holds Try.pinned (OpenSpec.ofChange fnExactPathLineSpec)

/-- ITS FALSE NEIGHBOUR: 'it returns false'. Refute it at one input. -/
def fnExactPathLineWrong : ChangeSpec := { name := "fnExactPathLine", fn := fun _ => fun
  | [d1, d2] => { results := [.lit (.bool false)], args := [d1, d2] }
  | _ => none }
def FnExactPathLineWrongFalsely : Prop := fnExactPathLineRow.holds Try.pinned (OpenSpec.ofChange fnExactPathLineWrong)

/-- 'laws.FnExactTimeToLimit': WHATEVER THE INPUT: true; the input reads as it did. -/
def fnExactTimeToLimitSpec : ChangeSpec := { name := "fnExactTimeToLimit", fn := fun _ => fun
  | [d1, d2, d3] => { results := [.lit (.bool true)], args := [d1, d2, d3] }
  | _ => none }
def fnExactTimeToLimitRow : OpenClaim := { program := "ytppkeabkjabhdaa", sum := "938dfff6a5185118d6eb4b9edad899d1a7b9726311521321593231b6b3a840fe", func := "loop.example/g01382/laws.FnExactTimeToLimit", spec := "fnExactTimeToLimit", inPlace := ["math.Float64bits", "math.Float64frombits"], unfollowed := true, recurses := true, apart := false }
def FnExactTimeToLimitSaid : Prop := fnExactTimeToLimitRow.holds Try.pinned (OpenSpec.ofChange fnExactTimeToLimitSpec)

/-- ITS FALSE NEIGHBOUR: 'it returns false'. Refute it at one input. -/
def fnExactTimeToLimitWrong : ChangeSpec := { name := "fnExactTimeToLimit", fn := fun _ => fun
  | [d1, d2, d3] => { results := [.lit (.bool false)], args := [d1, d2, d3] }
  | _ => none }
def FnExactTimeToLimitWrongFalsely : Prop := fnExactTimeToLimitRow.holds Try.pinned (OpenSpec.ofChange fnExactTimeToLimitWrong)

/-- 'laws.FnExactPathCross': WHATEVER THE INPUT: true; the input reads as it did. -/
def fnExactPathCrossSpec : ChangeSpec := { name := "fnExactPathCross", fn := fun _ => fun
  | [d1, d2, d3] => { results := [.lit (.bool true)], args := [d1, d2, d3] }
  | _ => none }
def fnExactPathCrossRow : OpenClaim := { program := "ytppkeabkjabhdaa", sum := "938dfff6a5185118d6eb4b9edad899d1a7b9726311521321593231b6b3a840fe", func := "loop.example/g01382/laws.FnExactPathCross", spec := "fnExactPathCross", inPlace := ["math.Float64bits", "math.Float64frombits"], unfollowed := true, recurses := true, apart := false }
def FnExactPathCrossSaid : Prop := fnExactPathCrossRow.holds Try.pinned (OpenSpec.ofChange fnExactPathCrossSpec)

/-- ITS FALSE NEIGHBOUR: 'it returns false'. Refute it at one input. -/
def fnExactPathCrossWrong : ChangeSpec := { name := "fnExactPathCross", fn := fun _ => fun
  | [d1, d2, d3] => { results := [.lit (.bool false)], args := [d1, d2, d3] }
  | _ => none }
def FnExactPathCrossWrongFalsely : Prop := fnExactPathCrossRow.holds Try.pinned (OpenSpec.ofChange fnExactPathCrossWrong)

/-- 'laws.FnExactGrowthSums': WHATEVER THE INPUT: true; the input reads as it did. -/
def fnExactGrowthSumsSpec : ChangeSpec := { name := "fnExactGrowthSums", fn := fun _ => fun
  | [d1, d2] => { results := [.lit (.bool true)], args := [d1, d2] }
  | _ => none }
def fnExactGrowthSumsRow : OpenClaim := { program := "ytppkeabkjabhdaa", sum := "938dfff6a5185118d6eb4b9edad899d1a7b9726311521321593231b6b3a840fe", func := "loop.example/g01382/laws.FnExactGrowthSums", spec := "fnExactGrowthSums", inPlace := ["math.Float64bits", "math.Float64frombits"], unfollowed := true, recurses := true, apart := false }
def FnExactGrowthSumsSaid : Prop := fnExactGrowthSumsRow.holds Try.pinned (OpenSpec.ofChange fnExactGrowthSumsSpec)

/-- ITS FALSE NEIGHBOUR: 'it returns false'. Refute it at one input. -/
def fnExactGrowthSumsWrong : ChangeSpec := { name := "fnExactGrowthSums", fn := fun _ => fun
  | [d1, d2] => { results := [.lit (.bool false)], args := [d1, d2] }
  | _ => none }
def FnExactGrowthSumsWrongFalsely : Prop := fnExactGrowthSumsRow.holds Try.pinned (OpenSpec.ofChange fnExactGrowthSumsWrong)

/-- 'laws.FnExactFoundFaults': WHATEVER THE INPUT: true; the input reads as it did. -/
def fnExactFoundFaultsSpec : ChangeSpec := { name := "fnExactFoundFaults", fn := fun _ => fun
  | [d1, d2, d3] => { results := [.lit (.bool true)], args := [d1, d2, d3] }
  | _ => none }
def fnExactFoundFaultsRow : OpenClaim := { program := "ytppkeabkjabhdaa", sum := "938dfff6a5185118d6eb4b9edad899d1a7b9726311521321593231b6b3a840fe", func := "loop.example/g01382/laws.FnExactFoundFaults", spec := "fnExactFoundFaults", apart := false }
def FnExactFoundFaultsSaid : Prop := fnExactFoundFaultsRow.holds Try.pinned (OpenSpec.ofChange fnExactFoundFaultsSpec)

/-- ITS FALSE NEIGHBOUR: 'it returns false'. Refute it at one input. -/
def fnExactFoundFaultsWrong : ChangeSpec := { name := "fnExactFoundFaults", fn := fun _ => fun
  | [d1, d2, d3] => { results := [.lit (.bool false)], args := [d1, d2, d3] }
  | _ => none }
def FnExactFoundFaultsWrongFalsely : Prop := fnExactFoundFaultsRow.holds Try.pinned (OpenSpec.ofChange fnExactFoundFaultsWrong)

/-- 'laws.FnExactFaultsLeft': WHATEVER THE INPUT: true; the input reads as it did. -/
def fnExactFaultsLeftSpec : ChangeSpec := { name := "fnExactFaultsLeft", fn := fun _ => fun
  | [d] => { results := [.lit (.bool true)], args := [d] }
  | _ => none }
def fnExactFaultsLeftRow : OpenClaim := { program := "ytppkeabkjabhdaa", sum := "938dfff6a5185118d6eb4b9edad899d1a7b9726311521321593231b6b3a840fe", func := "loop.example/g01382/laws.FnExactFaultsLeft", spec := "fnExactFaultsLeft", apart := false }
def FnExactFaultsLeftSaid : Prop := fnExactFaultsLeftRow.holds Try.pinned (OpenSpec.ofChange fnExactFaultsLeftSpec)

/-- ITS FALSE NEIGHBOUR: 'it returns false'. Refute it at one input. -/
def fnExactFaultsLeftWrong : ChangeSpec := { name := "fnExactFaultsLeft", fn := fun _ => fun
  | [d] => { results := [.lit (.bool false)], args := [d] }
  | _ => none }
def FnExactFaultsLeftWrongFalsely : Prop := fnExactFaultsLeftRow.holds Try.pinned (OpenSpec.ofChange fnExactFaultsLeftWrong)

/-- 'laws.FnExactDrawAgain': WHATEVER THE INPUT: true; the input reads as it did. -/
def fnExactDrawAgainSpec : ChangeSpec := { name := "fnExactDrawAgain", fn := fun _ => fun
  | [d1, d2, d3] => { results := [.lit (.bool true)], args := [d1, d2, d3] }
  | _ => none }
def fnExactDrawAgainRow : OpenClaim := { program := "ytppkeabkjabhdaa", sum := "938dfff6a5185118d6eb4b9edad899d1a7b9726311521321593231b6b3a840fe", func := "loop.example/g01382/laws.FnExactDrawAgain", spec := "fnExactDrawAgain", inPlace := ["math.Float64bits", "math.Float64frombits"], unfollowed := true, recurses := true, apart := false }
def FnExactDrawAgainSaid : Prop := fnExactDrawAgainRow.holds Try.pinned (OpenSpec.ofChange fnExactDrawAgainSpec)

/-- ITS FALSE NEIGHBOUR: 'it returns false'. Refute it at one input. -/
def fnExactDrawAgainWrong : ChangeSpec := { name := "fnExactDrawAgain", fn := fun _ => fun
  | [d1, d2, d3] => { results := [.lit (.bool false)], args := [d1, d2, d3] }
  | _ => none }
def FnExactDrawAgainWrongFalsely : Prop := fnExactDrawAgainRow.holds Try.pinned (OpenSpec.ofChange fnExactDrawAgainWrong)

/-- 'laws.FnExactLeftTimes': WHATEVER THE INPUT: true; the input reads as it did. -/
def fnExactLeftTimesSpec : ChangeSpec := { name := "fnExactLeftTimes", fn := fun _ => fun
  | [d1, d2, d3] => { results := [.lit (.bool true)], args := [d1, d2, d3] }
  | _ => none }
def fnExactLeftTimesRow : OpenClaim := { program := "ytppkeabkjabhdaa", sum := "938dfff6a5185118d6eb4b9edad899d1a7b9726311521321593231b6b3a840fe", func := "loop.example/g01382/laws.FnExactLeftTimes", spec := "fnExactLeftTimes", inPlace := ["math.Float64bits", "math.Float64frombits", "slices.overlaps[float32]"], unfollowed := true, recurses := true, apart := false }
def FnExactLeftTimesSaid : Prop := fnExactLeftTimesRow.holds Try.pinned (OpenSpec.ofChange fnExactLeftTimesSpec)

/-- ITS FALSE NEIGHBOUR: 'it returns false'. Refute it at one input. -/
def fnExactLeftTimesWrong : ChangeSpec := { name := "fnExactLeftTimes", fn := fun _ => fun
  | [d1, d2, d3] => { results := [.lit (.bool false)], args := [d1, d2, d3] }
  | _ => none }
def FnExactLeftTimesWrongFalsely : Prop := fnExactLeftTimesRow.holds Try.pinned (OpenSpec.ofChange fnExactLeftTimesWrong)

/-- 'laws.FnExactStressFit': WHATEVER THE INPUT: true; the input reads as it did. -/
def fnExactStressFitSpec : ChangeSpec := { name := "fnExactStressFit", fn := fun _ => fun
  | [d1, d2, d3] => { results := [.lit (.bool true)], args := [d1, d2, d3] }
  | _ => none }
def fnExactStressFitRow : OpenClaim := { program := "ytppkeabkjabhdaa", sum := "938dfff6a5185118d6eb4b9edad899d1a7b9726311521321593231b6b3a840fe", func := "loop.example/g01382/laws.FnExactStressFit", spec := "fnExactStressFit", inPlace := ["math.Float64frombits", "math.Float64bits"], unfollowed := true, recurses := true, apart := false }
def FnExactStressFitSaid : Prop := fnExactStressFitRow.holds Try.pinned (OpenSpec.ofChange fnExactStressFitSpec)

/-- ITS FALSE NEIGHBOUR: 'it returns false'. Refute it at one input. -/
def fnExactStressFitWrong : ChangeSpec := { name := "fnExactStressFit", fn := fun _ => fun
  | [d1, d2, d3] => { results := [.lit (.bool false)], args := [d1, d2, d3] }
  | _ => none }
def FnExactStressFitWrongFalsely : Prop := fnExactStressFitRow.holds Try.pinned (OpenSpec.ofChange fnExactStressFitWrong)

/- THE SECOND FORM. 'bulk': how many values and letters a reading holds, each counted each time it is reached (what is shared counts as often as it is met; a slice's spare places count too). A statement '..UptoSaid' is the law's where the arguments, and the package variables that the reading takes, are together of bulk at most 1048576: NARROWER than '..Said'. Prove '..Said' where nothing that the law and all that it calls make is longer than what came in: it says more and counts as full. Else prove '..UptoSaid'. A law counts once. -/
mutual
def uptoBulk {H : Type} : DataW H → Nat
  | .lit (.string bytes) => bytes.length + 1
  | .lit _ => 1
  | .nil => 1
  | .ptr d => uptoBulk d + 1
  | .slice elems spare => uptoBulkAll elems + uptoBulkAll spare + 1
  | .agg parts => uptoBulkAll parts + 1
  | .iface _ d => uptoBulk d + 1
  | .map entries => uptoBulkEntries entries + 1
  | .held _ => 1
def uptoBulkAll {H : Type} : List (DataW H) → Nat
  | [] => 0
  | d :: r => uptoBulk d + uptoBulkAll r
def uptoBulkEntries {H : Type} : List (Lit × DataW H) → Nat
  | [] => 0
  | x :: r => uptoBulkEntry x + uptoBulkEntries r
def uptoBulkEntry {H : Type} : Lit × DataW H → Nat
  | (.string bytes, d) => bytes.length + uptoBulk d + 1
  | (_, d) => uptoBulk d + 1
 end
def uptoSmall : (H : Type) → List (DataW H) → Bool := fun _ ds => decide (uptoBulkAll ds ≤ 1048576)
def OpenSpec.upto (s : _root_.Go.ChangeSpec) : _root_.Go.OpenSpec := { _root_.Go.OpenSpec.ofChange s with cond := some uptoSmall }

/-- 'laws.FnExactAreUnits', WHERE WHAT IT READS IS OF BULK AT MOST 1048576: true; the input reads as it did. -/
def fnExactAreUnitsUptoRow : OpenClaim := { program := "ytppkeabkjabhdaa", sum := "938dfff6a5185118d6eb4b9edad899d1a7b9726311521321593231b6b3a840fe", func := "loop.example/g01382/laws.FnExactAreUnits", spec := "fnExactAreUnits", inPlace := ["math.Float64bits", "math.Float64frombits"], unfollowed := true, recurses := true, apart := false, narrowed := true }
def FnExactAreUnitsUptoSaid : Prop := fnExactAreUnitsUptoRow.holds Try.pinned (OpenSpec.upto fnExactAreUnitsSpec)

/-- 'laws.FnExactSameUnits', WHERE WHAT IT READS IS OF BULK AT MOST 1048576: true; the input reads as it did. -/
def fnExactSameUnitsUptoRow : OpenClaim := { program := "ytppkeabkjabhdaa", sum := "938dfff6a5185118d6eb4b9edad899d1a7b9726311521321593231b6b3a840fe", func := "loop.example/g01382/laws.FnExactSameUnits", spec := "fnExactSameUnits", inPlace := ["math.Float32bits", "math.Float64bits"], unfollowed := true, recurses := true, apart := false, narrowed := true }
def FnExactSameUnitsUptoSaid : Prop := fnExactSameUnitsUptoRow.holds Try.pinned (OpenSpec.upto fnExactSameUnitsSpec)

/-- 'laws.FnExactStepAge', WHERE WHAT IT READS IS OF BULK AT MOST 1048576: true; the input reads as it did. -/
def fnExactStepAgeUptoRow : OpenClaim := { program := "ytppkeabkjabhdaa", sum := "938dfff6a5185118d6eb4b9edad899d1a7b9726311521321593231b6b3a840fe", func := "loop.example/g01382/laws.FnExactStepAge", spec := "fnExactStepAge", inPlace := ["math.Float64bits", "math.Float64frombits"], unfollowed := true, recurses := true, apart := false, narrowed := true }
def FnExactStepAgeUptoSaid : Prop := fnExactStepAgeUptoRow.holds Try.pinned (OpenSpec.upto fnExactStepAgeSpec)

/-- 'laws.FnExactPathLine', WHERE WHAT IT READS IS OF BULK AT MOST 1048576: true; the input reads as it did. -/
def fnExactPathLineUptoRow : OpenClaim := { program := "ytppkeabkjabhdaa", sum := "938dfff6a5185118d6eb4b9edad899d1a7b9726311521321593231b6b3a840fe", func := "loop.example/g01382/laws.FnExactPathLine", spec := "fnExactPathLine", inPlace := ["math.Float64bits", "math.Float64frombits"], unfollowed := true, recurses := true, apart := false, narrowed := true }
def FnExactPathLineUptoSaid : Prop := fnExactPathLineUptoRow.holds Try.pinned (OpenSpec.upto fnExactPathLineSpec)

/-- 'laws.FnExactTimeToLimit', WHERE WHAT IT READS IS OF BULK AT MOST 1048576: true; the input reads as it did. -/
def fnExactTimeToLimitUptoRow : OpenClaim := { program := "ytppkeabkjabhdaa", sum := "938dfff6a5185118d6eb4b9edad899d1a7b9726311521321593231b6b3a840fe", func := "loop.example/g01382/laws.FnExactTimeToLimit", spec := "fnExactTimeToLimit", inPlace := ["math.Float64bits", "math.Float64frombits"], unfollowed := true, recurses := true, apart := false, narrowed := true }
def FnExactTimeToLimitUptoSaid : Prop := fnExactTimeToLimitUptoRow.holds Try.pinned (OpenSpec.upto fnExactTimeToLimitSpec)

/-- 'laws.FnExactPathCross', WHERE WHAT IT READS IS OF BULK AT MOST 1048576: true; the input reads as it did. -/
def fnExactPathCrossUptoRow : OpenClaim := { program := "ytppkeabkjabhdaa", sum := "938dfff6a5185118d6eb4b9edad899d1a7b9726311521321593231b6b3a840fe", func := "loop.example/g01382/laws.FnExactPathCross", spec := "fnExactPathCross", inPlace := ["math.Float64bits", "math.Float64frombits"], unfollowed := true, recurses := true, apart := false, narrowed := true }
def FnExactPathCrossUptoSaid : Prop := fnExactPathCrossUptoRow.holds Try.pinned (OpenSpec.upto fnExactPathCrossSpec)

/-- 'laws.FnExactGrowthSums', WHERE WHAT IT READS IS OF BULK AT MOST 1048576: true; the input reads as it did. -/
def fnExactGrowthSumsUptoRow : OpenClaim := { program := "ytppkeabkjabhdaa", sum := "938dfff6a5185118d6eb4b9edad899d1a7b9726311521321593231b6b3a840fe", func := "loop.example/g01382/laws.FnExactGrowthSums", spec := "fnExactGrowthSums", inPlace := ["math.Float64bits", "math.Float64frombits"], unfollowed := true, recurses := true, apart := false, narrowed := true }
def FnExactGrowthSumsUptoSaid : Prop := fnExactGrowthSumsUptoRow.holds Try.pinned (OpenSpec.upto fnExactGrowthSumsSpec)

/-- 'laws.FnExactFoundFaults', WHERE WHAT IT READS IS OF BULK AT MOST 1048576: true; the input reads as it did. -/
def fnExactFoundFaultsUptoRow : OpenClaim := { program := "ytppkeabkjabhdaa", sum := "938dfff6a5185118d6eb4b9edad899d1a7b9726311521321593231b6b3a840fe", func := "loop.example/g01382/laws.FnExactFoundFaults", spec := "fnExactFoundFaults", apart := false, narrowed := true }
def FnExactFoundFaultsUptoSaid : Prop := fnExactFoundFaultsUptoRow.holds Try.pinned (OpenSpec.upto fnExactFoundFaultsSpec)

/-- 'laws.FnExactFaultsLeft', WHERE WHAT IT READS IS OF BULK AT MOST 1048576: true; the input reads as it did. -/
def fnExactFaultsLeftUptoRow : OpenClaim := { program := "ytppkeabkjabhdaa", sum := "938dfff6a5185118d6eb4b9edad899d1a7b9726311521321593231b6b3a840fe", func := "loop.example/g01382/laws.FnExactFaultsLeft", spec := "fnExactFaultsLeft", apart := false, narrowed := true }
def FnExactFaultsLeftUptoSaid : Prop := fnExactFaultsLeftUptoRow.holds Try.pinned (OpenSpec.upto fnExactFaultsLeftSpec)

/-- 'laws.FnExactDrawAgain', WHERE WHAT IT READS IS OF BULK AT MOST 1048576: true; the input reads as it did. -/
def fnExactDrawAgainUptoRow : OpenClaim := { program := "ytppkeabkjabhdaa", sum := "938dfff6a5185118d6eb4b9edad899d1a7b9726311521321593231b6b3a840fe", func := "loop.example/g01382/laws.FnExactDrawAgain", spec := "fnExactDrawAgain", inPlace := ["math.Float64bits", "math.Float64frombits"], unfollowed := true, recurses := true, apart := false, narrowed := true }
def FnExactDrawAgainUptoSaid : Prop := fnExactDrawAgainUptoRow.holds Try.pinned (OpenSpec.upto fnExactDrawAgainSpec)

/-- 'laws.FnExactLeftTimes', WHERE WHAT IT READS IS OF BULK AT MOST 1048576: true; the input reads as it did. -/
def fnExactLeftTimesUptoRow : OpenClaim := { program := "ytppkeabkjabhdaa", sum := "938dfff6a5185118d6eb4b9edad899d1a7b9726311521321593231b6b3a840fe", func := "loop.example/g01382/laws.FnExactLeftTimes", spec := "fnExactLeftTimes", inPlace := ["math.Float64bits", "math.Float64frombits", "slices.overlaps[float32]"], unfollowed := true, recurses := true, apart := false, narrowed := true }
def FnExactLeftTimesUptoSaid : Prop := fnExactLeftTimesUptoRow.holds Try.pinned (OpenSpec.upto fnExactLeftTimesSpec)

/-- 'laws.FnExactStressFit', WHERE WHAT IT READS IS OF BULK AT MOST 1048576: true; the input reads as it did. -/
def fnExactStressFitUptoRow : OpenClaim := { program := "ytppkeabkjabhdaa", sum := "938dfff6a5185118d6eb4b9edad899d1a7b9726311521321593231b6b3a840fe", func := "loop.example/g01382/laws.FnExactStressFit", spec := "fnExactStressFit", inPlace := ["math.Float64frombits", "math.Float64bits"], unfollowed := true, recurses := true, apart := false, narrowed := true }
def FnExactStressFitUptoSaid : Prop := fnExactStressFitUptoRow.holds Try.pinned (OpenSpec.upto fnExactStressFitSpec)

end Rows
end Go.Proofs.Ytppkeabkjabhdaa
