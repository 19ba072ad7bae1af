/-
  No cell of these rows narrows 'for every input' (looked for: loops, veiled, ifaces, maps, wideKeys, modest, calm, conditions, laid).
  DERIVED. THE GIVEN ROWS OF THIS SEAT. 12 by the template 'for every input the law returns true; each argument reads behind the call as it read before'; 0 by the template 'total and deterministic' (their statements: YtncekpiabklkeaaTotals.lean).
  GIVEN WITH THE SEED: the statements are not yours to turn. If you find one false, say at which input.
  Laid BY PROGRAM, IN A SANDBOX (cutbox-rows.mjs): the forced cells as the released guide's own fill.sh prints them over the translation 758c765f6020c595… (all of the seat's roots in one cut). By AI agents, Wed Nov 11 2026. No macro, syntax, notation, axiom, sorry.
-/
import Derived.Test.YtncekpiabklkeaaChecked
import GoSem.Claim
import GoSem.ClaimJoined
import GoSem.ClaimMapViews
import Derived.JoinedTies
import Derived.KernelRfl
namespace Go.Proofs.Ytncekpiabklkeaa
/- THE CELL 'sum', in the pinned program and in every row, IS THE sha256 OF THE DUMP (.gsa) THAT YtncekpiabklkeaaProg.lean LOADS. Nothing in Lean hashes anything: it is a label: what it is worth is what the hold of that sum in a sandbox is worth. -/
noncomputable def Try.pinned : Pinned := { name := "ytncekpiabklkeaa", sum := "758c765f6020c5950629ed1799bb7e8f95251c2e103659836d108cc19103e85a", checked := Try.checked }
namespace Rows
def none {H : Type} : Left H := { results := [], args := [] }

/-- 'laws.FnExactAreLives': WHATEVER THE INPUT: true; the input reads as it did. -/
def fnExactAreLivesSpec : ChangeSpec := { name := "fnExactAreLives", fn := fun _ => fun
  | [d] => { results := [.lit (.bool true)], args := [d] }
  | _ => none }
def fnExactAreLivesRow : OpenClaim := { program := "ytncekpiabklkeaa", sum := "758c765f6020c5950629ed1799bb7e8f95251c2e103659836d108cc19103e85a", func := "loop.example/g01382/laws.FnExactAreLives", spec := "fnExactAreLives", inPlace := ["math.Float64bits", "math.Float64frombits"], unfollowed := true, recurses := true, apart := false }
def FnExactAreLivesSaid : Prop := fnExactAreLivesRow.holds Try.pinned (OpenSpec.ofChange fnExactAreLivesSpec)

/-- ITS FALSE NEIGHBOUR: 'it returns false'. Refute it at one input. -/
def fnExactAreLivesWrong : ChangeSpec := { name := "fnExactAreLives", fn := fun _ => fun
  | [d] => { results := [.lit (.bool false)], args := [d] }
  | _ => none }
def FnExactAreLivesWrongFalsely : Prop := fnExactAreLivesRow.holds Try.pinned (OpenSpec.ofChange fnExactAreLivesWrong)

/-- 'laws.FnExactSameLives': WHATEVER THE INPUT: true; the input reads as it did. -/
def fnExactSameLivesSpec : ChangeSpec := { name := "fnExactSameLives", fn := fun _ => fun
  | [d1, d2] => { results := [.lit (.bool true)], args := [d1, d2] }
  | _ => none }
def fnExactSameLivesRow : OpenClaim := { program := "ytncekpiabklkeaa", sum := "758c765f6020c5950629ed1799bb7e8f95251c2e103659836d108cc19103e85a", func := "loop.example/g01382/laws.FnExactSameLives", spec := "fnExactSameLives", inPlace := ["math.Float32bits", "math.Float64bits"], unfollowed := true, recurses := true, apart := false }
def FnExactSameLivesSaid : Prop := fnExactSameLivesRow.holds Try.pinned (OpenSpec.ofChange fnExactSameLivesSpec)

/-- ITS FALSE NEIGHBOUR: 'it returns false'. Refute it at one input. -/
def fnExactSameLivesWrong : ChangeSpec := { name := "fnExactSameLives", fn := fun _ => fun
  | [d1, d2] => { results := [.lit (.bool false)], args := [d1, d2] }
  | _ => none }
def FnExactSameLivesWrongFalsely : Prop := fnExactSameLivesRow.holds Try.pinned (OpenSpec.ofChange fnExactSameLivesWrong)

/-- 'laws.FnExactOrderLives': WHATEVER THE INPUT: true; the input reads as it did. -/
def fnExactOrderLivesSpec : ChangeSpec := { name := "fnExactOrderLives", fn := fun _ => fun
  | [d] => { results := [.lit (.bool true)], args := [d] }
  | _ => none }
def fnExactOrderLivesRow : OpenClaim := { program := "ytncekpiabklkeaa", sum := "758c765f6020c5950629ed1799bb7e8f95251c2e103659836d108cc19103e85a", func := "loop.example/g01382/laws.FnExactOrderLives", spec := "fnExactOrderLives", inPlace := ["math.Float64bits", "math.Float64frombits"], unfollowed := true, recurses := true, apart := false }
def FnExactOrderLivesSaid : Prop := fnExactOrderLivesRow.holds Try.pinned (OpenSpec.ofChange fnExactOrderLivesSpec)

/-- ITS FALSE NEIGHBOUR: 'it returns false'. Refute it at one input. -/
def fnExactOrderLivesWrong : ChangeSpec := { name := "fnExactOrderLives", fn := fun _ => fun
  | [d] => { results := [.lit (.bool false)], args := [d] }
  | _ => none }
def FnExactOrderLivesWrongFalsely : Prop := fnExactOrderLivesRow.holds Try.pinned (OpenSpec.ofChange fnExactOrderLivesWrong)

/-- 'laws.FnExactCountFailed': WHATEVER THE INPUT: true; the input reads as it did. -/
def fnExactCountFailedSpec : ChangeSpec := { name := "fnExactCountFailed", fn := fun _ => fun
  | [d] => { results := [.lit (.bool true)], args := [d] }
  | _ => none }
def fnExactCountFailedRow : OpenClaim := { program := "ytncekpiabklkeaa", sum := "758c765f6020c5950629ed1799bb7e8f95251c2e103659836d108cc19103e85a", func := "loop.example/g01382/laws.FnExactCountFailed", spec := "fnExactCountFailed", inPlace := ["math.Float64bits", "math.Float64frombits"], unfollowed := true, recurses := true, apart := false }
def FnExactCountFailedSaid : Prop := fnExactCountFailedRow.holds Try.pinned (OpenSpec.ofChange fnExactCountFailedSpec)

/-- ITS FALSE NEIGHBOUR: 'it returns false'. Refute it at one input. -/
def fnExactCountFailedWrong : ChangeSpec := { name := "fnExactCountFailed", fn := fun _ => fun
  | [d] => { results := [.lit (.bool false)], args := [d] }
  | _ => none }
def FnExactCountFailedWrongFalsely : Prop := fnExactCountFailedRow.holds Try.pinned (OpenSpec.ofChange fnExactCountFailedWrong)

/-- 'laws.FnExactTimeOfTest': WHATEVER THE INPUT: true; the input reads as it did. -/
def fnExactTimeOfTestSpec : ChangeSpec := { name := "fnExactTimeOfTest", fn := fun _ => fun
  | [d] => { results := [.lit (.bool true)], args := [d] }
  | _ => none }
def fnExactTimeOfTestRow : OpenClaim := { program := "ytncekpiabklkeaa", sum := "758c765f6020c5950629ed1799bb7e8f95251c2e103659836d108cc19103e85a", func := "loop.example/g01382/laws.FnExactTimeOfTest", spec := "fnExactTimeOfTest", inPlace := ["math.Float64bits", "math.Float64frombits"], unfollowed := true, recurses := true, apart := false }
def FnExactTimeOfTestSaid : Prop := fnExactTimeOfTestRow.holds Try.pinned (OpenSpec.ofChange fnExactTimeOfTestSpec)

/-- ITS FALSE NEIGHBOUR: 'it returns false'. Refute it at one input. -/
def fnExactTimeOfTestWrong : ChangeSpec := { name := "fnExactTimeOfTest", fn := fun _ => fun
  | [d] => { results := [.lit (.bool false)], args := [d] }
  | _ => none }
def FnExactTimeOfTestWrongFalsely : Prop := fnExactTimeOfTestRow.holds Try.pinned (OpenSpec.ofChange fnExactTimeOfTestWrong)

/-- 'laws.FnExactFailureTimes': WHATEVER THE INPUT: true; the input reads as it did. -/
def fnExactFailureTimesSpec : ChangeSpec := { name := "fnExactFailureTimes", fn := fun _ => fun
  | [d] => { results := [.lit (.bool true)], args := [d] }
  | _ => none }
def fnExactFailureTimesRow : OpenClaim := { program := "ytncekpiabklkeaa", sum := "758c765f6020c5950629ed1799bb7e8f95251c2e103659836d108cc19103e85a", func := "loop.example/g01382/laws.FnExactFailureTimes", spec := "fnExactFailureTimes", inPlace := ["math.Float64bits", "math.Float64frombits"], unfollowed := true, recurses := true, apart := false }
def FnExactFailureTimesSaid : Prop := fnExactFailureTimesRow.holds Try.pinned (OpenSpec.ofChange fnExactFailureTimesSpec)

/-- ITS FALSE NEIGHBOUR: 'it returns false'. Refute it at one input. -/
def fnExactFailureTimesWrong : ChangeSpec := { name := "fnExactFailureTimes", fn := fun _ => fun
  | [d] => { results := [.lit (.bool false)], args := [d] }
  | _ => none }
def FnExactFailureTimesWrongFalsely : Prop := fnExactFailureTimesRow.holds Try.pinned (OpenSpec.ofChange fnExactFailureTimesWrong)

/-- 'laws.FnExactSurvivorTable': WHATEVER THE INPUT: true; the input reads as it did. -/
def fnExactSurvivorTableSpec : ChangeSpec := { name := "fnExactSurvivorTable", fn := fun _ => fun
  | [d] => { results := [.lit (.bool true)], args := [d] }
  | _ => none }
def fnExactSurvivorTableRow : OpenClaim := { program := "ytncekpiabklkeaa", sum := "758c765f6020c5950629ed1799bb7e8f95251c2e103659836d108cc19103e85a", func := "loop.example/g01382/laws.FnExactSurvivorTable", spec := "fnExactSurvivorTable", inPlace := ["math.Float64bits", "math.Float64frombits"], unfollowed := true, recurses := true, apart := false }
def FnExactSurvivorTableSaid : Prop := fnExactSurvivorTableRow.holds Try.pinned (OpenSpec.ofChange fnExactSurvivorTableSpec)

/-- ITS FALSE NEIGHBOUR: 'it returns false'. Refute it at one input. -/
def fnExactSurvivorTableWrong : ChangeSpec := { name := "fnExactSurvivorTable", fn := fun _ => fun
  | [d] => { results := [.lit (.bool false)], args := [d] }
  | _ => none }
def FnExactSurvivorTableWrongFalsely : Prop := fnExactSurvivorTableRow.holds Try.pinned (OpenSpec.ofChange fnExactSurvivorTableWrong)

/-- 'laws.FnExactFitRate': WHATEVER THE INPUT: true; the input reads as it did. -/
def fnExactFitRateSpec : ChangeSpec := { name := "fnExactFitRate", fn := fun _ => fun
  | [d] => { results := [.lit (.bool true)], args := [d] }
  | _ => none }
def fnExactFitRateRow : OpenClaim := { program := "ytncekpiabklkeaa", sum := "758c765f6020c5950629ed1799bb7e8f95251c2e103659836d108cc19103e85a", func := "loop.example/g01382/laws.FnExactFitRate", spec := "fnExactFitRate", inPlace := ["math.Float64bits", "math.Float64frombits"], unfollowed := true, recurses := true, apart := false }
def FnExactFitRateSaid : Prop := fnExactFitRateRow.holds Try.pinned (OpenSpec.ofChange fnExactFitRateSpec)

/-- ITS FALSE NEIGHBOUR: 'it returns false'. Refute it at one input. -/
def fnExactFitRateWrong : ChangeSpec := { name := "fnExactFitRate", fn := fun _ => fun
  | [d] => { results := [.lit (.bool false)], args := [d] }
  | _ => none }
def FnExactFitRateWrongFalsely : Prop := fnExactFitRateRow.holds Try.pinned (OpenSpec.ofChange fnExactFitRateWrong)

/-- 'laws.FnExactPaperPairs': WHATEVER THE INPUT: true; the input reads as it did. -/
def fnExactPaperPairsSpec : ChangeSpec := { name := "fnExactPaperPairs", fn := fun _ => fun
  | [d] => { results := [.lit (.bool true)], args := [d] }
  | _ => none }
def fnExactPaperPairsRow : OpenClaim := { program := "ytncekpiabklkeaa", sum := "758c765f6020c5950629ed1799bb7e8f95251c2e103659836d108cc19103e85a", func := "loop.example/g01382/laws.FnExactPaperPairs", spec := "fnExactPaperPairs", inPlace := ["math.Float64frombits", "math.Float64bits"], unfollowed := true, recurses := true, apart := false }
def FnExactPaperPairsSaid : Prop := fnExactPaperPairsRow.holds Try.pinned (OpenSpec.ofChange fnExactPaperPairsSpec)

/-- ITS FALSE NEIGHBOUR: 'it returns false'. Refute it at one input. -/
def fnExactPaperPairsWrong : ChangeSpec := { name := "fnExactPaperPairs", fn := fun _ => fun
  | [d] => { results := [.lit (.bool false)], args := [d] }
  | _ => none }
def FnExactPaperPairsWrongFalsely : Prop := fnExactPaperPairsRow.holds Try.pinned (OpenSpec.ofChange fnExactPaperPairsWrong)

/-- 'laws.FnExactRankSumOf': WHATEVER THE INPUT: true; the input reads as it did. -/
def fnExactRankSumOfSpec : ChangeSpec := { name := "fnExactRankSumOf", fn := fun _ => fun
  | [d1, d2] => { results := [.lit (.bool true)], args := [d1, d2] }
  | _ => none }
def fnExactRankSumOfRow : OpenClaim := { program := "ytncekpiabklkeaa", sum := "758c765f6020c5950629ed1799bb7e8f95251c2e103659836d108cc19103e85a", func := "loop.example/g01382/laws.FnExactRankSumOf", spec := "fnExactRankSumOf", inPlace := ["math.Float64bits", "math.Float64frombits"], unfollowed := true, recurses := true, apart := false }
def FnExactRankSumOfSaid : Prop := fnExactRankSumOfRow.holds Try.pinned (OpenSpec.ofChange fnExactRankSumOfSpec)

/-- ITS FALSE NEIGHBOUR: 'it returns false'. Refute it at one input. -/
def fnExactRankSumOfWrong : ChangeSpec := { name := "fnExactRankSumOf", fn := fun _ => fun
  | [d1, d2] => { results := [.lit (.bool false)], args := [d1, d2] }
  | _ => none }
def FnExactRankSumOfWrongFalsely : Prop := fnExactRankSumOfRow.holds Try.pinned (OpenSpec.ofChange fnExactRankSumOfWrong)

/-- 'laws.FnExactLogRankOf': WHATEVER THE INPUT: true; the input reads as it did. -/
def fnExactLogRankOfSpec : ChangeSpec := { name := "fnExactLogRankOf", fn := fun _ => fun
  | [d1, d2] => { results := [.lit (.bool true)], args := [d1, d2] }
  | _ => none }
def fnExactLogRankOfRow : OpenClaim := { program := "ytncekpiabklkeaa", sum := "758c765f6020c5950629ed1799bb7e8f95251c2e103659836d108cc19103e85a", func := "loop.example/g01382/laws.FnExactLogRankOf", spec := "fnExactLogRankOf", inPlace := ["math.Float64bits", "math.Float64frombits"], unfollowed := true, recurses := true, apart := false }
def FnExactLogRankOfSaid : Prop := fnExactLogRankOfRow.holds Try.pinned (OpenSpec.ofChange fnExactLogRankOfSpec)

/-- ITS FALSE NEIGHBOUR: 'it returns false'. Refute it at one input. -/
def fnExactLogRankOfWrong : ChangeSpec := { name := "fnExactLogRankOf", fn := fun _ => fun
  | [d1, d2] => { results := [.lit (.bool false)], args := [d1, d2] }
  | _ => none }
def FnExactLogRankOfWrongFalsely : Prop := fnExactLogRankOfRow.holds Try.pinned (OpenSpec.ofChange fnExactLogRankOfWrong)

/-- 'laws.FnTables': WHATEVER THE INPUT: true; the input reads as it did. -/
def fnTablesSpec : ChangeSpec := { name := "fnTables", fn := fun _ => fun
  | [d1, d2] => { results := [.lit (.bool true)], args := [d1, d2] }
  | _ => none }
def fnTablesRow : OpenClaim := { program := "ytncekpiabklkeaa", sum := "758c765f6020c5950629ed1799bb7e8f95251c2e103659836d108cc19103e85a", func := "loop.example/g01382/laws.FnTables", spec := "fnTables", inPlace := ["math.Float64bits", "math.Float64frombits", "math.sqrt"], unfollowed := true, recurses := true, apart := false }
def FnTablesSaid : Prop := fnTablesRow.holds Try.pinned (OpenSpec.ofChange fnTablesSpec)

/-- ITS FALSE NEIGHBOUR: 'it returns false'. Refute it at one input. -/
def fnTablesWrong : ChangeSpec := { name := "fnTables", fn := fun _ => fun
  | [d1, d2] => { results := [.lit (.bool false)], args := [d1, d2] }
  | _ => none }
def FnTablesWrongFalsely : Prop := fnTablesRow.holds Try.pinned (OpenSpec.ofChange fnTablesWrong)

/- THE SECOND FORM. 'bulk': how many values and letters a reading holds, each counted each time it is reached (what is shared counts as often as it is met; a slice's spare places count too). A statement '..UptoSaid' is the law's where the arguments, and the package variables that the reading takes, are together of bulk at most 1048576: NARROWER than '..Said'. Prove '..Said' where nothing that the law and all that it calls make is longer than what came in: it says more and counts as full. Else prove '..UptoSaid'. A law counts once. -/
mutual
def uptoBulk {H : Type} : DataW H → Nat
  | .lit (.string bytes) => bytes.length + 1
  | .lit _ => 1
  | .nil => 1
  | .ptr d => uptoBulk d + 1
  | .slice elems spare => uptoBulkAll elems + uptoBulkAll spare + 1
  | .agg parts => uptoBulkAll parts + 1
  | .iface _ d => uptoBulk d + 1
  | .map entries => uptoBulkEntries entries + 1
  | .held _ => 1
def uptoBulkAll {H : Type} : List (DataW H) → Nat
  | [] => 0
  | d :: r => uptoBulk d + uptoBulkAll r
def uptoBulkEntries {H : Type} : List (Lit × DataW H) → Nat
  | [] => 0
  | x :: r => uptoBulkEntry x + uptoBulkEntries r
def uptoBulkEntry {H : Type} : Lit × DataW H → Nat
  | (.string bytes, d) => bytes.length + uptoBulk d + 1
  | (_, d) => uptoBulk d + 1
 end
def uptoSmall : (H : Type) → List (DataW H) → Bool := fun _ ds => decide (uptoBulkAll ds ≤ 1048576)
def OpenSpec.upto (s : _root_.Go.ChangeSpec) : _root_.Go.OpenSpec := { _root_.Go.OpenSpec.ofChange s with cond := some uptoSmall }

/-- 'laws.FnExactAreLives', WHERE WHAT IT READS IS OF BULK AT MOST 1048576: true; the input reads as it did. -/
def fnExactAreLivesUptoRow : OpenClaim := { program := "ytncekpiabklkeaa", sum := "758c765f6020c5950629ed1799bb7e8f95251c2e103659836d108cc19103e85a", func := "loop.example/g01382/laws.FnExactAreLives", spec := "fnExactAreLives", inPlace := ["math.Float64bits", "math.Float64frombits"], unfollowed := true, recurses := true, apart := false, narrowed := true }
def FnExactAreLivesUptoSaid : Prop := fnExactAreLivesUptoRow.holds Try.pinned (OpenSpec.upto fnExactAreLivesSpec)

/-- 'laws.FnExactSameLives', WHERE WHAT IT READS IS OF BULK AT MOST 1048576: true; the input reads as it did. -/
def fnExactSameLivesUptoRow : OpenClaim := { program := "ytncekpiabklkeaa", sum := "758c765f6020c5950629ed1799bb7e8f95251c2e103659836d108cc19103e85a", func := "loop.example/g01382/laws.FnExactSameLives", spec := "fnExactSameLives", inPlace := ["math.Float32bits", "math.Float64bits"], unfollowed := true, recurses := true, apart := false, narrowed := true }
def FnExactSameLivesUptoSaid : Prop := fnExactSameLivesUptoRow.holds Try.pinned (OpenSpec.upto fnExactSameLivesSpec)

/-- 'laws.FnExactOrderLives', WHERE WHAT IT READS IS OF BULK AT MOST 1048576: true; the input reads as it did. -/
def fnExactOrderLivesUptoRow : OpenClaim := { program := "ytncekpiabklkeaa", sum := "758c765f6020c5950629ed1799bb7e8f95251c2e103659836d108cc19103e85a", func := "loop.example/g01382/laws.FnExactOrderLives", spec := "fnExactOrderLives", inPlace := ["math.Float64bits", "math.Float64frombits"], unfollowed := true, recurses := true, apart := false, narrowed := true }
def FnExactOrderLivesUptoSaid : Prop := fnExactOrderLivesUptoRow.holds Try.pinned (OpenSpec.upto fnExactOrderLivesSpec)

/-- 'laws.FnExactCountFailed', WHERE WHAT IT READS IS OF BULK AT MOST 1048576: true; the input reads as it did. -/
def fnExactCountFailedUptoRow : OpenClaim := { program := "ytncekpiabklkeaa", sum := "758c765f6020c5950629ed1799bb7e8f95251c2e103659836d108cc19103e85a", func := "loop.example/g01382/laws.FnExactCountFailed", spec := "fnExactCountFailed", inPlace := ["math.Float64bits", "math.Float64frombits"], unfollowed := true, recurses := true, apart := false, narrowed := true }
def FnExactCountFailedUptoSaid : Prop := fnExactCountFailedUptoRow.holds Try.pinned (OpenSpec.upto fnExactCountFailedSpec)

/-- 'laws.FnExactTimeOfTest', WHERE WHAT IT READS IS OF BULK AT MOST 1048576: true; the input reads as it did. -/
def fnExactTimeOfTestUptoRow : OpenClaim := { program := "ytncekpiabklkeaa", sum := "758c765f6020c5950629ed1799bb7e8f95251c2e103659836d108cc19103e85a", func := "loop.example/g01382/laws.FnExactTimeOfTest", spec := "fnExactTimeOfTest", inPlace := ["math.Float64bits", "math.Float64frombits"], unfollowed := true, recurses := true, apart := false, narrowed := true }
def FnExactTimeOfTestUptoSaid : Prop := fnExactTimeOfTestUptoRow.holds Try.pinned (OpenSpec.upto fnExactTimeOfTestSpec)

/-- 'laws.FnExactFailureTimes', WHERE WHAT IT READS IS OF BULK AT MOST 1048576: true; the input reads as it did. -/
def fnExactFailureTimesUptoRow : OpenClaim := { program := "ytncekpiabklkeaa", sum := "758c765f6020c5950629ed1799bb7e8f95251c2e103659836d108cc19103e85a", func := "loop.example/g01382/laws.FnExactFailureTimes", spec := "fnExactFailureTimes", inPlace := ["math.Float64bits", "math.Float64frombits"], unfollowed := true, recurses := true, apart := false, narrowed := true }
def FnExactFailureTimesUptoSaid : Prop := fnExactFailureTimesUptoRow.holds Try.pinned (OpenSpec.upto fnExactFailureTimesSpec)

/-- 'laws.FnExactSurvivorTable', WHERE WHAT IT READS IS OF BULK AT MOST 1048576: true; the input reads as it did. -/
def fnExactSurvivorTableUptoRow : OpenClaim := { program := "ytncekpiabklkeaa", sum := "758c765f6020c5950629ed1799bb7e8f95251c2e103659836d108cc19103e85a", func := "loop.example/g01382/laws.FnExactSurvivorTable", spec := "fnExactSurvivorTable", inPlace := ["math.Float64bits", "math.Float64frombits"], unfollowed := true, recurses := true, apart := false, narrowed := true }
def FnExactSurvivorTableUptoSaid : Prop := fnExactSurvivorTableUptoRow.holds Try.pinned (OpenSpec.upto fnExactSurvivorTableSpec)

/-- 'laws.FnExactFitRate', WHERE WHAT IT READS IS OF BULK AT MOST 1048576: true; the input reads as it did. -/
def fnExactFitRateUptoRow : OpenClaim := { program := "ytncekpiabklkeaa", sum := "758c765f6020c5950629ed1799bb7e8f95251c2e103659836d108cc19103e85a", func := "loop.example/g01382/laws.FnExactFitRate", spec := "fnExactFitRate", inPlace := ["math.Float64bits", "math.Float64frombits"], unfollowed := true, recurses := true, apart := false, narrowed := true }
def FnExactFitRateUptoSaid : Prop := fnExactFitRateUptoRow.holds Try.pinned (OpenSpec.upto fnExactFitRateSpec)

/-- 'laws.FnExactPaperPairs', WHERE WHAT IT READS IS OF BULK AT MOST 1048576: true; the input reads as it did. -/
def fnExactPaperPairsUptoRow : OpenClaim := { program := "ytncekpiabklkeaa", sum := "758c765f6020c5950629ed1799bb7e8f95251c2e103659836d108cc19103e85a", func := "loop.example/g01382/laws.FnExactPaperPairs", spec := "fnExactPaperPairs", inPlace := ["math.Float64frombits", "math.Float64bits"], unfollowed := true, recurses := true, apart := false, narrowed := true }
def FnExactPaperPairsUptoSaid : Prop := fnExactPaperPairsUptoRow.holds Try.pinned (OpenSpec.upto fnExactPaperPairsSpec)

/-- 'laws.FnExactRankSumOf', WHERE WHAT IT READS IS OF BULK AT MOST 1048576: true; the input reads as it did. -/
def fnExactRankSumOfUptoRow : OpenClaim := { program := "ytncekpiabklkeaa", sum := "758c765f6020c5950629ed1799bb7e8f95251c2e103659836d108cc19103e85a", func := "loop.example/g01382/laws.FnExactRankSumOf", spec := "fnExactRankSumOf", inPlace := ["math.Float64bits", "math.Float64frombits"], unfollowed := true, recurses := true, apart := false, narrowed := true }
def FnExactRankSumOfUptoSaid : Prop := fnExactRankSumOfUptoRow.holds Try.pinned (OpenSpec.upto fnExactRankSumOfSpec)

/-- 'laws.FnExactLogRankOf', WHERE WHAT IT READS IS OF BULK AT MOST 1048576: true; the input reads as it did. -/
def fnExactLogRankOfUptoRow : OpenClaim := { program := "ytncekpiabklkeaa", sum := "758c765f6020c5950629ed1799bb7e8f95251c2e103659836d108cc19103e85a", func := "loop.example/g01382/laws.FnExactLogRankOf", spec := "fnExactLogRankOf", inPlace := ["math.Float64bits", "math.Float64frombits"], unfollowed := true, recurses := true, apart := false, narrowed := true }
def FnExactLogRankOfUptoSaid : Prop := fnExactLogRankOfUptoRow.holds Try.pinned (OpenSpec.upto fnExactLogRankOfSpec)

/-- 'laws.FnTables', WHERE WHAT IT READS IS OF BULK AT MOST 1048576: true; the input reads as it did. -/
def fnTablesUptoRow : OpenClaim := { program := "ytncekpiabklkeaa", sum := "758c765f6020c5950629ed1799bb7e8f95251c2e103659836d108cc19103e85a", func := "loop.example/g01382/laws.FnTables", spec := "fnTables", inPlace := ["math.Float64bits", "math.Float64frombits", "math.sqrt"], unfollowed := true, recurses := true, apart := false, narrowed := true }
def FnTablesUptoSaid : Prop := fnTablesUptoRow.holds Try.pinned (OpenSpec.upto fnTablesSpec)

end Rows
end Go.Proofs.Ytncekpiabklkeaa
