/-
  No cell of these rows narrows 'for every input' (looked for: loops, veiled, ifaces, maps, wideKeys, modest, calm, conditions, laid).
  DERIVED. THE GIVEN ROWS OF THIS SEAT. 12 by the template 'for every input the law returns true; each argument reads behind the call as it read before'; 0 by the template 'total and deterministic' (their statements: YtaecdeickncpcaaTotals.lean).
  GIVEN WITH THE SEED: the statements are not yours to turn. If you find one false, say at which input.
  Laid BY PROGRAM, IN A SANDBOX (cutbox-rows.mjs): the forced cells as the released guide's own fill.sh prints them over the translation b6668ee928b75ce5… (all of the seat's roots in one cut). By AI agents, Wed Nov 11 2026. No macro, syntax, notation, axiom, sorry.
-/
import Derived.Test.YtaecdeickncpcaaChecked
import GoSem.Claim
import GoSem.ClaimJoined
import GoSem.ClaimMapViews
import Derived.JoinedTies
import Derived.KernelRfl
namespace Go.Proofs.Ytaecdeickncpcaa
/- THE CELL 'sum', in the pinned program and in every row, IS THE sha256 OF THE DUMP (.gsa) THAT YtaecdeickncpcaaProg.lean LOADS. Nothing in Lean hashes anything: it is a label: what it is worth is what the hold of that sum in a sandbox is worth. -/
noncomputable def Try.pinned : Pinned := { name := "ytaecdeickncpcaa", sum := "b6668ee928b75ce550965835ceebdf54a31de12665593791a04a4be98964c806", checked := Try.checked }
namespace Rows
def none {H : Type} : Left H := { results := [], args := [] }

/-- 'laws.FnExactChainSystems': WHATEVER THE INPUT: true; the input reads as it did. -/
def fnExactChainSystemsSpec : ChangeSpec := { name := "fnExactChainSystems", fn := fun _ => fun
  | [d1, d2] => { results := [.lit (.bool true)], args := [d1, d2] }
  | _ => none }
def fnExactChainSystemsRow : OpenClaim := { program := "ytaecdeickncpcaa", sum := "b6668ee928b75ce550965835ceebdf54a31de12665593791a04a4be98964c806", func := "loop.example/g01382/laws.FnExactChainSystems", spec := "fnExactChainSystems", unfollowed := true, recurses := true, plainKeys := false, apart := false }
def FnExactChainSystemsSaid : Prop := fnExactChainSystemsRow.holds Try.pinned (OpenSpec.ofChange fnExactChainSystemsSpec)

/-- ITS FALSE NEIGHBOUR: 'it returns false'. Refute it at one input. -/
def fnExactChainSystemsWrong : ChangeSpec := { name := "fnExactChainSystems", fn := fun _ => fun
  | [d1, d2] => { results := [.lit (.bool false)], args := [d1, d2] }
  | _ => none }
def FnExactChainSystemsWrongFalsely : Prop := fnExactChainSystemsRow.holds Try.pinned (OpenSpec.ofChange fnExactChainSystemsWrong)

/-- 'laws.FnExactBesideSystems': WHATEVER THE INPUT: true; the input reads as it did. -/
def fnExactBesideSystemsSpec : ChangeSpec := { name := "fnExactBesideSystems", fn := fun _ => fun
  | [d1, d2] => { results := [.lit (.bool true)], args := [d1, d2] }
  | _ => none }
def fnExactBesideSystemsRow : OpenClaim := { program := "ytaecdeickncpcaa", sum := "b6668ee928b75ce550965835ceebdf54a31de12665593791a04a4be98964c806", func := "loop.example/g01382/laws.FnExactBesideSystems", spec := "fnExactBesideSystems", unfollowed := true, recurses := true, plainKeys := false, apart := false }
def FnExactBesideSystemsSaid : Prop := fnExactBesideSystemsRow.holds Try.pinned (OpenSpec.ofChange fnExactBesideSystemsSpec)

/-- ITS FALSE NEIGHBOUR: 'it returns false'. Refute it at one input. -/
def fnExactBesideSystemsWrong : ChangeSpec := { name := "fnExactBesideSystems", fn := fun _ => fun
  | [d1, d2] => { results := [.lit (.bool false)], args := [d1, d2] }
  | _ => none }
def FnExactBesideSystemsWrongFalsely : Prop := fnExactBesideSystemsRow.holds Try.pinned (OpenSpec.ofChange fnExactBesideSystemsWrong)

/-- 'laws.FnExactSwingCounts': WHATEVER THE INPUT: true; the input reads as it did. -/
def fnExactSwingCountsSpec : ChangeSpec := { name := "fnExactSwingCounts", fn := fun _ => fun
  | [d] => { results := [.lit (.bool true)], args := [d] }
  | _ => none }
def fnExactSwingCountsRow : OpenClaim := { program := "ytaecdeickncpcaa", sum := "b6668ee928b75ce550965835ceebdf54a31de12665593791a04a4be98964c806", func := "loop.example/g01382/laws.FnExactSwingCounts", spec := "fnExactSwingCounts", unfollowed := true, recurses := true, plainKeys := false, apart := false }
def FnExactSwingCountsSaid : Prop := fnExactSwingCountsRow.holds Try.pinned (OpenSpec.ofChange fnExactSwingCountsSpec)

/-- ITS FALSE NEIGHBOUR: 'it returns false'. Refute it at one input. -/
def fnExactSwingCountsWrong : ChangeSpec := { name := "fnExactSwingCounts", fn := fun _ => fun
  | [d] => { results := [.lit (.bool false)], args := [d] }
  | _ => none }
def FnExactSwingCountsWrongFalsely : Prop := fnExactSwingCountsRow.holds Try.pinned (OpenSpec.ofChange fnExactSwingCountsWrong)

/-- 'laws.FnExactValidTree': WHATEVER THE INPUT: true; the input reads as it did. -/
def fnExactValidTreeSpec : ChangeSpec := { name := "fnExactValidTree", fn := fun _ => fun
  | [d1, d2] => { results := [.lit (.bool true)], args := [d1, d2] }
  | _ => none }
def fnExactValidTreeRow : OpenClaim := { program := "ytaecdeickncpcaa", sum := "b6668ee928b75ce550965835ceebdf54a31de12665593791a04a4be98964c806", func := "loop.example/g01382/laws.FnExactValidTree", spec := "fnExactValidTree", plainKeys := false, apart := false }
def FnExactValidTreeSaid : Prop := fnExactValidTreeRow.holds Try.pinned (OpenSpec.ofChange fnExactValidTreeSpec)

/-- ITS FALSE NEIGHBOUR: 'it returns false'. Refute it at one input. -/
def fnExactValidTreeWrong : ChangeSpec := { name := "fnExactValidTree", fn := fun _ => fun
  | [d1, d2] => { results := [.lit (.bool false)], args := [d1, d2] }
  | _ => none }
def FnExactValidTreeWrongFalsely : Prop := fnExactValidTreeRow.holds Try.pinned (OpenSpec.ofChange fnExactValidTreeWrong)

/-- 'laws.FnExactFailsBy': WHATEVER THE INPUT: true; the input reads as it did. -/
def fnExactFailsBySpec : ChangeSpec := { name := "fnExactFailsBy", fn := fun _ => fun
  | [d1, d2, d3] => { results := [.lit (.bool true)], args := [d1, d2, d3] }
  | _ => none }
def fnExactFailsByRow : OpenClaim := { program := "ytaecdeickncpcaa", sum := "b6668ee928b75ce550965835ceebdf54a31de12665593791a04a4be98964c806", func := "loop.example/g01382/laws.FnExactFailsBy", spec := "fnExactFailsBy", unfollowed := true, recurses := true, plainKeys := false, apart := false }
def FnExactFailsBySaid : Prop := fnExactFailsByRow.holds Try.pinned (OpenSpec.ofChange fnExactFailsBySpec)

/-- ITS FALSE NEIGHBOUR: 'it returns false'. Refute it at one input. -/
def fnExactFailsByWrong : ChangeSpec := { name := "fnExactFailsBy", fn := fun _ => fun
  | [d1, d2, d3] => { results := [.lit (.bool false)], args := [d1, d2, d3] }
  | _ => none }
def FnExactFailsByWrongFalsely : Prop := fnExactFailsByRow.holds Try.pinned (OpenSpec.ofChange fnExactFailsByWrong)

/-- 'laws.FnExactTreeCuts': WHATEVER THE INPUT: true; the input reads as it did. -/
def fnExactTreeCutsSpec : ChangeSpec := { name := "fnExactTreeCuts", fn := fun _ => fun
  | [d1, d2] => { results := [.lit (.bool true)], args := [d1, d2] }
  | _ => none }
def fnExactTreeCutsRow : OpenClaim := { program := "ytaecdeickncpcaa", sum := "b6668ee928b75ce550965835ceebdf54a31de12665593791a04a4be98964c806", func := "loop.example/g01382/laws.FnExactTreeCuts", spec := "fnExactTreeCuts", unfollowed := true, recurses := true, plainKeys := false, apart := false }
def FnExactTreeCutsSaid : Prop := fnExactTreeCutsRow.holds Try.pinned (OpenSpec.ofChange fnExactTreeCutsSpec)

/-- ITS FALSE NEIGHBOUR: 'it returns false'. Refute it at one input. -/
def fnExactTreeCutsWrong : ChangeSpec := { name := "fnExactTreeCuts", fn := fun _ => fun
  | [d1, d2] => { results := [.lit (.bool false)], args := [d1, d2] }
  | _ => none }
def FnExactTreeCutsWrongFalsely : Prop := fnExactTreeCutsRow.holds Try.pinned (OpenSpec.ofChange fnExactTreeCutsWrong)

/-- 'laws.FnExactDiagramChance': WHATEVER THE INPUT: true; the input reads as it did. -/
def fnExactDiagramChanceSpec : ChangeSpec := { name := "fnExactDiagramChance", fn := fun _ => fun
  | [d1, d2] => { results := [.lit (.bool true)], args := [d1, d2] }
  | _ => none }
def fnExactDiagramChanceRow : OpenClaim := { program := "ytaecdeickncpcaa", sum := "b6668ee928b75ce550965835ceebdf54a31de12665593791a04a4be98964c806", func := "loop.example/g01382/laws.FnExactDiagramChance", spec := "fnExactDiagramChance", unfollowed := true, recurses := true, plainKeys := false, apart := false }
def FnExactDiagramChanceSaid : Prop := fnExactDiagramChanceRow.holds Try.pinned (OpenSpec.ofChange fnExactDiagramChanceSpec)

/-- ITS FALSE NEIGHBOUR: 'it returns false'. Refute it at one input. -/
def fnExactDiagramChanceWrong : ChangeSpec := { name := "fnExactDiagramChance", fn := fun _ => fun
  | [d1, d2] => { results := [.lit (.bool false)], args := [d1, d2] }
  | _ => none }
def FnExactDiagramChanceWrongFalsely : Prop := fnExactDiagramChanceRow.holds Try.pinned (OpenSpec.ofChange fnExactDiagramChanceWrong)

/-- 'laws.FnExactPhasesChance': WHATEVER THE INPUT: true; the input reads as it did. -/
def fnExactPhasesChanceSpec : ChangeSpec := { name := "fnExactPhasesChance", fn := fun _ => fun
  | [d1, d2] => { results := [.lit (.bool true)], args := [d1, d2] }
  | _ => none }
def fnExactPhasesChanceRow : OpenClaim := { program := "ytaecdeickncpcaa", sum := "b6668ee928b75ce550965835ceebdf54a31de12665593791a04a4be98964c806", func := "loop.example/g01382/laws.FnExactPhasesChance", spec := "fnExactPhasesChance", unfollowed := true, recurses := true, plainKeys := false, apart := false }
def FnExactPhasesChanceSaid : Prop := fnExactPhasesChanceRow.holds Try.pinned (OpenSpec.ofChange fnExactPhasesChanceSpec)

/-- ITS FALSE NEIGHBOUR: 'it returns false'. Refute it at one input. -/
def fnExactPhasesChanceWrong : ChangeSpec := { name := "fnExactPhasesChance", fn := fun _ => fun
  | [d1, d2] => { results := [.lit (.bool false)], args := [d1, d2] }
  | _ => none }
def FnExactPhasesChanceWrongFalsely : Prop := fnExactPhasesChanceRow.holds Try.pinned (OpenSpec.ofChange fnExactPhasesChanceWrong)

/-- 'laws.FnExactRoadSystem': WHATEVER THE INPUT: true; the input reads as it did. -/
def fnExactRoadSystemSpec : ChangeSpec := { name := "fnExactRoadSystem", fn := fun _ => fun
  | [d1, d2] => { results := [.lit (.bool true)], args := [d1, d2] }
  | _ => none }
def fnExactRoadSystemRow : OpenClaim := { program := "ytaecdeickncpcaa", sum := "b6668ee928b75ce550965835ceebdf54a31de12665593791a04a4be98964c806", func := "loop.example/g01382/laws.FnExactRoadSystem", spec := "fnExactRoadSystem", unfollowed := true, recurses := true, plainKeys := false, apart := false }
def FnExactRoadSystemSaid : Prop := fnExactRoadSystemRow.holds Try.pinned (OpenSpec.ofChange fnExactRoadSystemSpec)

/-- ITS FALSE NEIGHBOUR: 'it returns false'. Refute it at one input. -/
def fnExactRoadSystemWrong : ChangeSpec := { name := "fnExactRoadSystem", fn := fun _ => fun
  | [d1, d2] => { results := [.lit (.bool false)], args := [d1, d2] }
  | _ => none }
def FnExactRoadSystemWrongFalsely : Prop := fnExactRoadSystemRow.holds Try.pinned (OpenSpec.ofChange fnExactRoadSystemWrong)

/-- 'laws.FnExactJoinedCounts': WHATEVER THE INPUT: true; the input reads as it did. -/
def fnExactJoinedCountsSpec : ChangeSpec := { name := "fnExactJoinedCounts", fn := fun _ => fun
  | [d1, d2] => { results := [.lit (.bool true)], args := [d1, d2] }
  | _ => none }
def fnExactJoinedCountsRow : OpenClaim := { program := "ytaecdeickncpcaa", sum := "b6668ee928b75ce550965835ceebdf54a31de12665593791a04a4be98964c806", func := "loop.example/g01382/laws.FnExactJoinedCounts", spec := "fnExactJoinedCounts", unfollowed := true, recurses := true, plainKeys := false, apart := false }
def FnExactJoinedCountsSaid : Prop := fnExactJoinedCountsRow.holds Try.pinned (OpenSpec.ofChange fnExactJoinedCountsSpec)

/-- ITS FALSE NEIGHBOUR: 'it returns false'. Refute it at one input. -/
def fnExactJoinedCountsWrong : ChangeSpec := { name := "fnExactJoinedCounts", fn := fun _ => fun
  | [d1, d2] => { results := [.lit (.bool false)], args := [d1, d2] }
  | _ => none }
def FnExactJoinedCountsWrongFalsely : Prop := fnExactJoinedCountsRow.holds Try.pinned (OpenSpec.ofChange fnExactJoinedCountsWrong)

/-- 'laws.FnExactSystemOf': WHATEVER THE INPUT: true; the input reads as it did. -/
def fnExactSystemOfSpec : ChangeSpec := { name := "fnExactSystemOf", fn := fun _ => fun
  | [d1, d2] => { results := [.lit (.bool true)], args := [d1, d2] }
  | _ => none }
def fnExactSystemOfRow : OpenClaim := { program := "ytaecdeickncpcaa", sum := "b6668ee928b75ce550965835ceebdf54a31de12665593791a04a4be98964c806", func := "loop.example/g01382/laws.FnExactSystemOf", spec := "fnExactSystemOf", unfollowed := true, recurses := true, plainKeys := false, apart := false }
def FnExactSystemOfSaid : Prop := fnExactSystemOfRow.holds Try.pinned (OpenSpec.ofChange fnExactSystemOfSpec)

/-- ITS FALSE NEIGHBOUR: 'it returns false'. Refute it at one input. -/
def fnExactSystemOfWrong : ChangeSpec := { name := "fnExactSystemOf", fn := fun _ => fun
  | [d1, d2] => { results := [.lit (.bool false)], args := [d1, d2] }
  | _ => none }
def FnExactSystemOfWrongFalsely : Prop := fnExactSystemOfRow.holds Try.pinned (OpenSpec.ofChange fnExactSystemOfWrong)

/-- 'laws.FnExactTreeDiagram': WHATEVER THE INPUT: true; the input reads as it did. -/
def fnExactTreeDiagramSpec : ChangeSpec := { name := "fnExactTreeDiagram", fn := fun _ => fun
  | [d1, d2] => { results := [.lit (.bool true)], args := [d1, d2] }
  | _ => none }
def fnExactTreeDiagramRow : OpenClaim := { program := "ytaecdeickncpcaa", sum := "b6668ee928b75ce550965835ceebdf54a31de12665593791a04a4be98964c806", func := "loop.example/g01382/laws.FnExactTreeDiagram", spec := "fnExactTreeDiagram", unfollowed := true, recurses := true, plainKeys := false, apart := false }
def FnExactTreeDiagramSaid : Prop := fnExactTreeDiagramRow.holds Try.pinned (OpenSpec.ofChange fnExactTreeDiagramSpec)

/-- ITS FALSE NEIGHBOUR: 'it returns false'. Refute it at one input. -/
def fnExactTreeDiagramWrong : ChangeSpec := { name := "fnExactTreeDiagram", fn := fun _ => fun
  | [d1, d2] => { results := [.lit (.bool false)], args := [d1, d2] }
  | _ => none }
def FnExactTreeDiagramWrongFalsely : Prop := fnExactTreeDiagramRow.holds Try.pinned (OpenSpec.ofChange fnExactTreeDiagramWrong)

/- THE SECOND FORM. 'bulk': how many values and letters a reading holds, each counted each time it is reached (what is shared counts as often as it is met; a slice's spare places count too). A statement '..UptoSaid' is the law's where the arguments, and the package variables that the reading takes, are together of bulk at most 1048576: NARROWER than '..Said'. Prove '..Said' where nothing that the law and all that it calls make is longer than what came in: it says more and counts as full. Else prove '..UptoSaid'. A law counts once. -/
mutual
def uptoBulk {H : Type} : DataW H → Nat
  | .lit (.string bytes) => bytes.length + 1
  | .lit _ => 1
  | .nil => 1
  | .ptr d => uptoBulk d + 1
  | .slice elems spare => uptoBulkAll elems + uptoBulkAll spare + 1
  | .agg parts => uptoBulkAll parts + 1
  | .iface _ d => uptoBulk d + 1
  | .map entries => uptoBulkEntries entries + 1
  | .held _ => 1
def uptoBulkAll {H : Type} : List (DataW H) → Nat
  | [] => 0
  | d :: r => uptoBulk d + uptoBulkAll r
def uptoBulkEntries {H : Type} : List (Lit × DataW H) → Nat
  | [] => 0
  | x :: r => uptoBulkEntry x + uptoBulkEntries r
def uptoBulkEntry {H : Type} : Lit × DataW H → Nat
  | (.string bytes, d) => bytes.length + uptoBulk d + 1
  | (_, d) => uptoBulk d + 1
 end
def uptoSmall : (H : Type) → List (DataW H) → Bool := fun _ ds => decide (uptoBulkAll ds ≤ 1048576)
def OpenSpec.upto (s : _root_.Go.ChangeSpec) : _root_.Go.OpenSpec := { _root_.Go.OpenSpec.ofChange s with cond := some uptoSmall }

/-- 'laws.FnExactChainSystems', WHERE WHAT IT READS IS OF BULK AT MOST 1048576: true; the input reads as it did. -/
def fnExactChainSystemsUptoRow : OpenClaim := { program := "ytaecdeickncpcaa", sum := "b6668ee928b75ce550965835ceebdf54a31de12665593791a04a4be98964c806", func := "loop.example/g01382/laws.FnExactChainSystems", spec := "fnExactChainSystems", unfollowed := true, recurses := true, plainKeys := false, apart := false, narrowed := true }
def FnExactChainSystemsUptoSaid : Prop := fnExactChainSystemsUptoRow.holds Try.pinned (OpenSpec.upto fnExactChainSystemsSpec)

/-- 'laws.FnExactBesideSystems', WHERE WHAT IT READS IS OF BULK AT MOST 1048576: true; the input reads as it did. -/
def fnExactBesideSystemsUptoRow : OpenClaim := { program := "ytaecdeickncpcaa", sum := "b6668ee928b75ce550965835ceebdf54a31de12665593791a04a4be98964c806", func := "loop.example/g01382/laws.FnExactBesideSystems", spec := "fnExactBesideSystems", unfollowed := true, recurses := true, plainKeys := false, apart := false, narrowed := true }
def FnExactBesideSystemsUptoSaid : Prop := fnExactBesideSystemsUptoRow.holds Try.pinned (OpenSpec.upto fnExactBesideSystemsSpec)

/-- 'laws.FnExactSwingCounts', WHERE WHAT IT READS IS OF BULK AT MOST 1048576: true; the input reads as it did. -/
def fnExactSwingCountsUptoRow : OpenClaim := { program := "ytaecdeickncpcaa", sum := "b6668ee928b75ce550965835ceebdf54a31de12665593791a04a4be98964c806", func := "loop.example/g01382/laws.FnExactSwingCounts", spec := "fnExactSwingCounts", unfollowed := true, recurses := true, plainKeys := false, apart := false, narrowed := true }
def FnExactSwingCountsUptoSaid : Prop := fnExactSwingCountsUptoRow.holds Try.pinned (OpenSpec.upto fnExactSwingCountsSpec)

/-- 'laws.FnExactValidTree', WHERE WHAT IT READS IS OF BULK AT MOST 1048576: true; the input reads as it did. -/
def fnExactValidTreeUptoRow : OpenClaim := { program := "ytaecdeickncpcaa", sum := "b6668ee928b75ce550965835ceebdf54a31de12665593791a04a4be98964c806", func := "loop.example/g01382/laws.FnExactValidTree", spec := "fnExactValidTree", plainKeys := false, apart := false, narrowed := true }
def FnExactValidTreeUptoSaid : Prop := fnExactValidTreeUptoRow.holds Try.pinned (OpenSpec.upto fnExactValidTreeSpec)

/-- 'laws.FnExactFailsBy', WHERE WHAT IT READS IS OF BULK AT MOST 1048576: true; the input reads as it did. -/
def fnExactFailsByUptoRow : OpenClaim := { program := "ytaecdeickncpcaa", sum := "b6668ee928b75ce550965835ceebdf54a31de12665593791a04a4be98964c806", func := "loop.example/g01382/laws.FnExactFailsBy", spec := "fnExactFailsBy", unfollowed := true, recurses := true, plainKeys := false, apart := false, narrowed := true }
def FnExactFailsByUptoSaid : Prop := fnExactFailsByUptoRow.holds Try.pinned (OpenSpec.upto fnExactFailsBySpec)

/-- 'laws.FnExactTreeCuts', WHERE WHAT IT READS IS OF BULK AT MOST 1048576: true; the input reads as it did. -/
def fnExactTreeCutsUptoRow : OpenClaim := { program := "ytaecdeickncpcaa", sum := "b6668ee928b75ce550965835ceebdf54a31de12665593791a04a4be98964c806", func := "loop.example/g01382/laws.FnExactTreeCuts", spec := "fnExactTreeCuts", unfollowed := true, recurses := true, plainKeys := false, apart := false, narrowed := true }
def FnExactTreeCutsUptoSaid : Prop := fnExactTreeCutsUptoRow.holds Try.pinned (OpenSpec.upto fnExactTreeCutsSpec)

/-- 'laws.FnExactDiagramChance', WHERE WHAT IT READS IS OF BULK AT MOST 1048576: true; the input reads as it did. -/
def fnExactDiagramChanceUptoRow : OpenClaim := { program := "ytaecdeickncpcaa", sum := "b6668ee928b75ce550965835ceebdf54a31de12665593791a04a4be98964c806", func := "loop.example/g01382/laws.FnExactDiagramChance", spec := "fnExactDiagramChance", unfollowed := true, recurses := true, plainKeys := false, apart := false, narrowed := true }
def FnExactDiagramChanceUptoSaid : Prop := fnExactDiagramChanceUptoRow.holds Try.pinned (OpenSpec.upto fnExactDiagramChanceSpec)

/-- 'laws.FnExactPhasesChance', WHERE WHAT IT READS IS OF BULK AT MOST 1048576: true; the input reads as it did. -/
def fnExactPhasesChanceUptoRow : OpenClaim := { program := "ytaecdeickncpcaa", sum := "b6668ee928b75ce550965835ceebdf54a31de12665593791a04a4be98964c806", func := "loop.example/g01382/laws.FnExactPhasesChance", spec := "fnExactPhasesChance", unfollowed := true, recurses := true, plainKeys := false, apart := false, narrowed := true }
def FnExactPhasesChanceUptoSaid : Prop := fnExactPhasesChanceUptoRow.holds Try.pinned (OpenSpec.upto fnExactPhasesChanceSpec)

/-- 'laws.FnExactRoadSystem', WHERE WHAT IT READS IS OF BULK AT MOST 1048576: true; the input reads as it did. -/
def fnExactRoadSystemUptoRow : OpenClaim := { program := "ytaecdeickncpcaa", sum := "b6668ee928b75ce550965835ceebdf54a31de12665593791a04a4be98964c806", func := "loop.example/g01382/laws.FnExactRoadSystem", spec := "fnExactRoadSystem", unfollowed := true, recurses := true, plainKeys := false, apart := false, narrowed := true }
def FnExactRoadSystemUptoSaid : Prop := fnExactRoadSystemUptoRow.holds Try.pinned (OpenSpec.upto fnExactRoadSystemSpec)

/-- 'laws.FnExactJoinedCounts', WHERE WHAT IT READS IS OF BULK AT MOST 1048576: true; the input reads as it did. -/
def fnExactJoinedCountsUptoRow : OpenClaim := { program := "ytaecdeickncpcaa", sum := "b6668ee928b75ce550965835ceebdf54a31de12665593791a04a4be98964c806", func := "loop.example/g01382/laws.FnExactJoinedCounts", spec := "fnExactJoinedCounts", unfollowed := true, recurses := true, plainKeys := false, apart := false, narrowed := true }
def FnExactJoinedCountsUptoSaid : Prop := fnExactJoinedCountsUptoRow.holds Try.pinned (OpenSpec.upto fnExactJoinedCountsSpec)

/-- 'laws.FnExactSystemOf', WHERE WHAT IT READS IS OF BULK AT MOST 1048576: true; the input reads as it did. -/
def fnExactSystemOfUptoRow : OpenClaim := { program := "ytaecdeickncpcaa", sum := "b6668ee928b75ce550965835ceebdf54a31de12665593791a04a4be98964c806", func := "loop.example/g01382/laws.FnExactSystemOf", spec := "fnExactSystemOf", unfollowed := true, recurses := true, plainKeys := false, apart := false, narrowed := true }
def FnExactSystemOfUptoSaid : Prop := fnExactSystemOfUptoRow.holds Try.pinned (OpenSpec.upto fnExactSystemOfSpec)

/-- 'laws.FnExactTreeDiagram', WHERE WHAT IT READS IS OF BULK AT MOST 1048576: true; the input reads as it did. -/
def fnExactTreeDiagramUptoRow : OpenClaim := { program := "ytaecdeickncpcaa", sum := "b6668ee928b75ce550965835ceebdf54a31de12665593791a04a4be98964c806", func := "loop.example/g01382/laws.FnExactTreeDiagram", spec := "fnExactTreeDiagram", unfollowed := true, recurses := true, plainKeys := false, apart := false, narrowed := true }
def FnExactTreeDiagramUptoSaid : Prop := fnExactTreeDiagramUptoRow.holds Try.pinned (OpenSpec.upto fnExactTreeDiagramSpec)

end Rows
end Go.Proofs.Ytaecdeickncpcaa
