/-
  No cell of these rows narrows 'for every input' (looked for: loops, veiled, ifaces, maps, wideKeys, modest, calm, conditions, laid).
  DERIVED. THE GIVEN ROWS OF THIS SEAT. 12 by the template 'for every input the law returns true; each argument reads behind the call as it read before'; 0 by the template 'total and deterministic' (their statements: YtbmgloncimjfhabTotals.lean).
  GIVEN WITH THE SEED: the statements are not yours to turn. If you find one false, say at which input.
  Laid BY PROGRAM, IN A SANDBOX (cutbox-rows.mjs): the forced cells as the released guide's own fill.sh prints them over the translation 2e4c7292a79657d5… (all of the seat's roots in one cut). By AI agents, Wed Nov 11 2026. No macro, syntax, notation, axiom, sorry.
-/
import Derived.Test.YtbmgloncimjfhabChecked
import GoSem.Claim
import GoSem.ClaimJoined
import GoSem.ClaimMapViews
import Derived.JoinedTies
import Derived.KernelRfl
namespace Go.Proofs.Ytbmgloncimjfhab
/- THE CELL 'sum', in the pinned program and in every row, IS THE sha256 OF THE DUMP (.gsa) THAT YtbmgloncimjfhabProg.lean LOADS. Nothing in Lean hashes anything: it is a label: what it is worth is what the hold of that sum in a sandbox is worth. -/
noncomputable def Try.pinned : Pinned := { name := "ytbmgloncimjfhab", sum := "2e4c7292a79657d5a196b8183156e66a9d9d94ff87ade4c15f12fe6161d24272", checked := Try.checked }
namespace Rows
def none {H : Type} : Left H := { results := [], args := [] }

/-- 'laws.FnExactChanceOf': WHATEVER THE INPUT: true; the input reads as it did. -/
def fnExactChanceOfSpec : ChangeSpec := { name := "fnExactChanceOf", fn := fun _ => fun
  | [d1, d2] => { results := [.lit (.bool true)], args := [d1, d2] }
  | _ => none }
def fnExactChanceOfRow : OpenClaim := { program := "ytbmgloncimjfhab", sum := "2e4c7292a79657d5a196b8183156e66a9d9d94ff87ade4c15f12fe6161d24272", func := "loop.example/g01382/laws.FnExactChanceOf", spec := "fnExactChanceOf", unfollowed := true, recurses := true, plainKeys := false, apart := false }
def FnExactChanceOfSaid : Prop := fnExactChanceOfRow.holds Try.pinned (OpenSpec.ofChange fnExactChanceOfSpec)

/-- ITS FALSE NEIGHBOUR: 'it returns false'. Refute it at one input. -/
def fnExactChanceOfWrong : ChangeSpec := { name := "fnExactChanceOf", fn := fun _ => fun
  | [d1, d2] => { results := [.lit (.bool false)], args := [d1, d2] }
  | _ => none }
def FnExactChanceOfWrongFalsely : Prop := fnExactChanceOfRow.holds Try.pinned (OpenSpec.ofChange fnExactChanceOfWrong)

/-- 'laws.FnExactChanceBounds': WHATEVER THE INPUT: true; the input reads as it did. -/
def fnExactChanceBoundsSpec : ChangeSpec := { name := "fnExactChanceBounds", fn := fun _ => fun
  | [d1, d2] => { results := [.lit (.bool true)], args := [d1, d2] }
  | _ => none }
def fnExactChanceBoundsRow : OpenClaim := { program := "ytbmgloncimjfhab", sum := "2e4c7292a79657d5a196b8183156e66a9d9d94ff87ade4c15f12fe6161d24272", func := "loop.example/g01382/laws.FnExactChanceBounds", spec := "fnExactChanceBounds", unfollowed := true, recurses := true, plainKeys := false, apart := false }
def FnExactChanceBoundsSaid : Prop := fnExactChanceBoundsRow.holds Try.pinned (OpenSpec.ofChange fnExactChanceBoundsSpec)

/-- ITS FALSE NEIGHBOUR: 'it returns false'. Refute it at one input. -/
def fnExactChanceBoundsWrong : ChangeSpec := { name := "fnExactChanceBounds", fn := fun _ => fun
  | [d1, d2] => { results := [.lit (.bool false)], args := [d1, d2] }
  | _ => none }
def FnExactChanceBoundsWrongFalsely : Prop := fnExactChanceBoundsRow.holds Try.pinned (OpenSpec.ofChange fnExactChanceBoundsWrong)

/-- 'laws.FnExactPartChances': WHATEVER THE INPUT: true; the input reads as it did. -/
def fnExactPartChancesSpec : ChangeSpec := { name := "fnExactPartChances", fn := fun _ => fun
  | [d1, d2] => { results := [.lit (.bool true)], args := [d1, d2] }
  | _ => none }
def fnExactPartChancesRow : OpenClaim := { program := "ytbmgloncimjfhab", sum := "2e4c7292a79657d5a196b8183156e66a9d9d94ff87ade4c15f12fe6161d24272", func := "loop.example/g01382/laws.FnExactPartChances", spec := "fnExactPartChances", unfollowed := true, recurses := true, plainKeys := false, apart := false }
def FnExactPartChancesSaid : Prop := fnExactPartChancesRow.holds Try.pinned (OpenSpec.ofChange fnExactPartChancesSpec)

/-- ITS FALSE NEIGHBOUR: 'it returns false'. Refute it at one input. -/
def fnExactPartChancesWrong : ChangeSpec := { name := "fnExactPartChances", fn := fun _ => fun
  | [d1, d2] => { results := [.lit (.bool false)], args := [d1, d2] }
  | _ => none }
def FnExactPartChancesWrongFalsely : Prop := fnExactPartChancesRow.holds Try.pinned (OpenSpec.ofChange fnExactPartChancesWrong)

/-- 'laws.FnExactSharedShock': WHATEVER THE INPUT: true; the input reads as it did. -/
def fnExactSharedShockSpec : ChangeSpec := { name := "fnExactSharedShock", fn := fun _ => fun
  | [d1, d2, d3, d4] => { results := [.lit (.bool true)], args := [d1, d2, d3, d4] }
  | _ => none }
def fnExactSharedShockRow : OpenClaim := { program := "ytbmgloncimjfhab", sum := "2e4c7292a79657d5a196b8183156e66a9d9d94ff87ade4c15f12fe6161d24272", func := "loop.example/g01382/laws.FnExactSharedShock", spec := "fnExactSharedShock", unfollowed := true, recurses := true, plainKeys := false, apart := false }
def FnExactSharedShockSaid : Prop := fnExactSharedShockRow.holds Try.pinned (OpenSpec.ofChange fnExactSharedShockSpec)

/-- ITS FALSE NEIGHBOUR: 'it returns false'. Refute it at one input. -/
def fnExactSharedShockWrong : ChangeSpec := { name := "fnExactSharedShock", fn := fun _ => fun
  | [d1, d2, d3, d4] => { results := [.lit (.bool false)], args := [d1, d2, d3, d4] }
  | _ => none }
def FnExactSharedShockWrongFalsely : Prop := fnExactSharedShockRow.holds Try.pinned (OpenSpec.ofChange fnExactSharedShockWrong)

/-- 'laws.FnExactWorkingCounts': WHATEVER THE INPUT: true; the input reads as it did. -/
def fnExactWorkingCountsSpec : ChangeSpec := { name := "fnExactWorkingCounts", fn := fun _ => fun
  | [d] => { results := [.lit (.bool true)], args := [d] }
  | _ => none }
def fnExactWorkingCountsRow : OpenClaim := { program := "ytbmgloncimjfhab", sum := "2e4c7292a79657d5a196b8183156e66a9d9d94ff87ade4c15f12fe6161d24272", func := "loop.example/g01382/laws.FnExactWorkingCounts", spec := "fnExactWorkingCounts", unfollowed := true, recurses := true, plainKeys := false, apart := false }
def FnExactWorkingCountsSaid : Prop := fnExactWorkingCountsRow.holds Try.pinned (OpenSpec.ofChange fnExactWorkingCountsSpec)

/-- ITS FALSE NEIGHBOUR: 'it returns false'. Refute it at one input. -/
def fnExactWorkingCountsWrong : ChangeSpec := { name := "fnExactWorkingCounts", fn := fun _ => fun
  | [d] => { results := [.lit (.bool false)], args := [d] }
  | _ => none }
def FnExactWorkingCountsWrongFalsely : Prop := fnExactWorkingCountsRow.holds Try.pinned (OpenSpec.ofChange fnExactWorkingCountsWrong)

/-- 'laws.FnExactSwingCounts': WHATEVER THE INPUT: true; the input reads as it did. -/
def fnExactSwingCountsSpec : ChangeSpec := { name := "fnExactSwingCounts", fn := fun _ => fun
  | [d] => { results := [.lit (.bool true)], args := [d] }
  | _ => none }
def fnExactSwingCountsRow : OpenClaim := { program := "ytbmgloncimjfhab", sum := "2e4c7292a79657d5a196b8183156e66a9d9d94ff87ade4c15f12fe6161d24272", func := "loop.example/g01382/laws.FnExactSwingCounts", spec := "fnExactSwingCounts", unfollowed := true, recurses := true, plainKeys := false, apart := false }
def FnExactSwingCountsSaid : Prop := fnExactSwingCountsRow.holds Try.pinned (OpenSpec.ofChange fnExactSwingCountsSpec)

/-- ITS FALSE NEIGHBOUR: 'it returns false'. Refute it at one input. -/
def fnExactSwingCountsWrong : ChangeSpec := { name := "fnExactSwingCounts", fn := fun _ => fun
  | [d] => { results := [.lit (.bool false)], args := [d] }
  | _ => none }
def FnExactSwingCountsWrongFalsely : Prop := fnExactSwingCountsRow.holds Try.pinned (OpenSpec.ofChange fnExactSwingCountsWrong)

/-- 'laws.FnExactJoinedCounts': WHATEVER THE INPUT: true; the input reads as it did. -/
def fnExactJoinedCountsSpec : ChangeSpec := { name := "fnExactJoinedCounts", fn := fun _ => fun
  | [d1, d2] => { results := [.lit (.bool true)], args := [d1, d2] }
  | _ => none }
def fnExactJoinedCountsRow : OpenClaim := { program := "ytbmgloncimjfhab", sum := "2e4c7292a79657d5a196b8183156e66a9d9d94ff87ade4c15f12fe6161d24272", func := "loop.example/g01382/laws.FnExactJoinedCounts", spec := "fnExactJoinedCounts", unfollowed := true, recurses := true, plainKeys := false, apart := false }
def FnExactJoinedCountsSaid : Prop := fnExactJoinedCountsRow.holds Try.pinned (OpenSpec.ofChange fnExactJoinedCountsSpec)

/-- ITS FALSE NEIGHBOUR: 'it returns false'. Refute it at one input. -/
def fnExactJoinedCountsWrong : ChangeSpec := { name := "fnExactJoinedCounts", fn := fun _ => fun
  | [d1, d2] => { results := [.lit (.bool false)], args := [d1, d2] }
  | _ => none }
def FnExactJoinedCountsWrongFalsely : Prop := fnExactJoinedCountsRow.holds Try.pinned (OpenSpec.ofChange fnExactJoinedCountsWrong)

/-- 'laws.FnExactDiagramChance': WHATEVER THE INPUT: true; the input reads as it did. -/
def fnExactDiagramChanceSpec : ChangeSpec := { name := "fnExactDiagramChance", fn := fun _ => fun
  | [d1, d2] => { results := [.lit (.bool true)], args := [d1, d2] }
  | _ => none }
def fnExactDiagramChanceRow : OpenClaim := { program := "ytbmgloncimjfhab", sum := "2e4c7292a79657d5a196b8183156e66a9d9d94ff87ade4c15f12fe6161d24272", func := "loop.example/g01382/laws.FnExactDiagramChance", spec := "fnExactDiagramChance", unfollowed := true, recurses := true, plainKeys := false, apart := false }
def FnExactDiagramChanceSaid : Prop := fnExactDiagramChanceRow.holds Try.pinned (OpenSpec.ofChange fnExactDiagramChanceSpec)

/-- ITS FALSE NEIGHBOUR: 'it returns false'. Refute it at one input. -/
def fnExactDiagramChanceWrong : ChangeSpec := { name := "fnExactDiagramChance", fn := fun _ => fun
  | [d1, d2] => { results := [.lit (.bool false)], args := [d1, d2] }
  | _ => none }
def FnExactDiagramChanceWrongFalsely : Prop := fnExactDiagramChanceRow.holds Try.pinned (OpenSpec.ofChange fnExactDiagramChanceWrong)

/-- 'laws.FnExactPhasesChance': WHATEVER THE INPUT: true; the input reads as it did. -/
def fnExactPhasesChanceSpec : ChangeSpec := { name := "fnExactPhasesChance", fn := fun _ => fun
  | [d1, d2] => { results := [.lit (.bool true)], args := [d1, d2] }
  | _ => none }
def fnExactPhasesChanceRow : OpenClaim := { program := "ytbmgloncimjfhab", sum := "2e4c7292a79657d5a196b8183156e66a9d9d94ff87ade4c15f12fe6161d24272", func := "loop.example/g01382/laws.FnExactPhasesChance", spec := "fnExactPhasesChance", unfollowed := true, recurses := true, plainKeys := false, apart := false }
def FnExactPhasesChanceSaid : Prop := fnExactPhasesChanceRow.holds Try.pinned (OpenSpec.ofChange fnExactPhasesChanceSpec)

/-- ITS FALSE NEIGHBOUR: 'it returns false'. Refute it at one input. -/
def fnExactPhasesChanceWrong : ChangeSpec := { name := "fnExactPhasesChance", fn := fun _ => fun
  | [d1, d2] => { results := [.lit (.bool false)], args := [d1, d2] }
  | _ => none }
def FnExactPhasesChanceWrongFalsely : Prop := fnExactPhasesChanceRow.holds Try.pinned (OpenSpec.ofChange fnExactPhasesChanceWrong)

/-- 'laws.FnExactSystemOf': WHATEVER THE INPUT: true; the input reads as it did. -/
def fnExactSystemOfSpec : ChangeSpec := { name := "fnExactSystemOf", fn := fun _ => fun
  | [d1, d2] => { results := [.lit (.bool true)], args := [d1, d2] }
  | _ => none }
def fnExactSystemOfRow : OpenClaim := { program := "ytbmgloncimjfhab", sum := "2e4c7292a79657d5a196b8183156e66a9d9d94ff87ade4c15f12fe6161d24272", func := "loop.example/g01382/laws.FnExactSystemOf", spec := "fnExactSystemOf", unfollowed := true, recurses := true, plainKeys := false, apart := false }
def FnExactSystemOfSaid : Prop := fnExactSystemOfRow.holds Try.pinned (OpenSpec.ofChange fnExactSystemOfSpec)

/-- ITS FALSE NEIGHBOUR: 'it returns false'. Refute it at one input. -/
def fnExactSystemOfWrong : ChangeSpec := { name := "fnExactSystemOf", fn := fun _ => fun
  | [d1, d2] => { results := [.lit (.bool false)], args := [d1, d2] }
  | _ => none }
def FnExactSystemOfWrongFalsely : Prop := fnExactSystemOfRow.holds Try.pinned (OpenSpec.ofChange fnExactSystemOfWrong)

/-- 'laws.FnExactTreeDiagram': WHATEVER THE INPUT: true; the input reads as it did. -/
def fnExactTreeDiagramSpec : ChangeSpec := { name := "fnExactTreeDiagram", fn := fun _ => fun
  | [d1, d2] => { results := [.lit (.bool true)], args := [d1, d2] }
  | _ => none }
def fnExactTreeDiagramRow : OpenClaim := { program := "ytbmgloncimjfhab", sum := "2e4c7292a79657d5a196b8183156e66a9d9d94ff87ade4c15f12fe6161d24272", func := "loop.example/g01382/laws.FnExactTreeDiagram", spec := "fnExactTreeDiagram", unfollowed := true, recurses := true, plainKeys := false, apart := false }
def FnExactTreeDiagramSaid : Prop := fnExactTreeDiagramRow.holds Try.pinned (OpenSpec.ofChange fnExactTreeDiagramSpec)

/-- ITS FALSE NEIGHBOUR: 'it returns false'. Refute it at one input. -/
def fnExactTreeDiagramWrong : ChangeSpec := { name := "fnExactTreeDiagram", fn := fun _ => fun
  | [d1, d2] => { results := [.lit (.bool false)], args := [d1, d2] }
  | _ => none }
def FnExactTreeDiagramWrongFalsely : Prop := fnExactTreeDiagramRow.holds Try.pinned (OpenSpec.ofChange fnExactTreeDiagramWrong)

/-- 'laws.FnSystems': WHATEVER THE INPUT: true; the input reads as it did. -/
def fnSystemsSpec : ChangeSpec := { name := "fnSystems", fn := fun _ => fun
  | [d1, d2] => { results := [.lit (.bool true)], args := [d1, d2] }
  | _ => none }
def fnSystemsRow : OpenClaim := { program := "ytbmgloncimjfhab", sum := "2e4c7292a79657d5a196b8183156e66a9d9d94ff87ade4c15f12fe6161d24272", func := "loop.example/g01382/laws.FnSystems", spec := "fnSystems", unfollowed := true, recurses := true, plainKeys := false, apart := false }
def FnSystemsSaid : Prop := fnSystemsRow.holds Try.pinned (OpenSpec.ofChange fnSystemsSpec)

/-- ITS FALSE NEIGHBOUR: 'it returns false'. Refute it at one input. -/
def fnSystemsWrong : ChangeSpec := { name := "fnSystems", fn := fun _ => fun
  | [d1, d2] => { results := [.lit (.bool false)], args := [d1, d2] }
  | _ => none }
def FnSystemsWrongFalsely : Prop := fnSystemsRow.holds Try.pinned (OpenSpec.ofChange fnSystemsWrong)

/- THE SECOND FORM. 'bulk': how many values and letters a reading holds, each counted each time it is reached (what is shared counts as often as it is met; a slice's spare places count too). A statement '..UptoSaid' is the law's where the arguments, and the package variables that the reading takes, are together of bulk at most 1048576: NARROWER than '..Said'. Prove '..Said' where nothing that the law and all that it calls make is longer than what came in: it says more and counts as full. Else prove '..UptoSaid'. A law counts once. -/
mutual
def uptoBulk {H : Type} : DataW H → Nat
  | .lit (.string bytes) => bytes.length + 1
  | .lit _ => 1
  | .nil => 1
  | .ptr d => uptoBulk d + 1
  | .slice elems spare => uptoBulkAll elems + uptoBulkAll spare + 1
  | .agg parts => uptoBulkAll parts + 1
  | .iface _ d => uptoBulk d + 1
  | .map entries => uptoBulkEntries entries + 1
  | .held _ => 1
def uptoBulkAll {H : Type} : List (DataW H) → Nat
  | [] => 0
  | d :: r => uptoBulk d + uptoBulkAll r
def uptoBulkEntries {H : Type} : List (Lit × DataW H) → Nat
  | [] => 0
  | x :: r => uptoBulkEntry x + uptoBulkEntries r
def uptoBulkEntry {H : Type} : Lit × DataW H → Nat
  | (.string bytes, d) => bytes.length + uptoBulk d + 1
  | (_, d) => uptoBulk d + 1
 end
def uptoSmall : (H : Type) → List (DataW H) → Bool := fun _ ds => decide (uptoBulkAll ds ≤ 1048576)
def OpenSpec.upto (s : _root_.Go.ChangeSpec) : _root_.Go.OpenSpec := { _root_.Go.OpenSpec.ofChange s with cond := some uptoSmall }

/-- 'laws.FnExactChanceOf', WHERE WHAT IT READS IS OF BULK AT MOST 1048576: true; the input reads as it did. -/
def fnExactChanceOfUptoRow : OpenClaim := { program := "ytbmgloncimjfhab", sum := "2e4c7292a79657d5a196b8183156e66a9d9d94ff87ade4c15f12fe6161d24272", func := "loop.example/g01382/laws.FnExactChanceOf", spec := "fnExactChanceOf", unfollowed := true, recurses := true, plainKeys := false, apart := false, narrowed := true }
def FnExactChanceOfUptoSaid : Prop := fnExactChanceOfUptoRow.holds Try.pinned (OpenSpec.upto fnExactChanceOfSpec)

/-- 'laws.FnExactChanceBounds', WHERE WHAT IT READS IS OF BULK AT MOST 1048576: true; the input reads as it did. -/
def fnExactChanceBoundsUptoRow : OpenClaim := { program := "ytbmgloncimjfhab", sum := "2e4c7292a79657d5a196b8183156e66a9d9d94ff87ade4c15f12fe6161d24272", func := "loop.example/g01382/laws.FnExactChanceBounds", spec := "fnExactChanceBounds", unfollowed := true, recurses := true, plainKeys := false, apart := false, narrowed := true }
def FnExactChanceBoundsUptoSaid : Prop := fnExactChanceBoundsUptoRow.holds Try.pinned (OpenSpec.upto fnExactChanceBoundsSpec)

/-- 'laws.FnExactPartChances', WHERE WHAT IT READS IS OF BULK AT MOST 1048576: true; the input reads as it did. -/
def fnExactPartChancesUptoRow : OpenClaim := { program := "ytbmgloncimjfhab", sum := "2e4c7292a79657d5a196b8183156e66a9d9d94ff87ade4c15f12fe6161d24272", func := "loop.example/g01382/laws.FnExactPartChances", spec := "fnExactPartChances", unfollowed := true, recurses := true, plainKeys := false, apart := false, narrowed := true }
def FnExactPartChancesUptoSaid : Prop := fnExactPartChancesUptoRow.holds Try.pinned (OpenSpec.upto fnExactPartChancesSpec)

/-- 'laws.FnExactSharedShock', WHERE WHAT IT READS IS OF BULK AT MOST 1048576: true; the input reads as it did. -/
def fnExactSharedShockUptoRow : OpenClaim := { program := "ytbmgloncimjfhab", sum := "2e4c7292a79657d5a196b8183156e66a9d9d94ff87ade4c15f12fe6161d24272", func := "loop.example/g01382/laws.FnExactSharedShock", spec := "fnExactSharedShock", unfollowed := true, recurses := true, plainKeys := false, apart := false, narrowed := true }
def FnExactSharedShockUptoSaid : Prop := fnExactSharedShockUptoRow.holds Try.pinned (OpenSpec.upto fnExactSharedShockSpec)

/-- 'laws.FnExactWorkingCounts', WHERE WHAT IT READS IS OF BULK AT MOST 1048576: true; the input reads as it did. -/
def fnExactWorkingCountsUptoRow : OpenClaim := { program := "ytbmgloncimjfhab", sum := "2e4c7292a79657d5a196b8183156e66a9d9d94ff87ade4c15f12fe6161d24272", func := "loop.example/g01382/laws.FnExactWorkingCounts", spec := "fnExactWorkingCounts", unfollowed := true, recurses := true, plainKeys := false, apart := false, narrowed := true }
def FnExactWorkingCountsUptoSaid : Prop := fnExactWorkingCountsUptoRow.holds Try.pinned (OpenSpec.upto fnExactWorkingCountsSpec)

/-- 'laws.FnExactSwingCounts', WHERE WHAT IT READS IS OF BULK AT MOST 1048576: true; the input reads as it did. -/
def fnExactSwingCountsUptoRow : OpenClaim := { program := "ytbmgloncimjfhab", sum := "2e4c7292a79657d5a196b8183156e66a9d9d94ff87ade4c15f12fe6161d24272", func := "loop.example/g01382/laws.FnExactSwingCounts", spec := "fnExactSwingCounts", unfollowed := true, recurses := true, plainKeys := false, apart := false, narrowed := true }
def FnExactSwingCountsUptoSaid : Prop := fnExactSwingCountsUptoRow.holds Try.pinned (OpenSpec.upto fnExactSwingCountsSpec)

/-- 'laws.FnExactJoinedCounts', WHERE WHAT IT READS IS OF BULK AT MOST 1048576: true; the input reads as it did. -/
def fnExactJoinedCountsUptoRow : OpenClaim := { program := "ytbmgloncimjfhab", sum := "2e4c7292a79657d5a196b8183156e66a9d9d94ff87ade4c15f12fe6161d24272", func := "loop.example/g01382/laws.FnExactJoinedCounts", spec := "fnExactJoinedCounts", unfollowed := true, recurses := true, plainKeys := false, apart := false, narrowed := true }
def FnExactJoinedCountsUptoSaid : Prop := fnExactJoinedCountsUptoRow.holds Try.pinned (OpenSpec.upto fnExactJoinedCountsSpec)

/-- 'laws.FnExactDiagramChance', WHERE WHAT IT READS IS OF BULK AT MOST 1048576: true; the input reads as it did. -/
def fnExactDiagramChanceUptoRow : OpenClaim := { program := "ytbmgloncimjfhab", sum := "2e4c7292a79657d5a196b8183156e66a9d9d94ff87ade4c15f12fe6161d24272", func := "loop.example/g01382/laws.FnExactDiagramChance", spec := "fnExactDiagramChance", unfollowed := true, recurses := true, plainKeys := false, apart := false, narrowed := true }
def FnExactDiagramChanceUptoSaid : Prop := fnExactDiagramChanceUptoRow.holds Try.pinned (OpenSpec.upto fnExactDiagramChanceSpec)

/-- 'laws.FnExactPhasesChance', WHERE WHAT IT READS IS OF BULK AT MOST 1048576: true; the input reads as it did. -/
def fnExactPhasesChanceUptoRow : OpenClaim := { program := "ytbmgloncimjfhab", sum := "2e4c7292a79657d5a196b8183156e66a9d9d94ff87ade4c15f12fe6161d24272", func := "loop.example/g01382/laws.FnExactPhasesChance", spec := "fnExactPhasesChance", unfollowed := true, recurses := true, plainKeys := false, apart := false, narrowed := true }
def FnExactPhasesChanceUptoSaid : Prop := fnExactPhasesChanceUptoRow.holds Try.pinned (OpenSpec.upto fnExactPhasesChanceSpec)

/-- 'laws.FnExactSystemOf', WHERE WHAT IT READS IS OF BULK AT MOST 1048576: true; the input reads as it did. -/
def fnExactSystemOfUptoRow : OpenClaim := { program := "ytbmgloncimjfhab", sum := "2e4c7292a79657d5a196b8183156e66a9d9d94ff87ade4c15f12fe6161d24272", func := "loop.example/g01382/laws.FnExactSystemOf", spec := "fnExactSystemOf", unfollowed := true, recurses := true, plainKeys := false, apart := false, narrowed := true }
def FnExactSystemOfUptoSaid : Prop := fnExactSystemOfUptoRow.holds Try.pinned (OpenSpec.upto fnExactSystemOfSpec)

/-- 'laws.FnExactTreeDiagram', WHERE WHAT IT READS IS OF BULK AT MOST 1048576: true; the input reads as it did. -/
def fnExactTreeDiagramUptoRow : OpenClaim := { program := "ytbmgloncimjfhab", sum := "2e4c7292a79657d5a196b8183156e66a9d9d94ff87ade4c15f12fe6161d24272", func := "loop.example/g01382/laws.FnExactTreeDiagram", spec := "fnExactTreeDiagram", unfollowed := true, recurses := true, plainKeys := false, apart := false, narrowed := true }
def FnExactTreeDiagramUptoSaid : Prop := fnExactTreeDiagramUptoRow.holds Try.pinned (OpenSpec.upto fnExactTreeDiagramSpec)

/-- 'laws.FnSystems', WHERE WHAT IT READS IS OF BULK AT MOST 1048576: true; the input reads as it did. -/
def fnSystemsUptoRow : OpenClaim := { program := "ytbmgloncimjfhab", sum := "2e4c7292a79657d5a196b8183156e66a9d9d94ff87ade4c15f12fe6161d24272", func := "loop.example/g01382/laws.FnSystems", spec := "fnSystems", unfollowed := true, recurses := true, plainKeys := false, apart := false, narrowed := true }
def FnSystemsUptoSaid : Prop := fnSystemsUptoRow.holds Try.pinned (OpenSpec.upto fnSystemsSpec)

end Rows
end Go.Proofs.Ytbmgloncimjfhab
