/-
  No cell of these rows narrows 'for every input' (looked for: loops, veiled, ifaces, maps, wideKeys, modest, calm, conditions, laid).
  DERIVED. THE GIVEN ROWS OF THIS SEAT. 12 by the template 'for every input the law returns true; each argument reads behind the call as it read before'; 0 by the template 'total and deterministic' (their statements: YtbmgloncimjfhaaTotals.lean).
  GIVEN WITH THE SEED: the statements are not yours to turn. If you find one false, say at which input.
  Laid BY PROGRAM, IN A SANDBOX (cutbox-rows.mjs): the forced cells as the released guide's own fill.sh prints them over the translation ba84e3d201996a8f… (all of the seat's roots in one cut). By AI agents, Wed Nov 11 2026. No macro, syntax, notation, axiom, sorry.
-/
import Derived.Test.YtbmgloncimjfhaaChecked
import GoSem.Claim
import GoSem.ClaimJoined
import GoSem.ClaimMapViews
import Derived.JoinedTies
import Derived.KernelRfl
namespace Go.Proofs.Ytbmgloncimjfhaa
/- THE CELL 'sum', in the pinned program and in every row, IS THE sha256 OF THE DUMP (.gsa) THAT YtbmgloncimjfhaaProg.lean LOADS. Nothing in Lean hashes anything: it is a label: what it is worth is what the hold of that sum in a sandbox is worth. -/
noncomputable def Try.pinned : Pinned := { name := "ytbmgloncimjfhaa", sum := "ba84e3d201996a8f29710b01e51dfd67af2800c0c07eb511767412252ca139f1", checked := Try.checked }
namespace Rows
def none {H : Type} : Left H := { results := [], args := [] }

/-- 'laws.FnExactValidSystem': WHATEVER THE INPUT: true; the input reads as it did. -/
def fnExactValidSystemSpec : ChangeSpec := { name := "fnExactValidSystem", fn := fun _ => fun
  | [d] => { results := [.lit (.bool true)], args := [d] }
  | _ => none }
def fnExactValidSystemRow : OpenClaim := { program := "ytbmgloncimjfhaa", sum := "ba84e3d201996a8f29710b01e51dfd67af2800c0c07eb511767412252ca139f1", func := "loop.example/g01382/laws.FnExactValidSystem", spec := "fnExactValidSystem", unfollowed := true, recurses := true, apart := false }
def FnExactValidSystemSaid : Prop := fnExactValidSystemRow.holds Try.pinned (OpenSpec.ofChange fnExactValidSystemSpec)

/-- ITS FALSE NEIGHBOUR: 'it returns false'. Refute it at one input. -/
def fnExactValidSystemWrong : ChangeSpec := { name := "fnExactValidSystem", fn := fun _ => fun
  | [d] => { results := [.lit (.bool false)], args := [d] }
  | _ => none }
def FnExactValidSystemWrongFalsely : Prop := fnExactValidSystemRow.holds Try.pinned (OpenSpec.ofChange fnExactValidSystemWrong)

/-- 'laws.FnExactSameSystem': WHATEVER THE INPUT: true; the input reads as it did. -/
def fnExactSameSystemSpec : ChangeSpec := { name := "fnExactSameSystem", fn := fun _ => fun
  | [d1, d2] => { results := [.lit (.bool true)], args := [d1, d2] }
  | _ => none }
def fnExactSameSystemRow : OpenClaim := { program := "ytbmgloncimjfhaa", sum := "ba84e3d201996a8f29710b01e51dfd67af2800c0c07eb511767412252ca139f1", func := "loop.example/g01382/laws.FnExactSameSystem", spec := "fnExactSameSystem", apart := false }
def FnExactSameSystemSaid : Prop := fnExactSameSystemRow.holds Try.pinned (OpenSpec.ofChange fnExactSameSystemSpec)

/-- ITS FALSE NEIGHBOUR: 'it returns false'. Refute it at one input. -/
def fnExactSameSystemWrong : ChangeSpec := { name := "fnExactSameSystem", fn := fun _ => fun
  | [d1, d2] => { results := [.lit (.bool false)], args := [d1, d2] }
  | _ => none }
def FnExactSameSystemWrongFalsely : Prop := fnExactSameSystemRow.holds Try.pinned (OpenSpec.ofChange fnExactSameSystemWrong)

/-- 'laws.FnExactWorksWith': WHATEVER THE INPUT: true; the input reads as it did. -/
def fnExactWorksWithSpec : ChangeSpec := { name := "fnExactWorksWith", fn := fun _ => fun
  | [d1, d2] => { results := [.lit (.bool true)], args := [d1, d2] }
  | _ => none }
def fnExactWorksWithRow : OpenClaim := { program := "ytbmgloncimjfhaa", sum := "ba84e3d201996a8f29710b01e51dfd67af2800c0c07eb511767412252ca139f1", func := "loop.example/g01382/laws.FnExactWorksWith", spec := "fnExactWorksWith", unfollowed := true, recurses := true, apart := false }
def FnExactWorksWithSaid : Prop := fnExactWorksWithRow.holds Try.pinned (OpenSpec.ofChange fnExactWorksWithSpec)

/-- ITS FALSE NEIGHBOUR: 'it returns false'. Refute it at one input. -/
def fnExactWorksWithWrong : ChangeSpec := { name := "fnExactWorksWith", fn := fun _ => fun
  | [d1, d2] => { results := [.lit (.bool false)], args := [d1, d2] }
  | _ => none }
def FnExactWorksWithWrongFalsely : Prop := fnExactWorksWithRow.holds Try.pinned (OpenSpec.ofChange fnExactWorksWithWrong)

/-- 'laws.FnExactChainSystems': WHATEVER THE INPUT: true; the input reads as it did. -/
def fnExactChainSystemsSpec : ChangeSpec := { name := "fnExactChainSystems", fn := fun _ => fun
  | [d1, d2] => { results := [.lit (.bool true)], args := [d1, d2] }
  | _ => none }
def fnExactChainSystemsRow : OpenClaim := { program := "ytbmgloncimjfhaa", sum := "ba84e3d201996a8f29710b01e51dfd67af2800c0c07eb511767412252ca139f1", func := "loop.example/g01382/laws.FnExactChainSystems", spec := "fnExactChainSystems", unfollowed := true, recurses := true, apart := false }
def FnExactChainSystemsSaid : Prop := fnExactChainSystemsRow.holds Try.pinned (OpenSpec.ofChange fnExactChainSystemsSpec)

/-- ITS FALSE NEIGHBOUR: 'it returns false'. Refute it at one input. -/
def fnExactChainSystemsWrong : ChangeSpec := { name := "fnExactChainSystems", fn := fun _ => fun
  | [d1, d2] => { results := [.lit (.bool false)], args := [d1, d2] }
  | _ => none }
def FnExactChainSystemsWrongFalsely : Prop := fnExactChainSystemsRow.holds Try.pinned (OpenSpec.ofChange fnExactChainSystemsWrong)

/-- 'laws.FnExactBesideSystems': WHATEVER THE INPUT: true; the input reads as it did. -/
def fnExactBesideSystemsSpec : ChangeSpec := { name := "fnExactBesideSystems", fn := fun _ => fun
  | [d1, d2] => { results := [.lit (.bool true)], args := [d1, d2] }
  | _ => none }
def fnExactBesideSystemsRow : OpenClaim := { program := "ytbmgloncimjfhaa", sum := "ba84e3d201996a8f29710b01e51dfd67af2800c0c07eb511767412252ca139f1", func := "loop.example/g01382/laws.FnExactBesideSystems", spec := "fnExactBesideSystems", unfollowed := true, recurses := true, apart := false }
def FnExactBesideSystemsSaid : Prop := fnExactBesideSystemsRow.holds Try.pinned (OpenSpec.ofChange fnExactBesideSystemsSpec)

/-- ITS FALSE NEIGHBOUR: 'it returns false'. Refute it at one input. -/
def fnExactBesideSystemsWrong : ChangeSpec := { name := "fnExactBesideSystems", fn := fun _ => fun
  | [d1, d2] => { results := [.lit (.bool false)], args := [d1, d2] }
  | _ => none }
def FnExactBesideSystemsWrongFalsely : Prop := fnExactBesideSystemsRow.holds Try.pinned (OpenSpec.ofChange fnExactBesideSystemsWrong)

/-- 'laws.FnExactCutsOf': WHATEVER THE INPUT: true; the input reads as it did. -/
def fnExactCutsOfSpec : ChangeSpec := { name := "fnExactCutsOf", fn := fun _ => fun
  | [d] => { results := [.lit (.bool true)], args := [d] }
  | _ => none }
def fnExactCutsOfRow : OpenClaim := { program := "ytbmgloncimjfhaa", sum := "ba84e3d201996a8f29710b01e51dfd67af2800c0c07eb511767412252ca139f1", func := "loop.example/g01382/laws.FnExactCutsOf", spec := "fnExactCutsOf", unfollowed := true, recurses := true, apart := false }
def FnExactCutsOfSaid : Prop := fnExactCutsOfRow.holds Try.pinned (OpenSpec.ofChange fnExactCutsOfSpec)

/-- ITS FALSE NEIGHBOUR: 'it returns false'. Refute it at one input. -/
def fnExactCutsOfWrong : ChangeSpec := { name := "fnExactCutsOf", fn := fun _ => fun
  | [d] => { results := [.lit (.bool false)], args := [d] }
  | _ => none }
def FnExactCutsOfWrongFalsely : Prop := fnExactCutsOfRow.holds Try.pinned (OpenSpec.ofChange fnExactCutsOfWrong)

/-- 'laws.FnExactOtherSystem': WHATEVER THE INPUT: true; the input reads as it did. -/
def fnExactOtherSystemSpec : ChangeSpec := { name := "fnExactOtherSystem", fn := fun _ => fun
  | [d] => { results := [.lit (.bool true)], args := [d] }
  | _ => none }
def fnExactOtherSystemRow : OpenClaim := { program := "ytbmgloncimjfhaa", sum := "ba84e3d201996a8f29710b01e51dfd67af2800c0c07eb511767412252ca139f1", func := "loop.example/g01382/laws.FnExactOtherSystem", spec := "fnExactOtherSystem", unfollowed := true, recurses := true, apart := false }
def FnExactOtherSystemSaid : Prop := fnExactOtherSystemRow.holds Try.pinned (OpenSpec.ofChange fnExactOtherSystemSpec)

/-- ITS FALSE NEIGHBOUR: 'it returns false'. Refute it at one input. -/
def fnExactOtherSystemWrong : ChangeSpec := { name := "fnExactOtherSystem", fn := fun _ => fun
  | [d] => { results := [.lit (.bool false)], args := [d] }
  | _ => none }
def FnExactOtherSystemWrongFalsely : Prop := fnExactOtherSystemRow.holds Try.pinned (OpenSpec.ofChange fnExactOtherSystemWrong)

/-- 'laws.FnExactVoteSystem': WHATEVER THE INPUT: true; the input reads as it did. -/
def fnExactVoteSystemSpec : ChangeSpec := { name := "fnExactVoteSystem", fn := fun _ => fun
  | [d1, d2] => { results := [.lit (.bool true)], args := [d1, d2] }
  | _ => none }
def fnExactVoteSystemRow : OpenClaim := { program := "ytbmgloncimjfhaa", sum := "ba84e3d201996a8f29710b01e51dfd67af2800c0c07eb511767412252ca139f1", func := "loop.example/g01382/laws.FnExactVoteSystem", spec := "fnExactVoteSystem", unfollowed := true, recurses := true, apart := false }
def FnExactVoteSystemSaid : Prop := fnExactVoteSystemRow.holds Try.pinned (OpenSpec.ofChange fnExactVoteSystemSpec)

/-- ITS FALSE NEIGHBOUR: 'it returns false'. Refute it at one input. -/
def fnExactVoteSystemWrong : ChangeSpec := { name := "fnExactVoteSystem", fn := fun _ => fun
  | [d1, d2] => { results := [.lit (.bool false)], args := [d1, d2] }
  | _ => none }
def FnExactVoteSystemWrongFalsely : Prop := fnExactVoteSystemRow.holds Try.pinned (OpenSpec.ofChange fnExactVoteSystemWrong)

/-- 'laws.FnExactValidTree': WHATEVER THE INPUT: true; the input reads as it did. -/
def fnExactValidTreeSpec : ChangeSpec := { name := "fnExactValidTree", fn := fun _ => fun
  | [d1, d2] => { results := [.lit (.bool true)], args := [d1, d2] }
  | _ => none }
def fnExactValidTreeRow : OpenClaim := { program := "ytbmgloncimjfhaa", sum := "ba84e3d201996a8f29710b01e51dfd67af2800c0c07eb511767412252ca139f1", func := "loop.example/g01382/laws.FnExactValidTree", spec := "fnExactValidTree", apart := false }
def FnExactValidTreeSaid : Prop := fnExactValidTreeRow.holds Try.pinned (OpenSpec.ofChange fnExactValidTreeSpec)

/-- ITS FALSE NEIGHBOUR: 'it returns false'. Refute it at one input. -/
def fnExactValidTreeWrong : ChangeSpec := { name := "fnExactValidTree", fn := fun _ => fun
  | [d1, d2] => { results := [.lit (.bool false)], args := [d1, d2] }
  | _ => none }
def FnExactValidTreeWrongFalsely : Prop := fnExactValidTreeRow.holds Try.pinned (OpenSpec.ofChange fnExactValidTreeWrong)

/-- 'laws.FnExactFailsBy': WHATEVER THE INPUT: true; the input reads as it did. -/
def fnExactFailsBySpec : ChangeSpec := { name := "fnExactFailsBy", fn := fun _ => fun
  | [d1, d2, d3] => { results := [.lit (.bool true)], args := [d1, d2, d3] }
  | _ => none }
def fnExactFailsByRow : OpenClaim := { program := "ytbmgloncimjfhaa", sum := "ba84e3d201996a8f29710b01e51dfd67af2800c0c07eb511767412252ca139f1", func := "loop.example/g01382/laws.FnExactFailsBy", spec := "fnExactFailsBy", unfollowed := true, recurses := true, apart := false }
def FnExactFailsBySaid : Prop := fnExactFailsByRow.holds Try.pinned (OpenSpec.ofChange fnExactFailsBySpec)

/-- ITS FALSE NEIGHBOUR: 'it returns false'. Refute it at one input. -/
def fnExactFailsByWrong : ChangeSpec := { name := "fnExactFailsBy", fn := fun _ => fun
  | [d1, d2, d3] => { results := [.lit (.bool false)], args := [d1, d2, d3] }
  | _ => none }
def FnExactFailsByWrongFalsely : Prop := fnExactFailsByRow.holds Try.pinned (OpenSpec.ofChange fnExactFailsByWrong)

/-- 'laws.FnExactTreeCuts': WHATEVER THE INPUT: true; the input reads as it did. -/
def fnExactTreeCutsSpec : ChangeSpec := { name := "fnExactTreeCuts", fn := fun _ => fun
  | [d1, d2] => { results := [.lit (.bool true)], args := [d1, d2] }
  | _ => none }
def fnExactTreeCutsRow : OpenClaim := { program := "ytbmgloncimjfhaa", sum := "ba84e3d201996a8f29710b01e51dfd67af2800c0c07eb511767412252ca139f1", func := "loop.example/g01382/laws.FnExactTreeCuts", spec := "fnExactTreeCuts", unfollowed := true, recurses := true, apart := false }
def FnExactTreeCutsSaid : Prop := fnExactTreeCutsRow.holds Try.pinned (OpenSpec.ofChange fnExactTreeCutsSpec)

/-- ITS FALSE NEIGHBOUR: 'it returns false'. Refute it at one input. -/
def fnExactTreeCutsWrong : ChangeSpec := { name := "fnExactTreeCuts", fn := fun _ => fun
  | [d1, d2] => { results := [.lit (.bool false)], args := [d1, d2] }
  | _ => none }
def FnExactTreeCutsWrongFalsely : Prop := fnExactTreeCutsRow.holds Try.pinned (OpenSpec.ofChange fnExactTreeCutsWrong)

/-- 'laws.FnExactRoadSystem': WHATEVER THE INPUT: true; the input reads as it did. -/
def fnExactRoadSystemSpec : ChangeSpec := { name := "fnExactRoadSystem", fn := fun _ => fun
  | [d1, d2] => { results := [.lit (.bool true)], args := [d1, d2] }
  | _ => none }
def fnExactRoadSystemRow : OpenClaim := { program := "ytbmgloncimjfhaa", sum := "ba84e3d201996a8f29710b01e51dfd67af2800c0c07eb511767412252ca139f1", func := "loop.example/g01382/laws.FnExactRoadSystem", spec := "fnExactRoadSystem", unfollowed := true, recurses := true, apart := false }
def FnExactRoadSystemSaid : Prop := fnExactRoadSystemRow.holds Try.pinned (OpenSpec.ofChange fnExactRoadSystemSpec)

/-- ITS FALSE NEIGHBOUR: 'it returns false'. Refute it at one input. -/
def fnExactRoadSystemWrong : ChangeSpec := { name := "fnExactRoadSystem", fn := fun _ => fun
  | [d1, d2] => { results := [.lit (.bool false)], args := [d1, d2] }
  | _ => none }
def FnExactRoadSystemWrongFalsely : Prop := fnExactRoadSystemRow.holds Try.pinned (OpenSpec.ofChange fnExactRoadSystemWrong)

/- THE SECOND FORM. 'bulk': how many values and letters a reading holds, each counted each time it is reached (what is shared counts as often as it is met; a slice's spare places count too). A statement '..UptoSaid' is the law's where the arguments, and the package variables that the reading takes, are together of bulk at most 1048576: NARROWER than '..Said'. Prove '..Said' where nothing that the law and all that it calls make is longer than what came in: it says more and counts as full. Else prove '..UptoSaid'. A law counts once. -/
mutual
def uptoBulk {H : Type} : DataW H → Nat
  | .lit (.string bytes) => bytes.length + 1
  | .lit _ => 1
  | .nil => 1
  | .ptr d => uptoBulk d + 1
  | .slice elems spare => uptoBulkAll elems + uptoBulkAll spare + 1
  | .agg parts => uptoBulkAll parts + 1
  | .iface _ d => uptoBulk d + 1
  | .map entries => uptoBulkEntries entries + 1
  | .held _ => 1
def uptoBulkAll {H : Type} : List (DataW H) → Nat
  | [] => 0
  | d :: r => uptoBulk d + uptoBulkAll r
def uptoBulkEntries {H : Type} : List (Lit × DataW H) → Nat
  | [] => 0
  | x :: r => uptoBulkEntry x + uptoBulkEntries r
def uptoBulkEntry {H : Type} : Lit × DataW H → Nat
  | (.string bytes, d) => bytes.length + uptoBulk d + 1
  | (_, d) => uptoBulk d + 1
 end
def uptoSmall : (H : Type) → List (DataW H) → Bool := fun _ ds => decide (uptoBulkAll ds ≤ 1048576)
def OpenSpec.upto (s : _root_.Go.ChangeSpec) : _root_.Go.OpenSpec := { _root_.Go.OpenSpec.ofChange s with cond := some uptoSmall }

/-- 'laws.FnExactValidSystem', WHERE WHAT IT READS IS OF BULK AT MOST 1048576: true; the input reads as it did. -/
def fnExactValidSystemUptoRow : OpenClaim := { program := "ytbmgloncimjfhaa", sum := "ba84e3d201996a8f29710b01e51dfd67af2800c0c07eb511767412252ca139f1", func := "loop.example/g01382/laws.FnExactValidSystem", spec := "fnExactValidSystem", unfollowed := true, recurses := true, apart := false, narrowed := true }
def FnExactValidSystemUptoSaid : Prop := fnExactValidSystemUptoRow.holds Try.pinned (OpenSpec.upto fnExactValidSystemSpec)

/-- 'laws.FnExactSameSystem', WHERE WHAT IT READS IS OF BULK AT MOST 1048576: true; the input reads as it did. -/
def fnExactSameSystemUptoRow : OpenClaim := { program := "ytbmgloncimjfhaa", sum := "ba84e3d201996a8f29710b01e51dfd67af2800c0c07eb511767412252ca139f1", func := "loop.example/g01382/laws.FnExactSameSystem", spec := "fnExactSameSystem", apart := false, narrowed := true }
def FnExactSameSystemUptoSaid : Prop := fnExactSameSystemUptoRow.holds Try.pinned (OpenSpec.upto fnExactSameSystemSpec)

/-- 'laws.FnExactWorksWith', WHERE WHAT IT READS IS OF BULK AT MOST 1048576: true; the input reads as it did. -/
def fnExactWorksWithUptoRow : OpenClaim := { program := "ytbmgloncimjfhaa", sum := "ba84e3d201996a8f29710b01e51dfd67af2800c0c07eb511767412252ca139f1", func := "loop.example/g01382/laws.FnExactWorksWith", spec := "fnExactWorksWith", unfollowed := true, recurses := true, apart := false, narrowed := true }
def FnExactWorksWithUptoSaid : Prop := fnExactWorksWithUptoRow.holds Try.pinned (OpenSpec.upto fnExactWorksWithSpec)

/-- 'laws.FnExactChainSystems', WHERE WHAT IT READS IS OF BULK AT MOST 1048576: true; the input reads as it did. -/
def fnExactChainSystemsUptoRow : OpenClaim := { program := "ytbmgloncimjfhaa", sum := "ba84e3d201996a8f29710b01e51dfd67af2800c0c07eb511767412252ca139f1", func := "loop.example/g01382/laws.FnExactChainSystems", spec := "fnExactChainSystems", unfollowed := true, recurses := true, apart := false, narrowed := true }
def FnExactChainSystemsUptoSaid : Prop := fnExactChainSystemsUptoRow.holds Try.pinned (OpenSpec.upto fnExactChainSystemsSpec)

/-- 'laws.FnExactBesideSystems', WHERE WHAT IT READS IS OF BULK AT MOST 1048576: true; the input reads as it did. -/
def fnExactBesideSystemsUptoRow : OpenClaim := { program := "ytbmgloncimjfhaa", sum := "ba84e3d201996a8f29710b01e51dfd67af2800c0c07eb511767412252ca139f1", func := "loop.example/g01382/laws.FnExactBesideSystems", spec := "fnExactBesideSystems", unfollowed := true, recurses := true, apart := false, narrowed := true }
def FnExactBesideSystemsUptoSaid : Prop := fnExactBesideSystemsUptoRow.holds Try.pinned (OpenSpec.upto fnExactBesideSystemsSpec)

/-- 'laws.FnExactCutsOf', WHERE WHAT IT READS IS OF BULK AT MOST 1048576: true; the input reads as it did. -/
def fnExactCutsOfUptoRow : OpenClaim := { program := "ytbmgloncimjfhaa", sum := "ba84e3d201996a8f29710b01e51dfd67af2800c0c07eb511767412252ca139f1", func := "loop.example/g01382/laws.FnExactCutsOf", spec := "fnExactCutsOf", unfollowed := true, recurses := true, apart := false, narrowed := true }
def FnExactCutsOfUptoSaid : Prop := fnExactCutsOfUptoRow.holds Try.pinned (OpenSpec.upto fnExactCutsOfSpec)

/-- 'laws.FnExactOtherSystem', WHERE WHAT IT READS IS OF BULK AT MOST 1048576: true; the input reads as it did. -/
def fnExactOtherSystemUptoRow : OpenClaim := { program := "ytbmgloncimjfhaa", sum := "ba84e3d201996a8f29710b01e51dfd67af2800c0c07eb511767412252ca139f1", func := "loop.example/g01382/laws.FnExactOtherSystem", spec := "fnExactOtherSystem", unfollowed := true, recurses := true, apart := false, narrowed := true }
def FnExactOtherSystemUptoSaid : Prop := fnExactOtherSystemUptoRow.holds Try.pinned (OpenSpec.upto fnExactOtherSystemSpec)

/-- 'laws.FnExactVoteSystem', WHERE WHAT IT READS IS OF BULK AT MOST 1048576: true; the input reads as it did. -/
def fnExactVoteSystemUptoRow : OpenClaim := { program := "ytbmgloncimjfhaa", sum := "ba84e3d201996a8f29710b01e51dfd67af2800c0c07eb511767412252ca139f1", func := "loop.example/g01382/laws.FnExactVoteSystem", spec := "fnExactVoteSystem", unfollowed := true, recurses := true, apart := false, narrowed := true }
def FnExactVoteSystemUptoSaid : Prop := fnExactVoteSystemUptoRow.holds Try.pinned (OpenSpec.upto fnExactVoteSystemSpec)

/-- 'laws.FnExactValidTree', WHERE WHAT IT READS IS OF BULK AT MOST 1048576: true; the input reads as it did. -/
def fnExactValidTreeUptoRow : OpenClaim := { program := "ytbmgloncimjfhaa", sum := "ba84e3d201996a8f29710b01e51dfd67af2800c0c07eb511767412252ca139f1", func := "loop.example/g01382/laws.FnExactValidTree", spec := "fnExactValidTree", apart := false, narrowed := true }
def FnExactValidTreeUptoSaid : Prop := fnExactValidTreeUptoRow.holds Try.pinned (OpenSpec.upto fnExactValidTreeSpec)

/-- 'laws.FnExactFailsBy', WHERE WHAT IT READS IS OF BULK AT MOST 1048576: true; the input reads as it did. -/
def fnExactFailsByUptoRow : OpenClaim := { program := "ytbmgloncimjfhaa", sum := "ba84e3d201996a8f29710b01e51dfd67af2800c0c07eb511767412252ca139f1", func := "loop.example/g01382/laws.FnExactFailsBy", spec := "fnExactFailsBy", unfollowed := true, recurses := true, apart := false, narrowed := true }
def FnExactFailsByUptoSaid : Prop := fnExactFailsByUptoRow.holds Try.pinned (OpenSpec.upto fnExactFailsBySpec)

/-- 'laws.FnExactTreeCuts', WHERE WHAT IT READS IS OF BULK AT MOST 1048576: true; the input reads as it did. -/
def fnExactTreeCutsUptoRow : OpenClaim := { program := "ytbmgloncimjfhaa", sum := "ba84e3d201996a8f29710b01e51dfd67af2800c0c07eb511767412252ca139f1", func := "loop.example/g01382/laws.FnExactTreeCuts", spec := "fnExactTreeCuts", unfollowed := true, recurses := true, apart := false, narrowed := true }
def FnExactTreeCutsUptoSaid : Prop := fnExactTreeCutsUptoRow.holds Try.pinned (OpenSpec.upto fnExactTreeCutsSpec)

/-- 'laws.FnExactRoadSystem', WHERE WHAT IT READS IS OF BULK AT MOST 1048576: true; the input reads as it did. -/
def fnExactRoadSystemUptoRow : OpenClaim := { program := "ytbmgloncimjfhaa", sum := "ba84e3d201996a8f29710b01e51dfd67af2800c0c07eb511767412252ca139f1", func := "loop.example/g01382/laws.FnExactRoadSystem", spec := "fnExactRoadSystem", unfollowed := true, recurses := true, apart := false, narrowed := true }
def FnExactRoadSystemUptoSaid : Prop := fnExactRoadSystemUptoRow.holds Try.pinned (OpenSpec.upto fnExactRoadSystemSpec)

end Rows
end Go.Proofs.Ytbmgloncimjfhaa
