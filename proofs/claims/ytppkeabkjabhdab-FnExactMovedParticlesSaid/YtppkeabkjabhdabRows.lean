/-
  No cell of these rows narrows 'for every input' (looked for: loops, veiled, ifaces, maps, wideKeys, modest, calm, conditions, laid).
  DERIVED. THE GIVEN ROWS OF THIS SEAT. 6 by the template 'for every input the law returns true; each argument reads behind the call as it read before'; 0 by the template 'total and deterministic' (their statements: YtppkeabkjabhdabTotals.lean).
  GIVEN WITH THE SEED: the statements are not yours to turn. If you find one false, say at which input.
  Laid BY PROGRAM, IN A SANDBOX (cutbox-rows.mjs): the forced cells as the released guide's own fill.sh prints them over the translation f702be70aa67762e… (all of the seat's roots in one cut). By AI agents, Wed Nov 11 2026. No macro, syntax, notation, axiom, sorry.
-/
import Derived.Test.YtppkeabkjabhdabChecked
import GoSem.Claim
import GoSem.ClaimJoined
import GoSem.ClaimMapViews
import Derived.JoinedTies
import Derived.KernelRfl
namespace Go.Proofs.Ytppkeabkjabhdab
/- THE CELL 'sum', in the pinned program and in every row, IS THE sha256 OF THE DUMP (.gsa) THAT YtppkeabkjabhdabProg.lean LOADS. Nothing in Lean hashes anything: it is a label: what it is worth is what the hold of that sum in a sandbox is worth. -/
noncomputable def Try.pinned : Pinned := { name := "ytppkeabkjabhdab", sum := "f702be70aa67762efb61e05e007822fe13fa07667b617cf1dd90861b9ee6d66e", checked := Try.checked }
namespace Rows
def none {H : Type} : Left H := { results := [], args := [] }

/-- 'laws.FnExactParticles': WHATEVER THE INPUT: true; the input reads as it did. -/
def fnExactParticlesSpec : ChangeSpec := { name := "fnExactParticles", fn := fun _ => fun
  | [d1, d2, d3, d4] => { results := [.lit (.bool true)], args := [d1, d2, d3, d4] }
  | _ => none }
def fnExactParticlesRow : OpenClaim := { program := "ytppkeabkjabhdab", sum := "f702be70aa67762efb61e05e007822fe13fa07667b617cf1dd90861b9ee6d66e", func := "loop.example/g01382/laws.FnExactParticles", spec := "fnExactParticles", inPlace := ["math.Float64bits", "math.Float64frombits"], unfollowed := true, recurses := true, apart := false }
def FnExactParticlesSaid : Prop := fnExactParticlesRow.holds Try.pinned (OpenSpec.ofChange fnExactParticlesSpec)

/-- ITS FALSE NEIGHBOUR: 'it returns false'. Refute it at one input. -/
def fnExactParticlesWrong : ChangeSpec := { name := "fnExactParticles", fn := fun _ => fun
  | [d1, d2, d3, d4] => { results := [.lit (.bool false)], args := [d1, d2, d3, d4] }
  | _ => none }
def FnExactParticlesWrongFalsely : Prop := fnExactParticlesRow.holds Try.pinned (OpenSpec.ofChange fnExactParticlesWrong)

/-- 'laws.FnExactDriftWalk': WHATEVER THE INPUT: true; the input reads as it did. -/
def fnExactDriftWalkSpec : ChangeSpec := { name := "fnExactDriftWalk", fn := fun _ => fun
  | [d1, d2, d3, d4] => { results := [.lit (.bool true)], args := [d1, d2, d3, d4] }
  | _ => none }
def fnExactDriftWalkRow : OpenClaim := { program := "ytppkeabkjabhdab", sum := "f702be70aa67762efb61e05e007822fe13fa07667b617cf1dd90861b9ee6d66e", func := "loop.example/g01382/laws.FnExactDriftWalk", spec := "fnExactDriftWalk", inPlace := ["math.Float64bits", "math.Float64frombits"], unfollowed := true, recurses := true, apart := false }
def FnExactDriftWalkSaid : Prop := fnExactDriftWalkRow.holds Try.pinned (OpenSpec.ofChange fnExactDriftWalkSpec)

/-- ITS FALSE NEIGHBOUR: 'it returns false'. Refute it at one input. -/
def fnExactDriftWalkWrong : ChangeSpec := { name := "fnExactDriftWalk", fn := fun _ => fun
  | [d1, d2, d3, d4] => { results := [.lit (.bool false)], args := [d1, d2, d3, d4] }
  | _ => none }
def FnExactDriftWalkWrongFalsely : Prop := fnExactDriftWalkRow.holds Try.pinned (OpenSpec.ofChange fnExactDriftWalkWrong)

/-- 'laws.FnExactMovedParticles': WHATEVER THE INPUT: true; the input reads as it did. -/
def fnExactMovedParticlesSpec : ChangeSpec := { name := "fnExactMovedParticles", fn := fun _ => fun
  | [d1, d2, d3, d4] => { results := [.lit (.bool true)], args := [d1, d2, d3, d4] }
  | _ => none }
def fnExactMovedParticlesRow : OpenClaim := { program := "ytppkeabkjabhdab", sum := "f702be70aa67762efb61e05e007822fe13fa07667b617cf1dd90861b9ee6d66e", func := "loop.example/g01382/laws.FnExactMovedParticles", spec := "fnExactMovedParticles", inPlace := ["math.Float64bits", "math.Float64frombits"], unfollowed := true, recurses := true, apart := false }
def FnExactMovedParticlesSaid : Prop := fnExactMovedParticlesRow.holds Try.pinned (OpenSpec.ofChange fnExactMovedParticlesSpec)

/-- ITS FALSE NEIGHBOUR: 'it returns false'. Refute it at one input. -/
def fnExactMovedParticlesWrong : ChangeSpec := { name := "fnExactMovedParticles", fn := fun _ => fun
  | [d1, d2, d3, d4] => { results := [.lit (.bool false)], args := [d1, d2, d3, d4] }
  | _ => none }
def FnExactMovedParticlesWrongFalsely : Prop := fnExactMovedParticlesRow.holds Try.pinned (OpenSpec.ofChange fnExactMovedParticlesWrong)

/-- 'laws.FnExactWeighParticles': WHATEVER THE INPUT: true; the input reads as it did. -/
def fnExactWeighParticlesSpec : ChangeSpec := { name := "fnExactWeighParticles", fn := fun _ => fun
  | [d1, d2, d3, d4] => { results := [.lit (.bool true)], args := [d1, d2, d3, d4] }
  | _ => none }
def fnExactWeighParticlesRow : OpenClaim := { program := "ytppkeabkjabhdab", sum := "f702be70aa67762efb61e05e007822fe13fa07667b617cf1dd90861b9ee6d66e", func := "loop.example/g01382/laws.FnExactWeighParticles", spec := "fnExactWeighParticles", inPlace := ["math.Float64frombits", "math.Float64bits"], unfollowed := true, recurses := true, apart := false }
def FnExactWeighParticlesSaid : Prop := fnExactWeighParticlesRow.holds Try.pinned (OpenSpec.ofChange fnExactWeighParticlesSpec)

/-- ITS FALSE NEIGHBOUR: 'it returns false'. Refute it at one input. -/
def fnExactWeighParticlesWrong : ChangeSpec := { name := "fnExactWeighParticles", fn := fun _ => fun
  | [d1, d2, d3, d4] => { results := [.lit (.bool false)], args := [d1, d2, d3, d4] }
  | _ => none }
def FnExactWeighParticlesWrongFalsely : Prop := fnExactWeighParticlesRow.holds Try.pinned (OpenSpec.ofChange fnExactWeighParticlesWrong)

/-- 'laws.FnFaults': WHATEVER THE INPUT: true; the input reads as it did. -/
def fnFaultsSpec : ChangeSpec := { name := "fnFaults", fn := fun _ => fun
  | [d1, d2] => { results := [.lit (.bool true)], args := [d1, d2] }
  | _ => none }
def fnFaultsRow : OpenClaim := { program := "ytppkeabkjabhdab", sum := "f702be70aa67762efb61e05e007822fe13fa07667b617cf1dd90861b9ee6d66e", func := "loop.example/g01382/laws.FnFaults", spec := "fnFaults", apart := false }
def FnFaultsSaid : Prop := fnFaultsRow.holds Try.pinned (OpenSpec.ofChange fnFaultsSpec)

/-- ITS FALSE NEIGHBOUR: 'it returns false'. Refute it at one input. -/
def fnFaultsWrong : ChangeSpec := { name := "fnFaults", fn := fun _ => fun
  | [d1, d2] => { results := [.lit (.bool false)], args := [d1, d2] }
  | _ => none }
def FnFaultsWrongFalsely : Prop := fnFaultsRow.holds Try.pinned (OpenSpec.ofChange fnFaultsWrong)

/-- 'laws.FnParticles': WHATEVER THE INPUT: true; the input reads as it did. -/
def fnParticlesSpec : ChangeSpec := { name := "fnParticles", fn := fun _ => fun
  | [d1, d2] => { results := [.lit (.bool true)], args := [d1, d2] }
  | _ => none }
def fnParticlesRow : OpenClaim := { program := "ytppkeabkjabhdab", sum := "f702be70aa67762efb61e05e007822fe13fa07667b617cf1dd90861b9ee6d66e", func := "loop.example/g01382/laws.FnParticles", spec := "fnParticles", inPlace := ["math.Float64bits", "math.Float64frombits", "math.Float32bits", "slices.overlaps[float32]"], unfollowed := true, recurses := true, apart := false }
def FnParticlesSaid : Prop := fnParticlesRow.holds Try.pinned (OpenSpec.ofChange fnParticlesSpec)

/-- ITS FALSE NEIGHBOUR: 'it returns false'. Refute it at one input. -/
def fnParticlesWrong : ChangeSpec := { name := "fnParticles", fn := fun _ => fun
  | [d1, d2] => { results := [.lit (.bool false)], args := [d1, d2] }
  | _ => none }
def FnParticlesWrongFalsely : Prop := fnParticlesRow.holds Try.pinned (OpenSpec.ofChange fnParticlesWrong)

/- THE SECOND FORM. 'bulk': how many values and letters a reading holds, each counted each time it is reached (what is shared counts as often as it is met; a slice's spare places count too). A statement '..UptoSaid' is the law's where the arguments, and the package variables that the reading takes, are together of bulk at most 1048576: NARROWER than '..Said'. Prove '..Said' where nothing that the law and all that it calls make is longer than what came in: it says more and counts as full. Else prove '..UptoSaid'. A law counts once. -/
mutual
def uptoBulk {H : Type} : DataW H → Nat
  | .lit (.string bytes) => bytes.length + 1
  | .lit _ => 1
  | .nil => 1
  | .ptr d => uptoBulk d + 1
  | .slice elems spare => uptoBulkAll elems + uptoBulkAll spare + 1
  | .agg parts => uptoBulkAll parts + 1
  | .iface _ d => uptoBulk d + 1
  | .map entries => uptoBulkEntries entries + 1
  | .held _ => 1
def uptoBulkAll {H : Type} : List (DataW H) → Nat
  | [] => 0
  | d :: r => uptoBulk d + uptoBulkAll r
def uptoBulkEntries {H : Type} : List (Lit × DataW H) → Nat
  | [] => 0
  | x :: r => uptoBulkEntry x + uptoBulkEntries r
def uptoBulkEntry {H : Type} : Lit × DataW H → Nat
  | (.string bytes, d) => bytes.length + uptoBulk d + 1
  | (_, d) => uptoBulk d + 1
 end
def uptoSmall : (H : Type) → List (DataW H) → Bool := fun _ ds => decide (uptoBulkAll ds ≤ 1048576)
def OpenSpec.upto (s : _root_.Go.ChangeSpec) : _root_.Go.OpenSpec := { _root_.Go.OpenSpec.ofChange s with cond := some uptoSmall }

/-- 'laws.FnExactParticles', WHERE WHAT IT READS IS OF BULK AT MOST 1048576: true; the input reads as it did. -/
def fnExactParticlesUptoRow : OpenClaim := { program := "ytppkeabkjabhdab", sum := "f702be70aa67762efb61e05e007822fe13fa07667b617cf1dd90861b9ee6d66e", func := "loop.example/g01382/laws.FnExactParticles", spec := "fnExactParticles", inPlace := ["math.Float64bits", "math.Float64frombits"], unfollowed := true, recurses := true, apart := false, narrowed := true }
def FnExactParticlesUptoSaid : Prop := fnExactParticlesUptoRow.holds Try.pinned (OpenSpec.upto fnExactParticlesSpec)

/-- 'laws.FnExactDriftWalk', WHERE WHAT IT READS IS OF BULK AT MOST 1048576: true; the input reads as it did. -/
def fnExactDriftWalkUptoRow : OpenClaim := { program := "ytppkeabkjabhdab", sum := "f702be70aa67762efb61e05e007822fe13fa07667b617cf1dd90861b9ee6d66e", func := "loop.example/g01382/laws.FnExactDriftWalk", spec := "fnExactDriftWalk", inPlace := ["math.Float64bits", "math.Float64frombits"], unfollowed := true, recurses := true, apart := false, narrowed := true }
def FnExactDriftWalkUptoSaid : Prop := fnExactDriftWalkUptoRow.holds Try.pinned (OpenSpec.upto fnExactDriftWalkSpec)

/-- 'laws.FnExactMovedParticles', WHERE WHAT IT READS IS OF BULK AT MOST 1048576: true; the input reads as it did. -/
def fnExactMovedParticlesUptoRow : OpenClaim := { program := "ytppkeabkjabhdab", sum := "f702be70aa67762efb61e05e007822fe13fa07667b617cf1dd90861b9ee6d66e", func := "loop.example/g01382/laws.FnExactMovedParticles", spec := "fnExactMovedParticles", inPlace := ["math.Float64bits", "math.Float64frombits"], unfollowed := true, recurses := true, apart := false, narrowed := true }
def FnExactMovedParticlesUptoSaid : Prop := fnExactMovedParticlesUptoRow.holds Try.pinned (OpenSpec.upto fnExactMovedParticlesSpec)

/-- 'laws.FnExactWeighParticles', WHERE WHAT IT READS IS OF BULK AT MOST 1048576: true; the input reads as it did. -/
def fnExactWeighParticlesUptoRow : OpenClaim := { program := "ytppkeabkjabhdab", sum := "f702be70aa67762efb61e05e007822fe13fa07667b617cf1dd90861b9ee6d66e", func := "loop.example/g01382/laws.FnExactWeighParticles", spec := "fnExactWeighParticles", inPlace := ["math.Float64frombits", "math.Float64bits"], unfollowed := true, recurses := true, apart := false, narrowed := true }
def FnExactWeighParticlesUptoSaid : Prop := fnExactWeighParticlesUptoRow.holds Try.pinned (OpenSpec.upto fnExactWeighParticlesSpec)

/-- 'laws.FnFaults', WHERE WHAT IT READS IS OF BULK AT MOST 1048576: true; the input reads as it did. -/
def fnFaultsUptoRow : OpenClaim := { program := "ytppkeabkjabhdab", sum := "f702be70aa67762efb61e05e007822fe13fa07667b617cf1dd90861b9ee6d66e", func := "loop.example/g01382/laws.FnFaults", spec := "fnFaults", apart := false, narrowed := true }
def FnFaultsUptoSaid : Prop := fnFaultsUptoRow.holds Try.pinned (OpenSpec.upto fnFaultsSpec)

/-- 'laws.FnParticles', WHERE WHAT IT READS IS OF BULK AT MOST 1048576: true; the input reads as it did. -/
def fnParticlesUptoRow : OpenClaim := { program := "ytppkeabkjabhdab", sum := "f702be70aa67762efb61e05e007822fe13fa07667b617cf1dd90861b9ee6d66e", func := "loop.example/g01382/laws.FnParticles", spec := "fnParticles", inPlace := ["math.Float64bits", "math.Float64frombits", "math.Float32bits", "slices.overlaps[float32]"], unfollowed := true, recurses := true, apart := false, narrowed := true }
def FnParticlesUptoSaid : Prop := fnParticlesUptoRow.holds Try.pinned (OpenSpec.upto fnParticlesSpec)

end Rows
end Go.Proofs.Ytppkeabkjabhdab
