/-
  No cell of these rows narrows 'for every input' (looked for: loops, veiled, ifaces, maps, wideKeys, modest, calm, conditions, laid).
  DERIVED. THE GIVEN ROWS OF THIS SEAT. 12 by the template 'for every input the law returns true; each argument reads behind the call as it read before'; 0 by the template 'total and deterministic' (their statements: YtplfmdjccmhclabTotals.lean).
  GIVEN WITH THE SEED: the statements are not yours to turn. If you find one false, say at which input.
  Laid BY PROGRAM, IN A SANDBOX (cutbox-rows.mjs): the forced cells as the released guide's own fill.sh prints them over the translation f4d0c245f4db6f65… (all of the seat's roots in one cut). By AI agents, Wed Nov 11 2026. No macro, syntax, notation, axiom, sorry.
-/
import Derived.Test.YtplfmdjccmhclabChecked
import GoSem.Claim
import GoSem.ClaimJoined
import GoSem.ClaimMapViews
import Derived.JoinedTies
import Derived.KernelRfl
namespace Go.Proofs.Ytplfmdjccmhclab
/- THE CELL 'sum', in the pinned program and in every row, IS THE sha256 OF THE DUMP (.gsa) THAT YtplfmdjccmhclabProg.lean LOADS. Nothing in Lean hashes anything: it is a label: what it is worth is what the hold of that sum in a sandbox is worth. -/
noncomputable def Try.pinned : Pinned := { name := "ytplfmdjccmhclab", sum := "f4d0c245f4db6f65bc8a5233b0a25c67191d607c7609d1c5393808e6d2b8603e", checked := Try.checked }
namespace Rows
def none {H : Type} : Left H := { results := [], args := [] }

/-- 'laws.FnExactSurvivorAt': WHATEVER THE INPUT: true; the input reads as it did. -/
def fnExactSurvivorAtSpec : ChangeSpec := { name := "fnExactSurvivorAt", fn := fun _ => fun
  | [d1, d2] => { results := [.lit (.bool true)], args := [d1, d2] }
  | _ => none }
def fnExactSurvivorAtRow : OpenClaim := { program := "ytplfmdjccmhclab", sum := "f4d0c245f4db6f65bc8a5233b0a25c67191d607c7609d1c5393808e6d2b8603e", func := "loop.example/g01382/laws.FnExactSurvivorAt", spec := "fnExactSurvivorAt", inPlace := ["math.Float64bits", "math.Float64frombits"], unfollowed := true, recurses := true, apart := false }
def FnExactSurvivorAtSaid : Prop := fnExactSurvivorAtRow.holds Try.pinned (OpenSpec.ofChange fnExactSurvivorAtSpec)

/-- ITS FALSE NEIGHBOUR: 'it returns false'. Refute it at one input. -/
def fnExactSurvivorAtWrong : ChangeSpec := { name := "fnExactSurvivorAt", fn := fun _ => fun
  | [d1, d2] => { results := [.lit (.bool false)], args := [d1, d2] }
  | _ => none }
def FnExactSurvivorAtWrongFalsely : Prop := fnExactSurvivorAtRow.holds Try.pinned (OpenSpec.ofChange fnExactSurvivorAtWrong)

/-- 'laws.FnExactHazardSums': WHATEVER THE INPUT: true; the input reads as it did. -/
def fnExactHazardSumsSpec : ChangeSpec := { name := "fnExactHazardSums", fn := fun _ => fun
  | [d] => { results := [.lit (.bool true)], args := [d] }
  | _ => none }
def fnExactHazardSumsRow : OpenClaim := { program := "ytplfmdjccmhclab", sum := "f4d0c245f4db6f65bc8a5233b0a25c67191d607c7609d1c5393808e6d2b8603e", func := "loop.example/g01382/laws.FnExactHazardSums", spec := "fnExactHazardSums", inPlace := ["math.Float64bits", "math.Float64frombits"], unfollowed := true, recurses := true, apart := false }
def FnExactHazardSumsSaid : Prop := fnExactHazardSumsRow.holds Try.pinned (OpenSpec.ofChange fnExactHazardSumsSpec)

/-- ITS FALSE NEIGHBOUR: 'it returns false'. Refute it at one input. -/
def fnExactHazardSumsWrong : ChangeSpec := { name := "fnExactHazardSums", fn := fun _ => fun
  | [d] => { results := [.lit (.bool false)], args := [d] }
  | _ => none }
def FnExactHazardSumsWrongFalsely : Prop := fnExactHazardSumsRow.holds Try.pinned (OpenSpec.ofChange fnExactHazardSumsWrong)

/-- 'laws.FnExactSurvivorSpreads': WHATEVER THE INPUT: true; the input reads as it did. -/
def fnExactSurvivorSpreadsSpec : ChangeSpec := { name := "fnExactSurvivorSpreads", fn := fun _ => fun
  | [d] => { results := [.lit (.bool true)], args := [d] }
  | _ => none }
def fnExactSurvivorSpreadsRow : OpenClaim := { program := "ytplfmdjccmhclab", sum := "f4d0c245f4db6f65bc8a5233b0a25c67191d607c7609d1c5393808e6d2b8603e", func := "loop.example/g01382/laws.FnExactSurvivorSpreads", spec := "fnExactSurvivorSpreads", inPlace := ["math.sqrt", "math.Float64bits", "math.Float64frombits"], unfollowed := true, recurses := true, apart := false }
def FnExactSurvivorSpreadsSaid : Prop := fnExactSurvivorSpreadsRow.holds Try.pinned (OpenSpec.ofChange fnExactSurvivorSpreadsSpec)

/-- ITS FALSE NEIGHBOUR: 'it returns false'. Refute it at one input. -/
def fnExactSurvivorSpreadsWrong : ChangeSpec := { name := "fnExactSurvivorSpreads", fn := fun _ => fun
  | [d] => { results := [.lit (.bool false)], args := [d] }
  | _ => none }
def FnExactSurvivorSpreadsWrongFalsely : Prop := fnExactSurvivorSpreadsRow.holds Try.pinned (OpenSpec.ofChange fnExactSurvivorSpreadsWrong)

/-- 'laws.FnExactMiddleLife': WHATEVER THE INPUT: true; the input reads as it did. -/
def fnExactMiddleLifeSpec : ChangeSpec := { name := "fnExactMiddleLife", fn := fun _ => fun
  | [d] => { results := [.lit (.bool true)], args := [d] }
  | _ => none }
def fnExactMiddleLifeRow : OpenClaim := { program := "ytplfmdjccmhclab", sum := "f4d0c245f4db6f65bc8a5233b0a25c67191d607c7609d1c5393808e6d2b8603e", func := "loop.example/g01382/laws.FnExactMiddleLife", spec := "fnExactMiddleLife", inPlace := ["math.Float64bits", "math.Float64frombits"], unfollowed := true, recurses := true, apart := false }
def FnExactMiddleLifeSaid : Prop := fnExactMiddleLifeRow.holds Try.pinned (OpenSpec.ofChange fnExactMiddleLifeSpec)

/-- ITS FALSE NEIGHBOUR: 'it returns false'. Refute it at one input. -/
def fnExactMiddleLifeWrong : ChangeSpec := { name := "fnExactMiddleLife", fn := fun _ => fun
  | [d] => { results := [.lit (.bool false)], args := [d] }
  | _ => none }
def FnExactMiddleLifeWrongFalsely : Prop := fnExactMiddleLifeRow.holds Try.pinned (OpenSpec.ofChange fnExactMiddleLifeWrong)

/-- 'laws.FnExactIntervalTable': WHATEVER THE INPUT: true; the input reads as it did. -/
def fnExactIntervalTableSpec : ChangeSpec := { name := "fnExactIntervalTable", fn := fun _ => fun
  | [d1, d2, d3] => { results := [.lit (.bool true)], args := [d1, d2, d3] }
  | _ => none }
def fnExactIntervalTableRow : OpenClaim := { program := "ytplfmdjccmhclab", sum := "f4d0c245f4db6f65bc8a5233b0a25c67191d607c7609d1c5393808e6d2b8603e", func := "loop.example/g01382/laws.FnExactIntervalTable", spec := "fnExactIntervalTable", inPlace := ["math.Float64bits", "math.Float64frombits"], unfollowed := true, recurses := true, apart := false }
def FnExactIntervalTableSaid : Prop := fnExactIntervalTableRow.holds Try.pinned (OpenSpec.ofChange fnExactIntervalTableSpec)

/-- ITS FALSE NEIGHBOUR: 'it returns false'. Refute it at one input. -/
def fnExactIntervalTableWrong : ChangeSpec := { name := "fnExactIntervalTable", fn := fun _ => fun
  | [d1, d2, d3] => { results := [.lit (.bool false)], args := [d1, d2, d3] }
  | _ => none }
def FnExactIntervalTableWrongFalsely : Prop := fnExactIntervalTableRow.holds Try.pinned (OpenSpec.ofChange fnExactIntervalTableWrong)

/-- 'laws.FnExactValidLaw': WHATEVER THE INPUT: true; the input reads as it did. -/
def fnExactValidLawSpec : ChangeSpec := { name := "fnExactValidLaw", fn := fun _ => fun
  | [d] => { results := [.lit (.bool true)], args := [d] }
  | _ => none }
def fnExactValidLawRow : OpenClaim := { program := "ytplfmdjccmhclab", sum := "f4d0c245f4db6f65bc8a5233b0a25c67191d607c7609d1c5393808e6d2b8603e", func := "loop.example/g01382/laws.FnExactValidLaw", spec := "fnExactValidLaw", apart := false }
def FnExactValidLawSaid : Prop := fnExactValidLawRow.holds Try.pinned (OpenSpec.ofChange fnExactValidLawSpec)

/-- ITS FALSE NEIGHBOUR: 'it returns false'. Refute it at one input. -/
def fnExactValidLawWrong : ChangeSpec := { name := "fnExactValidLaw", fn := fun _ => fun
  | [d] => { results := [.lit (.bool false)], args := [d] }
  | _ => none }
def FnExactValidLawWrongFalsely : Prop := fnExactValidLawRow.holds Try.pinned (OpenSpec.ofChange fnExactValidLawWrong)

/-- 'laws.FnExactSameLaw': WHATEVER THE INPUT: true; the input reads as it did. -/
def fnExactSameLawSpec : ChangeSpec := { name := "fnExactSameLaw", fn := fun _ => fun
  | [d1, d2] => { results := [.lit (.bool true)], args := [d1, d2] }
  | _ => none }
def fnExactSameLawRow : OpenClaim := { program := "ytplfmdjccmhclab", sum := "f4d0c245f4db6f65bc8a5233b0a25c67191d607c7609d1c5393808e6d2b8603e", func := "loop.example/g01382/laws.FnExactSameLaw", spec := "fnExactSameLaw", inPlace := ["math.Float32bits"], apart := false }
def FnExactSameLawSaid : Prop := fnExactSameLawRow.holds Try.pinned (OpenSpec.ofChange fnExactSameLawSpec)

/-- ITS FALSE NEIGHBOUR: 'it returns false'. Refute it at one input. -/
def fnExactSameLawWrong : ChangeSpec := { name := "fnExactSameLaw", fn := fun _ => fun
  | [d1, d2] => { results := [.lit (.bool false)], args := [d1, d2] }
  | _ => none }
def FnExactSameLawWrongFalsely : Prop := fnExactSameLawRow.holds Try.pinned (OpenSpec.ofChange fnExactSameLawWrong)

/-- 'laws.FnExactLawSurvives': WHATEVER THE INPUT: true; the input reads as it did. -/
def fnExactLawSurvivesSpec : ChangeSpec := { name := "fnExactLawSurvives", fn := fun _ => fun
  | [d1, d2] => { results := [.lit (.bool true)], args := [d1, d2] }
  | _ => none }
def fnExactLawSurvivesRow : OpenClaim := { program := "ytplfmdjccmhclab", sum := "f4d0c245f4db6f65bc8a5233b0a25c67191d607c7609d1c5393808e6d2b8603e", func := "loop.example/g01382/laws.FnExactLawSurvives", spec := "fnExactLawSurvives", inPlace := ["math.Float64frombits", "math.Float64bits"], apart := false }
def FnExactLawSurvivesSaid : Prop := fnExactLawSurvivesRow.holds Try.pinned (OpenSpec.ofChange fnExactLawSurvivesSpec)

/-- ITS FALSE NEIGHBOUR: 'it returns false'. Refute it at one input. -/
def fnExactLawSurvivesWrong : ChangeSpec := { name := "fnExactLawSurvives", fn := fun _ => fun
  | [d1, d2] => { results := [.lit (.bool false)], args := [d1, d2] }
  | _ => none }
def FnExactLawSurvivesWrongFalsely : Prop := fnExactLawSurvivesRow.holds Try.pinned (OpenSpec.ofChange fnExactLawSurvivesWrong)

/-- 'laws.FnExactLawDensity': WHATEVER THE INPUT: true; the input reads as it did. -/
def fnExactLawDensitySpec : ChangeSpec := { name := "fnExactLawDensity", fn := fun _ => fun
  | [d1, d2] => { results := [.lit (.bool true)], args := [d1, d2] }
  | _ => none }
def fnExactLawDensityRow : OpenClaim := { program := "ytplfmdjccmhclab", sum := "f4d0c245f4db6f65bc8a5233b0a25c67191d607c7609d1c5393808e6d2b8603e", func := "loop.example/g01382/laws.FnExactLawDensity", spec := "fnExactLawDensity", inPlace := ["math.Float64frombits", "math.Float64bits"], apart := false }
def FnExactLawDensitySaid : Prop := fnExactLawDensityRow.holds Try.pinned (OpenSpec.ofChange fnExactLawDensitySpec)

/-- ITS FALSE NEIGHBOUR: 'it returns false'. Refute it at one input. -/
def fnExactLawDensityWrong : ChangeSpec := { name := "fnExactLawDensity", fn := fun _ => fun
  | [d1, d2] => { results := [.lit (.bool false)], args := [d1, d2] }
  | _ => none }
def FnExactLawDensityWrongFalsely : Prop := fnExactLawDensityRow.holds Try.pinned (OpenSpec.ofChange fnExactLawDensityWrong)

/-- 'laws.FnExactLawHazard': WHATEVER THE INPUT: true; the input reads as it did. -/
def fnExactLawHazardSpec : ChangeSpec := { name := "fnExactLawHazard", fn := fun _ => fun
  | [d1, d2] => { results := [.lit (.bool true)], args := [d1, d2] }
  | _ => none }
def fnExactLawHazardRow : OpenClaim := { program := "ytplfmdjccmhclab", sum := "f4d0c245f4db6f65bc8a5233b0a25c67191d607c7609d1c5393808e6d2b8603e", func := "loop.example/g01382/laws.FnExactLawHazard", spec := "fnExactLawHazard", inPlace := ["math.Float64frombits", "math.Float64bits"], apart := false }
def FnExactLawHazardSaid : Prop := fnExactLawHazardRow.holds Try.pinned (OpenSpec.ofChange fnExactLawHazardSpec)

/-- ITS FALSE NEIGHBOUR: 'it returns false'. Refute it at one input. -/
def fnExactLawHazardWrong : ChangeSpec := { name := "fnExactLawHazard", fn := fun _ => fun
  | [d1, d2] => { results := [.lit (.bool false)], args := [d1, d2] }
  | _ => none }
def FnExactLawHazardWrongFalsely : Prop := fnExactLawHazardRow.holds Try.pinned (OpenSpec.ofChange fnExactLawHazardWrong)

/-- 'laws.FnExactLawTime': WHATEVER THE INPUT: true; the input reads as it did. -/
def fnExactLawTimeSpec : ChangeSpec := { name := "fnExactLawTime", fn := fun _ => fun
  | [d1, d2] => { results := [.lit (.bool true)], args := [d1, d2] }
  | _ => none }
def fnExactLawTimeRow : OpenClaim := { program := "ytplfmdjccmhclab", sum := "f4d0c245f4db6f65bc8a5233b0a25c67191d607c7609d1c5393808e6d2b8603e", func := "loop.example/g01382/laws.FnExactLawTime", spec := "fnExactLawTime", inPlace := ["math.Float64frombits", "math.Float64bits"], apart := false }
def FnExactLawTimeSaid : Prop := fnExactLawTimeRow.holds Try.pinned (OpenSpec.ofChange fnExactLawTimeSpec)

/-- ITS FALSE NEIGHBOUR: 'it returns false'. Refute it at one input. -/
def fnExactLawTimeWrong : ChangeSpec := { name := "fnExactLawTime", fn := fun _ => fun
  | [d1, d2] => { results := [.lit (.bool false)], args := [d1, d2] }
  | _ => none }
def FnExactLawTimeWrongFalsely : Prop := fnExactLawTimeRow.holds Try.pinned (OpenSpec.ofChange fnExactLawTimeWrong)

/-- 'laws.FnExactLawMean': WHATEVER THE INPUT: true; the input reads as it did. -/
def fnExactLawMeanSpec : ChangeSpec := { name := "fnExactLawMean", fn := fun _ => fun
  | [d1, d2, d3] => { results := [.lit (.bool true)], args := [d1, d2, d3] }
  | _ => none }
def fnExactLawMeanRow : OpenClaim := { program := "ytplfmdjccmhclab", sum := "f4d0c245f4db6f65bc8a5233b0a25c67191d607c7609d1c5393808e6d2b8603e", func := "loop.example/g01382/laws.FnExactLawMean", spec := "fnExactLawMean", inPlace := ["math.Float64frombits", "math.Float64bits"], apart := false }
def FnExactLawMeanSaid : Prop := fnExactLawMeanRow.holds Try.pinned (OpenSpec.ofChange fnExactLawMeanSpec)

/-- ITS FALSE NEIGHBOUR: 'it returns false'. Refute it at one input. -/
def fnExactLawMeanWrong : ChangeSpec := { name := "fnExactLawMean", fn := fun _ => fun
  | [d1, d2, d3] => { results := [.lit (.bool false)], args := [d1, d2, d3] }
  | _ => none }
def FnExactLawMeanWrongFalsely : Prop := fnExactLawMeanRow.holds Try.pinned (OpenSpec.ofChange fnExactLawMeanWrong)

/- THE SECOND FORM. 'bulk': how many values and letters a reading holds, each counted each time it is reached (what is shared counts as often as it is met; a slice's spare places count too). A statement '..UptoSaid' is the law's where the arguments, and the package variables that the reading takes, are together of bulk at most 1048576: NARROWER than '..Said'. Prove '..Said' where nothing that the law and all that it calls make is longer than what came in: it says more and counts as full. Else prove '..UptoSaid'. A law counts once. -/
mutual
def uptoBulk {H : Type} : DataW H → Nat
  | .lit (.string bytes) => bytes.length + 1
  | .lit _ => 1
  | .nil => 1
  | .ptr d => uptoBulk d + 1
  | .slice elems spare => uptoBulkAll elems + uptoBulkAll spare + 1
  | .agg parts => uptoBulkAll parts + 1
  | .iface _ d => uptoBulk d + 1
  | .map entries => uptoBulkEntries entries + 1
  | .held _ => 1
def uptoBulkAll {H : Type} : List (DataW H) → Nat
  | [] => 0
  | d :: r => uptoBulk d + uptoBulkAll r
def uptoBulkEntries {H : Type} : List (Lit × DataW H) → Nat
  | [] => 0
  | x :: r => uptoBulkEntry x + uptoBulkEntries r
def uptoBulkEntry {H : Type} : Lit × DataW H → Nat
  | (.string bytes, d) => bytes.length + uptoBulk d + 1
  | (_, d) => uptoBulk d + 1
 end
def uptoSmall : (H : Type) → List (DataW H) → Bool := fun _ ds => decide (uptoBulkAll ds ≤ 1048576)
def OpenSpec.upto (s : _root_.Go.ChangeSpec) : _root_.Go.OpenSpec := { _root_.Go.OpenSpec.ofChange s with cond := some uptoSmall }

/-- 'laws.FnExactSurvivorAt', WHERE WHAT IT READS IS OF BULK AT MOST 1048576: true; the input reads as it did. -/
def fnExactSurvivorAtUptoRow : OpenClaim := { program := "ytplfmdjccmhclab", sum := "f4d0c245f4db6f65bc8a5233b0a25c67191d607c7609d1c5393808e6d2b8603e", func := "loop.example/g01382/laws.FnExactSurvivorAt", spec := "fnExactSurvivorAt", inPlace := ["math.Float64bits", "math.Float64frombits"], unfollowed := true, recurses := true, apart := false, narrowed := true }
def FnExactSurvivorAtUptoSaid : Prop := fnExactSurvivorAtUptoRow.holds Try.pinned (OpenSpec.upto fnExactSurvivorAtSpec)

/-- 'laws.FnExactHazardSums', WHERE WHAT IT READS IS OF BULK AT MOST 1048576: true; the input reads as it did. -/
def fnExactHazardSumsUptoRow : OpenClaim := { program := "ytplfmdjccmhclab", sum := "f4d0c245f4db6f65bc8a5233b0a25c67191d607c7609d1c5393808e6d2b8603e", func := "loop.example/g01382/laws.FnExactHazardSums", spec := "fnExactHazardSums", inPlace := ["math.Float64bits", "math.Float64frombits"], unfollowed := true, recurses := true, apart := false, narrowed := true }
def FnExactHazardSumsUptoSaid : Prop := fnExactHazardSumsUptoRow.holds Try.pinned (OpenSpec.upto fnExactHazardSumsSpec)

/-- 'laws.FnExactSurvivorSpreads', WHERE WHAT IT READS IS OF BULK AT MOST 1048576: true; the input reads as it did. -/
def fnExactSurvivorSpreadsUptoRow : OpenClaim := { program := "ytplfmdjccmhclab", sum := "f4d0c245f4db6f65bc8a5233b0a25c67191d607c7609d1c5393808e6d2b8603e", func := "loop.example/g01382/laws.FnExactSurvivorSpreads", spec := "fnExactSurvivorSpreads", inPlace := ["math.sqrt", "math.Float64bits", "math.Float64frombits"], unfollowed := true, recurses := true, apart := false, narrowed := true }
def FnExactSurvivorSpreadsUptoSaid : Prop := fnExactSurvivorSpreadsUptoRow.holds Try.pinned (OpenSpec.upto fnExactSurvivorSpreadsSpec)

/-- 'laws.FnExactMiddleLife', WHERE WHAT IT READS IS OF BULK AT MOST 1048576: true; the input reads as it did. -/
def fnExactMiddleLifeUptoRow : OpenClaim := { program := "ytplfmdjccmhclab", sum := "f4d0c245f4db6f65bc8a5233b0a25c67191d607c7609d1c5393808e6d2b8603e", func := "loop.example/g01382/laws.FnExactMiddleLife", spec := "fnExactMiddleLife", inPlace := ["math.Float64bits", "math.Float64frombits"], unfollowed := true, recurses := true, apart := false, narrowed := true }
def FnExactMiddleLifeUptoSaid : Prop := fnExactMiddleLifeUptoRow.holds Try.pinned (OpenSpec.upto fnExactMiddleLifeSpec)

/-- 'laws.FnExactIntervalTable', WHERE WHAT IT READS IS OF BULK AT MOST 1048576: true; the input reads as it did. -/
def fnExactIntervalTableUptoRow : OpenClaim := { program := "ytplfmdjccmhclab", sum := "f4d0c245f4db6f65bc8a5233b0a25c67191d607c7609d1c5393808e6d2b8603e", func := "loop.example/g01382/laws.FnExactIntervalTable", spec := "fnExactIntervalTable", inPlace := ["math.Float64bits", "math.Float64frombits"], unfollowed := true, recurses := true, apart := false, narrowed := true }
def FnExactIntervalTableUptoSaid : Prop := fnExactIntervalTableUptoRow.holds Try.pinned (OpenSpec.upto fnExactIntervalTableSpec)

/-- 'laws.FnExactValidLaw', WHERE WHAT IT READS IS OF BULK AT MOST 1048576: true; the input reads as it did. -/
def fnExactValidLawUptoRow : OpenClaim := { program := "ytplfmdjccmhclab", sum := "f4d0c245f4db6f65bc8a5233b0a25c67191d607c7609d1c5393808e6d2b8603e", func := "loop.example/g01382/laws.FnExactValidLaw", spec := "fnExactValidLaw", apart := false, narrowed := true }
def FnExactValidLawUptoSaid : Prop := fnExactValidLawUptoRow.holds Try.pinned (OpenSpec.upto fnExactValidLawSpec)

/-- 'laws.FnExactSameLaw', WHERE WHAT IT READS IS OF BULK AT MOST 1048576: true; the input reads as it did. -/
def fnExactSameLawUptoRow : OpenClaim := { program := "ytplfmdjccmhclab", sum := "f4d0c245f4db6f65bc8a5233b0a25c67191d607c7609d1c5393808e6d2b8603e", func := "loop.example/g01382/laws.FnExactSameLaw", spec := "fnExactSameLaw", inPlace := ["math.Float32bits"], apart := false, narrowed := true }
def FnExactSameLawUptoSaid : Prop := fnExactSameLawUptoRow.holds Try.pinned (OpenSpec.upto fnExactSameLawSpec)

/-- 'laws.FnExactLawSurvives', WHERE WHAT IT READS IS OF BULK AT MOST 1048576: true; the input reads as it did. -/
def fnExactLawSurvivesUptoRow : OpenClaim := { program := "ytplfmdjccmhclab", sum := "f4d0c245f4db6f65bc8a5233b0a25c67191d607c7609d1c5393808e6d2b8603e", func := "loop.example/g01382/laws.FnExactLawSurvives", spec := "fnExactLawSurvives", inPlace := ["math.Float64frombits", "math.Float64bits"], apart := false, narrowed := true }
def FnExactLawSurvivesUptoSaid : Prop := fnExactLawSurvivesUptoRow.holds Try.pinned (OpenSpec.upto fnExactLawSurvivesSpec)

/-- 'laws.FnExactLawDensity', WHERE WHAT IT READS IS OF BULK AT MOST 1048576: true; the input reads as it did. -/
def fnExactLawDensityUptoRow : OpenClaim := { program := "ytplfmdjccmhclab", sum := "f4d0c245f4db6f65bc8a5233b0a25c67191d607c7609d1c5393808e6d2b8603e", func := "loop.example/g01382/laws.FnExactLawDensity", spec := "fnExactLawDensity", inPlace := ["math.Float64frombits", "math.Float64bits"], apart := false, narrowed := true }
def FnExactLawDensityUptoSaid : Prop := fnExactLawDensityUptoRow.holds Try.pinned (OpenSpec.upto fnExactLawDensitySpec)

/-- 'laws.FnExactLawHazard', WHERE WHAT IT READS IS OF BULK AT MOST 1048576: true; the input reads as it did. -/
def fnExactLawHazardUptoRow : OpenClaim := { program := "ytplfmdjccmhclab", sum := "f4d0c245f4db6f65bc8a5233b0a25c67191d607c7609d1c5393808e6d2b8603e", func := "loop.example/g01382/laws.FnExactLawHazard", spec := "fnExactLawHazard", inPlace := ["math.Float64frombits", "math.Float64bits"], apart := false, narrowed := true }
def FnExactLawHazardUptoSaid : Prop := fnExactLawHazardUptoRow.holds Try.pinned (OpenSpec.upto fnExactLawHazardSpec)

/-- 'laws.FnExactLawTime', WHERE WHAT IT READS IS OF BULK AT MOST 1048576: true; the input reads as it did. -/
def fnExactLawTimeUptoRow : OpenClaim := { program := "ytplfmdjccmhclab", sum := "f4d0c245f4db6f65bc8a5233b0a25c67191d607c7609d1c5393808e6d2b8603e", func := "loop.example/g01382/laws.FnExactLawTime", spec := "fnExactLawTime", inPlace := ["math.Float64frombits", "math.Float64bits"], apart := false, narrowed := true }
def FnExactLawTimeUptoSaid : Prop := fnExactLawTimeUptoRow.holds Try.pinned (OpenSpec.upto fnExactLawTimeSpec)

/-- 'laws.FnExactLawMean', WHERE WHAT IT READS IS OF BULK AT MOST 1048576: true; the input reads as it did. -/
def fnExactLawMeanUptoRow : OpenClaim := { program := "ytplfmdjccmhclab", sum := "f4d0c245f4db6f65bc8a5233b0a25c67191d607c7609d1c5393808e6d2b8603e", func := "loop.example/g01382/laws.FnExactLawMean", spec := "fnExactLawMean", inPlace := ["math.Float64frombits", "math.Float64bits"], apart := false, narrowed := true }
def FnExactLawMeanUptoSaid : Prop := fnExactLawMeanUptoRow.holds Try.pinned (OpenSpec.upto fnExactLawMeanSpec)

end Rows
end Go.Proofs.Ytplfmdjccmhclab
