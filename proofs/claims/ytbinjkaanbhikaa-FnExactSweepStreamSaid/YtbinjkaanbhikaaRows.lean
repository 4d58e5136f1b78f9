/-
  No cell of these rows narrows 'for every input' (looked for: loops, veiled, ifaces, maps, wideKeys, modest, calm, conditions, laid).
  DERIVED. THE GIVEN ROWS OF THIS SEAT. 12 by the template 'for every input the law returns true; each argument reads behind the call as it read before'; 0 by the template 'total and deterministic' (their statements: YtbinjkaanbhikaaTotals.lean).
  GIVEN WITH THE SEED: the statements are not yours to turn. If you find one false, say at which input.
  Laid BY PROGRAM, IN A SANDBOX (cutbox-rows.mjs): the forced cells as the released guide's own fill.sh prints them over the translation 5811c006d7dcca10… (all of the seat's roots in one cut). By AI agents, Wed Nov 11 2026. No macro, syntax, notation, axiom, sorry.
-/
import Derived.Test.YtbinjkaanbhikaaChecked
import GoSem.Claim
import GoSem.ClaimJoined
import GoSem.ClaimMapViews
import Derived.JoinedTies
import Derived.KernelRfl
namespace Go.Proofs.Ytbinjkaanbhikaa
/- THE CELL 'sum', in the pinned program and in every row, IS THE sha256 OF THE DUMP (.gsa) THAT YtbinjkaanbhikaaProg.lean LOADS. Nothing in Lean hashes anything: it is a label: what it is worth is what the hold of that sum in a sandbox is worth. -/
noncomputable def Try.pinned : Pinned := { name := "ytbinjkaanbhikaa", sum := "5811c006d7dcca106aa2f50cb751027d8634870c0ddc13750c75b9f767493fb4", checked := Try.checked }
namespace Rows
def none {H : Type} : Left H := { results := [], args := [] }

/-- 'laws.FnExactSolveSquare': WHATEVER THE INPUT: true; the input reads as it did. -/
def fnExactSolveSquareSpec : ChangeSpec := { name := "fnExactSolveSquare", fn := fun _ => fun
  | [d1, d2] => { results := [.lit (.bool true)], args := [d1, d2] }
  | _ => none }
def fnExactSolveSquareRow : OpenClaim := { program := "ytbinjkaanbhikaa", sum := "5811c006d7dcca106aa2f50cb751027d8634870c0ddc13750c75b9f767493fb4", func := "loop.example/g01266/laws.FnExactSolveSquare", spec := "fnExactSolveSquare", inPlace := ["math.Float32bits"], unfollowed := true, recurses := true, apart := false }
def FnExactSolveSquareSaid : Prop := fnExactSolveSquareRow.holds Try.pinned (OpenSpec.ofChange fnExactSolveSquareSpec)

/-- ITS FALSE NEIGHBOUR: 'it returns false'. Refute it at one input. -/
def fnExactSolveSquareWrong : ChangeSpec := { name := "fnExactSolveSquare", fn := fun _ => fun
  | [d1, d2] => { results := [.lit (.bool false)], args := [d1, d2] }
  | _ => none }
def FnExactSolveSquareWrongFalsely : Prop := fnExactSolveSquareRow.holds Try.pinned (OpenSpec.ofChange fnExactSolveSquareWrong)

/-- 'laws.FnExactFlatPlate': WHATEVER THE INPUT: true; the input reads as it did. -/
def fnExactFlatPlateSpec : ChangeSpec := { name := "fnExactFlatPlate", fn := fun _ => fun
  | [d1, d2, d3] => { results := [.lit (.bool true)], args := [d1, d2, d3] }
  | _ => none }
def fnExactFlatPlateRow : OpenClaim := { program := "ytbinjkaanbhikaa", sum := "5811c006d7dcca106aa2f50cb751027d8634870c0ddc13750c75b9f767493fb4", func := "loop.example/g01266/laws.FnExactFlatPlate", spec := "fnExactFlatPlate", inPlace := ["math.Float32frombits", "math.Float64frombits", "math.sqrt", "math.Float32bits", "math.Float64bits"], unfollowed := true, recurses := true, apart := false }
def FnExactFlatPlateSaid : Prop := fnExactFlatPlateRow.holds Try.pinned (OpenSpec.ofChange fnExactFlatPlateSpec)

/-- ITS FALSE NEIGHBOUR: 'it returns false'. Refute it at one input. -/
def fnExactFlatPlateWrong : ChangeSpec := { name := "fnExactFlatPlate", fn := fun _ => fun
  | [d1, d2, d3] => { results := [.lit (.bool false)], args := [d1, d2, d3] }
  | _ => none }
def FnExactFlatPlateWrongFalsely : Prop := fnExactFlatPlateRow.holds Try.pinned (OpenSpec.ofChange fnExactFlatPlateWrong)

/-- 'laws.FnExactArcPlate': WHATEVER THE INPUT: true; the input reads as it did. -/
def fnExactArcPlateSpec : ChangeSpec := { name := "fnExactArcPlate", fn := fun _ => fun
  | [d1, d2, d3] => { results := [.lit (.bool true)], args := [d1, d2, d3] }
  | _ => none }
def fnExactArcPlateRow : OpenClaim := { program := "ytbinjkaanbhikaa", sum := "5811c006d7dcca106aa2f50cb751027d8634870c0ddc13750c75b9f767493fb4", func := "loop.example/g01266/laws.FnExactArcPlate", spec := "fnExactArcPlate", inPlace := ["math.sqrt", "math.Float32bits", "math.Float64bits", "math.Float64frombits", "math.Float32frombits"], unfollowed := true, recurses := true, apart := false }
def FnExactArcPlateSaid : Prop := fnExactArcPlateRow.holds Try.pinned (OpenSpec.ofChange fnExactArcPlateSpec)

/-- ITS FALSE NEIGHBOUR: 'it returns false'. Refute it at one input. -/
def fnExactArcPlateWrong : ChangeSpec := { name := "fnExactArcPlate", fn := fun _ => fun
  | [d1, d2, d3] => { results := [.lit (.bool false)], args := [d1, d2, d3] }
  | _ => none }
def FnExactArcPlateWrongFalsely : Prop := fnExactArcPlateRow.holds Try.pinned (OpenSpec.ofChange fnExactArcPlateWrong)

/-- 'laws.FnExactAddBasins': WHATEVER THE INPUT: true; the input reads as it did. -/
def fnExactAddBasinsSpec : ChangeSpec := { name := "fnExactAddBasins", fn := fun _ => fun
  | [d1, d2] => { results := [.lit (.bool true)], args := [d1, d2] }
  | _ => none }
def fnExactAddBasinsRow : OpenClaim := { program := "ytbinjkaanbhikaa", sum := "5811c006d7dcca106aa2f50cb751027d8634870c0ddc13750c75b9f767493fb4", func := "loop.example/g01266/laws.FnExactAddBasins", spec := "fnExactAddBasins", inPlace := ["math.Float32bits"], unfollowed := true, recurses := true, apart := false }
def FnExactAddBasinsSaid : Prop := fnExactAddBasinsRow.holds Try.pinned (OpenSpec.ofChange fnExactAddBasinsSpec)

/-- ITS FALSE NEIGHBOUR: 'it returns false'. Refute it at one input. -/
def fnExactAddBasinsWrong : ChangeSpec := { name := "fnExactAddBasins", fn := fun _ => fun
  | [d1, d2] => { results := [.lit (.bool false)], args := [d1, d2] }
  | _ => none }
def FnExactAddBasinsWrongFalsely : Prop := fnExactAddBasinsRow.holds Try.pinned (OpenSpec.ofChange fnExactAddBasinsWrong)

/-- 'laws.FnExactSpinAbout': WHATEVER THE INPUT: true; the input reads as it did. -/
def fnExactSpinAboutSpec : ChangeSpec := { name := "fnExactSpinAbout", fn := fun _ => fun
  | [d1, d2, d3] => { results := [.lit (.bool true)], args := [d1, d2, d3] }
  | _ => none }
def fnExactSpinAboutRow : OpenClaim := { program := "ytbinjkaanbhikaa", sum := "5811c006d7dcca106aa2f50cb751027d8634870c0ddc13750c75b9f767493fb4", func := "loop.example/g01266/laws.FnExactSpinAbout", spec := "fnExactSpinAbout", inPlace := ["math.archFloor", "math.Float64bits", "math.Float64frombits", "math.archTrunc", "math.Float32bits", "math.Float32frombits"], unfollowed := true, recurses := true, apart := false }
def FnExactSpinAboutSaid : Prop := fnExactSpinAboutRow.holds Try.pinned (OpenSpec.ofChange fnExactSpinAboutSpec)

/-- ITS FALSE NEIGHBOUR: 'it returns false'. Refute it at one input. -/
def fnExactSpinAboutWrong : ChangeSpec := { name := "fnExactSpinAbout", fn := fun _ => fun
  | [d1, d2, d3] => { results := [.lit (.bool false)], args := [d1, d2, d3] }
  | _ => none }
def FnExactSpinAboutWrongFalsely : Prop := fnExactSpinAboutRow.holds Try.pinned (OpenSpec.ofChange fnExactSpinAboutWrong)

/-- 'laws.FnExactBlobBasin': WHATEVER THE INPUT: true; the input reads as it did. -/
def fnExactBlobBasinSpec : ChangeSpec := { name := "fnExactBlobBasin", fn := fun _ => fun
  | [d1, d2, d3, d4, d5, d6] => { results := [.lit (.bool true)], args := [d1, d2, d3, d4, d5, d6] }
  | _ => none }
def fnExactBlobBasinRow : OpenClaim := { program := "ytbinjkaanbhikaa", sum := "5811c006d7dcca106aa2f50cb751027d8634870c0ddc13750c75b9f767493fb4", func := "loop.example/g01266/laws.FnExactBlobBasin", spec := "fnExactBlobBasin", inPlace := ["math.Float32bits"], unfollowed := true, recurses := true, apart := false }
def FnExactBlobBasinSaid : Prop := fnExactBlobBasinRow.holds Try.pinned (OpenSpec.ofChange fnExactBlobBasinSpec)

/-- ITS FALSE NEIGHBOUR: 'it returns false'. Refute it at one input. -/
def fnExactBlobBasinWrong : ChangeSpec := { name := "fnExactBlobBasin", fn := fun _ => fun
  | [d1, d2, d3, d4, d5, d6] => { results := [.lit (.bool false)], args := [d1, d2, d3, d4, d5, d6] }
  | _ => none }
def FnExactBlobBasinWrongFalsely : Prop := fnExactBlobBasinRow.holds Try.pinned (OpenSpec.ofChange fnExactBlobBasinWrong)

/-- 'laws.FnExactFlowsInBasin': WHATEVER THE INPUT: true; the input reads as it did. -/
def fnExactFlowsInBasinSpec : ChangeSpec := { name := "fnExactFlowsInBasin", fn := fun _ => fun
  | [d] => { results := [.lit (.bool true)], args := [d] }
  | _ => none }
def fnExactFlowsInBasinRow : OpenClaim := { program := "ytbinjkaanbhikaa", sum := "5811c006d7dcca106aa2f50cb751027d8634870c0ddc13750c75b9f767493fb4", func := "loop.example/g01266/laws.FnExactFlowsInBasin", spec := "fnExactFlowsInBasin", inPlace := ["math.Float32bits"], unfollowed := true, recurses := true, apart := false }
def FnExactFlowsInBasinSaid : Prop := fnExactFlowsInBasinRow.holds Try.pinned (OpenSpec.ofChange fnExactFlowsInBasinSpec)

/-- ITS FALSE NEIGHBOUR: 'it returns false'. Refute it at one input. -/
def fnExactFlowsInBasinWrong : ChangeSpec := { name := "fnExactFlowsInBasin", fn := fun _ => fun
  | [d] => { results := [.lit (.bool false)], args := [d] }
  | _ => none }
def FnExactFlowsInBasinWrongFalsely : Prop := fnExactFlowsInBasinRow.holds Try.pinned (OpenSpec.ofChange fnExactFlowsInBasinWrong)

/-- 'laws.FnExactMissOfStream': WHATEVER THE INPUT: true; the input reads as it did. -/
def fnExactMissOfStreamSpec : ChangeSpec := { name := "fnExactMissOfStream", fn := fun _ => fun
  | [d1, d2] => { results := [.lit (.bool true)], args := [d1, d2] }
  | _ => none }
def fnExactMissOfStreamRow : OpenClaim := { program := "ytbinjkaanbhikaa", sum := "5811c006d7dcca106aa2f50cb751027d8634870c0ddc13750c75b9f767493fb4", func := "loop.example/g01266/laws.FnExactMissOfStream", spec := "fnExactMissOfStream", inPlace := ["math.Float32bits"], unfollowed := true, recurses := true, apart := false }
def FnExactMissOfStreamSaid : Prop := fnExactMissOfStreamRow.holds Try.pinned (OpenSpec.ofChange fnExactMissOfStreamSpec)

/-- ITS FALSE NEIGHBOUR: 'it returns false'. Refute it at one input. -/
def fnExactMissOfStreamWrong : ChangeSpec := { name := "fnExactMissOfStream", fn := fun _ => fun
  | [d1, d2] => { results := [.lit (.bool false)], args := [d1, d2] }
  | _ => none }
def FnExactMissOfStreamWrongFalsely : Prop := fnExactMissOfStreamRow.holds Try.pinned (OpenSpec.ofChange fnExactMissOfStreamWrong)

/-- 'laws.FnExactSpreadBasin': WHATEVER THE INPUT: true; the input reads as it did. -/
def fnExactSpreadBasinSpec : ChangeSpec := { name := "fnExactSpreadBasin", fn := fun _ => fun
  | [d1, d2, d3] => { results := [.lit (.bool true)], args := [d1, d2, d3] }
  | _ => none }
def fnExactSpreadBasinRow : OpenClaim := { program := "ytbinjkaanbhikaa", sum := "5811c006d7dcca106aa2f50cb751027d8634870c0ddc13750c75b9f767493fb4", func := "loop.example/g01266/laws.FnExactSpreadBasin", spec := "fnExactSpreadBasin", inPlace := ["math.Float32bits"], unfollowed := true, recurses := true, apart := false }
def FnExactSpreadBasinSaid : Prop := fnExactSpreadBasinRow.holds Try.pinned (OpenSpec.ofChange fnExactSpreadBasinSpec)

/-- ITS FALSE NEIGHBOUR: 'it returns false'. Refute it at one input. -/
def fnExactSpreadBasinWrong : ChangeSpec := { name := "fnExactSpreadBasin", fn := fun _ => fun
  | [d1, d2, d3] => { results := [.lit (.bool false)], args := [d1, d2, d3] }
  | _ => none }
def FnExactSpreadBasinWrongFalsely : Prop := fnExactSpreadBasinRow.holds Try.pinned (OpenSpec.ofChange fnExactSpreadBasinWrong)

/-- 'laws.FnExactSweepStream': WHATEVER THE INPUT: true; the input reads as it did. -/
def fnExactSweepStreamSpec : ChangeSpec := { name := "fnExactSweepStream", fn := fun _ => fun
  | [d1, d2, d3] => { results := [.lit (.bool true)], args := [d1, d2, d3] }
  | _ => none }
def fnExactSweepStreamRow : OpenClaim := { program := "ytbinjkaanbhikaa", sum := "5811c006d7dcca106aa2f50cb751027d8634870c0ddc13750c75b9f767493fb4", func := "loop.example/g01266/laws.FnExactSweepStream", spec := "fnExactSweepStream", inPlace := ["math.Float32bits"], unfollowed := true, recurses := true, apart := false }
def FnExactSweepStreamSaid : Prop := fnExactSweepStreamRow.holds Try.pinned (OpenSpec.ofChange fnExactSweepStreamSpec)

/-- ITS FALSE NEIGHBOUR: 'it returns false'. Refute it at one input. -/
def fnExactSweepStreamWrong : ChangeSpec := { name := "fnExactSweepStream", fn := fun _ => fun
  | [d1, d2, d3] => { results := [.lit (.bool false)], args := [d1, d2, d3] }
  | _ => none }
def FnExactSweepStreamWrongFalsely : Prop := fnExactSweepStreamRow.holds Try.pinned (OpenSpec.ofChange fnExactSweepStreamWrong)

/-- 'laws.FnExactCarryBasin': WHATEVER THE INPUT: true; the input reads as it did. -/
def fnExactCarryBasinSpec : ChangeSpec := { name := "fnExactCarryBasin", fn := fun _ => fun
  | [d1, d2, d3, d4] => { results := [.lit (.bool true)], args := [d1, d2, d3, d4] }
  | _ => none }
def fnExactCarryBasinRow : OpenClaim := { program := "ytbinjkaanbhikaa", sum := "5811c006d7dcca106aa2f50cb751027d8634870c0ddc13750c75b9f767493fb4", func := "loop.example/g01266/laws.FnExactCarryBasin", spec := "fnExactCarryBasin", inPlace := ["math.archFloor", "math.Float64bits", "math.Float64frombits", "math.archTrunc", "math.Float32bits", "math.Float32frombits"], unfollowed := true, recurses := true, apart := false }
def FnExactCarryBasinSaid : Prop := fnExactCarryBasinRow.holds Try.pinned (OpenSpec.ofChange fnExactCarryBasinSpec)

/-- ITS FALSE NEIGHBOUR: 'it returns false'. Refute it at one input. -/
def fnExactCarryBasinWrong : ChangeSpec := { name := "fnExactCarryBasin", fn := fun _ => fun
  | [d1, d2, d3, d4] => { results := [.lit (.bool false)], args := [d1, d2, d3, d4] }
  | _ => none }
def FnExactCarryBasinWrongFalsely : Prop := fnExactCarryBasinRow.holds Try.pinned (OpenSpec.ofChange fnExactCarryBasinWrong)

/-- 'laws.FnExactStepBasin': WHATEVER THE INPUT: true; the input reads as it did. -/
def fnExactStepBasinSpec : ChangeSpec := { name := "fnExactStepBasin", fn := fun _ => fun
  | [d1, d2, d3, d4] => { results := [.lit (.bool true)], args := [d1, d2, d3, d4] }
  | _ => none }
def fnExactStepBasinRow : OpenClaim := { program := "ytbinjkaanbhikaa", sum := "5811c006d7dcca106aa2f50cb751027d8634870c0ddc13750c75b9f767493fb4", func := "loop.example/g01266/laws.FnExactStepBasin", spec := "fnExactStepBasin", inPlace := ["math.archFloor", "math.Float64bits", "math.Float64frombits", "math.archTrunc", "math.Float32bits", "math.Float32frombits"], unfollowed := true, recurses := true, apart := false }
def FnExactStepBasinSaid : Prop := fnExactStepBasinRow.holds Try.pinned (OpenSpec.ofChange fnExactStepBasinSpec)

/-- ITS FALSE NEIGHBOUR: 'it returns false'. Refute it at one input. -/
def fnExactStepBasinWrong : ChangeSpec := { name := "fnExactStepBasin", fn := fun _ => fun
  | [d1, d2, d3, d4] => { results := [.lit (.bool false)], args := [d1, d2, d3, d4] }
  | _ => none }
def FnExactStepBasinWrongFalsely : Prop := fnExactStepBasinRow.holds Try.pinned (OpenSpec.ofChange fnExactStepBasinWrong)

/- THE SECOND FORM. 'bulk': how many values and letters a reading holds, each counted each time it is reached (what is shared counts as often as it is met; a slice's spare places count too). A statement '..UptoSaid' is the law's where the arguments, and the package variables that the reading takes, are together of bulk at most 1048576: NARROWER than '..Said'. Prove '..Said' where nothing that the law and all that it calls make is longer than what came in: it says more and counts as full. Else prove '..UptoSaid'. A law counts once. -/
mutual
def uptoBulk {H : Type} : DataW H → Nat
  | .lit (.string bytes) => bytes.length + 1
  | .lit _ => 1
  | .nil => 1
  | .ptr d => uptoBulk d + 1
  | .slice elems spare => uptoBulkAll elems + uptoBulkAll spare + 1
  | .agg parts => uptoBulkAll parts + 1
  | .iface _ d => uptoBulk d + 1
  | .map entries => uptoBulkEntries entries + 1
  | .held _ => 1
def uptoBulkAll {H : Type} : List (DataW H) → Nat
  | [] => 0
  | d :: r => uptoBulk d + uptoBulkAll r
def uptoBulkEntries {H : Type} : List (Lit × DataW H) → Nat
  | [] => 0
  | x :: r => uptoBulkEntry x + uptoBulkEntries r
def uptoBulkEntry {H : Type} : Lit × DataW H → Nat
  | (.string bytes, d) => bytes.length + uptoBulk d + 1
  | (_, d) => uptoBulk d + 1
 end
def uptoSmall : (H : Type) → List (DataW H) → Bool := fun _ ds => decide (uptoBulkAll ds ≤ 1048576)
def OpenSpec.upto (s : _root_.Go.ChangeSpec) : _root_.Go.OpenSpec := { _root_.Go.OpenSpec.ofChange s with cond := some uptoSmall }

/-- 'laws.FnExactSolveSquare', WHERE WHAT IT READS IS OF BULK AT MOST 1048576: true; the input reads as it did. -/
def fnExactSolveSquareUptoRow : OpenClaim := { program := "ytbinjkaanbhikaa", sum := "5811c006d7dcca106aa2f50cb751027d8634870c0ddc13750c75b9f767493fb4", func := "loop.example/g01266/laws.FnExactSolveSquare", spec := "fnExactSolveSquare", inPlace := ["math.Float32bits"], unfollowed := true, recurses := true, apart := false, narrowed := true }
def FnExactSolveSquareUptoSaid : Prop := fnExactSolveSquareUptoRow.holds Try.pinned (OpenSpec.upto fnExactSolveSquareSpec)

/-- 'laws.FnExactFlatPlate', WHERE WHAT IT READS IS OF BULK AT MOST 1048576: true; the input reads as it did. -/
def fnExactFlatPlateUptoRow : OpenClaim := { program := "ytbinjkaanbhikaa", sum := "5811c006d7dcca106aa2f50cb751027d8634870c0ddc13750c75b9f767493fb4", func := "loop.example/g01266/laws.FnExactFlatPlate", spec := "fnExactFlatPlate", inPlace := ["math.Float32frombits", "math.Float64frombits", "math.sqrt", "math.Float32bits", "math.Float64bits"], unfollowed := true, recurses := true, apart := false, narrowed := true }
def FnExactFlatPlateUptoSaid : Prop := fnExactFlatPlateUptoRow.holds Try.pinned (OpenSpec.upto fnExactFlatPlateSpec)

/-- 'laws.FnExactArcPlate', WHERE WHAT IT READS IS OF BULK AT MOST 1048576: true; the input reads as it did. -/
def fnExactArcPlateUptoRow : OpenClaim := { program := "ytbinjkaanbhikaa", sum := "5811c006d7dcca106aa2f50cb751027d8634870c0ddc13750c75b9f767493fb4", func := "loop.example/g01266/laws.FnExactArcPlate", spec := "fnExactArcPlate", inPlace := ["math.sqrt", "math.Float32bits", "math.Float64bits", "math.Float64frombits", "math.Float32frombits"], unfollowed := true, recurses := true, apart := false, narrowed := true }
def FnExactArcPlateUptoSaid : Prop := fnExactArcPlateUptoRow.holds Try.pinned (OpenSpec.upto fnExactArcPlateSpec)

/-- 'laws.FnExactAddBasins', WHERE WHAT IT READS IS OF BULK AT MOST 1048576: true; the input reads as it did. -/
def fnExactAddBasinsUptoRow : OpenClaim := { program := "ytbinjkaanbhikaa", sum := "5811c006d7dcca106aa2f50cb751027d8634870c0ddc13750c75b9f767493fb4", func := "loop.example/g01266/laws.FnExactAddBasins", spec := "fnExactAddBasins", inPlace := ["math.Float32bits"], unfollowed := true, recurses := true, apart := false, narrowed := true }
def FnExactAddBasinsUptoSaid : Prop := fnExactAddBasinsUptoRow.holds Try.pinned (OpenSpec.upto fnExactAddBasinsSpec)

/-- 'laws.FnExactSpinAbout', WHERE WHAT IT READS IS OF BULK AT MOST 1048576: true; the input reads as it did. -/
def fnExactSpinAboutUptoRow : OpenClaim := { program := "ytbinjkaanbhikaa", sum := "5811c006d7dcca106aa2f50cb751027d8634870c0ddc13750c75b9f767493fb4", func := "loop.example/g01266/laws.FnExactSpinAbout", spec := "fnExactSpinAbout", inPlace := ["math.archFloor", "math.Float64bits", "math.Float64frombits", "math.archTrunc", "math.Float32bits", "math.Float32frombits"], unfollowed := true, recurses := true, apart := false, narrowed := true }
def FnExactSpinAboutUptoSaid : Prop := fnExactSpinAboutUptoRow.holds Try.pinned (OpenSpec.upto fnExactSpinAboutSpec)

/-- 'laws.FnExactBlobBasin', WHERE WHAT IT READS IS OF BULK AT MOST 1048576: true; the input reads as it did. -/
def fnExactBlobBasinUptoRow : OpenClaim := { program := "ytbinjkaanbhikaa", sum := "5811c006d7dcca106aa2f50cb751027d8634870c0ddc13750c75b9f767493fb4", func := "loop.example/g01266/laws.FnExactBlobBasin", spec := "fnExactBlobBasin", inPlace := ["math.Float32bits"], unfollowed := true, recurses := true, apart := false, narrowed := true }
def FnExactBlobBasinUptoSaid : Prop := fnExactBlobBasinUptoRow.holds Try.pinned (OpenSpec.upto fnExactBlobBasinSpec)

/-- 'laws.FnExactFlowsInBasin', WHERE WHAT IT READS IS OF BULK AT MOST 1048576: true; the input reads as it did. -/
def fnExactFlowsInBasinUptoRow : OpenClaim := { program := "ytbinjkaanbhikaa", sum := "5811c006d7dcca106aa2f50cb751027d8634870c0ddc13750c75b9f767493fb4", func := "loop.example/g01266/laws.FnExactFlowsInBasin", spec := "fnExactFlowsInBasin", inPlace := ["math.Float32bits"], unfollowed := true, recurses := true, apart := false, narrowed := true }
def FnExactFlowsInBasinUptoSaid : Prop := fnExactFlowsInBasinUptoRow.holds Try.pinned (OpenSpec.upto fnExactFlowsInBasinSpec)

/-- 'laws.FnExactMissOfStream', WHERE WHAT IT READS IS OF BULK AT MOST 1048576: true; the input reads as it did. -/
def fnExactMissOfStreamUptoRow : OpenClaim := { program := "ytbinjkaanbhikaa", sum := "5811c006d7dcca106aa2f50cb751027d8634870c0ddc13750c75b9f767493fb4", func := "loop.example/g01266/laws.FnExactMissOfStream", spec := "fnExactMissOfStream", inPlace := ["math.Float32bits"], unfollowed := true, recurses := true, apart := false, narrowed := true }
def FnExactMissOfStreamUptoSaid : Prop := fnExactMissOfStreamUptoRow.holds Try.pinned (OpenSpec.upto fnExactMissOfStreamSpec)

/-- 'laws.FnExactSpreadBasin', WHERE WHAT IT READS IS OF BULK AT MOST 1048576: true; the input reads as it did. -/
def fnExactSpreadBasinUptoRow : OpenClaim := { program := "ytbinjkaanbhikaa", sum := "5811c006d7dcca106aa2f50cb751027d8634870c0ddc13750c75b9f767493fb4", func := "loop.example/g01266/laws.FnExactSpreadBasin", spec := "fnExactSpreadBasin", inPlace := ["math.Float32bits"], unfollowed := true, recurses := true, apart := false, narrowed := true }
def FnExactSpreadBasinUptoSaid : Prop := fnExactSpreadBasinUptoRow.holds Try.pinned (OpenSpec.upto fnExactSpreadBasinSpec)

/-- 'laws.FnExactSweepStream', WHERE WHAT IT READS IS OF BULK AT MOST 1048576: true; the input reads as it did. -/
def fnExactSweepStreamUptoRow : OpenClaim := { program := "ytbinjkaanbhikaa", sum := "5811c006d7dcca106aa2f50cb751027d8634870c0ddc13750c75b9f767493fb4", func := "loop.example/g01266/laws.FnExactSweepStream", spec := "fnExactSweepStream", inPlace := ["math.Float32bits"], unfollowed := true, recurses := true, apart := false, narrowed := true }
def FnExactSweepStreamUptoSaid : Prop := fnExactSweepStreamUptoRow.holds Try.pinned (OpenSpec.upto fnExactSweepStreamSpec)

/-- 'laws.FnExactCarryBasin', WHERE WHAT IT READS IS OF BULK AT MOST 1048576: true; the input reads as it did. -/
def fnExactCarryBasinUptoRow : OpenClaim := { program := "ytbinjkaanbhikaa", sum := "5811c006d7dcca106aa2f50cb751027d8634870c0ddc13750c75b9f767493fb4", func := "loop.example/g01266/laws.FnExactCarryBasin", spec := "fnExactCarryBasin", inPlace := ["math.archFloor", "math.Float64bits", "math.Float64frombits", "math.archTrunc", "math.Float32bits", "math.Float32frombits"], unfollowed := true, recurses := true, apart := false, narrowed := true }
def FnExactCarryBasinUptoSaid : Prop := fnExactCarryBasinUptoRow.holds Try.pinned (OpenSpec.upto fnExactCarryBasinSpec)

/-- 'laws.FnExactStepBasin', WHERE WHAT IT READS IS OF BULK AT MOST 1048576: true; the input reads as it did. -/
def fnExactStepBasinUptoRow : OpenClaim := { program := "ytbinjkaanbhikaa", sum := "5811c006d7dcca106aa2f50cb751027d8634870c0ddc13750c75b9f767493fb4", func := "loop.example/g01266/laws.FnExactStepBasin", spec := "fnExactStepBasin", inPlace := ["math.archFloor", "math.Float64bits", "math.Float64frombits", "math.archTrunc", "math.Float32bits", "math.Float32frombits"], unfollowed := true, recurses := true, apart := false, narrowed := true }
def FnExactStepBasinUptoSaid : Prop := fnExactStepBasinUptoRow.holds Try.pinned (OpenSpec.upto fnExactStepBasinSpec)

end Rows
end Go.Proofs.Ytbinjkaanbhikaa
