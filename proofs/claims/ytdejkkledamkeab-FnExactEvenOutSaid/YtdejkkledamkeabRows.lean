/-
  No cell of these rows narrows 'for every input' (looked for: loops, veiled, ifaces, maps, wideKeys, modest, calm, conditions, laid).
  DERIVED. THE GIVEN ROWS OF THIS SEAT. 12 by the template 'for every input the law returns true; each argument reads behind the call as it read before'; 0 by the template 'total and deterministic' (their statements: YtdejkkledamkeabTotals.lean).
  GIVEN WITH THE SEED: the statements are not yours to turn. If you find one false, say at which input.
  Laid BY PROGRAM, IN A SANDBOX (cutbox-rows.mjs): the forced cells as the released guide's own fill.sh prints them over the translation 6e579cc062f5d4a4… (all of the seat's roots in one cut). By AI agents, Wed Nov 11 2026. No macro, syntax, notation, axiom, sorry.
-/
import Derived.Test.YtdejkkledamkeabChecked
import GoSem.Claim
import GoSem.ClaimJoined
import GoSem.ClaimMapViews
import Derived.JoinedTies
import Derived.KernelRfl
namespace Go.Proofs.Ytdejkkledamkeab
/- THE CELL 'sum', in the pinned program and in every row, IS THE sha256 OF THE DUMP (.gsa) THAT YtdejkkledamkeabProg.lean LOADS. Nothing in Lean hashes anything: it is a label: what it is worth is what the hold of that sum in a sandbox is worth. -/
noncomputable def Try.pinned : Pinned := { name := "ytdejkkledamkeab", sum := "6e579cc062f5d4a4d60edd8e8541f4e5df500ab5ebcf24fe1ffcdae4db8b9d4b", checked := Try.checked }
namespace Rows
def none {H : Type} : Left H := { results := [], args := [] }

/-- 'laws.FnExactBlobBasin': WHATEVER THE INPUT: true; the input reads as it did. -/
def fnExactBlobBasinSpec : ChangeSpec := { name := "fnExactBlobBasin", fn := fun _ => fun
  | [d1, d2, d3, d4, d5, d6] => { results := [.lit (.bool true)], args := [d1, d2, d3, d4, d5, d6] }
  | _ => none }
def fnExactBlobBasinRow : OpenClaim := { program := "ytdejkkledamkeab", sum := "6e579cc062f5d4a4d60edd8e8541f4e5df500ab5ebcf24fe1ffcdae4db8b9d4b", func := "loop.example/g01266/laws.FnExactBlobBasin", spec := "fnExactBlobBasin", inPlace := ["math.Float32bits"], unfollowed := true, recurses := true, apart := false }
def FnExactBlobBasinSaid : Prop := fnExactBlobBasinRow.holds Try.pinned (OpenSpec.ofChange fnExactBlobBasinSpec)

/-- ITS FALSE NEIGHBOUR: 'it returns false'. Refute it at one input. -/
def fnExactBlobBasinWrong : ChangeSpec := { name := "fnExactBlobBasin", fn := fun _ => fun
  | [d1, d2, d3, d4, d5, d6] => { results := [.lit (.bool false)], args := [d1, d2, d3, d4, d5, d6] }
  | _ => none }
def FnExactBlobBasinWrongFalsely : Prop := fnExactBlobBasinRow.holds Try.pinned (OpenSpec.ofChange fnExactBlobBasinWrong)

/-- 'laws.FnExactEvenOut': WHATEVER THE INPUT: true; the input reads as it did. -/
def fnExactEvenOutSpec : ChangeSpec := { name := "fnExactEvenOut", fn := fun _ => fun
  | [d] => { results := [.lit (.bool true)], args := [d] }
  | _ => none }
def fnExactEvenOutRow : OpenClaim := { program := "ytdejkkledamkeab", sum := "6e579cc062f5d4a4d60edd8e8541f4e5df500ab5ebcf24fe1ffcdae4db8b9d4b", func := "loop.example/g01266/laws.FnExactEvenOut", spec := "fnExactEvenOut", inPlace := ["math.Float32bits"], unfollowed := true, recurses := true, apart := false }
def FnExactEvenOutSaid : Prop := fnExactEvenOutRow.holds Try.pinned (OpenSpec.ofChange fnExactEvenOutSpec)

/-- ITS FALSE NEIGHBOUR: 'it returns false'. Refute it at one input. -/
def fnExactEvenOutWrong : ChangeSpec := { name := "fnExactEvenOut", fn := fun _ => fun
  | [d] => { results := [.lit (.bool false)], args := [d] }
  | _ => none }
def FnExactEvenOutWrongFalsely : Prop := fnExactEvenOutRow.holds Try.pinned (OpenSpec.ofChange fnExactEvenOutWrong)

/-- 'laws.FnExactLaplaceBasin': WHATEVER THE INPUT: true; the input reads as it did. -/
def fnExactLaplaceBasinSpec : ChangeSpec := { name := "fnExactLaplaceBasin", fn := fun _ => fun
  | [d] => { results := [.lit (.bool true)], args := [d] }
  | _ => none }
def fnExactLaplaceBasinRow : OpenClaim := { program := "ytdejkkledamkeab", sum := "6e579cc062f5d4a4d60edd8e8541f4e5df500ab5ebcf24fe1ffcdae4db8b9d4b", func := "loop.example/g01266/laws.FnExactLaplaceBasin", spec := "fnExactLaplaceBasin", inPlace := ["math.Float32bits"], unfollowed := true, recurses := true, apart := false }
def FnExactLaplaceBasinSaid : Prop := fnExactLaplaceBasinRow.holds Try.pinned (OpenSpec.ofChange fnExactLaplaceBasinSpec)

/-- ITS FALSE NEIGHBOUR: 'it returns false'. Refute it at one input. -/
def fnExactLaplaceBasinWrong : ChangeSpec := { name := "fnExactLaplaceBasin", fn := fun _ => fun
  | [d] => { results := [.lit (.bool false)], args := [d] }
  | _ => none }
def FnExactLaplaceBasinWrongFalsely : Prop := fnExactLaplaceBasinRow.holds Try.pinned (OpenSpec.ofChange fnExactLaplaceBasinWrong)

/-- 'laws.FnExactSweepStream': WHATEVER THE INPUT: true; the input reads as it did. -/
def fnExactSweepStreamSpec : ChangeSpec := { name := "fnExactSweepStream", fn := fun _ => fun
  | [d1, d2, d3] => { results := [.lit (.bool true)], args := [d1, d2, d3] }
  | _ => none }
def fnExactSweepStreamRow : OpenClaim := { program := "ytdejkkledamkeab", sum := "6e579cc062f5d4a4d60edd8e8541f4e5df500ab5ebcf24fe1ffcdae4db8b9d4b", func := "loop.example/g01266/laws.FnExactSweepStream", spec := "fnExactSweepStream", inPlace := ["math.Float32bits"], unfollowed := true, recurses := true, apart := false }
def FnExactSweepStreamSaid : Prop := fnExactSweepStreamRow.holds Try.pinned (OpenSpec.ofChange fnExactSweepStreamSpec)

/-- ITS FALSE NEIGHBOUR: 'it returns false'. Refute it at one input. -/
def fnExactSweepStreamWrong : ChangeSpec := { name := "fnExactSweepStream", fn := fun _ => fun
  | [d1, d2, d3] => { results := [.lit (.bool false)], args := [d1, d2, d3] }
  | _ => none }
def FnExactSweepStreamWrongFalsely : Prop := fnExactSweepStreamRow.holds Try.pinned (OpenSpec.ofChange fnExactSweepStreamWrong)

/-- 'laws.FnExactMissOfStream': WHATEVER THE INPUT: true; the input reads as it did. -/
def fnExactMissOfStreamSpec : ChangeSpec := { name := "fnExactMissOfStream", fn := fun _ => fun
  | [d1, d2] => { results := [.lit (.bool true)], args := [d1, d2] }
  | _ => none }
def fnExactMissOfStreamRow : OpenClaim := { program := "ytdejkkledamkeab", sum := "6e579cc062f5d4a4d60edd8e8541f4e5df500ab5ebcf24fe1ffcdae4db8b9d4b", func := "loop.example/g01266/laws.FnExactMissOfStream", spec := "fnExactMissOfStream", inPlace := ["math.Float32bits"], unfollowed := true, recurses := true, apart := false }
def FnExactMissOfStreamSaid : Prop := fnExactMissOfStreamRow.holds Try.pinned (OpenSpec.ofChange fnExactMissOfStreamSpec)

/-- ITS FALSE NEIGHBOUR: 'it returns false'. Refute it at one input. -/
def fnExactMissOfStreamWrong : ChangeSpec := { name := "fnExactMissOfStream", fn := fun _ => fun
  | [d1, d2] => { results := [.lit (.bool false)], args := [d1, d2] }
  | _ => none }
def FnExactMissOfStreamWrongFalsely : Prop := fnExactMissOfStreamRow.holds Try.pinned (OpenSpec.ofChange fnExactMissOfStreamWrong)

/-- 'laws.FnExactFlowsInBasin': WHATEVER THE INPUT: true; the input reads as it did. -/
def fnExactFlowsInBasinSpec : ChangeSpec := { name := "fnExactFlowsInBasin", fn := fun _ => fun
  | [d] => { results := [.lit (.bool true)], args := [d] }
  | _ => none }
def fnExactFlowsInBasinRow : OpenClaim := { program := "ytdejkkledamkeab", sum := "6e579cc062f5d4a4d60edd8e8541f4e5df500ab5ebcf24fe1ffcdae4db8b9d4b", func := "loop.example/g01266/laws.FnExactFlowsInBasin", spec := "fnExactFlowsInBasin", inPlace := ["math.Float32bits"], unfollowed := true, recurses := true, apart := false }
def FnExactFlowsInBasinSaid : Prop := fnExactFlowsInBasinRow.holds Try.pinned (OpenSpec.ofChange fnExactFlowsInBasinSpec)

/-- ITS FALSE NEIGHBOUR: 'it returns false'. Refute it at one input. -/
def fnExactFlowsInBasinWrong : ChangeSpec := { name := "fnExactFlowsInBasin", fn := fun _ => fun
  | [d] => { results := [.lit (.bool false)], args := [d] }
  | _ => none }
def FnExactFlowsInBasinWrongFalsely : Prop := fnExactFlowsInBasinRow.holds Try.pinned (OpenSpec.ofChange fnExactFlowsInBasinWrong)

/-- 'laws.FnExactSpinAbout': WHATEVER THE INPUT: true; the input reads as it did. -/
def fnExactSpinAboutSpec : ChangeSpec := { name := "fnExactSpinAbout", fn := fun _ => fun
  | [d1, d2, d3] => { results := [.lit (.bool true)], args := [d1, d2, d3] }
  | _ => none }
def fnExactSpinAboutRow : OpenClaim := { program := "ytdejkkledamkeab", sum := "6e579cc062f5d4a4d60edd8e8541f4e5df500ab5ebcf24fe1ffcdae4db8b9d4b", func := "loop.example/g01266/laws.FnExactSpinAbout", spec := "fnExactSpinAbout", inPlace := ["math.archFloor", "math.Float64bits", "math.Float64frombits", "math.archTrunc", "math.Float32bits", "math.Float32frombits"], unfollowed := true, recurses := true, apart := false }
def FnExactSpinAboutSaid : Prop := fnExactSpinAboutRow.holds Try.pinned (OpenSpec.ofChange fnExactSpinAboutSpec)

/-- ITS FALSE NEIGHBOUR: 'it returns false'. Refute it at one input. -/
def fnExactSpinAboutWrong : ChangeSpec := { name := "fnExactSpinAbout", fn := fun _ => fun
  | [d1, d2, d3] => { results := [.lit (.bool false)], args := [d1, d2, d3] }
  | _ => none }
def FnExactSpinAboutWrongFalsely : Prop := fnExactSpinAboutRow.holds Try.pinned (OpenSpec.ofChange fnExactSpinAboutWrong)

/-- 'laws.FnExactCarryBasin': WHATEVER THE INPUT: true; the input reads as it did. -/
def fnExactCarryBasinSpec : ChangeSpec := { name := "fnExactCarryBasin", fn := fun _ => fun
  | [d1, d2, d3, d4] => { results := [.lit (.bool true)], args := [d1, d2, d3, d4] }
  | _ => none }
def fnExactCarryBasinRow : OpenClaim := { program := "ytdejkkledamkeab", sum := "6e579cc062f5d4a4d60edd8e8541f4e5df500ab5ebcf24fe1ffcdae4db8b9d4b", func := "loop.example/g01266/laws.FnExactCarryBasin", spec := "fnExactCarryBasin", inPlace := ["math.archFloor", "math.Float64bits", "math.Float64frombits", "math.archTrunc", "math.Float32bits", "math.Float32frombits"], unfollowed := true, recurses := true, apart := false }
def FnExactCarryBasinSaid : Prop := fnExactCarryBasinRow.holds Try.pinned (OpenSpec.ofChange fnExactCarryBasinSpec)

/-- ITS FALSE NEIGHBOUR: 'it returns false'. Refute it at one input. -/
def fnExactCarryBasinWrong : ChangeSpec := { name := "fnExactCarryBasin", fn := fun _ => fun
  | [d1, d2, d3, d4] => { results := [.lit (.bool false)], args := [d1, d2, d3, d4] }
  | _ => none }
def FnExactCarryBasinWrongFalsely : Prop := fnExactCarryBasinRow.holds Try.pinned (OpenSpec.ofChange fnExactCarryBasinWrong)

/-- 'laws.FnExactSpreadBasin': WHATEVER THE INPUT: true; the input reads as it did. -/
def fnExactSpreadBasinSpec : ChangeSpec := { name := "fnExactSpreadBasin", fn := fun _ => fun
  | [d1, d2, d3] => { results := [.lit (.bool true)], args := [d1, d2, d3] }
  | _ => none }
def fnExactSpreadBasinRow : OpenClaim := { program := "ytdejkkledamkeab", sum := "6e579cc062f5d4a4d60edd8e8541f4e5df500ab5ebcf24fe1ffcdae4db8b9d4b", func := "loop.example/g01266/laws.FnExactSpreadBasin", spec := "fnExactSpreadBasin", inPlace := ["math.Float32bits"], unfollowed := true, recurses := true, apart := false }
def FnExactSpreadBasinSaid : Prop := fnExactSpreadBasinRow.holds Try.pinned (OpenSpec.ofChange fnExactSpreadBasinSpec)

/-- ITS FALSE NEIGHBOUR: 'it returns false'. Refute it at one input. -/
def fnExactSpreadBasinWrong : ChangeSpec := { name := "fnExactSpreadBasin", fn := fun _ => fun
  | [d1, d2, d3] => { results := [.lit (.bool false)], args := [d1, d2, d3] }
  | _ => none }
def FnExactSpreadBasinWrongFalsely : Prop := fnExactSpreadBasinRow.holds Try.pinned (OpenSpec.ofChange fnExactSpreadBasinWrong)

/-- 'laws.FnExactStepBasin': WHATEVER THE INPUT: true; the input reads as it did. -/
def fnExactStepBasinSpec : ChangeSpec := { name := "fnExactStepBasin", fn := fun _ => fun
  | [d1, d2, d3, d4] => { results := [.lit (.bool true)], args := [d1, d2, d3, d4] }
  | _ => none }
def fnExactStepBasinRow : OpenClaim := { program := "ytdejkkledamkeab", sum := "6e579cc062f5d4a4d60edd8e8541f4e5df500ab5ebcf24fe1ffcdae4db8b9d4b", func := "loop.example/g01266/laws.FnExactStepBasin", spec := "fnExactStepBasin", inPlace := ["math.archFloor", "math.Float64bits", "math.Float64frombits", "math.archTrunc", "math.Float32bits", "math.Float32frombits"], unfollowed := true, recurses := true, apart := false }
def FnExactStepBasinSaid : Prop := fnExactStepBasinRow.holds Try.pinned (OpenSpec.ofChange fnExactStepBasinSpec)

/-- ITS FALSE NEIGHBOUR: 'it returns false'. Refute it at one input. -/
def fnExactStepBasinWrong : ChangeSpec := { name := "fnExactStepBasin", fn := fun _ => fun
  | [d1, d2, d3, d4] => { results := [.lit (.bool false)], args := [d1, d2, d3, d4] }
  | _ => none }
def FnExactStepBasinWrongFalsely : Prop := fnExactStepBasinRow.holds Try.pinned (OpenSpec.ofChange fnExactStepBasinWrong)

/-- 'laws.FnExactRunBasin': WHATEVER THE INPUT: true; the input reads as it did. -/
def fnExactRunBasinSpec : ChangeSpec := { name := "fnExactRunBasin", fn := fun _ => fun
  | [d1, d2, d3, d4, d5] => { results := [.lit (.bool true)], args := [d1, d2, d3, d4, d5] }
  | _ => none }
def fnExactRunBasinRow : OpenClaim := { program := "ytdejkkledamkeab", sum := "6e579cc062f5d4a4d60edd8e8541f4e5df500ab5ebcf24fe1ffcdae4db8b9d4b", func := "loop.example/g01266/laws.FnExactRunBasin", spec := "fnExactRunBasin", inPlace := ["math.archFloor", "math.Float64bits", "math.Float64frombits", "math.archTrunc", "math.Float32bits", "math.Float32frombits"], unfollowed := true, recurses := true, apart := false }
def FnExactRunBasinSaid : Prop := fnExactRunBasinRow.holds Try.pinned (OpenSpec.ofChange fnExactRunBasinSpec)

/-- ITS FALSE NEIGHBOUR: 'it returns false'. Refute it at one input. -/
def fnExactRunBasinWrong : ChangeSpec := { name := "fnExactRunBasin", fn := fun _ => fun
  | [d1, d2, d3, d4, d5] => { results := [.lit (.bool false)], args := [d1, d2, d3, d4, d5] }
  | _ => none }
def FnExactRunBasinWrongFalsely : Prop := fnExactRunBasinRow.holds Try.pinned (OpenSpec.ofChange fnExactRunBasinWrong)

/-- 'laws.FnExactWaveStream': WHATEVER THE INPUT: true; the input reads as it did. -/
def fnExactWaveStreamSpec : ChangeSpec := { name := "fnExactWaveStream", fn := fun _ => fun
  | [d] => { results := [.lit (.bool true)], args := [d] }
  | _ => none }
def fnExactWaveStreamRow : OpenClaim := { program := "ytdejkkledamkeab", sum := "6e579cc062f5d4a4d60edd8e8541f4e5df500ab5ebcf24fe1ffcdae4db8b9d4b", func := "loop.example/g01266/laws.FnExactWaveStream", spec := "fnExactWaveStream", inPlace := ["math.Float64frombits", "math.Float32bits"], unfollowed := true, recurses := true, apart := false }
def FnExactWaveStreamSaid : Prop := fnExactWaveStreamRow.holds Try.pinned (OpenSpec.ofChange fnExactWaveStreamSpec)

/-- ITS FALSE NEIGHBOUR: 'it returns false'. Refute it at one input. -/
def fnExactWaveStreamWrong : ChangeSpec := { name := "fnExactWaveStream", fn := fun _ => fun
  | [d] => { results := [.lit (.bool false)], args := [d] }
  | _ => none }
def FnExactWaveStreamWrongFalsely : Prop := fnExactWaveStreamRow.holds Try.pinned (OpenSpec.ofChange fnExactWaveStreamWrong)

/- THE SECOND FORM. 'bulk': how many values and letters a reading holds, each counted each time it is reached (what is shared counts as often as it is met; a slice's spare places count too). A statement '..UptoSaid' is the law's where the arguments, and the package variables that the reading takes, are together of bulk at most 1048576: NARROWER than '..Said'. Prove '..Said' where nothing that the law and all that it calls make is longer than what came in: it says more and counts as full. Else prove '..UptoSaid'. A law counts once. -/
mutual
def uptoBulk {H : Type} : DataW H → Nat
  | .lit (.string bytes) => bytes.length + 1
  | .lit _ => 1
  | .nil => 1
  | .ptr d => uptoBulk d + 1
  | .slice elems spare => uptoBulkAll elems + uptoBulkAll spare + 1
  | .agg parts => uptoBulkAll parts + 1
  | .iface _ d => uptoBulk d + 1
  | .map entries => uptoBulkEntries entries + 1
  | .held _ => 1
def uptoBulkAll {H : Type} : List (DataW H) → Nat
  | [] => 0
  | d :: r => uptoBulk d + uptoBulkAll r
def uptoBulkEntries {H : Type} : List (Lit × DataW H) → Nat
  | [] => 0
  | x :: r => uptoBulkEntry x + uptoBulkEntries r
def uptoBulkEntry {H : Type} : Lit × DataW H → Nat
  | (.string bytes, d) => bytes.length + uptoBulk d + 1
  | (_, d) => uptoBulk d + 1
 end
def uptoSmall : (H : Type) → List (DataW H) → Bool := fun _ ds => decide (uptoBulkAll ds ≤ 1048576)
def OpenSpec.upto (s : _root_.Go.ChangeSpec) : _root_.Go.OpenSpec := { _root_.Go.OpenSpec.ofChange s with cond := some uptoSmall }

/-- 'laws.FnExactBlobBasin', WHERE WHAT IT READS IS OF BULK AT MOST 1048576: true; the input reads as it did. -/
def fnExactBlobBasinUptoRow : OpenClaim := { program := "ytdejkkledamkeab", sum := "6e579cc062f5d4a4d60edd8e8541f4e5df500ab5ebcf24fe1ffcdae4db8b9d4b", func := "loop.example/g01266/laws.FnExactBlobBasin", spec := "fnExactBlobBasin", inPlace := ["math.Float32bits"], unfollowed := true, recurses := true, apart := false, narrowed := true }
def FnExactBlobBasinUptoSaid : Prop := fnExactBlobBasinUptoRow.holds Try.pinned (OpenSpec.upto fnExactBlobBasinSpec)

/-- 'laws.FnExactEvenOut', WHERE WHAT IT READS IS OF BULK AT MOST 1048576: true; the input reads as it did. -/
def fnExactEvenOutUptoRow : OpenClaim := { program := "ytdejkkledamkeab", sum := "6e579cc062f5d4a4d60edd8e8541f4e5df500ab5ebcf24fe1ffcdae4db8b9d4b", func := "loop.example/g01266/laws.FnExactEvenOut", spec := "fnExactEvenOut", inPlace := ["math.Float32bits"], unfollowed := true, recurses := true, apart := false, narrowed := true }
def FnExactEvenOutUptoSaid : Prop := fnExactEvenOutUptoRow.holds Try.pinned (OpenSpec.upto fnExactEvenOutSpec)

/-- 'laws.FnExactLaplaceBasin', WHERE WHAT IT READS IS OF BULK AT MOST 1048576: true; the input reads as it did. -/
def fnExactLaplaceBasinUptoRow : OpenClaim := { program := "ytdejkkledamkeab", sum := "6e579cc062f5d4a4d60edd8e8541f4e5df500ab5ebcf24fe1ffcdae4db8b9d4b", func := "loop.example/g01266/laws.FnExactLaplaceBasin", spec := "fnExactLaplaceBasin", inPlace := ["math.Float32bits"], unfollowed := true, recurses := true, apart := false, narrowed := true }
def FnExactLaplaceBasinUptoSaid : Prop := fnExactLaplaceBasinUptoRow.holds Try.pinned (OpenSpec.upto fnExactLaplaceBasinSpec)

/-- 'laws.FnExactSweepStream', WHERE WHAT IT READS IS OF BULK AT MOST 1048576: true; the input reads as it did. -/
def fnExactSweepStreamUptoRow : OpenClaim := { program := "ytdejkkledamkeab", sum := "6e579cc062f5d4a4d60edd8e8541f4e5df500ab5ebcf24fe1ffcdae4db8b9d4b", func := "loop.example/g01266/laws.FnExactSweepStream", spec := "fnExactSweepStream", inPlace := ["math.Float32bits"], unfollowed := true, recurses := true, apart := false, narrowed := true }
def FnExactSweepStreamUptoSaid : Prop := fnExactSweepStreamUptoRow.holds Try.pinned (OpenSpec.upto fnExactSweepStreamSpec)

/-- 'laws.FnExactMissOfStream', WHERE WHAT IT READS IS OF BULK AT MOST 1048576: true; the input reads as it did. -/
def fnExactMissOfStreamUptoRow : OpenClaim := { program := "ytdejkkledamkeab", sum := "6e579cc062f5d4a4d60edd8e8541f4e5df500ab5ebcf24fe1ffcdae4db8b9d4b", func := "loop.example/g01266/laws.FnExactMissOfStream", spec := "fnExactMissOfStream", inPlace := ["math.Float32bits"], unfollowed := true, recurses := true, apart := false, narrowed := true }
def FnExactMissOfStreamUptoSaid : Prop := fnExactMissOfStreamUptoRow.holds Try.pinned (OpenSpec.upto fnExactMissOfStreamSpec)

/-- 'laws.FnExactFlowsInBasin', WHERE WHAT IT READS IS OF BULK AT MOST 1048576: true; the input reads as it did. -/
def fnExactFlowsInBasinUptoRow : OpenClaim := { program := "ytdejkkledamkeab", sum := "6e579cc062f5d4a4d60edd8e8541f4e5df500ab5ebcf24fe1ffcdae4db8b9d4b", func := "loop.example/g01266/laws.FnExactFlowsInBasin", spec := "fnExactFlowsInBasin", inPlace := ["math.Float32bits"], unfollowed := true, recurses := true, apart := false, narrowed := true }
def FnExactFlowsInBasinUptoSaid : Prop := fnExactFlowsInBasinUptoRow.holds Try.pinned (OpenSpec.upto fnExactFlowsInBasinSpec)

/-- 'laws.FnExactSpinAbout', WHERE WHAT IT READS IS OF BULK AT MOST 1048576: true; the input reads as it did. -/
def fnExactSpinAboutUptoRow : OpenClaim := { program := "ytdejkkledamkeab", sum := "6e579cc062f5d4a4d60edd8e8541f4e5df500ab5ebcf24fe1ffcdae4db8b9d4b", func := "loop.example/g01266/laws.FnExactSpinAbout", spec := "fnExactSpinAbout", inPlace := ["math.archFloor", "math.Float64bits", "math.Float64frombits", "math.archTrunc", "math.Float32bits", "math.Float32frombits"], unfollowed := true, recurses := true, apart := false, narrowed := true }
def FnExactSpinAboutUptoSaid : Prop := fnExactSpinAboutUptoRow.holds Try.pinned (OpenSpec.upto fnExactSpinAboutSpec)

/-- 'laws.FnExactCarryBasin', WHERE WHAT IT READS IS OF BULK AT MOST 1048576: true; the input reads as it did. -/
def fnExactCarryBasinUptoRow : OpenClaim := { program := "ytdejkkledamkeab", sum := "6e579cc062f5d4a4d60edd8e8541f4e5df500ab5ebcf24fe1ffcdae4db8b9d4b", func := "loop.example/g01266/laws.FnExactCarryBasin", spec := "fnExactCarryBasin", inPlace := ["math.archFloor", "math.Float64bits", "math.Float64frombits", "math.archTrunc", "math.Float32bits", "math.Float32frombits"], unfollowed := true, recurses := true, apart := false, narrowed := true }
def FnExactCarryBasinUptoSaid : Prop := fnExactCarryBasinUptoRow.holds Try.pinned (OpenSpec.upto fnExactCarryBasinSpec)

/-- 'laws.FnExactSpreadBasin', WHERE WHAT IT READS IS OF BULK AT MOST 1048576: true; the input reads as it did. -/
def fnExactSpreadBasinUptoRow : OpenClaim := { program := "ytdejkkledamkeab", sum := "6e579cc062f5d4a4d60edd8e8541f4e5df500ab5ebcf24fe1ffcdae4db8b9d4b", func := "loop.example/g01266/laws.FnExactSpreadBasin", spec := "fnExactSpreadBasin", inPlace := ["math.Float32bits"], unfollowed := true, recurses := true, apart := false, narrowed := true }
def FnExactSpreadBasinUptoSaid : Prop := fnExactSpreadBasinUptoRow.holds Try.pinned (OpenSpec.upto fnExactSpreadBasinSpec)

/-- 'laws.FnExactStepBasin', WHERE WHAT IT READS IS OF BULK AT MOST 1048576: true; the input reads as it did. -/
def fnExactStepBasinUptoRow : OpenClaim := { program := "ytdejkkledamkeab", sum := "6e579cc062f5d4a4d60edd8e8541f4e5df500ab5ebcf24fe1ffcdae4db8b9d4b", func := "loop.example/g01266/laws.FnExactStepBasin", spec := "fnExactStepBasin", inPlace := ["math.archFloor", "math.Float64bits", "math.Float64frombits", "math.archTrunc", "math.Float32bits", "math.Float32frombits"], unfollowed := true, recurses := true, apart := false, narrowed := true }
def FnExactStepBasinUptoSaid : Prop := fnExactStepBasinUptoRow.holds Try.pinned (OpenSpec.upto fnExactStepBasinSpec)

/-- 'laws.FnExactRunBasin', WHERE WHAT IT READS IS OF BULK AT MOST 1048576: true; the input reads as it did. -/
def fnExactRunBasinUptoRow : OpenClaim := { program := "ytdejkkledamkeab", sum := "6e579cc062f5d4a4d60edd8e8541f4e5df500ab5ebcf24fe1ffcdae4db8b9d4b", func := "loop.example/g01266/laws.FnExactRunBasin", spec := "fnExactRunBasin", inPlace := ["math.archFloor", "math.Float64bits", "math.Float64frombits", "math.archTrunc", "math.Float32bits", "math.Float32frombits"], unfollowed := true, recurses := true, apart := false, narrowed := true }
def FnExactRunBasinUptoSaid : Prop := fnExactRunBasinUptoRow.holds Try.pinned (OpenSpec.upto fnExactRunBasinSpec)

/-- 'laws.FnExactWaveStream', WHERE WHAT IT READS IS OF BULK AT MOST 1048576: true; the input reads as it did. -/
def fnExactWaveStreamUptoRow : OpenClaim := { program := "ytdejkkledamkeab", sum := "6e579cc062f5d4a4d60edd8e8541f4e5df500ab5ebcf24fe1ffcdae4db8b9d4b", func := "loop.example/g01266/laws.FnExactWaveStream", spec := "fnExactWaveStream", inPlace := ["math.Float64frombits", "math.Float32bits"], unfollowed := true, recurses := true, apart := false, narrowed := true }
def FnExactWaveStreamUptoSaid : Prop := fnExactWaveStreamUptoRow.holds Try.pinned (OpenSpec.upto fnExactWaveStreamSpec)

end Rows
end Go.Proofs.Ytdejkkledamkeab
