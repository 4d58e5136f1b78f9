/-
  No cell of these rows narrows 'for every input' (looked for: loops, veiled, ifaces, maps, wideKeys, modest, calm, conditions, laid).
  DERIVED. THE GIVEN ROWS OF THIS SEAT. 7 by the template 'for every input the law returns true; each argument reads behind the call as it read before'; 0 by the template 'total and deterministic' (their statements: YtjkkefbfhapblabTotals.lean).
  GIVEN WITH THE SEED: the statements are not yours to turn. If you find one false, say at which input.
  Laid BY PROGRAM, IN A SANDBOX (cutbox-rows.mjs): the forced cells as the released guide's own fill.sh prints them over the translation 629a4f0ea27369f2… (all of the seat's roots in one cut). By AI agents, Wed Nov 11 2026. No macro, syntax, notation, axiom, sorry.
-/
import Derived.Test.YtjkkefbfhapblabChecked
import GoSem.Claim
import GoSem.ClaimJoined
import GoSem.ClaimMapViews
import Derived.JoinedTies
import Derived.KernelRfl
namespace Go.Proofs.Ytjkkefbfhapblab
/- THE CELL 'sum', in the pinned program and in every row, IS THE sha256 OF THE DUMP (.gsa) THAT YtjkkefbfhapblabProg.lean LOADS. Nothing in Lean hashes anything: it is a label: what it is worth is what the hold of that sum in a sandbox is worth. -/
noncomputable def Try.pinned : Pinned := { name := "ytjkkefbfhapblab", sum := "629a4f0ea27369f20bcca5eaf022823509ba1fa0d32b3cec8989cb9f023949d5", checked := Try.checked }
namespace Rows
def none {H : Type} : Left H := { results := [], args := [] }

/-- 'laws.FnExactNoiseTracers': WHATEVER THE INPUT: true; the input reads as it did. -/
def fnExactNoiseTracersSpec : ChangeSpec := { name := "fnExactNoiseTracers", fn := fun _ => fun
  | [d1, d2, d3] => { results := [.lit (.bool true)], args := [d1, d2, d3] }
  | _ => none }
def fnExactNoiseTracersRow : OpenClaim := { program := "ytjkkefbfhapblab", sum := "629a4f0ea27369f20bcca5eaf022823509ba1fa0d32b3cec8989cb9f023949d5", func := "loop.example/g01266/laws.FnExactNoiseTracers", spec := "fnExactNoiseTracers", inPlace := ["math.Float32bits"], unfollowed := true, recurses := true, apart := false }
def FnExactNoiseTracersSaid : Prop := fnExactNoiseTracersRow.holds Try.pinned (OpenSpec.ofChange fnExactNoiseTracersSpec)

/-- ITS FALSE NEIGHBOUR: 'it returns false'. Refute it at one input. -/
def fnExactNoiseTracersWrong : ChangeSpec := { name := "fnExactNoiseTracers", fn := fun _ => fun
  | [d1, d2, d3] => { results := [.lit (.bool false)], args := [d1, d2, d3] }
  | _ => none }
def FnExactNoiseTracersWrongFalsely : Prop := fnExactNoiseTracersRow.holds Try.pinned (OpenSpec.ofChange fnExactNoiseTracersWrong)

/-- 'laws.FnExactFlowsInBasin': WHATEVER THE INPUT: true; the input reads as it did. -/
def fnExactFlowsInBasinSpec : ChangeSpec := { name := "fnExactFlowsInBasin", fn := fun _ => fun
  | [d] => { results := [.lit (.bool true)], args := [d] }
  | _ => none }
def fnExactFlowsInBasinRow : OpenClaim := { program := "ytjkkefbfhapblab", sum := "629a4f0ea27369f20bcca5eaf022823509ba1fa0d32b3cec8989cb9f023949d5", func := "loop.example/g01266/laws.FnExactFlowsInBasin", spec := "fnExactFlowsInBasin", inPlace := ["math.Float32bits"], unfollowed := true, recurses := true, apart := false }
def FnExactFlowsInBasinSaid : Prop := fnExactFlowsInBasinRow.holds Try.pinned (OpenSpec.ofChange fnExactFlowsInBasinSpec)

/-- ITS FALSE NEIGHBOUR: 'it returns false'. Refute it at one input. -/
def fnExactFlowsInBasinWrong : ChangeSpec := { name := "fnExactFlowsInBasin", fn := fun _ => fun
  | [d] => { results := [.lit (.bool false)], args := [d] }
  | _ => none }
def FnExactFlowsInBasinWrongFalsely : Prop := fnExactFlowsInBasinRow.holds Try.pinned (OpenSpec.ofChange fnExactFlowsInBasinWrong)

/-- 'laws.FnExactCarryBasin': WHATEVER THE INPUT: true; the input reads as it did. -/
def fnExactCarryBasinSpec : ChangeSpec := { name := "fnExactCarryBasin", fn := fun _ => fun
  | [d1, d2, d3, d4] => { results := [.lit (.bool true)], args := [d1, d2, d3, d4] }
  | _ => none }
def fnExactCarryBasinRow : OpenClaim := { program := "ytjkkefbfhapblab", sum := "629a4f0ea27369f20bcca5eaf022823509ba1fa0d32b3cec8989cb9f023949d5", func := "loop.example/g01266/laws.FnExactCarryBasin", spec := "fnExactCarryBasin", inPlace := ["math.archFloor", "math.Float64bits", "math.Float64frombits", "math.archTrunc", "math.Float32bits", "math.Float32frombits"], unfollowed := true, recurses := true, apart := false }
def FnExactCarryBasinSaid : Prop := fnExactCarryBasinRow.holds Try.pinned (OpenSpec.ofChange fnExactCarryBasinSpec)

/-- ITS FALSE NEIGHBOUR: 'it returns false'. Refute it at one input. -/
def fnExactCarryBasinWrong : ChangeSpec := { name := "fnExactCarryBasin", fn := fun _ => fun
  | [d1, d2, d3, d4] => { results := [.lit (.bool false)], args := [d1, d2, d3, d4] }
  | _ => none }
def FnExactCarryBasinWrongFalsely : Prop := fnExactCarryBasinRow.holds Try.pinned (OpenSpec.ofChange fnExactCarryBasinWrong)

/-- 'laws.FnExactStepBasin': WHATEVER THE INPUT: true; the input reads as it did. -/
def fnExactStepBasinSpec : ChangeSpec := { name := "fnExactStepBasin", fn := fun _ => fun
  | [d1, d2, d3, d4] => { results := [.lit (.bool true)], args := [d1, d2, d3, d4] }
  | _ => none }
def fnExactStepBasinRow : OpenClaim := { program := "ytjkkefbfhapblab", sum := "629a4f0ea27369f20bcca5eaf022823509ba1fa0d32b3cec8989cb9f023949d5", func := "loop.example/g01266/laws.FnExactStepBasin", spec := "fnExactStepBasin", inPlace := ["math.archFloor", "math.Float64bits", "math.Float64frombits", "math.archTrunc", "math.Float32bits", "math.Float32frombits"], unfollowed := true, recurses := true, apart := false }
def FnExactStepBasinSaid : Prop := fnExactStepBasinRow.holds Try.pinned (OpenSpec.ofChange fnExactStepBasinSpec)

/-- ITS FALSE NEIGHBOUR: 'it returns false'. Refute it at one input. -/
def fnExactStepBasinWrong : ChangeSpec := { name := "fnExactStepBasin", fn := fun _ => fun
  | [d1, d2, d3, d4] => { results := [.lit (.bool false)], args := [d1, d2, d3, d4] }
  | _ => none }
def FnExactStepBasinWrongFalsely : Prop := fnExactStepBasinRow.holds Try.pinned (OpenSpec.ofChange fnExactStepBasinWrong)

/-- 'laws.FnExactRunBasin': WHATEVER THE INPUT: true; the input reads as it did. -/
def fnExactRunBasinSpec : ChangeSpec := { name := "fnExactRunBasin", fn := fun _ => fun
  | [d1, d2, d3, d4, d5] => { results := [.lit (.bool true)], args := [d1, d2, d3, d4, d5] }
  | _ => none }
def fnExactRunBasinRow : OpenClaim := { program := "ytjkkefbfhapblab", sum := "629a4f0ea27369f20bcca5eaf022823509ba1fa0d32b3cec8989cb9f023949d5", func := "loop.example/g01266/laws.FnExactRunBasin", spec := "fnExactRunBasin", inPlace := ["math.archFloor", "math.Float64bits", "math.Float64frombits", "math.archTrunc", "math.Float32bits", "math.Float32frombits"], unfollowed := true, recurses := true, apart := false }
def FnExactRunBasinSaid : Prop := fnExactRunBasinRow.holds Try.pinned (OpenSpec.ofChange fnExactRunBasinSpec)

/-- ITS FALSE NEIGHBOUR: 'it returns false'. Refute it at one input. -/
def fnExactRunBasinWrong : ChangeSpec := { name := "fnExactRunBasin", fn := fun _ => fun
  | [d1, d2, d3, d4, d5] => { results := [.lit (.bool false)], args := [d1, d2, d3, d4, d5] }
  | _ => none }
def FnExactRunBasinWrongFalsely : Prop := fnExactRunBasinRow.holds Try.pinned (OpenSpec.ofChange fnExactRunBasinWrong)

/-- 'laws.FnExactFlatPlate': WHATEVER THE INPUT: true; the input reads as it did. -/
def fnExactFlatPlateSpec : ChangeSpec := { name := "fnExactFlatPlate", fn := fun _ => fun
  | [d1, d2, d3] => { results := [.lit (.bool true)], args := [d1, d2, d3] }
  | _ => none }
def fnExactFlatPlateRow : OpenClaim := { program := "ytjkkefbfhapblab", sum := "629a4f0ea27369f20bcca5eaf022823509ba1fa0d32b3cec8989cb9f023949d5", func := "loop.example/g01266/laws.FnExactFlatPlate", spec := "fnExactFlatPlate", inPlace := ["math.Float32frombits", "math.Float64frombits", "math.sqrt", "math.Float32bits", "math.Float64bits"], unfollowed := true, recurses := true, apart := false }
def FnExactFlatPlateSaid : Prop := fnExactFlatPlateRow.holds Try.pinned (OpenSpec.ofChange fnExactFlatPlateSpec)

/-- ITS FALSE NEIGHBOUR: 'it returns false'. Refute it at one input. -/
def fnExactFlatPlateWrong : ChangeSpec := { name := "fnExactFlatPlate", fn := fun _ => fun
  | [d1, d2, d3] => { results := [.lit (.bool false)], args := [d1, d2, d3] }
  | _ => none }
def FnExactFlatPlateWrongFalsely : Prop := fnExactFlatPlateRow.holds Try.pinned (OpenSpec.ofChange fnExactFlatPlateWrong)

/-- 'laws.FnExactSolveSquare': WHATEVER THE INPUT: true; the input reads as it did. -/
def fnExactSolveSquareSpec : ChangeSpec := { name := "fnExactSolveSquare", fn := fun _ => fun
  | [d1, d2] => { results := [.lit (.bool true)], args := [d1, d2] }
  | _ => none }
def fnExactSolveSquareRow : OpenClaim := { program := "ytjkkefbfhapblab", sum := "629a4f0ea27369f20bcca5eaf022823509ba1fa0d32b3cec8989cb9f023949d5", func := "loop.example/g01266/laws.FnExactSolveSquare", spec := "fnExactSolveSquare", inPlace := ["math.Float32bits"], unfollowed := true, recurses := true, apart := false }
def FnExactSolveSquareSaid : Prop := fnExactSolveSquareRow.holds Try.pinned (OpenSpec.ofChange fnExactSolveSquareSpec)

/-- ITS FALSE NEIGHBOUR: 'it returns false'. Refute it at one input. -/
def fnExactSolveSquareWrong : ChangeSpec := { name := "fnExactSolveSquare", fn := fun _ => fun
  | [d1, d2] => { results := [.lit (.bool false)], args := [d1, d2] }
  | _ => none }
def FnExactSolveSquareWrongFalsely : Prop := fnExactSolveSquareRow.holds Try.pinned (OpenSpec.ofChange fnExactSolveSquareWrong)

/- THE SECOND FORM. 'bulk': how many values and letters a reading holds, each counted each time it is reached (what is shared counts as often as it is met; a slice's spare places count too). A statement '..UptoSaid' is the law's where the arguments, and the package variables that the reading takes, are together of bulk at most 1048576: NARROWER than '..Said'. Prove '..Said' where nothing that the law and all that it calls make is longer than what came in: it says more and counts as full. Else prove '..UptoSaid'. A law counts once. -/
mutual
def uptoBulk {H : Type} : DataW H → Nat
  | .lit (.string bytes) => bytes.length + 1
  | .lit _ => 1
  | .nil => 1
  | .ptr d => uptoBulk d + 1
  | .slice elems spare => uptoBulkAll elems + uptoBulkAll spare + 1
  | .agg parts => uptoBulkAll parts + 1
  | .iface _ d => uptoBulk d + 1
  | .map entries => uptoBulkEntries entries + 1
  | .held _ => 1
def uptoBulkAll {H : Type} : List (DataW H) → Nat
  | [] => 0
  | d :: r => uptoBulk d + uptoBulkAll r
def uptoBulkEntries {H : Type} : List (Lit × DataW H) → Nat
  | [] => 0
  | x :: r => uptoBulkEntry x + uptoBulkEntries r
def uptoBulkEntry {H : Type} : Lit × DataW H → Nat
  | (.string bytes, d) => bytes.length + uptoBulk d + 1
  | (_, d) => uptoBulk d + 1
 end
def uptoSmall : (H : Type) → List (DataW H) → Bool := fun _ ds => decide (uptoBulkAll ds ≤ 1048576)
def OpenSpec.upto (s : _root_.Go.ChangeSpec) : _root_.Go.OpenSpec := { _root_.Go.OpenSpec.ofChange s with cond := some uptoSmall }

/-- 'laws.FnExactNoiseTracers', WHERE WHAT IT READS IS OF BULK AT MOST 1048576: true; the input reads as it did. -/
def fnExactNoiseTracersUptoRow : OpenClaim := { program := "ytjkkefbfhapblab", sum := "629a4f0ea27369f20bcca5eaf022823509ba1fa0d32b3cec8989cb9f023949d5", func := "loop.example/g01266/laws.FnExactNoiseTracers", spec := "fnExactNoiseTracers", inPlace := ["math.Float32bits"], unfollowed := true, recurses := true, apart := false, narrowed := true }
def FnExactNoiseTracersUptoSaid : Prop := fnExactNoiseTracersUptoRow.holds Try.pinned (OpenSpec.upto fnExactNoiseTracersSpec)

/-- 'laws.FnExactFlowsInBasin', WHERE WHAT IT READS IS OF BULK AT MOST 1048576: true; the input reads as it did. -/
def fnExactFlowsInBasinUptoRow : OpenClaim := { program := "ytjkkefbfhapblab", sum := "629a4f0ea27369f20bcca5eaf022823509ba1fa0d32b3cec8989cb9f023949d5", func := "loop.example/g01266/laws.FnExactFlowsInBasin", spec := "fnExactFlowsInBasin", inPlace := ["math.Float32bits"], unfollowed := true, recurses := true, apart := false, narrowed := true }
def FnExactFlowsInBasinUptoSaid : Prop := fnExactFlowsInBasinUptoRow.holds Try.pinned (OpenSpec.upto fnExactFlowsInBasinSpec)

/-- 'laws.FnExactCarryBasin', WHERE WHAT IT READS IS OF BULK AT MOST 1048576: true; the input reads as it did. -/
def fnExactCarryBasinUptoRow : OpenClaim := { program := "ytjkkefbfhapblab", sum := "629a4f0ea27369f20bcca5eaf022823509ba1fa0d32b3cec8989cb9f023949d5", func := "loop.example/g01266/laws.FnExactCarryBasin", spec := "fnExactCarryBasin", inPlace := ["math.archFloor", "math.Float64bits", "math.Float64frombits", "math.archTrunc", "math.Float32bits", "math.Float32frombits"], unfollowed := true, recurses := true, apart := false, narrowed := true }
def FnExactCarryBasinUptoSaid : Prop := fnExactCarryBasinUptoRow.holds Try.pinned (OpenSpec.upto fnExactCarryBasinSpec)

/-- 'laws.FnExactStepBasin', WHERE WHAT IT READS IS OF BULK AT MOST 1048576: true; the input reads as it did. -/
def fnExactStepBasinUptoRow : OpenClaim := { program := "ytjkkefbfhapblab", sum := "629a4f0ea27369f20bcca5eaf022823509ba1fa0d32b3cec8989cb9f023949d5", func := "loop.example/g01266/laws.FnExactStepBasin", spec := "fnExactStepBasin", inPlace := ["math.archFloor", "math.Float64bits", "math.Float64frombits", "math.archTrunc", "math.Float32bits", "math.Float32frombits"], unfollowed := true, recurses := true, apart := false, narrowed := true }
def FnExactStepBasinUptoSaid : Prop := fnExactStepBasinUptoRow.holds Try.pinned (OpenSpec.upto fnExactStepBasinSpec)

/-- 'laws.FnExactRunBasin', WHERE WHAT IT READS IS OF BULK AT MOST 1048576: true; the input reads as it did. -/
def fnExactRunBasinUptoRow : OpenClaim := { program := "ytjkkefbfhapblab", sum := "629a4f0ea27369f20bcca5eaf022823509ba1fa0d32b3cec8989cb9f023949d5", func := "loop.example/g01266/laws.FnExactRunBasin", spec := "fnExactRunBasin", inPlace := ["math.archFloor", "math.Float64bits", "math.Float64frombits", "math.archTrunc", "math.Float32bits", "math.Float32frombits"], unfollowed := true, recurses := true, apart := false, narrowed := true }
def FnExactRunBasinUptoSaid : Prop := fnExactRunBasinUptoRow.holds Try.pinned (OpenSpec.upto fnExactRunBasinSpec)

/-- 'laws.FnExactFlatPlate', WHERE WHAT IT READS IS OF BULK AT MOST 1048576: true; the input reads as it did. -/
def fnExactFlatPlateUptoRow : OpenClaim := { program := "ytjkkefbfhapblab", sum := "629a4f0ea27369f20bcca5eaf022823509ba1fa0d32b3cec8989cb9f023949d5", func := "loop.example/g01266/laws.FnExactFlatPlate", spec := "fnExactFlatPlate", inPlace := ["math.Float32frombits", "math.Float64frombits", "math.sqrt", "math.Float32bits", "math.Float64bits"], unfollowed := true, recurses := true, apart := false, narrowed := true }
def FnExactFlatPlateUptoSaid : Prop := fnExactFlatPlateUptoRow.holds Try.pinned (OpenSpec.upto fnExactFlatPlateSpec)

/-- 'laws.FnExactSolveSquare', WHERE WHAT IT READS IS OF BULK AT MOST 1048576: true; the input reads as it did. -/
def fnExactSolveSquareUptoRow : OpenClaim := { program := "ytjkkefbfhapblab", sum := "629a4f0ea27369f20bcca5eaf022823509ba1fa0d32b3cec8989cb9f023949d5", func := "loop.example/g01266/laws.FnExactSolveSquare", spec := "fnExactSolveSquare", inPlace := ["math.Float32bits"], unfollowed := true, recurses := true, apart := false, narrowed := true }
def FnExactSolveSquareUptoSaid : Prop := fnExactSolveSquareUptoRow.holds Try.pinned (OpenSpec.upto fnExactSolveSquareSpec)

end Rows
end Go.Proofs.Ytjkkefbfhapblab
