/-
  No cell of these rows narrows 'for every input' (looked for: loops, veiled, ifaces, maps, wideKeys, modest, calm, conditions, laid).
  DERIVED. THE GIVEN ROWS OF THIS SEAT. 9 by the template 'for every input the law returns true; each argument reads behind the call as it read before'; 0 by the template 'total and deterministic' (their statements: YtggklnanhiomjacTotals.lean).
  GIVEN WITH THE SEED: the statements are not yours to turn. If you find one false, say at which input.
  Laid BY PROGRAM, IN A SANDBOX (cutbox-rows.mjs): the forced cells as the released guide's own fill.sh prints them over the translation c548093b11d47ea5… (all of the seat's roots in one cut). By AI agents, Wed Nov 11 2026. No macro, syntax, notation, axiom, sorry.
-/
import Derived.Test.YtggklnanhiomjacChecked
import GoSem.Claim
import GoSem.ClaimJoined
import GoSem.ClaimMapViews
import Derived.JoinedTies
import Derived.KernelRfl
namespace Go.Proofs.Ytggklnanhiomjac
/- THE CELL 'sum', in the pinned program and in every row, IS THE sha256 OF THE DUMP (.gsa) THAT YtggklnanhiomjacProg.lean LOADS. Nothing in Lean hashes anything: it is a label: what it is worth is what the hold of that sum in a sandbox is worth. -/
noncomputable def Try.pinned : Pinned := { name := "ytggklnanhiomjac", sum := "c548093b11d47ea50665ce09312a9f88daca9d5b948b6e1455e4ba0f61e1b2b4", checked := Try.checked }
namespace Rows
def none {H : Type} : Left H := { results := [], args := [] }

/-- 'laws.FnExactImpulseOfThread': WHATEVER THE INPUT: true; the input reads as it did. -/
def fnExactImpulseOfThreadSpec : ChangeSpec := { name := "fnExactImpulseOfThread", fn := fun _ => fun
  | [d] => { results := [.lit (.bool true)], args := [d] }
  | _ => none }
def fnExactImpulseOfThreadRow : OpenClaim := { program := "ytggklnanhiomjac", sum := "c548093b11d47ea50665ce09312a9f88daca9d5b948b6e1455e4ba0f61e1b2b4", func := "loop.example/g01266/laws.FnExactImpulseOfThread", spec := "fnExactImpulseOfThread", inPlace := ["math.Float32bits"], unfollowed := true, recurses := true, leaving := true, apart := false }
def FnExactImpulseOfThreadSaid : Prop := fnExactImpulseOfThreadRow.holds Try.pinned (OpenSpec.ofChange fnExactImpulseOfThreadSpec)

/-- ITS FALSE NEIGHBOUR: 'it returns false'. Refute it at one input. -/
def fnExactImpulseOfThreadWrong : ChangeSpec := { name := "fnExactImpulseOfThread", fn := fun _ => fun
  | [d] => { results := [.lit (.bool false)], args := [d] }
  | _ => none }
def FnExactImpulseOfThreadWrongFalsely : Prop := fnExactImpulseOfThreadRow.holds Try.pinned (OpenSpec.ofChange fnExactImpulseOfThreadWrong)

/-- 'laws.FnExactMiddleOfThread': WHATEVER THE INPUT: true; the input reads as it did. -/
def fnExactMiddleOfThreadSpec : ChangeSpec := { name := "fnExactMiddleOfThread", fn := fun _ => fun
  | [d] => { results := [.lit (.bool true)], args := [d] }
  | _ => none }
def fnExactMiddleOfThreadRow : OpenClaim := { program := "ytggklnanhiomjac", sum := "c548093b11d47ea50665ce09312a9f88daca9d5b948b6e1455e4ba0f61e1b2b4", func := "loop.example/g01266/laws.FnExactMiddleOfThread", spec := "fnExactMiddleOfThread", inPlace := ["math.Float32bits"], apart := false }
def FnExactMiddleOfThreadSaid : Prop := fnExactMiddleOfThreadRow.holds Try.pinned (OpenSpec.ofChange fnExactMiddleOfThreadSpec)

/-- ITS FALSE NEIGHBOUR: 'it returns false'. Refute it at one input. -/
def fnExactMiddleOfThreadWrong : ChangeSpec := { name := "fnExactMiddleOfThread", fn := fun _ => fun
  | [d] => { results := [.lit (.bool false)], args := [d] }
  | _ => none }
def FnExactMiddleOfThreadWrongFalsely : Prop := fnExactMiddleOfThreadRow.holds Try.pinned (OpenSpec.ofChange fnExactMiddleOfThreadWrong)

/-- 'laws.FnExactNearestOfThreads': WHATEVER THE INPUT: true; the input reads as it did. -/
def fnExactNearestOfThreadsSpec : ChangeSpec := { name := "fnExactNearestOfThreads", fn := fun _ => fun
  | [d1, d2] => { results := [.lit (.bool true)], args := [d1, d2] }
  | _ => none }
def fnExactNearestOfThreadsRow : OpenClaim := { program := "ytggklnanhiomjac", sum := "c548093b11d47ea50665ce09312a9f88daca9d5b948b6e1455e4ba0f61e1b2b4", func := "loop.example/g01266/laws.FnExactNearestOfThreads", spec := "fnExactNearestOfThreads", inPlace := ["math.sqrt", "math.Float32bits", "math.Float64frombits"], apart := false }
def FnExactNearestOfThreadsSaid : Prop := fnExactNearestOfThreadsRow.holds Try.pinned (OpenSpec.ofChange fnExactNearestOfThreadsSpec)

/-- ITS FALSE NEIGHBOUR: 'it returns false'. Refute it at one input. -/
def fnExactNearestOfThreadsWrong : ChangeSpec := { name := "fnExactNearestOfThreads", fn := fun _ => fun
  | [d1, d2] => { results := [.lit (.bool false)], args := [d1, d2] }
  | _ => none }
def FnExactNearestOfThreadsWrongFalsely : Prop := fnExactNearestOfThreadsRow.holds Try.pinned (OpenSpec.ofChange fnExactNearestOfThreadsWrong)

/-- 'laws.FnExactAreThreads': WHATEVER THE INPUT: true; the input reads as it did. -/
def fnExactAreThreadsSpec : ChangeSpec := { name := "fnExactAreThreads", fn := fun _ => fun
  | [d] => { results := [.lit (.bool true)], args := [d] }
  | _ => none }
def fnExactAreThreadsRow : OpenClaim := { program := "ytggklnanhiomjac", sum := "c548093b11d47ea50665ce09312a9f88daca9d5b948b6e1455e4ba0f61e1b2b4", func := "loop.example/g01266/laws.FnExactAreThreads", spec := "fnExactAreThreads", inPlace := ["math.Float32bits"], apart := false }
def FnExactAreThreadsSaid : Prop := fnExactAreThreadsRow.holds Try.pinned (OpenSpec.ofChange fnExactAreThreadsSpec)

/-- ITS FALSE NEIGHBOUR: 'it returns false'. Refute it at one input. -/
def fnExactAreThreadsWrong : ChangeSpec := { name := "fnExactAreThreads", fn := fun _ => fun
  | [d] => { results := [.lit (.bool false)], args := [d] }
  | _ => none }
def FnExactAreThreadsWrongFalsely : Prop := fnExactAreThreadsRow.holds Try.pinned (OpenSpec.ofChange fnExactAreThreadsWrong)

/-- 'laws.FnExactJoinThreads': WHATEVER THE INPUT: true; the input reads as it did. -/
def fnExactJoinThreadsSpec : ChangeSpec := { name := "fnExactJoinThreads", fn := fun _ => fun
  | [d1, d2, d3, d4] => { results := [.lit (.bool true)], args := [d1, d2, d3, d4] }
  | _ => none }
def fnExactJoinThreadsRow : OpenClaim := { program := "ytggklnanhiomjac", sum := "c548093b11d47ea50665ce09312a9f88daca9d5b948b6e1455e4ba0f61e1b2b4", func := "loop.example/g01266/laws.FnExactJoinThreads", spec := "fnExactJoinThreads", inPlace := ["math.Float32bits"], apart := false }
def FnExactJoinThreadsSaid : Prop := fnExactJoinThreadsRow.holds Try.pinned (OpenSpec.ofChange fnExactJoinThreadsSpec)

/-- ITS FALSE NEIGHBOUR: 'it returns false'. Refute it at one input. -/
def fnExactJoinThreadsWrong : ChangeSpec := { name := "fnExactJoinThreads", fn := fun _ => fun
  | [d1, d2, d3, d4] => { results := [.lit (.bool false)], args := [d1, d2, d3, d4] }
  | _ => none }
def FnExactJoinThreadsWrongFalsely : Prop := fnExactJoinThreadsRow.holds Try.pinned (OpenSpec.ofChange fnExactJoinThreadsWrong)

/-- 'laws.FnExactSplitThread': WHATEVER THE INPUT: true; the input reads as it did. -/
def fnExactSplitThreadSpec : ChangeSpec := { name := "fnExactSplitThread", fn := fun _ => fun
  | [d1, d2, d3] => { results := [.lit (.bool true)], args := [d1, d2, d3] }
  | _ => none }
def fnExactSplitThreadRow : OpenClaim := { program := "ytggklnanhiomjac", sum := "c548093b11d47ea50665ce09312a9f88daca9d5b948b6e1455e4ba0f61e1b2b4", func := "loop.example/g01266/laws.FnExactSplitThread", spec := "fnExactSplitThread", inPlace := ["math.Float32bits"], apart := false }
def FnExactSplitThreadSaid : Prop := fnExactSplitThreadRow.holds Try.pinned (OpenSpec.ofChange fnExactSplitThreadSpec)

/-- ITS FALSE NEIGHBOUR: 'it returns false'. Refute it at one input. -/
def fnExactSplitThreadWrong : ChangeSpec := { name := "fnExactSplitThread", fn := fun _ => fun
  | [d1, d2, d3] => { results := [.lit (.bool false)], args := [d1, d2, d3] }
  | _ => none }
def FnExactSplitThreadWrongFalsely : Prop := fnExactSplitThreadRow.holds Try.pinned (OpenSpec.ofChange fnExactSplitThreadWrong)

/-- 'laws.FnThreads': WHATEVER THE INPUT: true; the input reads as it did. -/
def fnThreadsSpec : ChangeSpec := { name := "fnThreads", fn := fun _ => fun
  | [d1, d2] => { results := [.lit (.bool true)], args := [d1, d2] }
  | _ => none }
def fnThreadsRow : OpenClaim := { program := "ytggklnanhiomjac", sum := "c548093b11d47ea50665ce09312a9f88daca9d5b948b6e1455e4ba0f61e1b2b4", func := "loop.example/g01266/laws.FnThreads", spec := "fnThreads", inPlace := ["math.Float32bits", "math.sqrt", "math.Float32frombits", "math.Float64bits", "math.Float64frombits"], unfollowed := true, recurses := true, leaving := true, apart := false }
def FnThreadsSaid : Prop := fnThreadsRow.holds Try.pinned (OpenSpec.ofChange fnThreadsSpec)

/-- ITS FALSE NEIGHBOUR: 'it returns false'. Refute it at one input. -/
def fnThreadsWrong : ChangeSpec := { name := "fnThreads", fn := fun _ => fun
  | [d1, d2] => { results := [.lit (.bool false)], args := [d1, d2] }
  | _ => none }
def FnThreadsWrongFalsely : Prop := fnThreadsRow.holds Try.pinned (OpenSpec.ofChange fnThreadsWrong)

/-- 'laws.FnThreadFlows': WHATEVER THE INPUT: true; the input reads as it did. -/
def fnThreadFlowsSpec : ChangeSpec := { name := "fnThreadFlows", fn := fun _ => fun
  | [d1, d2] => { results := [.lit (.bool true)], args := [d1, d2] }
  | _ => none }
def fnThreadFlowsRow : OpenClaim := { program := "ytggklnanhiomjac", sum := "c548093b11d47ea50665ce09312a9f88daca9d5b948b6e1455e4ba0f61e1b2b4", func := "loop.example/g01266/laws.FnThreadFlows", spec := "fnThreadFlows", inPlace := ["math.Float32bits", "math.sqrt", "math.Float32frombits", "math.Float64bits", "math.Float64frombits"], unfollowed := true, recurses := true, leaving := true, apart := false }
def FnThreadFlowsSaid : Prop := fnThreadFlowsRow.holds Try.pinned (OpenSpec.ofChange fnThreadFlowsSpec)

/-- ITS FALSE NEIGHBOUR: 'it returns false'. Refute it at one input. -/
def fnThreadFlowsWrong : ChangeSpec := { name := "fnThreadFlows", fn := fun _ => fun
  | [d1, d2] => { results := [.lit (.bool false)], args := [d1, d2] }
  | _ => none }
def FnThreadFlowsWrongFalsely : Prop := fnThreadFlowsRow.holds Try.pinned (OpenSpec.ofChange fnThreadFlowsWrong)

/-- 'laws.FnCuts': WHATEVER THE INPUT: true; the input reads as it did. -/
def fnCutsSpec : ChangeSpec := { name := "fnCuts", fn := fun _ => fun
  | [d1, d2] => { results := [.lit (.bool true)], args := [d1, d2] }
  | _ => none }
def fnCutsRow : OpenClaim := { program := "ytggklnanhiomjac", sum := "c548093b11d47ea50665ce09312a9f88daca9d5b948b6e1455e4ba0f61e1b2b4", func := "loop.example/g01266/laws.FnCuts", spec := "fnCuts", inPlace := ["math.Float32bits", "math.Float64frombits", "math.sqrt", "math.Float32frombits", "math.Float64bits", "math.RoundToEven"], unfollowed := true, recurses := true, leaving := true, apart := false }
def FnCutsSaid : Prop := fnCutsRow.holds Try.pinned (OpenSpec.ofChange fnCutsSpec)

/-- ITS FALSE NEIGHBOUR: 'it returns false'. Refute it at one input. -/
def fnCutsWrong : ChangeSpec := { name := "fnCuts", fn := fun _ => fun
  | [d1, d2] => { results := [.lit (.bool false)], args := [d1, d2] }
  | _ => none }
def FnCutsWrongFalsely : Prop := fnCutsRow.holds Try.pinned (OpenSpec.ofChange fnCutsWrong)

/- THE SECOND FORM. 'bulk': how many values and letters a reading holds, each counted each time it is reached (what is shared counts as often as it is met; a slice's spare places count too). A statement '..UptoSaid' is the law's where the arguments, and the package variables that the reading takes, are together of bulk at most 1048576: NARROWER than '..Said'. Prove '..Said' where nothing that the law and all that it calls make is longer than what came in: it says more and counts as full. Else prove '..UptoSaid'. A law counts once. -/
mutual
def uptoBulk {H : Type} : DataW H → Nat
  | .lit (.string bytes) => bytes.length + 1
  | .lit _ => 1
  | .nil => 1
  | .ptr d => uptoBulk d + 1
  | .slice elems spare => uptoBulkAll elems + uptoBulkAll spare + 1
  | .agg parts => uptoBulkAll parts + 1
  | .iface _ d => uptoBulk d + 1
  | .map entries => uptoBulkEntries entries + 1
  | .held _ => 1
def uptoBulkAll {H : Type} : List (DataW H) → Nat
  | [] => 0
  | d :: r => uptoBulk d + uptoBulkAll r
def uptoBulkEntries {H : Type} : List (Lit × DataW H) → Nat
  | [] => 0
  | x :: r => uptoBulkEntry x + uptoBulkEntries r
def uptoBulkEntry {H : Type} : Lit × DataW H → Nat
  | (.string bytes, d) => bytes.length + uptoBulk d + 1
  | (_, d) => uptoBulk d + 1
 end
def uptoSmall : (H : Type) → List (DataW H) → Bool := fun _ ds => decide (uptoBulkAll ds ≤ 1048576)
def OpenSpec.upto (s : _root_.Go.ChangeSpec) : _root_.Go.OpenSpec := { _root_.Go.OpenSpec.ofChange s with cond := some uptoSmall }

/-- 'laws.FnExactImpulseOfThread', WHERE WHAT IT READS IS OF BULK AT MOST 1048576: true; the input reads as it did. -/
def fnExactImpulseOfThreadUptoRow : OpenClaim := { program := "ytggklnanhiomjac", sum := "c548093b11d47ea50665ce09312a9f88daca9d5b948b6e1455e4ba0f61e1b2b4", func := "loop.example/g01266/laws.FnExactImpulseOfThread", spec := "fnExactImpulseOfThread", inPlace := ["math.Float32bits"], unfollowed := true, recurses := true, leaving := true, apart := false, narrowed := true }
def FnExactImpulseOfThreadUptoSaid : Prop := fnExactImpulseOfThreadUptoRow.holds Try.pinned (OpenSpec.upto fnExactImpulseOfThreadSpec)

/-- 'laws.FnExactMiddleOfThread', WHERE WHAT IT READS IS OF BULK AT MOST 1048576: true; the input reads as it did. -/
def fnExactMiddleOfThreadUptoRow : OpenClaim := { program := "ytggklnanhiomjac", sum := "c548093b11d47ea50665ce09312a9f88daca9d5b948b6e1455e4ba0f61e1b2b4", func := "loop.example/g01266/laws.FnExactMiddleOfThread", spec := "fnExactMiddleOfThread", inPlace := ["math.Float32bits"], apart := false, narrowed := true }
def FnExactMiddleOfThreadUptoSaid : Prop := fnExactMiddleOfThreadUptoRow.holds Try.pinned (OpenSpec.upto fnExactMiddleOfThreadSpec)

/-- 'laws.FnExactNearestOfThreads', WHERE WHAT IT READS IS OF BULK AT MOST 1048576: true; the input reads as it did. -/
def fnExactNearestOfThreadsUptoRow : OpenClaim := { program := "ytggklnanhiomjac", sum := "c548093b11d47ea50665ce09312a9f88daca9d5b948b6e1455e4ba0f61e1b2b4", func := "loop.example/g01266/laws.FnExactNearestOfThreads", spec := "fnExactNearestOfThreads", inPlace := ["math.sqrt", "math.Float32bits", "math.Float64frombits"], apart := false, narrowed := true }
def FnExactNearestOfThreadsUptoSaid : Prop := fnExactNearestOfThreadsUptoRow.holds Try.pinned (OpenSpec.upto fnExactNearestOfThreadsSpec)

/-- 'laws.FnExactAreThreads', WHERE WHAT IT READS IS OF BULK AT MOST 1048576: true; the input reads as it did. -/
def fnExactAreThreadsUptoRow : OpenClaim := { program := "ytggklnanhiomjac", sum := "c548093b11d47ea50665ce09312a9f88daca9d5b948b6e1455e4ba0f61e1b2b4", func := "loop.example/g01266/laws.FnExactAreThreads", spec := "fnExactAreThreads", inPlace := ["math.Float32bits"], apart := false, narrowed := true }
def FnExactAreThreadsUptoSaid : Prop := fnExactAreThreadsUptoRow.holds Try.pinned (OpenSpec.upto fnExactAreThreadsSpec)

/-- 'laws.FnExactJoinThreads', WHERE WHAT IT READS IS OF BULK AT MOST 1048576: true; the input reads as it did. -/
def fnExactJoinThreadsUptoRow : OpenClaim := { program := "ytggklnanhiomjac", sum := "c548093b11d47ea50665ce09312a9f88daca9d5b948b6e1455e4ba0f61e1b2b4", func := "loop.example/g01266/laws.FnExactJoinThreads", spec := "fnExactJoinThreads", inPlace := ["math.Float32bits"], apart := false, narrowed := true }
def FnExactJoinThreadsUptoSaid : Prop := fnExactJoinThreadsUptoRow.holds Try.pinned (OpenSpec.upto fnExactJoinThreadsSpec)

/-- 'laws.FnExactSplitThread', WHERE WHAT IT READS IS OF BULK AT MOST 1048576: true; the input reads as it did. -/
def fnExactSplitThreadUptoRow : OpenClaim := { program := "ytggklnanhiomjac", sum := "c548093b11d47ea50665ce09312a9f88daca9d5b948b6e1455e4ba0f61e1b2b4", func := "loop.example/g01266/laws.FnExactSplitThread", spec := "fnExactSplitThread", inPlace := ["math.Float32bits"], apart := false, narrowed := true }
def FnExactSplitThreadUptoSaid : Prop := fnExactSplitThreadUptoRow.holds Try.pinned (OpenSpec.upto fnExactSplitThreadSpec)

/-- 'laws.FnThreads', WHERE WHAT IT READS IS OF BULK AT MOST 1048576: true; the input reads as it did. -/
def fnThreadsUptoRow : OpenClaim := { program := "ytggklnanhiomjac", sum := "c548093b11d47ea50665ce09312a9f88daca9d5b948b6e1455e4ba0f61e1b2b4", func := "loop.example/g01266/laws.FnThreads", spec := "fnThreads", inPlace := ["math.Float32bits", "math.sqrt", "math.Float32frombits", "math.Float64bits", "math.Float64frombits"], unfollowed := true, recurses := true, leaving := true, apart := false, narrowed := true }
def FnThreadsUptoSaid : Prop := fnThreadsUptoRow.holds Try.pinned (OpenSpec.upto fnThreadsSpec)

/-- 'laws.FnThreadFlows', WHERE WHAT IT READS IS OF BULK AT MOST 1048576: true; the input reads as it did. -/
def fnThreadFlowsUptoRow : OpenClaim := { program := "ytggklnanhiomjac", sum := "c548093b11d47ea50665ce09312a9f88daca9d5b948b6e1455e4ba0f61e1b2b4", func := "loop.example/g01266/laws.FnThreadFlows", spec := "fnThreadFlows", inPlace := ["math.Float32bits", "math.sqrt", "math.Float32frombits", "math.Float64bits", "math.Float64frombits"], unfollowed := true, recurses := true, leaving := true, apart := false, narrowed := true }
def FnThreadFlowsUptoSaid : Prop := fnThreadFlowsUptoRow.holds Try.pinned (OpenSpec.upto fnThreadFlowsSpec)

/-- 'laws.FnCuts', WHERE WHAT IT READS IS OF BULK AT MOST 1048576: true; the input reads as it did. -/
def fnCutsUptoRow : OpenClaim := { program := "ytggklnanhiomjac", sum := "c548093b11d47ea50665ce09312a9f88daca9d5b948b6e1455e4ba0f61e1b2b4", func := "loop.example/g01266/laws.FnCuts", spec := "fnCuts", inPlace := ["math.Float32bits", "math.Float64frombits", "math.sqrt", "math.Float32frombits", "math.Float64bits", "math.RoundToEven"], unfollowed := true, recurses := true, leaving := true, apart := false, narrowed := true }
def FnCutsUptoSaid : Prop := fnCutsUptoRow.holds Try.pinned (OpenSpec.upto fnCutsSpec)

end Rows
end Go.Proofs.Ytggklnanhiomjac
