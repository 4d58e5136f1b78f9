/-
  No cell of these rows narrows 'for every input' (looked for: loops, veiled, ifaces, maps, wideKeys, modest, calm, conditions, laid).
  DERIVED. THE GIVEN ROWS OF THIS SEAT. 10 by the template 'for every input the law returns true; each argument reads behind the call as it read before'; 0 by the template 'total and deterministic' (their statements: YtjkkefbfhapblaaTotals.lean).
  GIVEN WITH THE SEED: the statements are not yours to turn. If you find one false, say at which input.
  Laid BY PROGRAM, IN A SANDBOX (cutbox-rows.mjs): the forced cells as the released guide's own fill.sh prints them over the translation 90d159b1d5327e86… (all of the seat's roots in one cut). By AI agents, Wed Nov 11 2026. No macro, syntax, notation, axiom, sorry.
-/
import Derived.Test.YtjkkefbfhapblaaChecked
import GoSem.Claim
import GoSem.ClaimJoined
import GoSem.ClaimMapViews
import Derived.JoinedTies
import Derived.KernelRfl
namespace Go.Proofs.Ytjkkefbfhapblaa
/- THE CELL 'sum', in the pinned program and in every row, IS THE sha256 OF THE DUMP (.gsa) THAT YtjkkefbfhapblaaProg.lean LOADS. Nothing in Lean hashes anything: it is a label: what it is worth is what the hold of that sum in a sandbox is worth. -/
noncomputable def Try.pinned : Pinned := { name := "ytjkkefbfhapblaa", sum := "90d159b1d5327e869cff0c3cee1b6c4f1472e26979f5ad3b7556148547e7136b", checked := Try.checked }
namespace Rows
def none {H : Type} : Left H := { results := [], args := [] }

/-- 'laws.FnExactImpulseOfThread': WHATEVER THE INPUT: true; the input reads as it did. -/
def fnExactImpulseOfThreadSpec : ChangeSpec := { name := "fnExactImpulseOfThread", fn := fun _ => fun
  | [d] => { results := [.lit (.bool true)], args := [d] }
  | _ => none }
def fnExactImpulseOfThreadRow : OpenClaim := { program := "ytjkkefbfhapblaa", sum := "90d159b1d5327e869cff0c3cee1b6c4f1472e26979f5ad3b7556148547e7136b", func := "loop.example/g01266/laws.FnExactImpulseOfThread", spec := "fnExactImpulseOfThread", inPlace := ["math.Float32bits"], unfollowed := true, recurses := true, apart := false }
def FnExactImpulseOfThreadSaid : Prop := fnExactImpulseOfThreadRow.holds Try.pinned (OpenSpec.ofChange fnExactImpulseOfThreadSpec)

/-- ITS FALSE NEIGHBOUR: 'it returns false'. Refute it at one input. -/
def fnExactImpulseOfThreadWrong : ChangeSpec := { name := "fnExactImpulseOfThread", fn := fun _ => fun
  | [d] => { results := [.lit (.bool false)], args := [d] }
  | _ => none }
def FnExactImpulseOfThreadWrongFalsely : Prop := fnExactImpulseOfThreadRow.holds Try.pinned (OpenSpec.ofChange fnExactImpulseOfThreadWrong)

/-- 'laws.FnExactBackThread': WHATEVER THE INPUT: true; the input reads as it did. -/
def fnExactBackThreadSpec : ChangeSpec := { name := "fnExactBackThread", fn := fun _ => fun
  | [d] => { results := [.lit (.bool true)], args := [d] }
  | _ => none }
def fnExactBackThreadRow : OpenClaim := { program := "ytjkkefbfhapblaa", sum := "90d159b1d5327e869cff0c3cee1b6c4f1472e26979f5ad3b7556148547e7136b", func := "loop.example/g01266/laws.FnExactBackThread", spec := "fnExactBackThread", inPlace := ["math.Float32bits"], apart := false }
def FnExactBackThreadSaid : Prop := fnExactBackThreadRow.holds Try.pinned (OpenSpec.ofChange fnExactBackThreadSpec)

/-- ITS FALSE NEIGHBOUR: 'it returns false'. Refute it at one input. -/
def fnExactBackThreadWrong : ChangeSpec := { name := "fnExactBackThread", fn := fun _ => fun
  | [d] => { results := [.lit (.bool false)], args := [d] }
  | _ => none }
def FnExactBackThreadWrongFalsely : Prop := fnExactBackThreadRow.holds Try.pinned (OpenSpec.ofChange fnExactBackThreadWrong)

/-- 'laws.FnExactSameThread': WHATEVER THE INPUT: true; the input reads as it did. -/
def fnExactSameThreadSpec : ChangeSpec := { name := "fnExactSameThread", fn := fun _ => fun
  | [d1, d2] => { results := [.lit (.bool true)], args := [d1, d2] }
  | _ => none }
def fnExactSameThreadRow : OpenClaim := { program := "ytjkkefbfhapblaa", sum := "90d159b1d5327e869cff0c3cee1b6c4f1472e26979f5ad3b7556148547e7136b", func := "loop.example/g01266/laws.FnExactSameThread", spec := "fnExactSameThread", inPlace := ["math.Float32bits"], apart := false }
def FnExactSameThreadSaid : Prop := fnExactSameThreadRow.holds Try.pinned (OpenSpec.ofChange fnExactSameThreadSpec)

/-- ITS FALSE NEIGHBOUR: 'it returns false'. Refute it at one input. -/
def fnExactSameThreadWrong : ChangeSpec := { name := "fnExactSameThread", fn := fun _ => fun
  | [d1, d2] => { results := [.lit (.bool false)], args := [d1, d2] }
  | _ => none }
def FnExactSameThreadWrongFalsely : Prop := fnExactSameThreadRow.holds Try.pinned (OpenSpec.ofChange fnExactSameThreadWrong)

/-- 'laws.FnExactNearestOfThreads': WHATEVER THE INPUT: true; the input reads as it did. -/
def fnExactNearestOfThreadsSpec : ChangeSpec := { name := "fnExactNearestOfThreads", fn := fun _ => fun
  | [d1, d2] => { results := [.lit (.bool true)], args := [d1, d2] }
  | _ => none }
def fnExactNearestOfThreadsRow : OpenClaim := { program := "ytjkkefbfhapblaa", sum := "90d159b1d5327e869cff0c3cee1b6c4f1472e26979f5ad3b7556148547e7136b", func := "loop.example/g01266/laws.FnExactNearestOfThreads", spec := "fnExactNearestOfThreads", inPlace := ["math.sqrt", "math.Float32bits", "math.Float64frombits"], apart := false }
def FnExactNearestOfThreadsSaid : Prop := fnExactNearestOfThreadsRow.holds Try.pinned (OpenSpec.ofChange fnExactNearestOfThreadsSpec)

/-- ITS FALSE NEIGHBOUR: 'it returns false'. Refute it at one input. -/
def fnExactNearestOfThreadsWrong : ChangeSpec := { name := "fnExactNearestOfThreads", fn := fun _ => fun
  | [d1, d2] => { results := [.lit (.bool false)], args := [d1, d2] }
  | _ => none }
def FnExactNearestOfThreadsWrongFalsely : Prop := fnExactNearestOfThreadsRow.holds Try.pinned (OpenSpec.ofChange fnExactNearestOfThreadsWrong)

/-- 'laws.FnExactLinkOfThreads': WHATEVER THE INPUT: true; the input reads as it did. -/
def fnExactLinkOfThreadsSpec : ChangeSpec := { name := "fnExactLinkOfThreads", fn := fun _ => fun
  | [d1, d2] => { results := [.lit (.bool true)], args := [d1, d2] }
  | _ => none }
def fnExactLinkOfThreadsRow : OpenClaim := { program := "ytjkkefbfhapblaa", sum := "90d159b1d5327e869cff0c3cee1b6c4f1472e26979f5ad3b7556148547e7136b", func := "loop.example/g01266/laws.FnExactLinkOfThreads", spec := "fnExactLinkOfThreads", inPlace := ["math.sqrt", "math.RoundToEven", "math.Float32bits"], apart := false }
def FnExactLinkOfThreadsSaid : Prop := fnExactLinkOfThreadsRow.holds Try.pinned (OpenSpec.ofChange fnExactLinkOfThreadsSpec)

/-- ITS FALSE NEIGHBOUR: 'it returns false'. Refute it at one input. -/
def fnExactLinkOfThreadsWrong : ChangeSpec := { name := "fnExactLinkOfThreads", fn := fun _ => fun
  | [d1, d2] => { results := [.lit (.bool false)], args := [d1, d2] }
  | _ => none }
def FnExactLinkOfThreadsWrongFalsely : Prop := fnExactLinkOfThreadsRow.holds Try.pinned (OpenSpec.ofChange fnExactLinkOfThreadsWrong)

/-- 'laws.FnExactAreThreads': WHATEVER THE INPUT: true; the input reads as it did. -/
def fnExactAreThreadsSpec : ChangeSpec := { name := "fnExactAreThreads", fn := fun _ => fun
  | [d] => { results := [.lit (.bool true)], args := [d] }
  | _ => none }
def fnExactAreThreadsRow : OpenClaim := { program := "ytjkkefbfhapblaa", sum := "90d159b1d5327e869cff0c3cee1b6c4f1472e26979f5ad3b7556148547e7136b", func := "loop.example/g01266/laws.FnExactAreThreads", spec := "fnExactAreThreads", inPlace := ["math.Float32bits"], apart := false }
def FnExactAreThreadsSaid : Prop := fnExactAreThreadsRow.holds Try.pinned (OpenSpec.ofChange fnExactAreThreadsSpec)

/-- ITS FALSE NEIGHBOUR: 'it returns false'. Refute it at one input. -/
def fnExactAreThreadsWrong : ChangeSpec := { name := "fnExactAreThreads", fn := fun _ => fun
  | [d] => { results := [.lit (.bool false)], args := [d] }
  | _ => none }
def FnExactAreThreadsWrongFalsely : Prop := fnExactAreThreadsRow.holds Try.pinned (OpenSpec.ofChange fnExactAreThreadsWrong)

/-- 'laws.FnExactJoinThreads': WHATEVER THE INPUT: true; the input reads as it did. -/
def fnExactJoinThreadsSpec : ChangeSpec := { name := "fnExactJoinThreads", fn := fun _ => fun
  | [d1, d2, d3, d4] => { results := [.lit (.bool true)], args := [d1, d2, d3, d4] }
  | _ => none }
def fnExactJoinThreadsRow : OpenClaim := { program := "ytjkkefbfhapblaa", sum := "90d159b1d5327e869cff0c3cee1b6c4f1472e26979f5ad3b7556148547e7136b", func := "loop.example/g01266/laws.FnExactJoinThreads", spec := "fnExactJoinThreads", inPlace := ["math.Float32bits"], apart := false }
def FnExactJoinThreadsSaid : Prop := fnExactJoinThreadsRow.holds Try.pinned (OpenSpec.ofChange fnExactJoinThreadsSpec)

/-- ITS FALSE NEIGHBOUR: 'it returns false'. Refute it at one input. -/
def fnExactJoinThreadsWrong : ChangeSpec := { name := "fnExactJoinThreads", fn := fun _ => fun
  | [d1, d2, d3, d4] => { results := [.lit (.bool false)], args := [d1, d2, d3, d4] }
  | _ => none }
def FnExactJoinThreadsWrongFalsely : Prop := fnExactJoinThreadsRow.holds Try.pinned (OpenSpec.ofChange fnExactJoinThreadsWrong)

/-- 'laws.FnExactSplitThread': WHATEVER THE INPUT: true; the input reads as it did. -/
def fnExactSplitThreadSpec : ChangeSpec := { name := "fnExactSplitThread", fn := fun _ => fun
  | [d1, d2, d3] => { results := [.lit (.bool true)], args := [d1, d2, d3] }
  | _ => none }
def fnExactSplitThreadRow : OpenClaim := { program := "ytjkkefbfhapblaa", sum := "90d159b1d5327e869cff0c3cee1b6c4f1472e26979f5ad3b7556148547e7136b", func := "loop.example/g01266/laws.FnExactSplitThread", spec := "fnExactSplitThread", inPlace := ["math.Float32bits"], apart := false }
def FnExactSplitThreadSaid : Prop := fnExactSplitThreadRow.holds Try.pinned (OpenSpec.ofChange fnExactSplitThreadSpec)

/-- ITS FALSE NEIGHBOUR: 'it returns false'. Refute it at one input. -/
def fnExactSplitThreadWrong : ChangeSpec := { name := "fnExactSplitThread", fn := fun _ => fun
  | [d1, d2, d3] => { results := [.lit (.bool false)], args := [d1, d2, d3] }
  | _ => none }
def FnExactSplitThreadWrongFalsely : Prop := fnExactSplitThreadRow.holds Try.pinned (OpenSpec.ofChange fnExactSplitThreadWrong)

/-- 'laws.FnExactRespaceThread': WHATEVER THE INPUT: true; the input reads as it did. -/
def fnExactRespaceThreadSpec : ChangeSpec := { name := "fnExactRespaceThread", fn := fun _ => fun
  | [d1, d2] => { results := [.lit (.bool true)], args := [d1, d2] }
  | _ => none }
def fnExactRespaceThreadRow : OpenClaim := { program := "ytjkkefbfhapblaa", sum := "90d159b1d5327e869cff0c3cee1b6c4f1472e26979f5ad3b7556148547e7136b", func := "loop.example/g01266/laws.FnExactRespaceThread", spec := "fnExactRespaceThread", inPlace := ["math.sqrt", "math.Float32bits"], apart := false }
def FnExactRespaceThreadSaid : Prop := fnExactRespaceThreadRow.holds Try.pinned (OpenSpec.ofChange fnExactRespaceThreadSpec)

/-- ITS FALSE NEIGHBOUR: 'it returns false'. Refute it at one input. -/
def fnExactRespaceThreadWrong : ChangeSpec := { name := "fnExactRespaceThread", fn := fun _ => fun
  | [d1, d2] => { results := [.lit (.bool false)], args := [d1, d2] }
  | _ => none }
def FnExactRespaceThreadWrongFalsely : Prop := fnExactRespaceThreadRow.holds Try.pinned (OpenSpec.ofChange fnExactRespaceThreadWrong)

/-- 'laws.FnExactFlowByThreads': WHATEVER THE INPUT: true; the input reads as it did. -/
def fnExactFlowByThreadsSpec : ChangeSpec := { name := "fnExactFlowByThreads", fn := fun _ => fun
  | [d1, d2, d3] => { results := [.lit (.bool true)], args := [d1, d2, d3] }
  | _ => none }
def fnExactFlowByThreadsRow : OpenClaim := { program := "ytjkkefbfhapblaa", sum := "90d159b1d5327e869cff0c3cee1b6c4f1472e26979f5ad3b7556148547e7136b", func := "loop.example/g01266/laws.FnExactFlowByThreads", spec := "fnExactFlowByThreads", inPlace := ["math.sqrt", "math.Float32bits"], unfollowed := true, recurses := true, apart := false }
def FnExactFlowByThreadsSaid : Prop := fnExactFlowByThreadsRow.holds Try.pinned (OpenSpec.ofChange fnExactFlowByThreadsSpec)

/-- ITS FALSE NEIGHBOUR: 'it returns false'. Refute it at one input. -/
def fnExactFlowByThreadsWrong : ChangeSpec := { name := "fnExactFlowByThreads", fn := fun _ => fun
  | [d1, d2, d3] => { results := [.lit (.bool false)], args := [d1, d2, d3] }
  | _ => none }
def FnExactFlowByThreadsWrongFalsely : Prop := fnExactFlowByThreadsRow.holds Try.pinned (OpenSpec.ofChange fnExactFlowByThreadsWrong)

/- THE SECOND FORM. 'bulk': how many values and letters a reading holds, each counted each time it is reached (what is shared counts as often as it is met; a slice's spare places count too). A statement '..UptoSaid' is the law's where the arguments, and the package variables that the reading takes, are together of bulk at most 1048576: NARROWER than '..Said'. Prove '..Said' where nothing that the law and all that it calls make is longer than what came in: it says more and counts as full. Else prove '..UptoSaid'. A law counts once. -/
mutual
def uptoBulk {H : Type} : DataW H → Nat
  | .lit (.string bytes) => bytes.length + 1
  | .lit _ => 1
  | .nil => 1
  | .ptr d => uptoBulk d + 1
  | .slice elems spare => uptoBulkAll elems + uptoBulkAll spare + 1
  | .agg parts => uptoBulkAll parts + 1
  | .iface _ d => uptoBulk d + 1
  | .map entries => uptoBulkEntries entries + 1
  | .held _ => 1
def uptoBulkAll {H : Type} : List (DataW H) → Nat
  | [] => 0
  | d :: r => uptoBulk d + uptoBulkAll r
def uptoBulkEntries {H : Type} : List (Lit × DataW H) → Nat
  | [] => 0
  | x :: r => uptoBulkEntry x + uptoBulkEntries r
def uptoBulkEntry {H : Type} : Lit × DataW H → Nat
  | (.string bytes, d) => bytes.length + uptoBulk d + 1
  | (_, d) => uptoBulk d + 1
 end
def uptoSmall : (H : Type) → List (DataW H) → Bool := fun _ ds => decide (uptoBulkAll ds ≤ 1048576)
def OpenSpec.upto (s : _root_.Go.ChangeSpec) : _root_.Go.OpenSpec := { _root_.Go.OpenSpec.ofChange s with cond := some uptoSmall }

/-- 'laws.FnExactImpulseOfThread', WHERE WHAT IT READS IS OF BULK AT MOST 1048576: true; the input reads as it did. -/
def fnExactImpulseOfThreadUptoRow : OpenClaim := { program := "ytjkkefbfhapblaa", sum := "90d159b1d5327e869cff0c3cee1b6c4f1472e26979f5ad3b7556148547e7136b", func := "loop.example/g01266/laws.FnExactImpulseOfThread", spec := "fnExactImpulseOfThread", inPlace := ["math.Float32bits"], unfollowed := true, recurses := true, apart := false, narrowed := true }
def FnExactImpulseOfThreadUptoSaid : Prop := fnExactImpulseOfThreadUptoRow.holds Try.pinned (OpenSpec.upto fnExactImpulseOfThreadSpec)

/-- 'laws.FnExactBackThread', WHERE WHAT IT READS IS OF BULK AT MOST 1048576: true; the input reads as it did. -/
def fnExactBackThreadUptoRow : OpenClaim := { program := "ytjkkefbfhapblaa", sum := "90d159b1d5327e869cff0c3cee1b6c4f1472e26979f5ad3b7556148547e7136b", func := "loop.example/g01266/laws.FnExactBackThread", spec := "fnExactBackThread", inPlace := ["math.Float32bits"], apart := false, narrowed := true }
def FnExactBackThreadUptoSaid : Prop := fnExactBackThreadUptoRow.holds Try.pinned (OpenSpec.upto fnExactBackThreadSpec)

/-- 'laws.FnExactSameThread', WHERE WHAT IT READS IS OF BULK AT MOST 1048576: true; the input reads as it did. -/
def fnExactSameThreadUptoRow : OpenClaim := { program := "ytjkkefbfhapblaa", sum := "90d159b1d5327e869cff0c3cee1b6c4f1472e26979f5ad3b7556148547e7136b", func := "loop.example/g01266/laws.FnExactSameThread", spec := "fnExactSameThread", inPlace := ["math.Float32bits"], apart := false, narrowed := true }
def FnExactSameThreadUptoSaid : Prop := fnExactSameThreadUptoRow.holds Try.pinned (OpenSpec.upto fnExactSameThreadSpec)

/-- 'laws.FnExactNearestOfThreads', WHERE WHAT IT READS IS OF BULK AT MOST 1048576: true; the input reads as it did. -/
def fnExactNearestOfThreadsUptoRow : OpenClaim := { program := "ytjkkefbfhapblaa", sum := "90d159b1d5327e869cff0c3cee1b6c4f1472e26979f5ad3b7556148547e7136b", func := "loop.example/g01266/laws.FnExactNearestOfThreads", spec := "fnExactNearestOfThreads", inPlace := ["math.sqrt", "math.Float32bits", "math.Float64frombits"], apart := false, narrowed := true }
def FnExactNearestOfThreadsUptoSaid : Prop := fnExactNearestOfThreadsUptoRow.holds Try.pinned (OpenSpec.upto fnExactNearestOfThreadsSpec)

/-- 'laws.FnExactLinkOfThreads', WHERE WHAT IT READS IS OF BULK AT MOST 1048576: true; the input reads as it did. -/
def fnExactLinkOfThreadsUptoRow : OpenClaim := { program := "ytjkkefbfhapblaa", sum := "90d159b1d5327e869cff0c3cee1b6c4f1472e26979f5ad3b7556148547e7136b", func := "loop.example/g01266/laws.FnExactLinkOfThreads", spec := "fnExactLinkOfThreads", inPlace := ["math.sqrt", "math.RoundToEven", "math.Float32bits"], apart := false, narrowed := true }
def FnExactLinkOfThreadsUptoSaid : Prop := fnExactLinkOfThreadsUptoRow.holds Try.pinned (OpenSpec.upto fnExactLinkOfThreadsSpec)

/-- 'laws.FnExactAreThreads', WHERE WHAT IT READS IS OF BULK AT MOST 1048576: true; the input reads as it did. -/
def fnExactAreThreadsUptoRow : OpenClaim := { program := "ytjkkefbfhapblaa", sum := "90d159b1d5327e869cff0c3cee1b6c4f1472e26979f5ad3b7556148547e7136b", func := "loop.example/g01266/laws.FnExactAreThreads", spec := "fnExactAreThreads", inPlace := ["math.Float32bits"], apart := false, narrowed := true }
def FnExactAreThreadsUptoSaid : Prop := fnExactAreThreadsUptoRow.holds Try.pinned (OpenSpec.upto fnExactAreThreadsSpec)

/-- 'laws.FnExactJoinThreads', WHERE WHAT IT READS IS OF BULK AT MOST 1048576: true; the input reads as it did. -/
def fnExactJoinThreadsUptoRow : OpenClaim := { program := "ytjkkefbfhapblaa", sum := "90d159b1d5327e869cff0c3cee1b6c4f1472e26979f5ad3b7556148547e7136b", func := "loop.example/g01266/laws.FnExactJoinThreads", spec := "fnExactJoinThreads", inPlace := ["math.Float32bits"], apart := false, narrowed := true }
def FnExactJoinThreadsUptoSaid : Prop := fnExactJoinThreadsUptoRow.holds Try.pinned (OpenSpec.upto fnExactJoinThreadsSpec)

/-- 'laws.FnExactSplitThread', WHERE WHAT IT READS IS OF BULK AT MOST 1048576: true; the input reads as it did. -/
def fnExactSplitThreadUptoRow : OpenClaim := { program := "ytjkkefbfhapblaa", sum := "90d159b1d5327e869cff0c3cee1b6c4f1472e26979f5ad3b7556148547e7136b", func := "loop.example/g01266/laws.FnExactSplitThread", spec := "fnExactSplitThread", inPlace := ["math.Float32bits"], apart := false, narrowed := true }
def FnExactSplitThreadUptoSaid : Prop := fnExactSplitThreadUptoRow.holds Try.pinned (OpenSpec.upto fnExactSplitThreadSpec)

/-- 'laws.FnExactRespaceThread', WHERE WHAT IT READS IS OF BULK AT MOST 1048576: true; the input reads as it did. -/
def fnExactRespaceThreadUptoRow : OpenClaim := { program := "ytjkkefbfhapblaa", sum := "90d159b1d5327e869cff0c3cee1b6c4f1472e26979f5ad3b7556148547e7136b", func := "loop.example/g01266/laws.FnExactRespaceThread", spec := "fnExactRespaceThread", inPlace := ["math.sqrt", "math.Float32bits"], apart := false, narrowed := true }
def FnExactRespaceThreadUptoSaid : Prop := fnExactRespaceThreadUptoRow.holds Try.pinned (OpenSpec.upto fnExactRespaceThreadSpec)

/-- 'laws.FnExactFlowByThreads', WHERE WHAT IT READS IS OF BULK AT MOST 1048576: true; the input reads as it did. -/
def fnExactFlowByThreadsUptoRow : OpenClaim := { program := "ytjkkefbfhapblaa", sum := "90d159b1d5327e869cff0c3cee1b6c4f1472e26979f5ad3b7556148547e7136b", func := "loop.example/g01266/laws.FnExactFlowByThreads", spec := "fnExactFlowByThreads", inPlace := ["math.sqrt", "math.Float32bits"], unfollowed := true, recurses := true, apart := false, narrowed := true }
def FnExactFlowByThreadsUptoSaid : Prop := fnExactFlowByThreadsUptoRow.holds Try.pinned (OpenSpec.upto fnExactFlowByThreadsSpec)

end Rows
end Go.Proofs.Ytjkkefbfhapblaa
