/-
  No cell of these rows narrows 'for every input' (looked for: loops, veiled, ifaces, maps, wideKeys, modest, calm, conditions, laid).
  DERIVED. THE GIVEN ROWS OF THIS SEAT. 12 by the template 'for every input the law returns true; each argument reads behind the call as it read before'; 0 by the template 'total and deterministic' (their statements: YtggklnanhiomjabTotals.lean).
  GIVEN WITH THE SEED: the statements are not yours to turn. If you find one false, say at which input.
  Laid BY PROGRAM, IN A SANDBOX (cutbox-rows.mjs): the forced cells as the released guide's own fill.sh prints them over the translation 3aff01cdcfbcd968… (all of the seat's roots in one cut). By AI agents, Wed Nov 11 2026. No macro, syntax, notation, axiom, sorry.
-/
import Derived.Test.YtggklnanhiomjabChecked
import GoSem.Claim
import GoSem.ClaimJoined
import GoSem.ClaimMapViews
import Derived.JoinedTies
import Derived.KernelRfl
namespace Go.Proofs.Ytggklnanhiomjab
/- THE CELL 'sum', in the pinned program and in every row, IS THE sha256 OF THE DUMP (.gsa) THAT YtggklnanhiomjabProg.lean LOADS. Nothing in Lean hashes anything: it is a label: what it is worth is what the hold of that sum in a sandbox is worth. -/
noncomputable def Try.pinned : Pinned := { name := "ytggklnanhiomjab", sum := "3aff01cdcfbcd968512c93cf5885ec58ccd9229cb8f7dcdb8c3bdc387ddc95b9", checked := Try.checked }
namespace Rows
def none {H : Type} : Left H := { results := [], args := [] }

/-- 'laws.FnExactRingThread': WHATEVER THE INPUT: true; the input reads as it did. -/
def fnExactRingThreadSpec : ChangeSpec := { name := "fnExactRingThread", fn := fun _ => fun
  | [d1, d2, d3, d4] => { results := [.lit (.bool true)], args := [d1, d2, d3, d4] }
  | _ => none }
def fnExactRingThreadRow : OpenClaim := { program := "ytggklnanhiomjab", sum := "3aff01cdcfbcd968512c93cf5885ec58ccd9229cb8f7dcdb8c3bdc387ddc95b9", func := "loop.example/g01266/laws.FnExactRingThread", spec := "fnExactRingThread", inPlace := ["math.Float64frombits", "math.Float32bits", "math.Float32frombits", "math.Float64bits"], unfollowed := true, recurses := true, apart := false }
def FnExactRingThreadSaid : Prop := fnExactRingThreadRow.holds Try.pinned (OpenSpec.ofChange fnExactRingThreadSpec)

/-- ITS FALSE NEIGHBOUR: 'it returns false'. Refute it at one input. -/
def fnExactRingThreadWrong : ChangeSpec := { name := "fnExactRingThread", fn := fun _ => fun
  | [d1, d2, d3, d4] => { results := [.lit (.bool false)], args := [d1, d2, d3, d4] }
  | _ => none }
def FnExactRingThreadWrongFalsely : Prop := fnExactRingThreadRow.holds Try.pinned (OpenSpec.ofChange fnExactRingThreadWrong)

/-- 'laws.FnExactWaveThread': WHATEVER THE INPUT: true; the input reads as it did. -/
def fnExactWaveThreadSpec : ChangeSpec := { name := "fnExactWaveThread", fn := fun _ => fun
  | [d1, d2, d3, d4, d5] => { results := [.lit (.bool true)], args := [d1, d2, d3, d4, d5] }
  | _ => none }
def fnExactWaveThreadRow : OpenClaim := { program := "ytggklnanhiomjab", sum := "3aff01cdcfbcd968512c93cf5885ec58ccd9229cb8f7dcdb8c3bdc387ddc95b9", func := "loop.example/g01266/laws.FnExactWaveThread", spec := "fnExactWaveThread", inPlace := ["math.Float64frombits", "math.Float32bits", "math.Float32frombits", "math.Float64bits"], unfollowed := true, recurses := true, apart := false }
def FnExactWaveThreadSaid : Prop := fnExactWaveThreadRow.holds Try.pinned (OpenSpec.ofChange fnExactWaveThreadSpec)

/-- ITS FALSE NEIGHBOUR: 'it returns false'. Refute it at one input. -/
def fnExactWaveThreadWrong : ChangeSpec := { name := "fnExactWaveThread", fn := fun _ => fun
  | [d1, d2, d3, d4, d5] => { results := [.lit (.bool false)], args := [d1, d2, d3, d4, d5] }
  | _ => none }
def FnExactWaveThreadWrongFalsely : Prop := fnExactWaveThreadRow.holds Try.pinned (OpenSpec.ofChange fnExactWaveThreadWrong)

/-- 'laws.FnExactRingSpeed': WHATEVER THE INPUT: true; the input reads as it did. -/
def fnExactRingSpeedSpec : ChangeSpec := { name := "fnExactRingSpeed", fn := fun _ => fun
  | [d1, d2, d3] => { results := [.lit (.bool true)], args := [d1, d2, d3] }
  | _ => none }
def fnExactRingSpeedRow : OpenClaim := { program := "ytggklnanhiomjab", sum := "3aff01cdcfbcd968512c93cf5885ec58ccd9229cb8f7dcdb8c3bdc387ddc95b9", func := "loop.example/g01266/laws.FnExactRingSpeed", spec := "fnExactRingSpeed", inPlace := ["math.Float64frombits", "math.Float64bits", "math.Float32bits", "math.Float32frombits"], apart := false }
def FnExactRingSpeedSaid : Prop := fnExactRingSpeedRow.holds Try.pinned (OpenSpec.ofChange fnExactRingSpeedSpec)

/-- ITS FALSE NEIGHBOUR: 'it returns false'. Refute it at one input. -/
def fnExactRingSpeedWrong : ChangeSpec := { name := "fnExactRingSpeed", fn := fun _ => fun
  | [d1, d2, d3] => { results := [.lit (.bool false)], args := [d1, d2, d3] }
  | _ => none }
def FnExactRingSpeedWrongFalsely : Prop := fnExactRingSpeedRow.holds Try.pinned (OpenSpec.ofChange fnExactRingSpeedWrong)

/-- 'laws.FnExactIsThread': WHATEVER THE INPUT: true; the input reads as it did. -/
def fnExactIsThreadSpec : ChangeSpec := { name := "fnExactIsThread", fn := fun _ => fun
  | [d] => { results := [.lit (.bool true)], args := [d] }
  | _ => none }
def fnExactIsThreadRow : OpenClaim := { program := "ytggklnanhiomjab", sum := "3aff01cdcfbcd968512c93cf5885ec58ccd9229cb8f7dcdb8c3bdc387ddc95b9", func := "loop.example/g01266/laws.FnExactIsThread", spec := "fnExactIsThread", inPlace := ["math.Float32bits"], apart := false }
def FnExactIsThreadSaid : Prop := fnExactIsThreadRow.holds Try.pinned (OpenSpec.ofChange fnExactIsThreadSpec)

/-- ITS FALSE NEIGHBOUR: 'it returns false'. Refute it at one input. -/
def fnExactIsThreadWrong : ChangeSpec := { name := "fnExactIsThread", fn := fun _ => fun
  | [d] => { results := [.lit (.bool false)], args := [d] }
  | _ => none }
def FnExactIsThreadWrongFalsely : Prop := fnExactIsThreadRow.holds Try.pinned (OpenSpec.ofChange fnExactIsThreadWrong)

/-- 'laws.FnExactSameThread': WHATEVER THE INPUT: true; the input reads as it did. -/
def fnExactSameThreadSpec : ChangeSpec := { name := "fnExactSameThread", fn := fun _ => fun
  | [d1, d2] => { results := [.lit (.bool true)], args := [d1, d2] }
  | _ => none }
def fnExactSameThreadRow : OpenClaim := { program := "ytggklnanhiomjab", sum := "3aff01cdcfbcd968512c93cf5885ec58ccd9229cb8f7dcdb8c3bdc387ddc95b9", func := "loop.example/g01266/laws.FnExactSameThread", spec := "fnExactSameThread", inPlace := ["math.Float32bits"], apart := false }
def FnExactSameThreadSaid : Prop := fnExactSameThreadRow.holds Try.pinned (OpenSpec.ofChange fnExactSameThreadSpec)

/-- ITS FALSE NEIGHBOUR: 'it returns false'. Refute it at one input. -/
def fnExactSameThreadWrong : ChangeSpec := { name := "fnExactSameThread", fn := fun _ => fun
  | [d1, d2] => { results := [.lit (.bool false)], args := [d1, d2] }
  | _ => none }
def FnExactSameThreadWrongFalsely : Prop := fnExactSameThreadRow.holds Try.pinned (OpenSpec.ofChange fnExactSameThreadWrong)

/-- 'laws.FnExactMoveThread': WHATEVER THE INPUT: true; the input reads as it did. -/
def fnExactMoveThreadSpec : ChangeSpec := { name := "fnExactMoveThread", fn := fun _ => fun
  | [d1, d2] => { results := [.lit (.bool true)], args := [d1, d2] }
  | _ => none }
def fnExactMoveThreadRow : OpenClaim := { program := "ytggklnanhiomjab", sum := "3aff01cdcfbcd968512c93cf5885ec58ccd9229cb8f7dcdb8c3bdc387ddc95b9", func := "loop.example/g01266/laws.FnExactMoveThread", spec := "fnExactMoveThread", inPlace := ["math.Float32bits"], unfollowed := true, recurses := true, apart := false }
def FnExactMoveThreadSaid : Prop := fnExactMoveThreadRow.holds Try.pinned (OpenSpec.ofChange fnExactMoveThreadSpec)

/-- ITS FALSE NEIGHBOUR: 'it returns false'. Refute it at one input. -/
def fnExactMoveThreadWrong : ChangeSpec := { name := "fnExactMoveThread", fn := fun _ => fun
  | [d1, d2] => { results := [.lit (.bool false)], args := [d1, d2] }
  | _ => none }
def FnExactMoveThreadWrongFalsely : Prop := fnExactMoveThreadRow.holds Try.pinned (OpenSpec.ofChange fnExactMoveThreadWrong)

/-- 'laws.FnExactTurnThread': WHATEVER THE INPUT: true; the input reads as it did. -/
def fnExactTurnThreadSpec : ChangeSpec := { name := "fnExactTurnThread", fn := fun _ => fun
  | [d1, d2] => { results := [.lit (.bool true)], args := [d1, d2] }
  | _ => none }
def fnExactTurnThreadRow : OpenClaim := { program := "ytggklnanhiomjab", sum := "3aff01cdcfbcd968512c93cf5885ec58ccd9229cb8f7dcdb8c3bdc387ddc95b9", func := "loop.example/g01266/laws.FnExactTurnThread", spec := "fnExactTurnThread", inPlace := ["math.Float64frombits", "math.Float32bits", "math.Float32frombits", "math.Float64bits"], unfollowed := true, recurses := true, apart := false }
def FnExactTurnThreadSaid : Prop := fnExactTurnThreadRow.holds Try.pinned (OpenSpec.ofChange fnExactTurnThreadSpec)

/-- ITS FALSE NEIGHBOUR: 'it returns false'. Refute it at one input. -/
def fnExactTurnThreadWrong : ChangeSpec := { name := "fnExactTurnThread", fn := fun _ => fun
  | [d1, d2] => { results := [.lit (.bool false)], args := [d1, d2] }
  | _ => none }
def FnExactTurnThreadWrongFalsely : Prop := fnExactTurnThreadRow.holds Try.pinned (OpenSpec.ofChange fnExactTurnThreadWrong)

/-- 'laws.FnExactScaleThread': WHATEVER THE INPUT: true; the input reads as it did. -/
def fnExactScaleThreadSpec : ChangeSpec := { name := "fnExactScaleThread", fn := fun _ => fun
  | [d1, d2] => { results := [.lit (.bool true)], args := [d1, d2] }
  | _ => none }
def fnExactScaleThreadRow : OpenClaim := { program := "ytggklnanhiomjab", sum := "3aff01cdcfbcd968512c93cf5885ec58ccd9229cb8f7dcdb8c3bdc387ddc95b9", func := "loop.example/g01266/laws.FnExactScaleThread", spec := "fnExactScaleThread", inPlace := ["math.Float32bits"], unfollowed := true, recurses := true, apart := false }
def FnExactScaleThreadSaid : Prop := fnExactScaleThreadRow.holds Try.pinned (OpenSpec.ofChange fnExactScaleThreadSpec)

/-- ITS FALSE NEIGHBOUR: 'it returns false'. Refute it at one input. -/
def fnExactScaleThreadWrong : ChangeSpec := { name := "fnExactScaleThread", fn := fun _ => fun
  | [d1, d2] => { results := [.lit (.bool false)], args := [d1, d2] }
  | _ => none }
def FnExactScaleThreadWrongFalsely : Prop := fnExactScaleThreadRow.holds Try.pinned (OpenSpec.ofChange fnExactScaleThreadWrong)

/-- 'laws.FnExactBackThread': WHATEVER THE INPUT: true; the input reads as it did. -/
def fnExactBackThreadSpec : ChangeSpec := { name := "fnExactBackThread", fn := fun _ => fun
  | [d] => { results := [.lit (.bool true)], args := [d] }
  | _ => none }
def fnExactBackThreadRow : OpenClaim := { program := "ytggklnanhiomjab", sum := "3aff01cdcfbcd968512c93cf5885ec58ccd9229cb8f7dcdb8c3bdc387ddc95b9", func := "loop.example/g01266/laws.FnExactBackThread", spec := "fnExactBackThread", inPlace := ["math.Float32bits"], apart := false }
def FnExactBackThreadSaid : Prop := fnExactBackThreadRow.holds Try.pinned (OpenSpec.ofChange fnExactBackThreadSpec)

/-- ITS FALSE NEIGHBOUR: 'it returns false'. Refute it at one input. -/
def fnExactBackThreadWrong : ChangeSpec := { name := "fnExactBackThread", fn := fun _ => fun
  | [d] => { results := [.lit (.bool false)], args := [d] }
  | _ => none }
def FnExactBackThreadWrongFalsely : Prop := fnExactBackThreadRow.holds Try.pinned (OpenSpec.ofChange fnExactBackThreadWrong)

/-- 'laws.FnExactShiftThread': WHATEVER THE INPUT: true; the input reads as it did. -/
def fnExactShiftThreadSpec : ChangeSpec := { name := "fnExactShiftThread", fn := fun _ => fun
  | [d1, d2] => { results := [.lit (.bool true)], args := [d1, d2] }
  | _ => none }
def fnExactShiftThreadRow : OpenClaim := { program := "ytggklnanhiomjab", sum := "3aff01cdcfbcd968512c93cf5885ec58ccd9229cb8f7dcdb8c3bdc387ddc95b9", func := "loop.example/g01266/laws.FnExactShiftThread", spec := "fnExactShiftThread", inPlace := ["math.Float32bits"], apart := false }
def FnExactShiftThreadSaid : Prop := fnExactShiftThreadRow.holds Try.pinned (OpenSpec.ofChange fnExactShiftThreadSpec)

/-- ITS FALSE NEIGHBOUR: 'it returns false'. Refute it at one input. -/
def fnExactShiftThreadWrong : ChangeSpec := { name := "fnExactShiftThread", fn := fun _ => fun
  | [d1, d2] => { results := [.lit (.bool false)], args := [d1, d2] }
  | _ => none }
def FnExactShiftThreadWrongFalsely : Prop := fnExactShiftThreadRow.holds Try.pinned (OpenSpec.ofChange fnExactShiftThreadWrong)

/-- 'laws.FnExactLengthOfThread': WHATEVER THE INPUT: true; the input reads as it did. -/
def fnExactLengthOfThreadSpec : ChangeSpec := { name := "fnExactLengthOfThread", fn := fun _ => fun
  | [d] => { results := [.lit (.bool true)], args := [d] }
  | _ => none }
def fnExactLengthOfThreadRow : OpenClaim := { program := "ytggklnanhiomjab", sum := "3aff01cdcfbcd968512c93cf5885ec58ccd9229cb8f7dcdb8c3bdc387ddc95b9", func := "loop.example/g01266/laws.FnExactLengthOfThread", spec := "fnExactLengthOfThread", inPlace := ["math.sqrt", "math.Float32bits"], apart := false }
def FnExactLengthOfThreadSaid : Prop := fnExactLengthOfThreadRow.holds Try.pinned (OpenSpec.ofChange fnExactLengthOfThreadSpec)

/-- ITS FALSE NEIGHBOUR: 'it returns false'. Refute it at one input. -/
def fnExactLengthOfThreadWrong : ChangeSpec := { name := "fnExactLengthOfThread", fn := fun _ => fun
  | [d] => { results := [.lit (.bool false)], args := [d] }
  | _ => none }
def FnExactLengthOfThreadWrongFalsely : Prop := fnExactLengthOfThreadRow.holds Try.pinned (OpenSpec.ofChange fnExactLengthOfThreadWrong)

/-- 'laws.FnExactAreaOfThread': WHATEVER THE INPUT: true; the input reads as it did. -/
def fnExactAreaOfThreadSpec : ChangeSpec := { name := "fnExactAreaOfThread", fn := fun _ => fun
  | [d] => { results := [.lit (.bool true)], args := [d] }
  | _ => none }
def fnExactAreaOfThreadRow : OpenClaim := { program := "ytggklnanhiomjab", sum := "3aff01cdcfbcd968512c93cf5885ec58ccd9229cb8f7dcdb8c3bdc387ddc95b9", func := "loop.example/g01266/laws.FnExactAreaOfThread", spec := "fnExactAreaOfThread", inPlace := ["math.Float32bits"], unfollowed := true, recurses := true, apart := false }
def FnExactAreaOfThreadSaid : Prop := fnExactAreaOfThreadRow.holds Try.pinned (OpenSpec.ofChange fnExactAreaOfThreadSpec)

/-- ITS FALSE NEIGHBOUR: 'it returns false'. Refute it at one input. -/
def fnExactAreaOfThreadWrong : ChangeSpec := { name := "fnExactAreaOfThread", fn := fun _ => fun
  | [d] => { results := [.lit (.bool false)], args := [d] }
  | _ => none }
def FnExactAreaOfThreadWrongFalsely : Prop := fnExactAreaOfThreadRow.holds Try.pinned (OpenSpec.ofChange fnExactAreaOfThreadWrong)

/- THE SECOND FORM. 'bulk': how many values and letters a reading holds, each counted each time it is reached (what is shared counts as often as it is met; a slice's spare places count too). A statement '..UptoSaid' is the law's where the arguments, and the package variables that the reading takes, are together of bulk at most 1048576: NARROWER than '..Said'. Prove '..Said' where nothing that the law and all that it calls make is longer than what came in: it says more and counts as full. Else prove '..UptoSaid'. A law counts once. -/
mutual
def uptoBulk {H : Type} : DataW H → Nat
  | .lit (.string bytes) => bytes.length + 1
  | .lit _ => 1
  | .nil => 1
  | .ptr d => uptoBulk d + 1
  | .slice elems spare => uptoBulkAll elems + uptoBulkAll spare + 1
  | .agg parts => uptoBulkAll parts + 1
  | .iface _ d => uptoBulk d + 1
  | .map entries => uptoBulkEntries entries + 1
  | .held _ => 1
def uptoBulkAll {H : Type} : List (DataW H) → Nat
  | [] => 0
  | d :: r => uptoBulk d + uptoBulkAll r
def uptoBulkEntries {H : Type} : List (Lit × DataW H) → Nat
  | [] => 0
  | x :: r => uptoBulkEntry x + uptoBulkEntries r
def uptoBulkEntry {H : Type} : Lit × DataW H → Nat
  | (.string bytes, d) => bytes.length + uptoBulk d + 1
  | (_, d) => uptoBulk d + 1
 end
def uptoSmall : (H : Type) → List (DataW H) → Bool := fun _ ds => decide (uptoBulkAll ds ≤ 1048576)
def OpenSpec.upto (s : _root_.Go.ChangeSpec) : _root_.Go.OpenSpec := { _root_.Go.OpenSpec.ofChange s with cond := some uptoSmall }

/-- 'laws.FnExactRingThread', WHERE WHAT IT READS IS OF BULK AT MOST 1048576: true; the input reads as it did. -/
def fnExactRingThreadUptoRow : OpenClaim := { program := "ytggklnanhiomjab", sum := "3aff01cdcfbcd968512c93cf5885ec58ccd9229cb8f7dcdb8c3bdc387ddc95b9", func := "loop.example/g01266/laws.FnExactRingThread", spec := "fnExactRingThread", inPlace := ["math.Float64frombits", "math.Float32bits", "math.Float32frombits", "math.Float64bits"], unfollowed := true, recurses := true, apart := false, narrowed := true }
def FnExactRingThreadUptoSaid : Prop := fnExactRingThreadUptoRow.holds Try.pinned (OpenSpec.upto fnExactRingThreadSpec)

/-- 'laws.FnExactWaveThread', WHERE WHAT IT READS IS OF BULK AT MOST 1048576: true; the input reads as it did. -/
def fnExactWaveThreadUptoRow : OpenClaim := { program := "ytggklnanhiomjab", sum := "3aff01cdcfbcd968512c93cf5885ec58ccd9229cb8f7dcdb8c3bdc387ddc95b9", func := "loop.example/g01266/laws.FnExactWaveThread", spec := "fnExactWaveThread", inPlace := ["math.Float64frombits", "math.Float32bits", "math.Float32frombits", "math.Float64bits"], unfollowed := true, recurses := true, apart := false, narrowed := true }
def FnExactWaveThreadUptoSaid : Prop := fnExactWaveThreadUptoRow.holds Try.pinned (OpenSpec.upto fnExactWaveThreadSpec)

/-- 'laws.FnExactRingSpeed', WHERE WHAT IT READS IS OF BULK AT MOST 1048576: true; the input reads as it did. -/
def fnExactRingSpeedUptoRow : OpenClaim := { program := "ytggklnanhiomjab", sum := "3aff01cdcfbcd968512c93cf5885ec58ccd9229cb8f7dcdb8c3bdc387ddc95b9", func := "loop.example/g01266/laws.FnExactRingSpeed", spec := "fnExactRingSpeed", inPlace := ["math.Float64frombits", "math.Float64bits", "math.Float32bits", "math.Float32frombits"], apart := false, narrowed := true }
def FnExactRingSpeedUptoSaid : Prop := fnExactRingSpeedUptoRow.holds Try.pinned (OpenSpec.upto fnExactRingSpeedSpec)

/-- 'laws.FnExactIsThread', WHERE WHAT IT READS IS OF BULK AT MOST 1048576: true; the input reads as it did. -/
def fnExactIsThreadUptoRow : OpenClaim := { program := "ytggklnanhiomjab", sum := "3aff01cdcfbcd968512c93cf5885ec58ccd9229cb8f7dcdb8c3bdc387ddc95b9", func := "loop.example/g01266/laws.FnExactIsThread", spec := "fnExactIsThread", inPlace := ["math.Float32bits"], apart := false, narrowed := true }
def FnExactIsThreadUptoSaid : Prop := fnExactIsThreadUptoRow.holds Try.pinned (OpenSpec.upto fnExactIsThreadSpec)

/-- 'laws.FnExactSameThread', WHERE WHAT IT READS IS OF BULK AT MOST 1048576: true; the input reads as it did. -/
def fnExactSameThreadUptoRow : OpenClaim := { program := "ytggklnanhiomjab", sum := "3aff01cdcfbcd968512c93cf5885ec58ccd9229cb8f7dcdb8c3bdc387ddc95b9", func := "loop.example/g01266/laws.FnExactSameThread", spec := "fnExactSameThread", inPlace := ["math.Float32bits"], apart := false, narrowed := true }
def FnExactSameThreadUptoSaid : Prop := fnExactSameThreadUptoRow.holds Try.pinned (OpenSpec.upto fnExactSameThreadSpec)

/-- 'laws.FnExactMoveThread', WHERE WHAT IT READS IS OF BULK AT MOST 1048576: true; the input reads as it did. -/
def fnExactMoveThreadUptoRow : OpenClaim := { program := "ytggklnanhiomjab", sum := "3aff01cdcfbcd968512c93cf5885ec58ccd9229cb8f7dcdb8c3bdc387ddc95b9", func := "loop.example/g01266/laws.FnExactMoveThread", spec := "fnExactMoveThread", inPlace := ["math.Float32bits"], unfollowed := true, recurses := true, apart := false, narrowed := true }
def FnExactMoveThreadUptoSaid : Prop := fnExactMoveThreadUptoRow.holds Try.pinned (OpenSpec.upto fnExactMoveThreadSpec)

/-- 'laws.FnExactTurnThread', WHERE WHAT IT READS IS OF BULK AT MOST 1048576: true; the input reads as it did. -/
def fnExactTurnThreadUptoRow : OpenClaim := { program := "ytggklnanhiomjab", sum := "3aff01cdcfbcd968512c93cf5885ec58ccd9229cb8f7dcdb8c3bdc387ddc95b9", func := "loop.example/g01266/laws.FnExactTurnThread", spec := "fnExactTurnThread", inPlace := ["math.Float64frombits", "math.Float32bits", "math.Float32frombits", "math.Float64bits"], unfollowed := true, recurses := true, apart := false, narrowed := true }
def FnExactTurnThreadUptoSaid : Prop := fnExactTurnThreadUptoRow.holds Try.pinned (OpenSpec.upto fnExactTurnThreadSpec)

/-- 'laws.FnExactScaleThread', WHERE WHAT IT READS IS OF BULK AT MOST 1048576: true; the input reads as it did. -/
def fnExactScaleThreadUptoRow : OpenClaim := { program := "ytggklnanhiomjab", sum := "3aff01cdcfbcd968512c93cf5885ec58ccd9229cb8f7dcdb8c3bdc387ddc95b9", func := "loop.example/g01266/laws.FnExactScaleThread", spec := "fnExactScaleThread", inPlace := ["math.Float32bits"], unfollowed := true, recurses := true, apart := false, narrowed := true }
def FnExactScaleThreadUptoSaid : Prop := fnExactScaleThreadUptoRow.holds Try.pinned (OpenSpec.upto fnExactScaleThreadSpec)

/-- 'laws.FnExactBackThread', WHERE WHAT IT READS IS OF BULK AT MOST 1048576: true; the input reads as it did. -/
def fnExactBackThreadUptoRow : OpenClaim := { program := "ytggklnanhiomjab", sum := "3aff01cdcfbcd968512c93cf5885ec58ccd9229cb8f7dcdb8c3bdc387ddc95b9", func := "loop.example/g01266/laws.FnExactBackThread", spec := "fnExactBackThread", inPlace := ["math.Float32bits"], apart := false, narrowed := true }
def FnExactBackThreadUptoSaid : Prop := fnExactBackThreadUptoRow.holds Try.pinned (OpenSpec.upto fnExactBackThreadSpec)

/-- 'laws.FnExactShiftThread', WHERE WHAT IT READS IS OF BULK AT MOST 1048576: true; the input reads as it did. -/
def fnExactShiftThreadUptoRow : OpenClaim := { program := "ytggklnanhiomjab", sum := "3aff01cdcfbcd968512c93cf5885ec58ccd9229cb8f7dcdb8c3bdc387ddc95b9", func := "loop.example/g01266/laws.FnExactShiftThread", spec := "fnExactShiftThread", inPlace := ["math.Float32bits"], apart := false, narrowed := true }
def FnExactShiftThreadUptoSaid : Prop := fnExactShiftThreadUptoRow.holds Try.pinned (OpenSpec.upto fnExactShiftThreadSpec)

/-- 'laws.FnExactLengthOfThread', WHERE WHAT IT READS IS OF BULK AT MOST 1048576: true; the input reads as it did. -/
def fnExactLengthOfThreadUptoRow : OpenClaim := { program := "ytggklnanhiomjab", sum := "3aff01cdcfbcd968512c93cf5885ec58ccd9229cb8f7dcdb8c3bdc387ddc95b9", func := "loop.example/g01266/laws.FnExactLengthOfThread", spec := "fnExactLengthOfThread", inPlace := ["math.sqrt", "math.Float32bits"], apart := false, narrowed := true }
def FnExactLengthOfThreadUptoSaid : Prop := fnExactLengthOfThreadUptoRow.holds Try.pinned (OpenSpec.upto fnExactLengthOfThreadSpec)

/-- 'laws.FnExactAreaOfThread', WHERE WHAT IT READS IS OF BULK AT MOST 1048576: true; the input reads as it did. -/
def fnExactAreaOfThreadUptoRow : OpenClaim := { program := "ytggklnanhiomjab", sum := "3aff01cdcfbcd968512c93cf5885ec58ccd9229cb8f7dcdb8c3bdc387ddc95b9", func := "loop.example/g01266/laws.FnExactAreaOfThread", spec := "fnExactAreaOfThread", inPlace := ["math.Float32bits"], unfollowed := true, recurses := true, apart := false, narrowed := true }
def FnExactAreaOfThreadUptoSaid : Prop := fnExactAreaOfThreadUptoRow.holds Try.pinned (OpenSpec.upto fnExactAreaOfThreadSpec)

end Rows
end Go.Proofs.Ytggklnanhiomjab
