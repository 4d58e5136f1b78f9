/-
  No cell of these rows narrows 'for every input' (looked for: loops, veiled, ifaces, maps, wideKeys, modest, calm, conditions, laid).
  DERIVED. THE GIVEN ROWS OF THIS SEAT. 12 by the template 'for every input the law returns true; each argument reads behind the call as it read before'; 0 by the template 'total and deterministic' (their statements: YtdejkkledamkeaaTotals.lean).
  GIVEN WITH THE SEED: the statements are not yours to turn. If you find one false, say at which input.
  Laid BY PROGRAM, IN A SANDBOX (cutbox-rows.mjs): the forced cells as the released guide's own fill.sh prints them over the translation 191b66784e267821… (all of the seat's roots in one cut). By AI agents, Wed Nov 11 2026. No macro, syntax, notation, axiom, sorry.
-/
import Derived.Test.YtdejkkledamkeaaChecked
import GoSem.Claim
import GoSem.ClaimJoined
import GoSem.ClaimMapViews
import Derived.JoinedTies
import Derived.KernelRfl
namespace Go.Proofs.Ytdejkkledamkeaa
/- THE CELL 'sum', in the pinned program and in every row, IS THE sha256 OF THE DUMP (.gsa) THAT YtdejkkledamkeaaProg.lean LOADS. Nothing in Lean hashes anything: it is a label: what it is worth is what the hold of that sum in a sandbox is worth. -/
noncomputable def Try.pinned : Pinned := { name := "ytdejkkledamkeaa", sum := "191b66784e2678214e56f267265cfc239c0ba2f844337323e9fc2e80d7190f39", checked := Try.checked }
namespace Rows
def none {H : Type} : Left H := { results := [], args := [] }

/-- 'laws.FnExactValidBasin': WHATEVER THE INPUT: true; the input reads as it did. -/
def fnExactValidBasinSpec : ChangeSpec := { name := "fnExactValidBasin", fn := fun _ => fun
  | [d] => { results := [.lit (.bool true)], args := [d] }
  | _ => none }
def fnExactValidBasinRow : OpenClaim := { program := "ytdejkkledamkeaa", sum := "191b66784e2678214e56f267265cfc239c0ba2f844337323e9fc2e80d7190f39", func := "loop.example/g01266/laws.FnExactValidBasin", spec := "fnExactValidBasin", inPlace := ["math.Float32bits"], unfollowed := true, recurses := true, apart := false }
def FnExactValidBasinSaid : Prop := fnExactValidBasinRow.holds Try.pinned (OpenSpec.ofChange fnExactValidBasinSpec)

/-- ITS FALSE NEIGHBOUR: 'it returns false'. Refute it at one input. -/
def fnExactValidBasinWrong : ChangeSpec := { name := "fnExactValidBasin", fn := fun _ => fun
  | [d] => { results := [.lit (.bool false)], args := [d] }
  | _ => none }
def FnExactValidBasinWrongFalsely : Prop := fnExactValidBasinRow.holds Try.pinned (OpenSpec.ofChange fnExactValidBasinWrong)

/-- 'laws.FnExactSameBasin': WHATEVER THE INPUT: true; the input reads as it did. -/
def fnExactSameBasinSpec : ChangeSpec := { name := "fnExactSameBasin", fn := fun _ => fun
  | [d1, d2] => { results := [.lit (.bool true)], args := [d1, d2] }
  | _ => none }
def fnExactSameBasinRow : OpenClaim := { program := "ytdejkkledamkeaa", sum := "191b66784e2678214e56f267265cfc239c0ba2f844337323e9fc2e80d7190f39", func := "loop.example/g01266/laws.FnExactSameBasin", spec := "fnExactSameBasin", inPlace := ["math.Float32bits"], unfollowed := true, recurses := true, apart := false }
def FnExactSameBasinSaid : Prop := fnExactSameBasinRow.holds Try.pinned (OpenSpec.ofChange fnExactSameBasinSpec)

/-- ITS FALSE NEIGHBOUR: 'it returns false'. Refute it at one input. -/
def fnExactSameBasinWrong : ChangeSpec := { name := "fnExactSameBasin", fn := fun _ => fun
  | [d1, d2] => { results := [.lit (.bool false)], args := [d1, d2] }
  | _ => none }
def FnExactSameBasinWrongFalsely : Prop := fnExactSameBasinRow.holds Try.pinned (OpenSpec.ofChange fnExactSameBasinWrong)

/-- 'laws.FnExactFlatBasin': WHATEVER THE INPUT: true; the input reads as it did. -/
def fnExactFlatBasinSpec : ChangeSpec := { name := "fnExactFlatBasin", fn := fun _ => fun
  | [d1, d2, d3] => { results := [.lit (.bool true)], args := [d1, d2, d3] }
  | _ => none }
def fnExactFlatBasinRow : OpenClaim := { program := "ytdejkkledamkeaa", sum := "191b66784e2678214e56f267265cfc239c0ba2f844337323e9fc2e80d7190f39", func := "loop.example/g01266/laws.FnExactFlatBasin", spec := "fnExactFlatBasin", inPlace := ["math.Float32bits"], unfollowed := true, recurses := true, apart := false }
def FnExactFlatBasinSaid : Prop := fnExactFlatBasinRow.holds Try.pinned (OpenSpec.ofChange fnExactFlatBasinSpec)

/-- ITS FALSE NEIGHBOUR: 'it returns false'. Refute it at one input. -/
def fnExactFlatBasinWrong : ChangeSpec := { name := "fnExactFlatBasin", fn := fun _ => fun
  | [d1, d2, d3] => { results := [.lit (.bool false)], args := [d1, d2, d3] }
  | _ => none }
def FnExactFlatBasinWrongFalsely : Prop := fnExactFlatBasinRow.holds Try.pinned (OpenSpec.ofChange fnExactFlatBasinWrong)

/-- 'laws.FnExactSpinAt': WHATEVER THE INPUT: true; the input reads as it did. -/
def fnExactSpinAtSpec : ChangeSpec := { name := "fnExactSpinAt", fn := fun _ => fun
  | [d1, d2, d3] => { results := [.lit (.bool true)], args := [d1, d2, d3] }
  | _ => none }
def fnExactSpinAtRow : OpenClaim := { program := "ytdejkkledamkeaa", sum := "191b66784e2678214e56f267265cfc239c0ba2f844337323e9fc2e80d7190f39", func := "loop.example/g01266/laws.FnExactSpinAt", spec := "fnExactSpinAt", inPlace := ["math.Float32bits"], unfollowed := true, recurses := true, apart := false }
def FnExactSpinAtSaid : Prop := fnExactSpinAtRow.holds Try.pinned (OpenSpec.ofChange fnExactSpinAtSpec)

/-- ITS FALSE NEIGHBOUR: 'it returns false'. Refute it at one input. -/
def fnExactSpinAtWrong : ChangeSpec := { name := "fnExactSpinAt", fn := fun _ => fun
  | [d1, d2, d3] => { results := [.lit (.bool false)], args := [d1, d2, d3] }
  | _ => none }
def FnExactSpinAtWrongFalsely : Prop := fnExactSpinAtRow.holds Try.pinned (OpenSpec.ofChange fnExactSpinAtWrong)

/-- 'laws.FnExactPutSpin': WHATEVER THE INPUT: true; the input reads as it did. -/
def fnExactPutSpinSpec : ChangeSpec := { name := "fnExactPutSpin", fn := fun _ => fun
  | [d1, d2, d3, d4] => { results := [.lit (.bool true)], args := [d1, d2, d3, d4] }
  | _ => none }
def fnExactPutSpinRow : OpenClaim := { program := "ytdejkkledamkeaa", sum := "191b66784e2678214e56f267265cfc239c0ba2f844337323e9fc2e80d7190f39", func := "loop.example/g01266/laws.FnExactPutSpin", spec := "fnExactPutSpin", inPlace := ["math.Float32bits"], unfollowed := true, recurses := true, apart := false }
def FnExactPutSpinSaid : Prop := fnExactPutSpinRow.holds Try.pinned (OpenSpec.ofChange fnExactPutSpinSpec)

/-- ITS FALSE NEIGHBOUR: 'it returns false'. Refute it at one input. -/
def fnExactPutSpinWrong : ChangeSpec := { name := "fnExactPutSpin", fn := fun _ => fun
  | [d1, d2, d3, d4] => { results := [.lit (.bool false)], args := [d1, d2, d3, d4] }
  | _ => none }
def FnExactPutSpinWrongFalsely : Prop := fnExactPutSpinRow.holds Try.pinned (OpenSpec.ofChange fnExactPutSpinWrong)

/-- 'laws.FnExactTotalInBasin': WHATEVER THE INPUT: true; the input reads as it did. -/
def fnExactTotalInBasinSpec : ChangeSpec := { name := "fnExactTotalInBasin", fn := fun _ => fun
  | [d] => { results := [.lit (.bool true)], args := [d] }
  | _ => none }
def fnExactTotalInBasinRow : OpenClaim := { program := "ytdejkkledamkeaa", sum := "191b66784e2678214e56f267265cfc239c0ba2f844337323e9fc2e80d7190f39", func := "loop.example/g01266/laws.FnExactTotalInBasin", spec := "fnExactTotalInBasin", inPlace := ["math.Float32bits"], unfollowed := true, recurses := true, apart := false }
def FnExactTotalInBasinSaid : Prop := fnExactTotalInBasinRow.holds Try.pinned (OpenSpec.ofChange fnExactTotalInBasinSpec)

/-- ITS FALSE NEIGHBOUR: 'it returns false'. Refute it at one input. -/
def fnExactTotalInBasinWrong : ChangeSpec := { name := "fnExactTotalInBasin", fn := fun _ => fun
  | [d] => { results := [.lit (.bool false)], args := [d] }
  | _ => none }
def FnExactTotalInBasinWrongFalsely : Prop := fnExactTotalInBasinRow.holds Try.pinned (OpenSpec.ofChange fnExactTotalInBasinWrong)

/-- 'laws.FnExactSquaresInBasin': WHATEVER THE INPUT: true; the input reads as it did. -/
def fnExactSquaresInBasinSpec : ChangeSpec := { name := "fnExactSquaresInBasin", fn := fun _ => fun
  | [d] => { results := [.lit (.bool true)], args := [d] }
  | _ => none }
def fnExactSquaresInBasinRow : OpenClaim := { program := "ytdejkkledamkeaa", sum := "191b66784e2678214e56f267265cfc239c0ba2f844337323e9fc2e80d7190f39", func := "loop.example/g01266/laws.FnExactSquaresInBasin", spec := "fnExactSquaresInBasin", inPlace := ["math.Float32bits"], unfollowed := true, recurses := true, apart := false }
def FnExactSquaresInBasinSaid : Prop := fnExactSquaresInBasinRow.holds Try.pinned (OpenSpec.ofChange fnExactSquaresInBasinSpec)

/-- ITS FALSE NEIGHBOUR: 'it returns false'. Refute it at one input. -/
def fnExactSquaresInBasinWrong : ChangeSpec := { name := "fnExactSquaresInBasin", fn := fun _ => fun
  | [d] => { results := [.lit (.bool false)], args := [d] }
  | _ => none }
def FnExactSquaresInBasinWrongFalsely : Prop := fnExactSquaresInBasinRow.holds Try.pinned (OpenSpec.ofChange fnExactSquaresInBasinWrong)

/-- 'laws.FnExactRangeInBasin': WHATEVER THE INPUT: true; the input reads as it did. -/
def fnExactRangeInBasinSpec : ChangeSpec := { name := "fnExactRangeInBasin", fn := fun _ => fun
  | [d] => { results := [.lit (.bool true)], args := [d] }
  | _ => none }
def fnExactRangeInBasinRow : OpenClaim := { program := "ytdejkkledamkeaa", sum := "191b66784e2678214e56f267265cfc239c0ba2f844337323e9fc2e80d7190f39", func := "loop.example/g01266/laws.FnExactRangeInBasin", spec := "fnExactRangeInBasin", inPlace := ["math.Float32bits"], unfollowed := true, recurses := true, apart := false }
def FnExactRangeInBasinSaid : Prop := fnExactRangeInBasinRow.holds Try.pinned (OpenSpec.ofChange fnExactRangeInBasinSpec)

/-- ITS FALSE NEIGHBOUR: 'it returns false'. Refute it at one input. -/
def fnExactRangeInBasinWrong : ChangeSpec := { name := "fnExactRangeInBasin", fn := fun _ => fun
  | [d] => { results := [.lit (.bool false)], args := [d] }
  | _ => none }
def FnExactRangeInBasinWrongFalsely : Prop := fnExactRangeInBasinRow.holds Try.pinned (OpenSpec.ofChange fnExactRangeInBasinWrong)

/-- 'laws.FnExactAddBasins': WHATEVER THE INPUT: true; the input reads as it did. -/
def fnExactAddBasinsSpec : ChangeSpec := { name := "fnExactAddBasins", fn := fun _ => fun
  | [d1, d2] => { results := [.lit (.bool true)], args := [d1, d2] }
  | _ => none }
def fnExactAddBasinsRow : OpenClaim := { program := "ytdejkkledamkeaa", sum := "191b66784e2678214e56f267265cfc239c0ba2f844337323e9fc2e80d7190f39", func := "loop.example/g01266/laws.FnExactAddBasins", spec := "fnExactAddBasins", inPlace := ["math.Float32bits"], unfollowed := true, recurses := true, apart := false }
def FnExactAddBasinsSaid : Prop := fnExactAddBasinsRow.holds Try.pinned (OpenSpec.ofChange fnExactAddBasinsSpec)

/-- ITS FALSE NEIGHBOUR: 'it returns false'. Refute it at one input. -/
def fnExactAddBasinsWrong : ChangeSpec := { name := "fnExactAddBasins", fn := fun _ => fun
  | [d1, d2] => { results := [.lit (.bool false)], args := [d1, d2] }
  | _ => none }
def FnExactAddBasinsWrongFalsely : Prop := fnExactAddBasinsRow.holds Try.pinned (OpenSpec.ofChange fnExactAddBasinsWrong)

/-- 'laws.FnExactScaleBasin': WHATEVER THE INPUT: true; the input reads as it did. -/
def fnExactScaleBasinSpec : ChangeSpec := { name := "fnExactScaleBasin", fn := fun _ => fun
  | [d1, d2] => { results := [.lit (.bool true)], args := [d1, d2] }
  | _ => none }
def fnExactScaleBasinRow : OpenClaim := { program := "ytdejkkledamkeaa", sum := "191b66784e2678214e56f267265cfc239c0ba2f844337323e9fc2e80d7190f39", func := "loop.example/g01266/laws.FnExactScaleBasin", spec := "fnExactScaleBasin", inPlace := ["math.Float32bits"], unfollowed := true, recurses := true, apart := false }
def FnExactScaleBasinSaid : Prop := fnExactScaleBasinRow.holds Try.pinned (OpenSpec.ofChange fnExactScaleBasinSpec)

/-- ITS FALSE NEIGHBOUR: 'it returns false'. Refute it at one input. -/
def fnExactScaleBasinWrong : ChangeSpec := { name := "fnExactScaleBasin", fn := fun _ => fun
  | [d1, d2] => { results := [.lit (.bool false)], args := [d1, d2] }
  | _ => none }
def FnExactScaleBasinWrongFalsely : Prop := fnExactScaleBasinRow.holds Try.pinned (OpenSpec.ofChange fnExactScaleBasinWrong)

/-- 'laws.FnExactRollBasin': WHATEVER THE INPUT: true; the input reads as it did. -/
def fnExactRollBasinSpec : ChangeSpec := { name := "fnExactRollBasin", fn := fun _ => fun
  | [d1, d2, d3] => { results := [.lit (.bool true)], args := [d1, d2, d3] }
  | _ => none }
def fnExactRollBasinRow : OpenClaim := { program := "ytdejkkledamkeaa", sum := "191b66784e2678214e56f267265cfc239c0ba2f844337323e9fc2e80d7190f39", func := "loop.example/g01266/laws.FnExactRollBasin", spec := "fnExactRollBasin", inPlace := ["math.Float32bits"], unfollowed := true, recurses := true, apart := false }
def FnExactRollBasinSaid : Prop := fnExactRollBasinRow.holds Try.pinned (OpenSpec.ofChange fnExactRollBasinSpec)

/-- ITS FALSE NEIGHBOUR: 'it returns false'. Refute it at one input. -/
def fnExactRollBasinWrong : ChangeSpec := { name := "fnExactRollBasin", fn := fun _ => fun
  | [d1, d2, d3] => { results := [.lit (.bool false)], args := [d1, d2, d3] }
  | _ => none }
def FnExactRollBasinWrongFalsely : Prop := fnExactRollBasinRow.holds Try.pinned (OpenSpec.ofChange fnExactRollBasinWrong)

/-- 'laws.FnExactMirrorBasin': WHATEVER THE INPUT: true; the input reads as it did. -/
def fnExactMirrorBasinSpec : ChangeSpec := { name := "fnExactMirrorBasin", fn := fun _ => fun
  | [d] => { results := [.lit (.bool true)], args := [d] }
  | _ => none }
def fnExactMirrorBasinRow : OpenClaim := { program := "ytdejkkledamkeaa", sum := "191b66784e2678214e56f267265cfc239c0ba2f844337323e9fc2e80d7190f39", func := "loop.example/g01266/laws.FnExactMirrorBasin", spec := "fnExactMirrorBasin", inPlace := ["math.Float32bits"], unfollowed := true, recurses := true, apart := false }
def FnExactMirrorBasinSaid : Prop := fnExactMirrorBasinRow.holds Try.pinned (OpenSpec.ofChange fnExactMirrorBasinSpec)

/-- ITS FALSE NEIGHBOUR: 'it returns false'. Refute it at one input. -/
def fnExactMirrorBasinWrong : ChangeSpec := { name := "fnExactMirrorBasin", fn := fun _ => fun
  | [d] => { results := [.lit (.bool false)], args := [d] }
  | _ => none }
def FnExactMirrorBasinWrongFalsely : Prop := fnExactMirrorBasinRow.holds Try.pinned (OpenSpec.ofChange fnExactMirrorBasinWrong)

/- THE SECOND FORM. 'bulk': how many values and letters a reading holds, each counted each time it is reached (what is shared counts as often as it is met; a slice's spare places count too). A statement '..UptoSaid' is the law's where the arguments, and the package variables that the reading takes, are together of bulk at most 1048576: NARROWER than '..Said'. Prove '..Said' where nothing that the law and all that it calls make is longer than what came in: it says more and counts as full. Else prove '..UptoSaid'. A law counts once. -/
mutual
def uptoBulk {H : Type} : DataW H → Nat
  | .lit (.string bytes) => bytes.length + 1
  | .lit _ => 1
  | .nil => 1
  | .ptr d => uptoBulk d + 1
  | .slice elems spare => uptoBulkAll elems + uptoBulkAll spare + 1
  | .agg parts => uptoBulkAll parts + 1
  | .iface _ d => uptoBulk d + 1
  | .map entries => uptoBulkEntries entries + 1
  | .held _ => 1
def uptoBulkAll {H : Type} : List (DataW H) → Nat
  | [] => 0
  | d :: r => uptoBulk d + uptoBulkAll r
def uptoBulkEntries {H : Type} : List (Lit × DataW H) → Nat
  | [] => 0
  | x :: r => uptoBulkEntry x + uptoBulkEntries r
def uptoBulkEntry {H : Type} : Lit × DataW H → Nat
  | (.string bytes, d) => bytes.length + uptoBulk d + 1
  | (_, d) => uptoBulk d + 1
 end
def uptoSmall : (H : Type) → List (DataW H) → Bool := fun _ ds => decide (uptoBulkAll ds ≤ 1048576)
def OpenSpec.upto (s : _root_.Go.ChangeSpec) : _root_.Go.OpenSpec := { _root_.Go.OpenSpec.ofChange s with cond := some uptoSmall }

/-- 'laws.FnExactValidBasin', WHERE WHAT IT READS IS OF BULK AT MOST 1048576: true; the input reads as it did. -/
def fnExactValidBasinUptoRow : OpenClaim := { program := "ytdejkkledamkeaa", sum := "191b66784e2678214e56f267265cfc239c0ba2f844337323e9fc2e80d7190f39", func := "loop.example/g01266/laws.FnExactValidBasin", spec := "fnExactValidBasin", inPlace := ["math.Float32bits"], unfollowed := true, recurses := true, apart := false, narrowed := true }
def FnExactValidBasinUptoSaid : Prop := fnExactValidBasinUptoRow.holds Try.pinned (OpenSpec.upto fnExactValidBasinSpec)

/-- 'laws.FnExactSameBasin', WHERE WHAT IT READS IS OF BULK AT MOST 1048576: true; the input reads as it did. -/
def fnExactSameBasinUptoRow : OpenClaim := { program := "ytdejkkledamkeaa", sum := "191b66784e2678214e56f267265cfc239c0ba2f844337323e9fc2e80d7190f39", func := "loop.example/g01266/laws.FnExactSameBasin", spec := "fnExactSameBasin", inPlace := ["math.Float32bits"], unfollowed := true, recurses := true, apart := false, narrowed := true }
def FnExactSameBasinUptoSaid : Prop := fnExactSameBasinUptoRow.holds Try.pinned (OpenSpec.upto fnExactSameBasinSpec)

/-- 'laws.FnExactFlatBasin', WHERE WHAT IT READS IS OF BULK AT MOST 1048576: true; the input reads as it did. -/
def fnExactFlatBasinUptoRow : OpenClaim := { program := "ytdejkkledamkeaa", sum := "191b66784e2678214e56f267265cfc239c0ba2f844337323e9fc2e80d7190f39", func := "loop.example/g01266/laws.FnExactFlatBasin", spec := "fnExactFlatBasin", inPlace := ["math.Float32bits"], unfollowed := true, recurses := true, apart := false, narrowed := true }
def FnExactFlatBasinUptoSaid : Prop := fnExactFlatBasinUptoRow.holds Try.pinned (OpenSpec.upto fnExactFlatBasinSpec)

/-- 'laws.FnExactSpinAt', WHERE WHAT IT READS IS OF BULK AT MOST 1048576: true; the input reads as it did. -/
def fnExactSpinAtUptoRow : OpenClaim := { program := "ytdejkkledamkeaa", sum := "191b66784e2678214e56f267265cfc239c0ba2f844337323e9fc2e80d7190f39", func := "loop.example/g01266/laws.FnExactSpinAt", spec := "fnExactSpinAt", inPlace := ["math.Float32bits"], unfollowed := true, recurses := true, apart := false, narrowed := true }
def FnExactSpinAtUptoSaid : Prop := fnExactSpinAtUptoRow.holds Try.pinned (OpenSpec.upto fnExactSpinAtSpec)

/-- 'laws.FnExactPutSpin', WHERE WHAT IT READS IS OF BULK AT MOST 1048576: true; the input reads as it did. -/
def fnExactPutSpinUptoRow : OpenClaim := { program := "ytdejkkledamkeaa", sum := "191b66784e2678214e56f267265cfc239c0ba2f844337323e9fc2e80d7190f39", func := "loop.example/g01266/laws.FnExactPutSpin", spec := "fnExactPutSpin", inPlace := ["math.Float32bits"], unfollowed := true, recurses := true, apart := false, narrowed := true }
def FnExactPutSpinUptoSaid : Prop := fnExactPutSpinUptoRow.holds Try.pinned (OpenSpec.upto fnExactPutSpinSpec)

/-- 'laws.FnExactTotalInBasin', WHERE WHAT IT READS IS OF BULK AT MOST 1048576: true; the input reads as it did. -/
def fnExactTotalInBasinUptoRow : OpenClaim := { program := "ytdejkkledamkeaa", sum := "191b66784e2678214e56f267265cfc239c0ba2f844337323e9fc2e80d7190f39", func := "loop.example/g01266/laws.FnExactTotalInBasin", spec := "fnExactTotalInBasin", inPlace := ["math.Float32bits"], unfollowed := true, recurses := true, apart := false, narrowed := true }
def FnExactTotalInBasinUptoSaid : Prop := fnExactTotalInBasinUptoRow.holds Try.pinned (OpenSpec.upto fnExactTotalInBasinSpec)

/-- 'laws.FnExactSquaresInBasin', WHERE WHAT IT READS IS OF BULK AT MOST 1048576: true; the input reads as it did. -/
def fnExactSquaresInBasinUptoRow : OpenClaim := { program := "ytdejkkledamkeaa", sum := "191b66784e2678214e56f267265cfc239c0ba2f844337323e9fc2e80d7190f39", func := "loop.example/g01266/laws.FnExactSquaresInBasin", spec := "fnExactSquaresInBasin", inPlace := ["math.Float32bits"], unfollowed := true, recurses := true, apart := false, narrowed := true }
def FnExactSquaresInBasinUptoSaid : Prop := fnExactSquaresInBasinUptoRow.holds Try.pinned (OpenSpec.upto fnExactSquaresInBasinSpec)

/-- 'laws.FnExactRangeInBasin', WHERE WHAT IT READS IS OF BULK AT MOST 1048576: true; the input reads as it did. -/
def fnExactRangeInBasinUptoRow : OpenClaim := { program := "ytdejkkledamkeaa", sum := "191b66784e2678214e56f267265cfc239c0ba2f844337323e9fc2e80d7190f39", func := "loop.example/g01266/laws.FnExactRangeInBasin", spec := "fnExactRangeInBasin", inPlace := ["math.Float32bits"], unfollowed := true, recurses := true, apart := false, narrowed := true }
def FnExactRangeInBasinUptoSaid : Prop := fnExactRangeInBasinUptoRow.holds Try.pinned (OpenSpec.upto fnExactRangeInBasinSpec)

/-- 'laws.FnExactAddBasins', WHERE WHAT IT READS IS OF BULK AT MOST 1048576: true; the input reads as it did. -/
def fnExactAddBasinsUptoRow : OpenClaim := { program := "ytdejkkledamkeaa", sum := "191b66784e2678214e56f267265cfc239c0ba2f844337323e9fc2e80d7190f39", func := "loop.example/g01266/laws.FnExactAddBasins", spec := "fnExactAddBasins", inPlace := ["math.Float32bits"], unfollowed := true, recurses := true, apart := false, narrowed := true }
def FnExactAddBasinsUptoSaid : Prop := fnExactAddBasinsUptoRow.holds Try.pinned (OpenSpec.upto fnExactAddBasinsSpec)

/-- 'laws.FnExactScaleBasin', WHERE WHAT IT READS IS OF BULK AT MOST 1048576: true; the input reads as it did. -/
def fnExactScaleBasinUptoRow : OpenClaim := { program := "ytdejkkledamkeaa", sum := "191b66784e2678214e56f267265cfc239c0ba2f844337323e9fc2e80d7190f39", func := "loop.example/g01266/laws.FnExactScaleBasin", spec := "fnExactScaleBasin", inPlace := ["math.Float32bits"], unfollowed := true, recurses := true, apart := false, narrowed := true }
def FnExactScaleBasinUptoSaid : Prop := fnExactScaleBasinUptoRow.holds Try.pinned (OpenSpec.upto fnExactScaleBasinSpec)

/-- 'laws.FnExactRollBasin', WHERE WHAT IT READS IS OF BULK AT MOST 1048576: true; the input reads as it did. -/
def fnExactRollBasinUptoRow : OpenClaim := { program := "ytdejkkledamkeaa", sum := "191b66784e2678214e56f267265cfc239c0ba2f844337323e9fc2e80d7190f39", func := "loop.example/g01266/laws.FnExactRollBasin", spec := "fnExactRollBasin", inPlace := ["math.Float32bits"], unfollowed := true, recurses := true, apart := false, narrowed := true }
def FnExactRollBasinUptoSaid : Prop := fnExactRollBasinUptoRow.holds Try.pinned (OpenSpec.upto fnExactRollBasinSpec)

/-- 'laws.FnExactMirrorBasin', WHERE WHAT IT READS IS OF BULK AT MOST 1048576: true; the input reads as it did. -/
def fnExactMirrorBasinUptoRow : OpenClaim := { program := "ytdejkkledamkeaa", sum := "191b66784e2678214e56f267265cfc239c0ba2f844337323e9fc2e80d7190f39", func := "loop.example/g01266/laws.FnExactMirrorBasin", spec := "fnExactMirrorBasin", inPlace := ["math.Float32bits"], unfollowed := true, recurses := true, apart := false, narrowed := true }
def FnExactMirrorBasinUptoSaid : Prop := fnExactMirrorBasinUptoRow.holds Try.pinned (OpenSpec.upto fnExactMirrorBasinSpec)

end Rows
end Go.Proofs.Ytdejkkledamkeaa
