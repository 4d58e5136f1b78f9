/- Lists of numbers: copies, comparison, sums. -/
import Derived.Test.YtjkkefbfhapblaaRows
import Derived.Test.YtjkkefbfhapblaaFrame
import Derived.Test.YtjkkefbfhapblaaRet
import Derived.Test.YtjkkefbfhapblaaSame
import Derived.Test.YtjkkefbfhapblaaBits
import Derived.LoopTactic
namespace Go.Proofs.Ytjkkefbfhapblaa
set_option linter.unusedSimpArgs false
set_option linter.unusedVariables false
set_option maxRecDepth 20000
open Go.RowKit
namespace Nums
open Fl _root_.Go.Proofs.Ytjkkefbfhapblaa.Frame

/-- A list of these numbers, in a row that nothing else leads to. -/
def RetNums (k : FloatKind) (zs : List Nat) (w : World) (e : Ending) (w' : World) : Prop :=
  ∃ a cap, e = .returned (.slice a zs.length cap) ∧ IsNums k w' a zs.length cap zs ∧ Below w.heap.size w w'

theorem setCell_block {w : World} {g : Nat} {c : Array Value} {t : TypeId} (h : w.heap[g]? = some (.cells c t)) (i : Nat) (v : Value) : (w.setCell ⟨g, i, none⟩ v).heap[g]? = some (.cells (c.setIfInBounds i v) t) := by
  simp [World.setCell, Array.getElem?_modify, h]

theorem A_info32 : (Try.prog.info? 23).map (fun i => (i.zero, i.size, i.bytes)) = some (some (.float .f32 0), 1, 4) := by kernel_rfl

theorem getD_lt {zs : List Nat} {i : Nat} (h : i < zs.length) : zs.getD i 0 ∈ zs := by
  rw [List.getD_eq_getElem?_getD, List.getElem?_eq_getElem h]; simp

/-! ### By program from here on -/

theorem seq {w w1 w2 : World} (a : Below w.heap.size w w1) (b : Below w1.heap.size w1 w2) : Below w.heap.size w w2 := a.trans (b.mono a.size)

theorem same_ret (a b : Nat) (c : Option Nat) (w : World) (fa : Fr .f64 a c) (fb : Fr .f64 b c) :
    Calls Try.prog 27 #[.float .f64 a, .float .f64 b] w (RetD (.bool true) w) :=
  (Same.same_true a b c w fa fb).mono fun e w' ⟨n, he, hw⟩ => ⟨he, by rw [hw]; exact below_drewN (Below.refl _ _) n⟩

/-- What a walk's round needs of a list of numbers, at its index. -/
theorem at_index {w wr : World} {b off len k : Nat} {zs : List Nat} (h6 : ∀ i, i < len → w.cell? ⟨b, off + i, none⟩ = some (.float .f32 (zs.getD i 0))) (hk : k < len) (hb : Below w.heap.size w wr) :
    wr.cell? ⟨b, off + k, none⟩ = some (.float .f32 (zs.getD k 0)) := by
  rw [hb.cell (block_lt_of_cell (h6 k hk))]; exact h6 k hk

theorem fr_at {zs : List Nat} {k : Nat} (h4 : ∀ n ∈ zs, (Lit.float .f32 n).wf = true) (hk : k < zs.length) : Fr .f32 (zs.getD k 0) (cl .f32 (zs.getD k 0)) := Fr.wf (h4 _ (getD_lt hk))

/-- The classes of sums from left to right. -/
def accC (f : Nat → Option Nat) : Nat → Option Nat
  | 0 => some 0
  | k + 1 => op2 .add .f32 (accC f k) (f k)

/-- A number of this class, and whether it is one. -/
def RetFB (c : Option Nat) (b : Bool) (w : World) (e : Ending) (w' : World) : Prop := ∃ r, e = .returned (.tuple #[.float .f32 r, .bool b]) ∧ Fr .f32 r c ∧ Below w.heap.size w w'

/-- The classes of a list's numbers. -/
def numC (zs : List Nat) (i : Nat) : Option Nat := cl .f32 (zs.getD i 0)

/-- The classes of the products of two lists. -/
def dotC (zs ys : List Nat) (i : Nat) : Option Nat := op2 .mul .f32 (numC zs i) (numC ys i)

end Nums
end Go.Proofs.Ytjkkefbfhapblaa
