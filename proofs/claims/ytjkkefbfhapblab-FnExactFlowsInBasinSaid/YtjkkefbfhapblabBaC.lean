/- Cells of basins, and the spin of one. -/
import Derived.Test.YtjkkefbfhapblabBaM
namespace Go.Proofs.Ytjkkefbfhapblab
set_option linter.unusedSimpArgs false
set_option linter.unusedVariables false
open Go.RowKit
set_option maxRecDepth 20000
namespace Ba
open Fl Rate

def inB (n a b : Int) : Bool := decide (a ≤ n) && decide (n ≤ b)

def cellB (W H x y : Int) : Bool := inB x 0 (W - 1) && inB y 0 (H - 1)

theorem cell_of {W H x y : Int} (h : cellB W H x y = true) : 0 ≤ x ∧ x < W ∧ 0 ≤ y ∧ y < H := by
  unfold cellB inB at h
  simp only [Bool.and_eq_true, decide_eq_true_eq] at h
  omega

theorem spec_inb (n a b : Int) (w : World) : Calls Try.prog 39 #[.int .i64 n, .int .i64 a, .int .i64 b] w fun e w' => e = .returned (.bool (inB n a b)) ∧ w = w' := spec_in n a b w

theorem cell_no {W H x y : Int} (h : x < 0 ∨ W ≤ x ∨ y < 0 ∨ H ≤ y) : cellB W H x y = false := by
  cases h' : cellB W H x y
  · rfl
  · have := cell_of h'; omega

theorem cell_yes {W H x y : Int} (h1 : 0 ≤ x) (h2 : x < W) (h3 : 0 ≤ y) (h4 : y < H) : cellB W H x y = true := by
  unfold cellB inB
  simp only [Bool.and_eq_true, decide_eq_true_eq]
  omega

/-- The spin of a cell, as a class. -/
def spinC (A : Bool) (W H x y : Int) (c : Nat → Option Nat) : Option Nat := if A && cellB W H x y then c (idx W H x y) else none

theorem spin_fin {W H x y : Int} {n : Nat} {c : Nat → Option Nat} (hA : okB W H n c = true) : finC (c (idx W H x y)) = true := by
  obtain ⟨h1, h2, h3, h4⟩ := okB_of hA
  exact allF_at h4 _ (idx_lt h1 h2 h3 x y)

end Ba
end Go.Proofs.Ytjkkefbfhapblab
