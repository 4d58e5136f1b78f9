/- Sweeps: the classes. -/
import Derived.Test.YtbinjkaanbhikaaBaC
import Derived.Test.YtbinjkaanbhikaaBaLa
import Derived.Test.YtbinjkaanbhikaaBaEv
import Derived.Test.YtbinjkaanbhikaaBaOw
namespace Go.Proofs.Ytbinjkaanbhikaa
set_option linter.unusedSimpArgs false
set_option linter.unusedVariables false
open Go.RowKit
set_option maxRecDepth 20000
namespace Ba
open Fl Rate

/-- The numbers of a basin without its mean. -/
def evC (n : Nat) (c : Nat → Option Nat) : Nat → Option Nat := fun k => op2 .sub .f32 (c k) (op2 .quo .f32 (Nums.accC c n) (Mks.msC (n : Int)))

theorem ne_row {w : World} {S g : Nat} {cs cur : Array Value} {T : TypeId} (hS : w.heap[S]? = some (.cells cs T)) (hg : w.heap[g]? = some (.cells cur 28)) (hT : T ≠ 28) : S ≠ g := by
  rintro rfl
  rw [hS] at hg
  simp only [Option.some.injEq, Obj.cells.injEq] at hg
  exact hT hg.2.1

theorem quarter32 : Fr .f32 1048576000 (some 1048576000) := Fr.const (by decide +kernel) (by decide)

/-- What a cell becomes in a sweep. -/
def cellW (W H : Int) (e c : Nat → Option Nat) (k : Nat) : Option Nat := op2 .mul .f32 (some 1048576000) (op2 .add .f32 (fourC c W H ((k : Int) % W) ((k : Int) / W)) (e k))

/-- A stream behind the first k cells of a sweep. -/
def swP (W H : Int) (e c : Nat → Option Nat) : Nat → Nat → Option Nat
  | 0 => c
  | k + 1 => fun j => if j = k then cellW W H e (swP W H e c k) k else swP W H e c k j

/-- A stream behind some sweeps. -/
def swS (W H : Int) (e : Nat → Option Nat) (n : Nat) (c : Nat → Option Nat) : Nat → Nat → Option Nat
  | 0 => c
  | s + 1 => swP W H e (swS W H e n c s) n

/-- Whether there is a stream behind sweeps. -/
def sweB (W H W' H' : Int) (n : Nat) (c d : Nat → Option Nat) (A A2 : Bool) (s : Int) : Bool :=
  ((((A && A2) && decide (W = W')) && decide (H = H')) && inB s 0 200) && ((finC (Nums.accC c n) && allF (evC n c) n) && allF (swS W H (evC n c) n d s.toNat) n)

theorem swe_two {W H W' H' : Int} {n : Nat} {c d : Nat → Option Nat} {A A2 : Bool} {s : Int} (h : (((A && A2) && decide (W = W')) && decide (H = H')) = false) : sweB W H W' H' n c d A A2 s = false := by
  unfold sweB; rw [h]; rfl

theorem swe_in {W H W' H' : Int} {n : Nat} {c d : Nat → Option Nat} {A A2 : Bool} {s : Int} (h : inB s 0 200 = false) : sweB W H W' H' n c d A A2 s = false := by
  unfold sweB; rw [h, Bool.and_false]; rfl

theorem swe_ev {W H W' H' : Int} {n : Nat} {c d : Nat → Option Nat} {A A2 : Bool} {s : Int} (h : (A && (finC (Nums.accC c n) && allF (evC n c) n)) = false) : sweB W H W' H' n c d A A2 s = false := by
  unfold sweB
  cases A
  · rfl
  · rw [Bool.true_and] at h
    rw [h, Bool.false_and, Bool.and_false]

theorem swe_ok {W H W' H' : Int} {n : Nat} {c d : Nat → Option Nat} {A A2 : Bool} {s : Int} (h : sweB W H W' H' n c d A A2 s = true) : A = true := by
  unfold sweB at h
  simp only [Bool.and_eq_true] at h
  exact h.1.1.1.1.1

theorem swe_good {W H : Int} {n : Nat} {c d : Nat → Option Nat} {N : Nat} (hN : N ≤ 200) : sweB W H W H n c d true true (N : Int) = ((finC (Nums.accC c n) && allF (evC n c) n) && allF (swS W H (evC n c) n d N) n) := by
  unfold sweB inB
  rw [decide_eq_true rfl, decide_eq_true rfl, decide_eq_true (show (0 : Int) ≤ (N : Int) by omega), decide_eq_true (show (N : Int) ≤ 200 by omega), Int.toNat_natCast]
  rfl

end Ba
end Go.Proofs.Ytbinjkaanbhikaa
