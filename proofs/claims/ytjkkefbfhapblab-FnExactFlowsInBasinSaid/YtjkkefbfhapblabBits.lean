/- The bits of numbers: what the smallest functions of the first chapter and of its model return. -/
import Derived.Test.YtjkkefbfhapblabRows
import Derived.Test.YtjkkefbfhapblabFl
namespace Go.Proofs.Ytjkkefbfhapblab
set_option linter.unusedSimpArgs false
set_option linter.unusedVariables false
open Go.RowKit
namespace Fl

theorem Fr.wf {k : FloatKind} {b : Nat} (h : (Lit.float k b).wf = true) : Fr k b (cl k b) := ⟨rfl, wf_lt h⟩

theorem lt32 {b : Nat} (h : (Lit.float .f32 b).wf = true) : b < 4294967296 := by simpa [Lit.wf] using h

theorem Fr.of_lt32 {b : Nat} (h : b < 4294967296) : Fr .f32 b (cl .f32 b) := ⟨rfl, h⟩

/-- What a number's bits are told to be. -/
def bitsC (c : Option Nat) : Int := match c with | none => 2143289344 | some b => b

theorem order_nan {b : Nat} (k : FloatKind) (h : cl k b = none) : k.format.order b b = none := by rw [order_cl, h]; rfl

theorem compare_int_self (n : Int) : compare n n = .eq := by simp
theorem compare_nat_self (n : Nat) : compare n n = .eq := by simp

theorem order_self {b : Nat} (k : FloatKind) (h : cl k b = some b) : k.format.order b b = some .eq := by
  have h1 := cl_some_iff.1 h
  unfold Ieee.Format.order
  change (k.format.read b).isNaN = false at h1
  cases hd : k.format.read b with
  | nan s t => rw [hd] at h1; cases h1
  | number s m p => simp [Ieee.Datum.order]
  | infinity s => simp [Ieee.Datum.order]

theorem bits_nan {b : Nat} (h : cl .f32 b = none) : bitsC (cl .f32 b) = 2143289344 := by rw [h]; rfl
theorem bits_num {b : Nat} (h : cl .f32 b = some b) : bitsC (cl .f32 b) = b := by rw [h]; rfl

theorem cl_cases (k : FloatKind) (b : Nat) : cl k b = none ∨ cl k b = some b := by
  unfold cl; split
  · exact .inl rfl
  · exact .inr rfl
theorem bounds64 {n : Int} (h : (Lit.int .i64 n).wf = true) : -9223372036854775808 ≤ n ∧ n ≤ 9223372036854775807 := by
  simpa [Lit.wf, IntKind.min, IntKind.max, IntKind.bits, IntKind.signed] using h
end Fl
namespace Bits
open Fl

theorem float32bits_run (x : Nat) (w : World) : (callFunc 98 #[.float .f32 x]).run Try.prog w = .ok (.value (.int .u32 x)) w := by
  rw [run_callFunc_extern Try.func98 (by kernel_rfl) (by kernel_rfl) (by kernel_rfl) (e := Extern.MathFloatBits.float32bits) (by kernel_rfl)]; rfl

theorem frombits_run (x : Int) (w : World) : (callFunc 153 #[.int .u32 x]).run Try.prog w = .ok (.value (.float .f32 x.toNat)) w := by
  rw [run_callFunc_extern Try.func153 (by kernel_rfl) (by kernel_rfl) (by kernel_rfl) (e := Extern.MathFloatBits.float32frombits) (by kernel_rfl)]; rfl