/- The bits of numbers: what the smallest functions of the first chapter and of its model return. -/
import Derived.Test.YtjkkefbfhapblaaRows
import Derived.Test.YtjkkefbfhapblaaFl
namespace Go.Proofs.Ytjkkefbfhapblaa
set_option linter.unusedSimpArgs false
set_option linter.unusedVariables false
open Go.RowKit
namespace Fl

theorem Fr.wf {k : FloatKind} {b : Nat} (h : (Lit.float k b).wf = true) : Fr k b (cl k b) := ⟨rfl, wf_lt h⟩

theorem lt32 {b : Nat} (h : (Lit.float .f32 b).wf = true) : b < 4294967296 := by simpa [Lit.wf] using h

theorem Fr.of_lt32 {b : Nat} (h : b < 4294967296) : Fr .f32 b (cl .f32 b) := ⟨rfl, h⟩

/-- What a number's bits are told to be. -/
def bitsC (c : Option Nat) : Int := match c with | none => 2143289344 | some b => b

theorem order_nan {b : Nat} (k : FloatKind) (h : cl k b = none) : k.format.order b b = none := by rw [order_cl, h]; rfl

theorem compare_int_self (n : Int) : compare n n = .eq := by simp
theorem compare_nat_self (n : Nat) : compare n n = .eq := by simp

theorem order_self {b : Nat} (k : FloatKind) (h : cl k b = some b) : k.format.order b b = some .eq := by
  have h1 := cl_some_iff.1 h
  unfold Ieee.Format.order
  change (k.format.read b).isNaN = false at h1
  cases hd : k.format.read b with
  | nan s t => rw [hd] at h1; cases h1
  | number s m p => simp [Ieee.Datum.order]
  | infinity s => simp [Ieee.Datum.order]

theorem bits_nan {b : Nat} (h : cl .f32 b = none) : bitsC (cl .f32 b) = 2143289344 := by rw [h]; rfl
theorem bits_num {b : Nat} (h : cl .f32 b = some b) : bitsC (cl .f32 b) = b := by rw [h]; rfl

theorem cl_cases (k : FloatKind) (b : Nat) : cl k b = none ∨ cl k b = some b := by
  unfold cl; split
  · exact .inl rfl
  · exact .inr rfl
theorem bounds64 {n : Int} (h : (Lit.int .i64 n).wf = true) : -9223372036854775808 ≤ n ∧ n ≤ 9223372036854775807 := by
  simpa [Lit.wf, IntKind.min, IntKind.max, IntKind.bits, IntKind.signed] using h
end Fl
namespace Bits
open Fl

theorem float32bits_run (x : Nat) (w : World) : (callFunc 108 #[.float .f32 x]).run Try.prog w = .ok (.value (.int .u32 x)) w := by
  rw [run_callFunc_extern Try.func108 (by kernel_rfl) (by kernel_rfl) (by kernel_rfl) (e := Extern.MathFloatBits.float32bits) (by kernel_rfl)]; rfl

theorem spec_bits (x : Nat) (w : World) (hx : x < 4294967296) :
    Calls Try.prog 122 #[.float .f32 x] w fun e w' => e = .returned (.int .i64 (bitsC (cl .f32 x))) ∧ w = w' := by
  have hb := float32bits_run x
  rcases cl_cases .f32 x with h | h
  · have ho := order_nan .f32 h
    rw [bits_nan h]
    have H := Lib.hid h; clear h
    go_enter Try.func122, Try.ntmps122
    go_wp2
    go_ret
    exact ⟨rfl, rfl⟩
  · have ho := order_self .f32 h
    rw [bits_num h]
    have H := Lib.hid h; clear h
    go_enter Try.func122, Try.ntmps122
    go_wp2
    go_ret
    exact ⟨rfl, rfl⟩

theorem impl_bits (x : Nat) (w : World) (hx : x < 4294967296) :
    Calls Try.prog 104 #[.float .f32 x] w fun e w' => e = .returned (.int .i64 (bitsC (cl .f32 x))) ∧ w = w' := by
  have hb := float32bits_run x
  rcases cl_cases .f32 x with h | h
  · have ho := order_nan .f32 h
    rw [bits_nan h]
    have H := Lib.hid h; clear h
    go_enter Try.func104, Try.ntmps104
    go_wp2
    go_ret
    exact ⟨rfl, rfl⟩
  · have ho := order_self .f32 h
    rw [bits_num h]
    have H := Lib.hid h; clear h
    go_enter Try.func104, Try.ntmps104
    go_wp2
    go_ret
    exact ⟨rfl, rfl⟩
end Bits
end Go.Proofs.Ytjkkefbfhapblaa
