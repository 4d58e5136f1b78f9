/- The turns of an angle whose tangent is at most 1: the class of the number, its bound, and the program's function. -/
import Derived.Test.YtggklnanhiomjabRows
import Derived.Test.YtggklnanhiomjabRet
import Derived.Test.YtggklnanhiomjabRoot
import Derived.Test.YtggklnanhiomjabBc
import Derived.Laws.Cover2
namespace Go.Proofs.Ytggklnanhiomjab
set_option linter.unusedSimpArgs false
set_option linter.unusedVariables false
open Go.RowKit
namespace Flat
open Fl

abbrev one : Option Nat := some 4607182418800017408
def tStep (c : Option Nat) : Option Nat := op2 .quo .f64 c (op2 .add .f64 one (sqrtC (op2 .add .f64 one (op2 .mul .f64 c c))))
def tC (c : Option Nat) : Nat → Option Nat
  | 0 => c
  | k + 1 => tStep (tC c k)
def kC (j : Nat) : Option Nat := cl .f64 (floatOfInt .f64 (15 - 2 * (j : Int)))
def pC (u : Option Nat) : Nat → Option Nat
  | 0 => some 0
  | j + 1 => op2 .sub .f64 (op2 .quo .f64 one (kC j)) (op2 .mul .f64 u (pC u j))
def endC (t p : Option Nat) : Option Nat := op2 .quo .f64 (op2 .mul .f64 (some 4620693217682128896) (op2 .mul .f64 t p)) (some 4618760256179416344)
def flatC (c : Option Nat) : Option Nat := endC (tC c 3) (pC (op2 .mul .f64 (tC c 3) (tC c 3)) 8)

theorem one_bd : Bd 0 one := ⟨_, rfl, by rw [show FloatKind.f64.decode 4607182418800017408 = .number false 4503599627370496 (-52) by decide +kernel]; exact .inr ⟨by decide, by decide⟩⟩
theorem one_nd : Nd one := ⟨_, rfl, by rw [show FloatKind.f64.decode 4607182418800017408 = .number false 4503599627370496 (-52) by decide +kernel]; exact .inl rfl⟩
theorem one_gd : Gd 0 one := ⟨_, rfl, by rw [show FloatKind.f64.decode 4607182418800017408 = .number false 4503599627370496 (-52) by decide +kernel]; exact ⟨by decide, by decide +kernel⟩⟩

theorem tStep_bd {c : Option Nat} (h : Bd 0 c) : Bd 0 (tStep c) := by
  have s1 := h.mul h (by omega) (by omega)
  have n1 := Nd.square h (by omega) (by omega)
  have s2 := one_bd.add s1 (by omega) (by omega)
  have n2 := (Gd.add one_bd s1 one_gd one_nd n1 (by omega) (by omega) (by omega)).2
  obtain ⟨s3, n3⟩ := s2.sqrt n2 (by omega) (by omega)
  have g4 := (Gd.add one_bd s3 one_gd one_nd n3 (by omega) (by omega) (by omega)).1
  exact (h.quo g4 (by omega) (by omega)).mono (by omega)

theorem tC_bd {c : Option Nat} (h : Bd 0 c) : ∀ k, Bd 0 (tC c k)
  | 0 => h
  | k + 1 => tStep_bd (tC_bd h k)

theorem kC_gd {j : Nat} (h : j < 8) : Gd 0 (kC j) := by
  have : j = 0 ∨ j = 1 ∨ j = 2 ∨ j = 3 ∨ j = 4 ∨ j = 5 ∨ j = 6 ∨ j = 7 := by omega
  rcases this with rfl | rfl | rfl | rfl | rfl | rfl | rfl | rfl
  · exact ⟨_, (by decide +kernel : kC 0 = some 4624633867356078080), by rw [show FloatKind.f64.decode 4624633867356078080 = .number false 8444249301319680 (-49) by decide +kernel]; exact ⟨by decide, by decide +kernel⟩⟩
  · exact ⟨_, (by decide +kernel : kC 1 = some 4623507967449235456), by rw [show FloatKind.f64.decode 4623507967449235456 = .number false 7318349394477056 (-49) by decide +kernel]; exact ⟨by decide, by decide +kernel⟩⟩
  · exact ⟨_, (by decide +kernel : kC 2 = some 4622382067542392832), by rw [show FloatKind.f64.decode 4622382067542392832 = .number false 6192449487634432 (-49) by decide +kernel]; exact ⟨by decide, by decide +kernel⟩⟩
  · exact ⟨_, (by decide +kernel : kC 3 = some 4621256167635550208), by rw [show FloatKind.f64.decode 4621256167635550208 = .number false 5066549580791808 (-49) by decide +kernel]; exact ⟨by decide, by decide +kernel⟩⟩
  · exact ⟨_, (by decide +kernel : kC 4 = some 4619567317775286272), by rw [show FloatKind.f64.decode 4619567317775286272 = .number false 7881299347898368 (-50) by decide +kernel]; exact ⟨by decide, by decide +kernel⟩⟩
  · exact ⟨_, (by decide +kernel : kC 5 = some 4617315517961601024), by rw [show FloatKind.f64.decode 4617315517961601024 = .number false 5629499534213120 (-50) by decide +kernel]; exact ⟨by decide, by decide +kernel⟩⟩
  · exact ⟨_, (by decide +kernel : kC 6 = some 4613937818241073152), by rw [show FloatKind.f64.decode 4613937818241073152 = .number false 6755399441055744 (-51) by decide +kernel]; exact ⟨by decide, by decide +kernel⟩⟩
  · exact ⟨_, (by decide +kernel : kC 7 = some 4607182418800017408), by rw [show FloatKind.f64.decode 4607182418800017408 = .number false 4503599627370496 (-52) by decide +kernel]; exact ⟨by decide, by decide +kernel⟩⟩

theorem pC_bd {u : Option Nat} (h : Bd 0 u) : ∀ j : Nat, j ≤ 8 → Bd (j : Int) (pC u j)
  | 0, _ => ⟨0, rfl, by rw [show FloatKind.f64.decode 0 = .number false 0 (-1074) by decide +kernel]; exact .inl rfl⟩
  | j + 1, hj => by
    have q := one_bd.quo (kC_gd (show j < 8 by omega)) (by omega) (by omega)
    have m := h.mul (pC_bd h j (by omega)) (by omega) (by omega)
    exact (q.sub m (by omega) (by omega)).mono (by omega)

theorem flat_bd {c : Option Nat} (h : Bd 0 c) : Bd 20 (flatC c) := by
  have t := tC_bd h 3
  have u := (t.mul t (by omega) (by omega)).mono (show (0 : Int) + 0 ≤ 0 by omega)
  have p : Bd 8 (pC (op2 .mul .f64 (tC c 3) (tC c 3)) 8) := pC_bd u 8 (by omega)
  have tp := t.mul p (by omega) (by omega)
  have e8 : Bd 3 (some 4620693217682128896) := ⟨_, rfl, by rw [show FloatKind.f64.decode 4620693217682128896 = .number false 4503599627370496 (-49) by decide +kernel]; exact .inr ⟨by decide, by decide⟩⟩
  have g : Gd 0 (some 4618760256179416344) := ⟨_, rfl, by rw [show FloatKind.f64.decode 4618760256179416344 = .number false 7074237752028440 (-50) by decide +kernel]; exact ⟨by decide, by decide +kernel⟩⟩
  exact ((e8.mul tp (by omega) (by omega)).quo g (by omega) (by omega)).mono (by omega)

theorem long_product (x y : Nat) (c d : Option Nat) (w : World) (f0 : Fr .f64 x c) (f1 : Fr .f64 y d) :
    Calls Try.prog 125 #[.float .f64 x, .float .f64 y] w (RetF .f64 (op2 .mul .f64 c d) w) := by
  go_enter Try.func125, Try.ntmps125
  go_wp2_with (first | (refine Fl.wpList_fl rfl rfl rfl rfl rfl (by assumption) (by assumption) ?_; intro r n hr))
  go_ret
  exact ⟨_, rfl, by assumption, below_drewN (Below.refl _ _) _⟩

end Flat
end Go.Proofs.Ytggklnanhiomjab
