/- How fast a polygon turns: the program's function and the model's. -/
import Derived.Test.YtjkkefbfhapblaaRows
import Derived.Test.YtjkkefbfhapblaaRet
import Derived.Test.YtjkkefbfhapblaaFinite
import Derived.Test.YtjkkefbfhapblaaFin
namespace Go.Proofs.Ytjkkefbfhapblaa
set_option linter.unusedSimpArgs false
set_option linter.unusedVariables false
open Go.RowKit
namespace Rate
open Fl

/-- A number of a class, and whether there is one. -/
def RetFB (c : Option Nat) (b : Bool) (w : World) (e : Ending) (w' : World) : Prop := ∃ r, e = .returned (.tuple #[.float .f32 r, .bool b]) ∧ Fr .f32 r c ∧ Below w.heap.size w w'

/-- Whether a class is that of a finite number. -/
def finC (c : Option Nat) : Bool := match c with
  | none => false
  | some b => fin .f32 b

theorem fin_cl {r : Nat} {c : Option Nat} (f : Fr .f32 r c) : fin .f32 r = finC c := by
  cases c with
  | some b => rw [eq_of_some f]; rfl
  | none =>
    show fin .f32 r = false
    cases h : fin .f32 r
    · rfl
    · obtain ⟨s, m, p, hd⟩ := decode_fin h
      have := cl_none_iff.1 f.1
      rw [hd] at this; cases this

theorem product_run (x y : Nat) (c d : Option Nat) (w : World) (f0 : Fr .f32 x c) (f1 : Fr .f32 y d) :
    Calls Try.prog 92 #[.float .f32 x, .float .f32 y] w (RetF .f32 (op2 .mul .f32 c d) w) := by
  go_enter Try.func92, Try.ntmps92
  go_wp2_with (first | (refine Fl.wpList_fl rfl rfl rfl rfl rfl (by assumption) (by assumption) ?_; intro r n hr))
  go_ret
  exact ⟨_, rfl, by assumption, below_drewN (Below.refl _ _) _⟩

theorem spec_in (n : Int) (w : World) : Calls Try.prog 85 #[.int .i64 n, .int .i64 1, .int .i64 32] w (RetD (.bool (decide (1 ≤ n) && decide (n ≤ 32))) w) := by
  by_cases h1 : 1 ≤ n
  all_goals by_cases h2 : n ≤ 32
  all_goals
    go_enter Try.func85, Try.ntmps85
    go_wp2
    go_ret
    exact ⟨by first | rfl | simp [h1, h2], by (repeat' first | exact Below.refl _ _ | (refine Below.setCell ?_ (by first | omega | (simp; omega) | simp) _) | (refine below_drewN ?_ _) | (refine Below.alloc ?_ (by first | omega | (simp; omega) | simp) _) | (refine Below.trans ?_ (Below.mono (by assumption) (by first | omega | (simp; omega) | simp))))⟩

theorem impl_checked (r : Nat) (c : Option Nat) (w : World) (f : Fr .f32 r c) : Calls Try.prog 116 #[.float .f32 r] w (RetFB (if finC c then c else some 0) (finC c) w) := by
  have hr : r < 4294967296 := f.2
  have e := fin_cl f
  rw [← e]
  clear e
  have z0 : Fr .f32 0 (some 0) := Fr.const (by decide +kernel) (by decide)
  cases ff : fin .f32 r
  all_goals
    go_enter Try.func116, Try.ntmps116
    go_wp2_with (first | (go_at_call 68; refine (Finite.impl_finite _ _ (by assumption)).mono ?_; rintro e w' ⟨rfl, rfl⟩))
    go_ret2
    exact ⟨_, rfl, by first | exact z0 | exact f, by (repeat' first | exact Below.refl _ _ | (refine Below.setCell ?_ (by first | omega | (simp; omega) | simp) _) | (refine below_drewN ?_ _) | (refine Below.alloc ?_ (by first | omega | (simp; omega) | simp) _) | (refine Below.trans ?_ (Below.mono (by assumption) (by first | omega | (simp; omega) | simp))))⟩

/-- The rate. -/
abbrev rateC (n : Int) (r s : Option Nat) : Option Nat := op2 .quo .f32 (op2 .mul .f32 s (cl .f32 (floatOfInt .f32 (n - 1)))) (op2 .mul .f32 (op2 .mul .f32 (some 1117645287) r) r)

theorem inf_enc (s : Bool) : FloatKind.f32.decode (FloatKind.f32.encode (.infinity s)) = .infinity s := by cases s <;> decide +kernel

theorem not_fin_of {c : Option Nat} (h : c = none ∨ ∃ s, c = some (FloatKind.f32.encode (.infinity s))) : finC c = false := by
  rcases h with rfl | ⟨s, rfl⟩
  · rfl
  · show fin .f32 _ = false
    cases s <;> decide +kernel

/-- Of a number that is not finite, a product and a quotient are not finite. -/
theorem mul_inf {c : Option Nat} {s : Bool} (d : Option Nat) (h : c = some (FloatKind.f32.encode (.infinity s))) : op2 .mul .f32 c d = none ∨ ∃ s, op2 .mul .f32 c d = some (FloatKind.f32.encode (.infinity s)) := by
  subst h
  cases d with
  | none => exact .inl rfl
  | some b =>
    show floatBits .mul .f32 _ b = none ∨ ∃ s, floatBits .mul .f32 _ b = _
    have e : ∀ r, floatBits .mul .f32 (FloatKind.f32.encode (.infinity s)) b = r ↔ ((FloatKind.f32.decode (FloatKind.f32.encode (.infinity s))).product (FloatKind.f32.decode b)).map FloatKind.f32.encode = r := fun r => Iff.rfl
    simp only [e, inf_enc]
    cases FloatKind.f32.decode b with
    | nan => exact .inl rfl
    | infinity t => exact .inr ⟨_, rfl⟩
    | number t n j =>
      by_cases hn : n = 0
      · subst hn; exact .inl rfl
      · simp only [Ieee.Datum.product, if_neg hn]; exact .inr ⟨_, rfl⟩

theorem quo_inf {c : Option Nat} {s : Bool} (d : Option Nat) (h : c = some (FloatKind.f32.encode (.infinity s))) : op2 .quo .f32 c d = none ∨ ∃ s, op2 .quo .f32 c d = some (FloatKind.f32.encode (.infinity s)) := by
  subst h
  cases d with
  | none => exact .inl rfl
  | some b =>
    show floatBits .quo .f32 _ b = none ∨ ∃ s, floatBits .quo .f32 _ b = _
    have e : ∀ r, floatBits .quo .f32 (FloatKind.f32.encode (.infinity s)) b = r ↔ ((FloatKind.f32.decode (FloatKind.f32.encode (.infinity s))).quotient (FloatKind.f32.format.fractionBits + 2) (FloatKind.f32.decode b)).map FloatKind.f32.encode = r := fun r => Iff.rfl
    simp only [e, inf_enc]
    cases FloatKind.f32.decode b with
    | nan => exact .inl rfl
    | infinity t => exact .inl rfl
    | number t n j => exact .inr ⟨_, rfl⟩

theorem inf_cl {y : Nat} (hy : y < 4294967296) (h : fin .f32 y = false) : cl .f32 y = none ∨ ∃ s, cl .f32 y = some (FloatKind.f32.encode (.infinity s)) := by
  rcases decode_inf h with ⟨s, hd⟩ | ⟨s, u, hd⟩
  · have hc : cl .f32 y = some y := cl_some_iff.2 (by rw [hd]; rfl)
    refine .inr ⟨s, ?_⟩
    rw [hc]
    change Ieee.single.read y = _ at hd
    unfold Ieee.Format.read at hd
    simp only [show Ieee.single.signWeight = 2147483648 from by decide, show Ieee.single.binade = 8388608 from by decide, show Ieee.single.infRung = 2139095040 from by decide] at hd
    split at hd
    · cases hd
    · split at hd
      · cases hd
      · split at hd
        · next h3 =>
          cases hd
          have e1 : FloatKind.f32.encode (.infinity true) = 4286578688 := by decide +kernel
          have e2 : FloatKind.f32.encode (.infinity false) = 2139095040 := by decide +kernel
          by_cases hs : y / 2147483648 % 2 = 1
          · rw [hs, beq_self_eq_true, e1]; congr 1; omega
          · have e3 : (y / 2147483648 % 2 == 1) = false := by simpa using hs
            rw [e3, e2]; congr 1; omega
        · cases hd
  · exact .inl (cl_none_iff.2 (by rw [hd]; rfl))

theorem rate_inf {n : Int} {r : Option Nat} {y : Nat} (hy : y < 4294967296) (h : fin .f32 y = false) : finC (rateC n r (cl .f32 y)) = false := by
  refine not_fin_of ?_
  unfold rateC
  rcases inf_cl hy h with h | ⟨s, h⟩
  · rw [h]; exact .inl rfl
  · rcases mul_inf (cl .f32 (floatOfInt .f32 (n - 1))) h with h2 | ⟨s2, h2⟩
    · rw [h2]; exact .inl rfl
    · exact quo_inf _ h2