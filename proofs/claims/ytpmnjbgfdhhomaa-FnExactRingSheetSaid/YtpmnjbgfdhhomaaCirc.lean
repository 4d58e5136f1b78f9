/- Points around a circle: the program's function and the model's. -/
import Derived.Test.YtpmnjbgfdhhomaaPhasB
import Derived.Test.YtpmnjbgfdhhomaaRate
import Derived.Test.YtpmnjbgfdhhomaaCplx
import Derived.Test.YtpmnjbgfdhhomaaLog
namespace Go.Proofs.Ytpmnjbgfdhhomaa
set_option linter.unusedSimpArgs false
set_option linter.unusedVariables false
open Go.RowKit
namespace Circ
open Fl Rate

theorem isint (K : Int) : Fr .f64 (floatOfInt .f64 K) (cl .f64 (floatOfInt .f64 K)) := Turn.intFr K

theorem impl_scale (x y z : Nat) (c d e : Option Nat) (w : World) (fx : Fr .f32 x c) (fy : Fr .f32 y d) (fz : Fr .f32 z e) : Calls Try.prog 74 #[.complex .f32 x y, .float .f32 z] w (RetC .f32 (op2 .mul .f32 c e) (op2 .mul .f32 d e) w) := by
  go_enter Try.func74, Try.ntmps74
  go_wp2_with (first | (go_at_call 35; refine (product_run _ _ _ _ _ (by assumption) (by assumption)).mono ?_; rintro e w' ⟨r, rfl, hr, hb⟩; have hz := hb.size; try simp only [World.size_alloc, World.size_setCell, World.heap_drewN, World.size_drew] at hz; obtain ⟨hc, hf⟩ := Fl.bcell hb; try (have g : w.heap.size < w'.heap.size := by omega); try (have g : w.heap.size ≤ w'.heap.size := by omega)))
  go_ret
  exact ⟨_, _, rfl, by assumption, by assumption, by (repeat' first | exact Below.refl _ _ | (refine Below.setCell ?_ (by first | omega | (simp; omega) | simp) _) | (refine below_drewN ?_ _) | (refine Below.alloc ?_ (by first | omega | (simp; omega) | simp) _) | (refine Below.trans ?_ (Below.mono (by assumption) (by first | omega | (simp; omega) | simp))))⟩

theorem spec_scale (x y z : Nat) (c d e : Option Nat) (w : World) (fx : Fr .f32 x c) (fy : Fr .f32 y d) (fz : Fr .f32 z e) : Calls Try.prog 42 #[.complex .f32 x y, .float .f32 z] w (RetC .f32 (op2 .mul .f32 c e) (op2 .mul .f32 d e) w) := by
  go_enter Try.func42, Try.ntmps42
  go_wp2_with (first | (refine Fl.wpList_fl rfl rfl rfl rfl rfl (by assumption) (by assumption) ?_; intro r n hr))
  go_ret
  exact ⟨_, _, rfl, by assumption, by assumption, by (repeat' first | exact Below.refl _ _ | (refine Below.setCell ?_ (by first | omega | (simp; omega) | simp) _) | (refine below_drewN ?_ _) | (refine Below.alloc ?_ (by first | omega | (simp; omega) | simp) _) | (refine Below.trans ?_ (Below.mono (by assumption) (by first | omega | (simp; omega) | simp))))⟩

/-- The turns of whirl k of n. -/
def turnC (n k : Nat) : Option Nat := op2 .quo .f64 (cl .f64 (floatOfInt .f64 (k : Int))) (cl .f64 (floatOfInt .f64 (n : Int)))

theorem int_gd {n : Nat} (h1 : 1 ≤ n) (h2 : n ≤ 48) : Gd 0 (cl .f64 (floatOfInt .f64 (n : Int))) := by
  have hm : n ≠ 0 := by omega
  have hl : n.log2 ≤ 52 := log2_le (by omega)
  have hn := norm false n 0 0 hm hl (by omega) (by omega)
  have e : floatOfInt .f64 (n : Int) = FloatKind.f64.encode (.number false (n * 2 ^ 0) 0) := by
    rw [Nat.pow_zero, Nat.mul_one]
    show FloatKind.f64.encode (.number (decide ((n : Int) < 0)) (n : Int).natAbs 0) = _
    rw [decide_eq_false (by omega), Int.natAbs_natCast]
  obtain ⟨_, _, hnn⟩ := int_val (n : Int) (by omega)
  refine ⟨_, cl_some_iff.2 hnn, ?_⟩
  rw [e, hn]
  have hp : 2 ^ n.log2 ≤ n := Nat.log2_self_le hm
  have hq : 4503599627370496 ≤ n * 2 ^ (52 - n.log2) := by
    have := Nat.mul_le_mul_right (2 ^ (52 - n.log2)) hp
    rw [← Nat.pow_add, show n.log2 + (52 - n.log2) = 52 by omega] at this
    exact this
  have hlog : 52 ≤ (n * 2 ^ (52 - n.log2)).log2 := (Nat.le_log2 (by omega)).2 hq
  exact ⟨by omega, by omega⟩

theorem turn_some {n k : Nat} (h1 : 1 ≤ n) (h2 : n ≤ 48) (hk : k ≤ 48) : ∃ b, turnC n k = some b := by
  have hb := (Log.int_bd (n := (k : Int)) (e := 6) (by simp; omega) (by omega)).quo (int_gd h1 h2) (by omega) (by omega)
  obtain ⟨b, e, _⟩ := hb
  exact ⟨b, e⟩

/-- The points of the circle. -/
def Points (n : Nat) (re im : Nat → Option Nat) : Prop := ∀ k, k < n → ∀ x, Fr .f64 x (turnC n k) → (∀ w, Calls Try.prog 43 #[.float .f64 x] w (RetC .f32 (re k) (im k) w)) ∧ (∀ w, Calls Try.prog 21 #[.float .f64 x] w (RetC .f32 (re k) (im k) w))

theorem points {n : Nat} (h1 : 1 ≤ n) (h2 : n ≤ 48) : ∃ re im, Points n re im := by
  have key : ∀ k : Nat, ∃ p : Option Nat × Option Nat, k < n → ∀ x, Fr .f64 x (turnC n k) → (∀ w, Calls Try.prog 43 #[.float .f64 x] w (RetC .f32 p.1 p.2 w)) ∧ (∀ w, Calls Try.prog 21 #[.float .f64 x] w (RetC .f32 p.1 p.2 w)) := by
    intro k
    by_cases hk : k < n
    · obtain ⟨b, e⟩ := turn_some h1 h2 (show k ≤ 48 by omega)
      by_cases hb : b < 18446744073709551616
      · obtain ⟨A, B, s, i⟩ := Turn.both_l01 b hb
        refine ⟨(A, B), fun _ x f => ?_⟩
        rw [e] at f
        rw [eq_of_some f]
        exact ⟨s, i⟩
      · refine ⟨(none, none), fun _ x f => ?_⟩
        rw [e] at f
        have hx := f.2
        rw [eq_of_some f] at hx
        exact absurd hx hb
    · exact ⟨(none, none), fun h => absurd h hk⟩
  obtain ⟨f, hf⟩ := Classical.axiomOfChoice key
  exact ⟨fun k => (f k).1, fun k => (f k).2, fun k hk x fx => hf k hk x fx⟩

abbrev pcx (re : Nat → Option Nat) (c : Option Nat) (k : Nat) : Option Nat := op2 .mul .f32 (re k) c

theorem impl_circle (n k x : Nat) (c : Option Nat) (re im : Nat → Option Nat) (w : World) (hk : k < n) (fx : Fr .f32 x c) (hp : Points n re im) : Calls Try.prog 45 #[.int .i64 (k : Int), .int .i64 (n : Int), .float .f32 x] w (RetC .f32 (pcx re c k) (pcx im c k) w) := by
  have HP := Lib.hid (fun x hx => (hp k hk x hx).2)
  have fk := isint (k : Int)
  have fn := isint (n : Int)
  clear hp
  go_enter Try.func45, Try.ntmps45
  go_wp2_with (refine Fl.wpList_fl rfl rfl rfl rfl rfl fk fn ?_; intro r n' hr)
  refine (HP.out _ hr _).mono ?_
  rintro e w3 ⟨px, py, rfl, fpx, fpy, hb3⟩
  have hz3 := hb3.size
  simp only [World.heap_drewN] at hz3
  go_wp2_with fail
  refine (impl_scale _ _ _ _ _ _ _ fpx fpy fx).mono ?_
  rintro e w4 ⟨sx, sy, rfl, fsx, fsy, hb4⟩
  go_wp2
  go_ret
  exact ⟨_, _, rfl, fsx, fsy, by (repeat' first | exact Below.refl _ _ | (refine Below.setCell ?_ (by first | omega | (simp; omega) | simp) _) | (refine below_drewN ?_ _) | (refine Below.alloc ?_ (by first | omega | (simp; omega) | simp) _) | (refine Below.trans ?_ (Below.mono (by assumption) (by first | omega | (simp; omega) | simp))))⟩
end Circ
end Go.Proofs.Ytpmnjbgfdhhomaa
