/- The sine of a number of turns: both sides answer one class. -/
import Derived.Test.YtpmnjbgfdhhomaaSine
import Derived.Test.YtpmnjbgfdhhomaaFinite
import Derived.Test.YtpmnjbgfdhhomaaFin
namespace Go.Proofs.Ytpmnjbgfdhhomaa
set_option linter.unusedSimpArgs false
set_option linter.unusedVariables false
open Go.RowKit
namespace Turn
open Fl Flat

theorem spec_nan (x : Nat) (c : Option Nat) (w : World) (f : Fr .f64 x c) (h0 : cmpC .neq (ord .f64 (op2 .sub .f64 c c) (some 0)) = true) : Calls Try.prog 72 #[.float .f64 x] w (RetF .f64 none w) := by
  have f0 : Fr .f64 0 (some 0) := Fr.const (by decide +kernel) (by decide)
  have hn : Fr .f64 9221120237041090561 none := ⟨by decide +kernel, by decide⟩
  have hb := float64frombits_run 9221120237041090561
  have hnan : ∀ w, Calls Try.prog 87 #[] w (RetF .f64 none w) := by
    intro w
    go_enter Try.func87, Try.ntmps87
    go_wp2
    go_ret
    exact ⟨_, rfl, hn, Below.refl _ _⟩
  have HN := Lib.hid hnan
  clear hnan hb hn
  go_enter Try.func72, Try.ntmps72
  go_wp2_with (first | (refine Fl.wpList_cmp rfl rfl rfl rfl rfl (by assumption) (by assumption) ?_; try simp only [h0]) | (refine Fl.wpList_fl rfl rfl rfl rfl rfl (by assumption) (by assumption) ?_; intro r n hr) | (go_at_call 87; refine (HN.out _).mono ?_; rintro e w' ⟨r, rfl, hr, hb⟩; have hz := hb.size; try simp only [World.size_alloc, World.size_setCell, World.heap_drewN, World.size_drew] at hz; obtain ⟨hc, hf⟩ := Fl.bcell hb; try (have g : w.heap.size < w'.heap.size := by omega); try (have g : w.heap.size ≤ w'.heap.size := by omega)))
  go_ret
  exact ⟨_, rfl, by assumption, by (repeat' first | exact Below.refl _ _ | (refine Below.setCell ?_ (by first | omega | (simp; omega) | simp) _) | (refine below_drewN ?_ _) | (refine Below.alloc ?_ (by first | omega | (simp; omega) | simp) _) | (refine Below.trans ?_ (Below.mono (by assumption) (by first | omega | (simp; omega) | simp))))⟩

theorem spec_big (x : Nat) (c : Option Nat) (w : World) (f : Fr .f64 x c) (h0 : cmpC .neq (ord .f64 (op2 .sub .f64 c c) (some 0)) = false) (up : Bool) (g1 : cmpC .geq (ord .f64 c (some 4841369599423283200)) = up) (g2 : cmpC .leq (ord .f64 c (some 14064741636278059008)) = !up) :
    Calls Try.prog 72 #[.float .f64 x] w (RetF .f64 (some 0) w) := by
  have f0 : Fr .f64 0 (some 0) := Fr.const (by decide +kernel) (by decide)
  have fu : Fr .f64 4841369599423283200 (some 4841369599423283200) := Fr.const (by decide +kernel) (by decide)
  have fd : Fr .f64 14064741636278059008 (some 14064741636278059008) := Fr.const (by decide +kernel) (by decide)
  cases up
  all_goals simp only [Bool.not_true, Bool.not_false] at g2
  all_goals
    go_enter Try.func72, Try.ntmps72
    go_wp2_with (first | (refine Fl.wpList_cmp rfl rfl rfl rfl rfl (by assumption) (by assumption) ?_; try simp only [h0, g1, g2]) | (refine Fl.wpList_fl rfl rfl rfl rfl rfl (by assumption) (by assumption) ?_; intro r n hr))
    go_ret
    exact ⟨_, rfl, f0, by (repeat' first | exact Below.refl _ _ | (refine Below.setCell ?_ (by first | omega | (simp; omega) | simp) _) | (refine below_drewN ?_ _) | (refine Below.alloc ?_ (by first | omega | (simp; omega) | simp) _) | (refine Below.trans ?_ (Below.mono (by assumption) (by first | omega | (simp; omega) | simp))))⟩