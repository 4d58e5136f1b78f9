/- The length of a vector. -/
import Derived.Test.YtjkkefbfhapblaaVec
import Derived.Test.YtjkkefbfhapblaaRoot
namespace Go.Proofs.Ytjkkefbfhapblaa
set_option linter.unusedSimpArgs false
set_option linter.unusedVariables false
open Go.RowKit
namespace Size
open Fl

set_option maxHeartbeats 800000 in
theorem spec_size (a0 a1 a2 : Nat) (c0 c1 c2 : Option Nat) (w : World) (f0 : Fr .f32 a0 c0) (f1 : Fr .f32 a1 c1) (f2 : Fr .f32 a2 c2) : Calls Try.prog 62 #[.agg #[.float .f32 a0, .float .f32 a1, .float .f32 a2]] w (RetF .f32 (convC .f64 .f32 (sqrtC (convC .f32 .f64 (op2 .add .f32 (op2 .add .f32 (op2 .mul .f32 c0 c0) (op2 .mul .f32 c1 c1)) (op2 .mul .f32 c2 c2))))) w) := by
  go_enter Try.func62, Try.ntmps62
  go_wp2_with (first | (go_at_call 70; refine (Vec.spec_inner _ _ _ _ _ _ _ _ _ _ _ _ _ (by assumption) (by assumption) (by assumption) (by assumption) (by assumption) (by assumption)).mono ?_; rintro e w' ⟨r, rfl, hr, hb⟩; have hz := hb.size; try simp only [World.size_alloc, World.size_setCell, World.heap_drewN, World.size_drew] at hz; obtain ⟨hc, hf⟩ := Fl.bcell hb; try (have g : w.heap.size < w'.heap.size := by omega); try (have g : w.heap.size ≤ w'.heap.size := by omega)) | (go_at_call 72; refine (Root.spec_root _ _ _ (by assumption)).mono ?_; rintro e w' ⟨r, rfl, hr, hb⟩; have hz := hb.size; try simp only [World.size_alloc, World.size_setCell, World.heap_drewN, World.size_drew] at hz; obtain ⟨hc, hf⟩ := Fl.bcell hb; try (have g : w.heap.size < w'.heap.size := by omega); try (have g : w.heap.size ≤ w'.heap.size := by omega)))
  go_ret
  exact ⟨_, rfl, by assumption, by (repeat' first | exact Below.refl _ _ | (refine Below.setCell ?_ (by first | omega | (simp; omega) | simp) _) | (refine below_drewN ?_ _) | (refine Below.alloc ?_ (by first | omega | (simp; omega) | simp) _) | (refine Below.trans ?_ (Below.mono (by assumption) (by first | omega | (simp; omega) | simp))))⟩

set_option maxHeartbeats 800000 in
theorem impl_size (a0 a1 a2 : Nat) (c0 c1 c2 : Option Nat) (w : World) (f0 : Fr .f32 a0 c0) (f1 : Fr .f32 a1 c1) (f2 : Fr .f32 a2 c2) : Calls Try.prog 66 #[.agg #[.float .f32 a0, .float .f32 a1, .float .f32 a2]] w (RetF .f32 (convC .f64 .f32 (sqrtC (convC .f32 .f64 (op2 .add .f32 (op2 .add .f32 (op2 .mul .f32 c0 c0) (op2 .mul .f32 c1 c1)) (op2 .mul .f32 c2 c2))))) w) := by
  go_enter Try.func66, Try.ntmps66
  go_wp2_with (first | (go_at_call 107; refine (Vec.impl_inner _ _ _ _ _ _ _ _ _ _ _ _ _ (by assumption) (by assumption) (by assumption) (by assumption) (by assumption) (by assumption)).mono ?_; rintro e w' ⟨r, rfl, hr, hb⟩; have hz := hb.size; try simp only [World.size_alloc, World.size_setCell, World.heap_drewN, World.size_drew] at hz; obtain ⟨hc, hf⟩ := Fl.bcell hb; try (have g : w.heap.size < w'.heap.size := by omega); try (have g : w.heap.size ≤ w'.heap.size := by omega)) | (go_at_call 106; refine (Root.impl_root _ _ _ (by assumption)).mono ?_; rintro e w' ⟨r, rfl, hr, hb⟩; have hz := hb.size; try simp only [World.size_alloc, World.size_setCell, World.heap_drewN, World.size_drew] at hz; obtain ⟨hc, hf⟩ := Fl.bcell hb; try (have g : w.heap.size < w'.heap.size := by omega); try (have g : w.heap.size ≤ w'.heap.size := by omega)))
  go_ret
  exact ⟨_, rfl, by assumption, by (repeat' first | exact Below.refl _ _ | (refine Below.setCell ?_ (by first | omega | (simp; omega) | simp) _) | (refine below_drewN ?_ _) | (refine Below.alloc ?_ (by first | omega | (simp; omega) | simp) _) | (refine Below.trans ?_ (Below.mono (by assumption) (by first | omega | (simp; omega) | simp))))⟩

end Size
end Go.Proofs.Ytjkkefbfhapblaa
