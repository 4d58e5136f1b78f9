/- Two vectors are the same where the bits of their numbers are. -/
import Derived.Test.YtpmnjbgfdhhomabGreatDoorRows
import Derived.Test.YtpmnjbgfdhhomabGreatDoorRet
import Derived.Test.YtpmnjbgfdhhomabGreatDoorVec
import Derived.Test.YtpmnjbgfdhhomabGreatDoorBits
import Derived.Laws.StructEq
namespace Go.Proofs.YtpmnjbgfdhhomabGreatDoor
set_option linter.unusedSimpArgs false
set_option linter.unusedVariables false
open Go.RowKit
namespace SameV
open Fl

theorem fr_lt {x : Nat} {c : Option Nat} (f : Fr .f32 x c) : x < 4294967296 := f.2

theorem spec_bits (x : Nat) (c : Option Nat) (w : World) (f : Fr .f32 x c) : Calls Tryz.prog 32 #[.float .f32 x] w (RetD (.int .i64 (bitsC c)) w) :=
  (Bits.spec_bits x w (fr_lt f)).mono fun e w' ⟨he, hw⟩ => ⟨by rw [he, f.1], by rw [hw]; exact Below.refl _ _⟩

theorem impl_bits (x : Nat) (c : Option Nat) (w : World) (f : Fr .f32 x c) : Calls Tryz.prog 43 #[.float .f32 x] w (RetD (.int .i64 (bitsC c)) w) :=
  (Bits.impl_bits x w (fr_lt f)).mono fun e w' ⟨he, hw⟩ => ⟨by rw [he, f.1], by rw [hw]; exact Below.refl _ _⟩

@[go_sem] theorem eq_bits (a b c d e f : Int) (w : World) : (Op.equalIn 10000 51 (.agg #[.int .i64 a, .int .i64 b, .int .i64 c]) (.agg #[.int .i64 d, .int .i64 e, .int .i64 f])).run Tryz.prog w = .ok (a == d && b == e && c == f) w := by
  have u := Tryz.underlying2
  have hS : Tryz.prog.underlying 51 = some (.struct (Tryz.prog.fieldsOf 51)) := by kernel_rfl
  have hp : Tryz.prog.stoodInHeld 51 = false := by kernel_rfl
  rw [show (10000 : Nat) = 9999 + 1 from rfl, run_equalIn_agg w 9999 51 _ _ hS hp]
  simp only [Program.fieldsOf, Tryz.underlying51]
  go_simp
  by_cases h1 : a = d <;> by_cases h2 : b = e <;> by_cases h3 : c = f <;> simp [h1, h2, h3]

set_option maxHeartbeats 800000 in
theorem bits_vec (a0 a1 a2 : Nat) (c0 c1 c2 : Option Nat) (w : World) (f0 : Fr .f32 a0 c0) (f1 : Fr .f32 a1 c1) (f2 : Fr .f32 a2 c2) : Calls Tryz.prog 30 #[.agg #[.float .f32 a0, .float .f32 a1, .float .f32 a2]] w (RetD (.agg #[.int .i64 (bitsC c0), .int .i64 (bitsC c1), .int .i64 (bitsC c2)]) w) := by
  go_enter Tryz.func30, Tryz.ntmps30
  go_wp2_with (first | fail)
  refine Loose.wp_region_below 10 [] (by kernel_rfl) (by kernel_rfl) (by simp [undef]) ?_
  apply Exists.intro
  simp only [List.take_succ_cons, List.take_zero, List.drop_succ_cons, List.drop_zero]
  repeat (first | (apply Loose.walk_step; intro K hK; apply Loose.turn_value (hwant := rfl) (hd := rfl); (focus (intro w' hw'; obtain ⟨hc, hf⟩ := Fl.bcell hw'; go_simp; first | done | rfl | exact ⟨rfl, rfl⟩)); go_simp; refine hK _ ?_; clear hK K) | (apply Loose.walk_step; intro K hK; apply Loose.turn_callD (Nat.le_refl _) (hwant := rfl) (hd := rfl); (focus (intro w'; go_simp; first | done | rfl | exact ⟨rfl, rfl⟩)); (focus (intro w'; go_at_call 43; exact impl_bits _ _ _ (by assumption))); skip; go_simp; refine hK _ ?_; clear hK K))
  refine Loose.walk_nil ?_
  intro w1 hcls1
  obtain ⟨hb1, _⟩ := hcls1
  obtain ⟨hc1, hf1⟩ := Fl.bcell hb1
  have hz1 := hb1.size
  try simp only [World.size_alloc, World.size_setCell, World.heap_drewN, World.size_drew] at hz1
  go_wp2
  refine bodyPost_ret ?ohr rfl ⟨rfl, ?obel⟩
  case ohr => simp [results, Tryz.results30, go_sem, *]
  case obel => (repeat' first | exact Below.refl _ _ | (refine Below.setCell ?_ (by first | omega | (simp; omega) | simp) _) | (refine below_drewN ?_ _) | (refine Below.alloc ?_ (by first | omega | (simp; omega) | simp) _) | (refine Below.trans ?_ (Below.mono (by assumption) (by first | omega | (simp; omega) | simp))))

set_option maxHeartbeats 800000 in
theorem impl_same (a0 a1 a2 b0 b1 b2 : Nat) (c0 c1 c2 d0 d1 d2 : Option Nat) (b : Bool) (w : World) (f0 : Fr .f32 a0 c0) (f1 : Fr .f32 a1 c1) (f2 : Fr .f32 a2 c2) (g0 : Fr .f32 b0 d0) (g1 : Fr .f32 b1 d1) (g2 : Fr .f32 b2 d2) (hs : (bitsC c0 == bitsC d0 && bitsC c1 == bitsC d1 && bitsC c2 == bitsC d2) = b) : Calls Tryz.prog 20 #[.agg #[.float .f32 a0, .float .f32 a1, .float .f32 a2], .agg #[.float .f32 b0, .float .f32 b1, .float .f32 b2]] w (RetD (.bool b) w) := by
  go_enter Tryz.func20, Tryz.ntmps20
  go_wp2_with (first | fail)
  refine Loose.wp_region_below 5 [] (by kernel_rfl) (by kernel_rfl) (by simp [undef]) ?_
  apply Exists.intro
  simp only [List.take_succ_cons, List.take_zero, List.drop_succ_cons, List.drop_zero]
  repeat (first | (apply Loose.walk_step; intro K hK; apply Loose.turn_value (hwant := rfl) (hd := rfl); (focus (intro w' hw'; obtain ⟨hc, hf⟩ := Fl.bcell hw'; go_simp; first | done | rfl | exact ⟨rfl, rfl⟩)); go_simp; refine hK _ ?_; clear hK K) | (apply Loose.walk_step; intro K hK; apply Loose.turn_callD (Nat.le_refl _) (hwant := rfl) (hd := rfl); (focus (intro w'; go_simp; first | done | rfl | exact ⟨rfl, rfl⟩)); (focus (intro w'; go_at_call 30; exact bits_vec _ _ _ _ _ _ _ (by assumption) (by assumption) (by assumption))); skip; go_simp; refine hK _ ?_; clear hK K) | (apply Loose.walk_step; intro K hK; apply Loose.turn_value (v := .bool b) (hwant := rfl) (hd := rfl); (focus (intro w' hw'; go_simp; by_cases h1 : bitsC c0 = bitsC d0 <;> by_cases h2 : bitsC c1 = bitsC d1 <;> by_cases h3 : bitsC c2 = bitsC d2 <;> (rw [← hs]; simp [h1, h2, h3]))); go_simp; refine hK _ ?_; clear hK K))
  refine Loose.walk_nil ?_
  intro w1 hcls1
  obtain ⟨hb1, _⟩ := hcls1
  obtain ⟨hc1, hf1⟩ := Fl.bcell hb1
  have hz1 := hb1.size
  try simp only [World.size_alloc, World.size_setCell, World.heap_drewN, World.size_drew] at hz1
  go_wp2
  go_ret
  refine ⟨?_, by (repeat' first | exact Below.refl _ _ | (refine Below.setCell ?_ (by first | omega | (simp; omega) | simp) _) | (refine below_drewN ?_ _) | (refine Below.alloc ?_ (by first | omega | (simp; omega) | simp) _) | (refine Below.trans ?_ (Below.mono (by assumption) (by first | omega | (simp; omega) | simp))))⟩
  simp_all

theorem spec_num (x y : Nat) (c d : Option Nat) (b : Bool) (w : World) (f : Fr .f32 x c) (g : Fr .f32 y d) (hs : (bitsC c == bitsC d) = b) : Calls Tryz.prog 24 #[.float .f32 x, .float .f32 y] w (RetD (.bool b) w) := by
  go_enter Tryz.func24, Tryz.ntmps24
  go_wp2_with (first | (go_at_call 32; refine (spec_bits _ _ _ (by assumption)).mono ?_; rintro e w' ⟨rfl, hb⟩; have hz := hb.size; try simp only [World.size_alloc, World.size_setCell, World.heap_drewN, World.size_drew] at hz; obtain ⟨hc, hf⟩ := Fl.bcell hb; try (have g : w.heap.size < w'.heap.size := by omega); try (have g : w.heap.size ≤ w'.heap.size := by omega)))
  go_ret
  refine ⟨?_, by (repeat' first | exact Below.refl _ _ | (refine Below.setCell ?_ (by first | omega | (simp; omega) | simp) _) | (refine below_drewN ?_ _) | (refine Below.alloc ?_ (by first | omega | (simp; omega) | simp) _) | (refine Below.trans ?_ (Below.mono (by assumption) (by first | omega | (simp; omega) | simp))))⟩
  simp_all

end SameV
end Go.Proofs.YtpmnjbgfdhhomabGreatDoor
