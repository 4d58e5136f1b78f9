/- Two vectors are the same where the bits of their numbers are. -/
import Derived.Test.YtjkkefbfhapblaaRows
import Derived.Test.YtjkkefbfhapblaaRet
import Derived.Test.YtjkkefbfhapblaaVec
import Derived.Test.YtjkkefbfhapblaaBits
import Derived.Laws.StructEq
namespace Go.Proofs.Ytjkkefbfhapblaa
set_option linter.unusedSimpArgs false
set_option linter.unusedVariables false
open Go.RowKit
namespace SameV
open Fl

theorem fr_lt {x : Nat} {c : Option Nat} (f : Fr .f32 x c) : x < 4294967296 := f.2

theorem spec_bits (x : Nat) (c : Option Nat) (w : World) (f : Fr .f32 x c) : Calls Try.prog 122 #[.float .f32 x] w (RetD (.int .i64 (bitsC c)) w) :=
  (Bits.spec_bits x w (fr_lt f)).mono fun e w' ⟨he, hw⟩ => ⟨by rw [he, f.1], by rw [hw]; exact Below.refl _ _⟩

theorem impl_bits (x : Nat) (c : Option Nat) (w : World) (f : Fr .f32 x c) : Calls Try.prog 104 #[.float .f32 x] w (RetD (.int .i64 (bitsC c)) w) :=
  (Bits.impl_bits x w (fr_lt f)).mono fun e w' ⟨he, hw⟩ => ⟨by rw [he, f.1], by rw [hw]; exact Below.refl _ _⟩

theorem spec_num (x y : Nat) (c d : Option Nat) (b : Bool) (w : World) (f : Fr .f32 x c) (g : Fr .f32 y d) (hs : (bitsC c == bitsC d) = b) : Calls Try.prog 102 #[.float .f32 x, .float .f32 y] w (RetD (.bool b) w) := by
  go_enter Try.func102, Try.ntmps102
  go_wp2_with (first | (go_at_call 122; refine (spec_bits _ _ _ (by assumption)).mono ?_; rintro e w' ⟨rfl, hb⟩; have hz := hb.size; try simp only [World.size_alloc, World.size_setCell, World.heap_drewN, World.size_drew] at hz; obtain ⟨hc, hf⟩ := Fl.bcell hb; try (have g : w.heap.size < w'.heap.size := by omega); try (have g : w.heap.size ≤ w'.heap.size := by omega)))
  go_ret
  refine ⟨?_, by (repeat' first | exact Below.refl _ _ | (refine Below.setCell ?_ (by first | omega | (simp; omega) | simp) _) | (refine below_drewN ?_ _) | (refine Below.alloc ?_ (by first | omega | (simp; omega) | simp) _) | (refine Below.trans ?_ (Below.mono (by assumption) (by first | omega | (simp; omega) | simp))))⟩
  simp_all

set_option maxHeartbeats 1600000 in
theorem spec_same (a0 a1 a2 b0 b1 b2 : Nat) (c0 c1 c2 d0 d1 d2 : Option Nat) (b : Bool) (w : World) (f0 : Fr .f32 a0 c0) (f1 : Fr .f32 a1 c1) (f2 : Fr .f32 a2 c2) (g0 : Fr .f32 b0 d0) (g1 : Fr .f32 b1 d1) (g2 : Fr .f32 b2 d2) (hs : (bitsC c0 == bitsC d0 && bitsC c1 == bitsC d1 && bitsC c2 == bitsC d2) = b) : Calls Try.prog 103 #[.agg #[.float .f32 a0, .float .f32 a1, .float .f32 a2], .agg #[.float .f32 b0, .float .f32 b1, .float .f32 b2]] w (RetD (.bool b) w) := by
  cases h0 : (bitsC c0 == bitsC d0)
  · have hb : b = false := by rw [← hs, h0]; rfl
    subst hb
    clear hs
    go_enter Try.func103, Try.ntmps103
    go_wp2_with fail
    refine (spec_num _ _ _ _ _ _ (by assumption) (by assumption) (by assumption)).mono ?_
    rintro e w1 ⟨rfl, hb1⟩
    have hz1 := hb1.size
    try simp only [World.size_alloc, World.size_setCell, World.heap_drewN, World.size_drew] at hz1
    obtain ⟨hc1, hf1⟩ := Fl.bcell hb1
    try (have g1_0 : w.heap.size < w1.heap.size := by omega)
    try (have l1_0 : w.heap.size ≤ w1.heap.size := by omega)
    try (have g1_1 : w.heap.size + 1 < w1.heap.size := by omega)
    try (have l1_1 : w.heap.size + 1 ≤ w1.heap.size := by omega)
    go_wp2
    go_ret
    exact ⟨rfl, by (repeat' first | exact Below.refl _ _ | (refine Below.setCell ?_ (by first | omega | (simp; omega) | simp) _) | (refine below_drewN ?_ _) | (refine Below.alloc ?_ (by first | omega | (simp; omega) | simp) _) | (refine Below.trans ?_ (Below.mono (by assumption) (by first | omega | (simp; omega) | simp))))⟩
  · cases h1 : (bitsC c1 == bitsC d1)
    · have hb : b = false := by rw [← hs, h0, h1]; rfl
      subst hb
      clear hs
      go_enter Try.func103, Try.ntmps103
      go_wp2_with fail
      refine (spec_num _ _ _ _ _ _ (by assumption) (by assumption) (by assumption)).mono ?_
      rintro e w1 ⟨rfl, hb1⟩
      have hz1 := hb1.size
      try simp only [World.size_alloc, World.size_setCell, World.heap_drewN, World.size_drew] at hz1
      obtain ⟨hc1, hf1⟩ := Fl.bcell hb1
      try (have g1_0 : w.heap.size < w1.heap.size := by omega)
      try (have l1_0 : w.heap.size ≤ w1.heap.size := by omega)
      try (have g1_1 : w.heap.size + 1 < w1.heap.size := by omega)
      try (have l1_1 : w.heap.size + 1 ≤ w1.heap.size := by omega)
      go_wp2_with fail
      refine (spec_num _ _ _ _ _ _ (by assumption) (by assumption) (by assumption)).mono ?_
      rintro e w2 ⟨rfl, hb2⟩
      have hz2 := hb2.size
      try simp only [World.size_alloc, World.size_setCell, World.heap_drewN, World.size_drew] at hz2
      obtain ⟨hc2, hf2⟩ := Fl.bcell hb2
      try (have g2_0 : w.heap.size < w2.heap.size := by omega)
      try (have l2_0 : w.heap.size ≤ w2.heap.size := by omega)
      try (have g2_1 : w.heap.size + 1 < w2.heap.size := by omega)
      try (have l2_1 : w.heap.size + 1 ≤ w2.heap.size := by omega)
      go_wp2
      go_ret
      exact ⟨rfl, by (repeat' first | exact Below.refl _ _ | (refine Below.setCell ?_ (by first | omega | (simp; omega) | simp) _) | (refine below_drewN ?_ _) | (refine Below.alloc ?_ (by first | omega | (simp; omega) | simp) _) | (refine Below.trans ?_ (Below.mono (by assumption) (by first | omega | (simp; omega) | simp))))⟩
    · have h2 : (bitsC c2 == bitsC d2) = b := by rw [← hs, h0, h1]; rfl
      clear hs
      go_enter Try.func103, Try.ntmps103
      go_wp2_with fail
      refine (spec_num _ _ _ _ _ _ (by assumption) (by assumption) (by assumption)).mono ?_
      rintro e w1 ⟨rfl, hb1⟩
      have hz1 := hb1.size
      try simp only [World.size_alloc, World.size_setCell, World.heap_drewN, World.size_drew] at hz1
      obtain ⟨hc1, hf1⟩ := Fl.bcell hb1
      try (have g1_0 : w.heap.size < w1.heap.size := by omega)
      try (have l1_0 : w.heap.size ≤ w1.heap.size := by omega)
      try (have g1_1 : w.heap.size + 1 < w1.heap.size := by omega)
      try (have l1_1 : w.heap.size + 1 ≤ w1.heap.size := by omega)
      go_wp2_with fail
      refine (spec_num _ _ _ _ _ _ (by assumption) (by assumption) (by assumption)).mono ?_
      rintro e w2 ⟨rfl, hb2⟩
      have hz2 := hb2.size
      try simp only [World.size_alloc, World.size_setCell, World.heap_drewN, World.size_drew] at hz2
      obtain ⟨hc2, hf2⟩ := Fl.bcell hb2
      try (have g2_0 : w.heap.size < w2.heap.size := by omega)
      try (have l2_0 : w.heap.size ≤ w2.heap.size := by omega)
      try (have g2_1 : w.heap.size + 1 < w2.heap.size := by omega)
      try (have l2_1 : w.heap.size + 1 ≤ w2.heap.size := by omega)
      go_wp2_with fail
      refine (spec_num _ _ _ _ _ _ (by assumption) (by assumption) (by assumption)).mono ?_
      rintro e w3 ⟨rfl, hb3⟩
      have hz3 := hb3.size
      try simp only [World.size_alloc, World.size_setCell, World.heap_drewN, World.size_drew] at hz3
      obtain ⟨hc3, hf3⟩ := Fl.bcell hb3
      try (have g3_0 : w.heap.size < w3.heap.size := by omega)
      try (have l3_0 : w.heap.size ≤ w3.heap.size := by omega)
      try (have g3_1 : w.heap.size + 1 < w3.heap.size := by omega)
      try (have l3_1 : w.heap.size + 1 ≤ w3.heap.size := by omega)
      go_wp2
      go_ret
      exact ⟨rfl, by (repeat' first | exact Below.refl _ _ | (refine Below.setCell ?_ (by first | omega | (simp; omega) | simp) _) | (refine below_drewN ?_ _) | (refine Below.alloc ?_ (by first | omega | (simp; omega) | simp) _) | (refine Below.trans ?_ (Below.mono (by assumption) (by first | omega | (simp; omega) | simp))))⟩

end SameV
end Go.Proofs.Ytjkkefbfhapblaa
