/- A pair of whirls: the program's function and the model's. -/
import Derived.Test.YtpmnjbgfdhhomaaMark
import Derived.Test.YtpmnjbgfdhhomaaHalf
namespace Go.Proofs.Ytpmnjbgfdhhomaa
set_option linter.unusedSimpArgs false
set_option linter.unusedVariables false
open Go.RowKit
namespace Ws
open Fl Rate

/-- Whirls in a block of the call's own, or none. -/
def RetWs (A : Bool) (n : Nat) (cx cy cs : Nat → Option Nat) (w : World) (e : Ending) (w' : World) : Prop :=
  (A = true ∧ ∃ g cap, e = .returned (.tuple #[.slice (some ⟨g, 0, none⟩) n cap, .bool true]) ∧ w.heap.size ≤ g ∧ IsW w' g n cx cy cs ∧ Below w.heap.size w w') ∨
  (A = false ∧ e = .returned (.tuple #[.slice none 0 0, .bool false]) ∧ Below w.heap.size w w')

theorem impl_give (g n cap : Nat) (cx cy cs : Nat → Option Nat) (w : World) (h : IsW w g n cx cy cs) (hn : n ≤ 32) (A : Bool) (hA : allF cx cy cs n = A) : Calls Try.prog 48 #[.slice (some ⟨g, 0, none⟩) n cap] w (RetD (if A then .tuple #[.slice (some ⟨g, 0, none⟩) n cap, .bool true] else .tuple #[.slice none 0 0, .bool false]) w) := by
  have hc := impl_are g n cap cx cy cs w h hn
  rw [hA] at hc
  have HC := Lib.hid hc
  clear hc hA h
  cases A
  all_goals
    go_enter Try.func48, Try.ntmps48
    go_wp2_with (first | (go_at_call 76; refine (HC.out).mono ?_; rintro e w' ⟨rfl, hb⟩; have hz := hb.size; try simp only [World.size_alloc, World.size_setCell, World.heap_drewN, World.size_drew] at hz; obtain ⟨hc, hf⟩ := Fl.bcell hb; try (have g : w.heap.size < w'.heap.size := by omega); try (have g : w.heap.size ≤ w'.heap.size := by omega)))
    go_ret2
    exact ⟨rfl, by (repeat' first | exact Below.refl _ _ | (refine Below.setCell ?_ (by first | omega | (simp; omega) | simp) _) | (refine below_drewN ?_ _) | (refine Below.alloc ?_ (by first | omega | (simp; omega) | simp) _) | (refine Below.trans ?_ (Below.mono (by assumption) (by first | omega | (simp; omega) | simp))))⟩

theorem spec_give (g n cap : Nat) (cx cy cs : Nat → Option Nat) (w : World) (h : IsW w g n cx cy cs) (hn : n ≤ 32) (A : Bool) (hA : allF cx cy cs n = A) : Calls Try.prog 46 #[.slice (some ⟨g, 0, none⟩) n cap] w (RetD (if A then .tuple #[.slice (some ⟨g, 0, none⟩) n cap, .bool true] else .tuple #[.slice none 0 0, .bool false]) w) := by
  have hc := spec_are g n cap cx cy cs w h hn
  rw [hA] at hc
  have HC := Lib.hid hc
  clear hc hA h
  cases A
  all_goals
    go_enter Try.func46, Try.ntmps46
    go_wp2_with (first | (go_at_call 75; refine (HC.out).mono ?_; rintro e w' ⟨rfl, hb⟩; have hz := hb.size; try simp only [World.size_alloc, World.size_setCell, World.heap_drewN, World.size_drew] at hz; obtain ⟨hc, hf⟩ := Fl.bcell hb; try (have g : w.heap.size < w'.heap.size := by omega); try (have g : w.heap.size ≤ w'.heap.size := by omega)))
    go_ret2
    exact ⟨rfl, by (repeat' first | exact Below.refl _ _ | (refine Below.setCell ?_ (by first | omega | (simp; omega) | simp) _) | (refine below_drewN ?_ _) | (refine Below.alloc ?_ (by first | omega | (simp; omega) | simp) _) | (refine Below.trans ?_ (Below.mono (by assumption) (by first | omega | (simp; omega) | simp))))⟩

/-- Both of a pair. -/
def two (c : Option Nat) (i : Nat) : Option Nat := if i = 0 then c else c.map (Op.negFloat .f32)

theorem two_isW {w : World} {g x y s x' y' s' : Nat} {c d e : Option Nat} (h : w.heap[g]? = some (.cells #[.complex .f32 x y, .float .f32 s, .complex .f32 x' y', .float .f32 s'] 63))
    (f1 : Fr .f32 x c) (f2 : Fr .f32 y d) (f3 : Fr .f32 s e) (g1 : Fr .f32 x' (c.map (Op.negFloat .f32))) (g2 : Fr .f32 y' (d.map (Op.negFloat .f32))) (g3 : Fr .f32 s' (e.map (Op.negFloat .f32))) : IsW w g 2 (two c) (two d) (two e) := by
  refine ⟨_, h, Nat.le_refl _, fun i hi => ?_⟩
  have : i = 0 ∨ i = 1 := by omega
  rcases this with rfl | rfl
  · exact ⟨x, y, s, rfl, rfl, f1, f2, f3⟩
  · exact ⟨x', y', s', rfl, rfl, g1, g2, g3⟩

theorem new_block (w : World) (o : Obj) : (w.alloc o).heap[w.heap.size]? = some o := by
  show (w.heap.push o)[w.heap.size]? = some o
  simp

abbrev halfC (x : Nat) : Option Nat := op2 .mul .f32 (some 1056964608) (cl .f32 x)

theorem half_same {x : Nat} (h1 : fin .f32 x = true) (h2 : cmpC .gtr (ord .f32 (cl .f32 x) (some 0)) = true) : op2 .quo .f32 (cl .f32 x) (some 1073741824) = halfC x := by
  obtain ⟨s, m, p, hd⟩ := decode_fin h1
  have hc : cl .f32 x = some x := cl_some_iff.2 (by rw [hd]; rfl)
  rw [halfC, hc]
  refine half_eq hd ?_
  rintro rfl
  rw [hc, Flat.ord_zero hd] at h2
  cases h2