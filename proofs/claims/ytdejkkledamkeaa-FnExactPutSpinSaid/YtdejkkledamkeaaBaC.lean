/- Cells of basins, and the spin of one. -/
import Derived.Test.YtdejkkledamkeaaBaM
namespace Go.Proofs.Ytdejkkledamkeaa
set_option linter.unusedSimpArgs false
set_option linter.unusedVariables false
open Go.RowKit
set_option maxRecDepth 20000
namespace Ba
open Fl Rate

def inB (n a b : Int) : Bool := decide (a ≤ n) && decide (n ≤ b)

def cellB (W H x y : Int) : Bool := inB x 0 (W - 1) && inB y 0 (H - 1)

theorem cell_of {W H x y : Int} (h : cellB W H x y = true) : 0 ≤ x ∧ x < W ∧ 0 ≤ y ∧ y < H := by
  unfold cellB inB at h
  simp only [Bool.and_eq_true, decide_eq_true_eq] at h
  omega

theorem spec_inb (n a b : Int) (w : World) : Calls Try.prog 83 #[.int .i64 n, .int .i64 a, .int .i64 b] w fun e w' => e = .returned (.bool (inB n a b)) ∧ w = w' := spec_in n a b w

theorem cell_no {W H x y : Int} (h : x < 0 ∨ W ≤ x ∨ y < 0 ∨ H ≤ y) : cellB W H x y = false := by
  cases h' : cellB W H x y
  · rfl
  · have := cell_of h'; omega

theorem cell_yes {W H x y : Int} (h1 : 0 ≤ x) (h2 : x < W) (h3 : 0 ≤ y) (h4 : y < H) : cellB W H x y = true := by
  unfold cellB inB
  simp only [Bool.and_eq_true, decide_eq_true_eq]
  omega

set_option maxHeartbeats 1600000 in
theorem impl_has (W H : Int) (a : Option Addr) (n cap : Nat) (x y : Int) (w : World) : Calls Try.prog 64 #[bV W H a n cap, .int .i64 x, .int .i64 y] w (RetD (.bool (cellB W H x y)) w) := by
  by_cases h1 : x < 0
  · rw [cell_no (.inl h1)]
    go_enter Try.func64, Try.ntmps64
    go_wp2
    go_ret
    exact ⟨rfl, by (repeat' first | exact Below.refl _ _ | (refine Below.setCell ?_ (by first | omega | (simp; omega) | simp) _) | (refine below_drewN ?_ _) | (refine Below.alloc ?_ (by first | omega | (simp; omega) | simp) _) | (refine Below.trans ?_ (Below.mono (by assumption) (by first | omega | (simp; omega) | simp))))⟩
  by_cases h2 : W ≤ x
  · rw [cell_no (.inr (.inl h2))]
    have h1' : 0 ≤ x := by omega
    go_enter Try.func64, Try.ntmps64
    go_wp2
    go_ret
    exact ⟨rfl, by (repeat' first | exact Below.refl _ _ | (refine Below.setCell ?_ (by first | omega | (simp; omega) | simp) _) | (refine below_drewN ?_ _) | (refine Below.alloc ?_ (by first | omega | (simp; omega) | simp) _) | (refine Below.trans ?_ (Below.mono (by assumption) (by first | omega | (simp; omega) | simp))))⟩
  have h1' : 0 ≤ x := by omega
  have h2' : x < W := by omega
  by_cases h3 : y < 0
  · rw [cell_no (.inr (.inr (.inl h3)))]
    go_enter Try.func64, Try.ntmps64
    go_wp2
    go_ret
    exact ⟨rfl, by (repeat' first | exact Below.refl _ _ | (refine Below.setCell ?_ (by first | omega | (simp; omega) | simp) _) | (refine below_drewN ?_ _) | (refine Below.alloc ?_ (by first | omega | (simp; omega) | simp) _) | (refine Below.trans ?_ (Below.mono (by assumption) (by first | omega | (simp; omega) | simp))))⟩
  have h3' : 0 ≤ y := by omega
  by_cases h4 : H ≤ y
  · rw [cell_no (.inr (.inr (.inr h4)))]
    have h4d : decide (y < H) = false := decide_eq_false (by omega)
    go_enter Try.func64, Try.ntmps64
    go_wp2
    go_ret
    exact ⟨rfl, by (repeat' first | exact Below.refl _ _ | (refine Below.setCell ?_ (by first | omega | (simp; omega) | simp) _) | (refine below_drewN ?_ _) | (refine Below.alloc ?_ (by first | omega | (simp; omega) | simp) _) | (refine Below.trans ?_ (Below.mono (by assumption) (by first | omega | (simp; omega) | simp))))⟩
  have h4' : y < H := by omega
  rw [cell_yes h1' h2' h3' h4']
  go_enter Try.func64, Try.ntmps64
  go_wp2
  go_ret
  exact ⟨rfl, by (repeat' first | exact Below.refl _ _ | (refine Below.setCell ?_ (by first | omega | (simp; omega) | simp) _) | (refine below_drewN ?_ _) | (refine Below.alloc ?_ (by first | omega | (simp; omega) | simp) _) | (refine Below.trans ?_ (Below.mono (by assumption) (by first | omega | (simp; omega) | simp))))⟩

set_option maxHeartbeats 1600000 in
theorem spec_cell (G : Nat) (W H : Int) (a : Option Addr) (n cap : Nat) (c : Nat → Option Nat) (w : World) (h : IsY w a n cap c) (A : Bool) (hA : okB W H n c = A) (x y : Int) (e0 : w.cell? ⟨G, 0, none⟩ = some (.int .i64 W)) (e1 : w.cell? ⟨G, 1, none⟩ = some (.int .i64 H)) (e2 : w.cell? ⟨G, 2, none⟩ = some (.slice a n cap)) : Calls Try.prog 62 #[.pointer (some ⟨G, 0, none⟩), .int .i64 x, .int .i64 y] w (RetD (.bool (A && cellB W H x y)) w) := by
  have HV := Lib.hid (spec_is G W H a n cap c w e0 e1 e2 h A hA)
  have hG := block_lt_of_cell e0
  clear h
  unfold cellB
  cases A
  · clear hA
    go_enter Try.func62, Try.ntmps62
    go_wp2_with (go_at_call 46; refine HV.out.mono ?_; rintro e w1 ⟨rfl, hb1⟩)
    go_ret
    exact ⟨rfl, by (repeat' first | exact Below.refl _ _ | (refine Below.setCell ?_ (by first | omega | (simp; omega) | simp) _) | (refine below_drewN ?_ _) | (refine Below.alloc ?_ (by first | omega | (simp; omega) | simp) _) | (refine Below.trans ?_ (Below.mono (by assumption) (by first | omega | (simp; omega) | simp))))⟩
  have hs := okB_of hA
  have sW := side_of hs.1
  have sH := side_of hs.2.1
  clear hA hs e2
  cases h1 : inB x 0 (W - 1)
  all_goals cases h2 : inB y 0 (H - 1)
  all_goals
    go_enter Try.func62, Try.ntmps62
    go_wp2_with fail
    refine HV.out.mono ?_
    rintro e w1 ⟨rfl, hb1⟩
    have hz1 := hb1.size
    obtain ⟨hc1, hf1⟩ := Fl.bcell hb1
    have hG1 : G < w1.heap.size := by omega
    go_wp2_with (go_at_call 83; refine (spec_inb _ _ _ _).mono ?_; rintro e w2 ⟨rfl, rfl⟩)
    go_ret
    exact ⟨rfl, by (repeat' first | exact Below.refl _ _ | (refine Below.setCell ?_ (by first | omega | (simp; omega) | simp) _) | (refine below_drewN ?_ _) | (refine Below.alloc ?_ (by first | omega | (simp; omega) | simp) _) | (refine Below.trans ?_ (Below.mono (by assumption) (by first | omega | (simp; omega) | simp))))⟩

/-- The spin of a cell, as a class. -/
def spinC (A : Bool) (W H x y : Int) (c : Nat → Option Nat) : Option Nat := if A && cellB W H x y then c (idx W H x y) else none

theorem spin_fin {W H x y : Int} {n : Nat} {c : Nat → Option Nat} (hA : okB W H n c = true) : finC (c (idx W H x y)) = true := by
  obtain ⟨h1, h2, h3, h4⟩ := okB_of hA
  exact allF_at h4 _ (idx_lt h1 h2 h3 x y)

set_option maxHeartbeats 1600000 in
theorem spec_SpinAt (W H : Int) (a : Option Addr) (n cap : Nat) (c : Nat → Option Nat) (w : World) (h : IsY w a n cap c) (A : Bool) (hA : okB W H n c = A) (x y : Int) : Calls Try.prog 26 #[bV W H a n cap, .int .i64 x, .int .i64 y] w (RetN (spinC A W H x y c) w) := by
  have HV := Lib.hid (fun G w' (hb : Below w.heap.size w w') e0 e1 e2 => spec_cell G W H a n cap c w' (h.later hb) A hA x y e0 e1 e2)
  unfold spinC RetN
  cases hB : (A && cellB W H x y)
  · rw [hB] at HV
    clear hA h hB
    go_enter Try.func26, Try.ntmps26
    go_wp2_with (go_at_call 62; refine (HV.out _ _ (by (repeat' first | exact Below.refl _ _ | (refine Below.setCell ?_ (by first | omega | (simp; omega) | simp) _) | (refine below_drewN ?_ _) | (refine Below.alloc ?_ (by first | omega | (simp; omega) | simp) _) | (refine Below.trans ?_ (Below.mono (by assumption) (by first | omega | (simp; omega) | simp))))) (by simp) (by simp) (by simp)).mono ?_; rintro e w1 ⟨rfl, hb1⟩)
    go_ret2
    exact ⟨_, rfl, zero32, by (repeat' first | exact Below.refl _ _ | (refine Below.setCell ?_ (by first | omega | (simp; omega) | simp) _) | (refine below_drewN ?_ _) | (refine Below.alloc ?_ (by first | omega | (simp; omega) | simp) _) | (refine Below.trans ?_ (Below.mono (by assumption) (by first | omega | (simp; omega) | simp))))⟩
  · rw [hB] at HV
    rw [Bool.and_eq_true] at hB
    obtain ⟨rfl, hC⟩ := hB
    have hk := cell_of hC
    have hs := okB_of hA
    have sW := side_of hs.1
    have sH := side_of hs.2.1
    have HF := Lib.hid (spin_fin (x := x) (y := y) hA)
    have HA := Lib.hid (fun G w' (hb : Below w.heap.size w w') e0 e1 e2 => spec_at G W H a n cap c w' (h.later hb) hs.1 hs.2.1 hs.2.2.1 x y (by omega) (by omega) e0 e1 e2)
    simp only [if_true]
    rw [HF.out]
    generalize c (idx W H x y) = d at *
    clear hA h hC hs
    go_enter Try.func26, Try.ntmps26
    go_wp2_with fail
    refine (HV.out _ _ (by (repeat' first | exact Below.refl _ _ | (refine Below.setCell ?_ (by first | omega | (simp; omega) | simp) _) | (refine below_drewN ?_ _) | (refine Below.alloc ?_ (by first | omega | (simp; omega) | simp) _) | (refine Below.trans ?_ (Below.mono (by assumption) (by first | omega | (simp; omega) | simp))))) (by simp) (by simp) (by simp)).mono ?_
    rintro e w1 ⟨rfl, hb1⟩
    have hz1 := hb1.size
    try simp only [World.size_alloc, World.size_setCell, World.heap_drewN, World.size_drew] at hz1
    obtain ⟨hc1, hf1⟩ := Fl.bcell hb1
    try simp only [World.heap_drewN, World.cell?_drewN, World.frozen?_drewN] at hc1 hf1
    have g1_0 : w.heap.size < w1.heap.size := by omega
    go_wp2_with fail
    refine (HA.out _ _ (by (repeat' first | exact Below.refl _ _ | (refine Below.setCell ?_ (by first | omega | (simp; omega) | simp) _) | (refine below_drewN ?_ _) | (refine Below.alloc ?_ (by first | omega | (simp; omega) | simp) _) | (refine Below.trans ?_ (Below.mono (by assumption) (by first | omega | (simp; omega) | simp))))) (by rw [hc1 _ _ (by simp)]; simp) (by rw [hc1 _ _ (by simp)]; simp) (by rw [hc1 _ _ (by simp)]; simp)).mono ?_
    rintro e w2 ⟨r2, rfl, hr2, hb2⟩
    have hz2 := hb2.size
    try simp only [World.size_alloc, World.size_setCell, World.heap_drewN, World.size_drew] at hz2
    obtain ⟨hc2, hf2⟩ := Fl.bcell hb2
    try simp only [World.heap_drewN, World.cell?_drewN, World.frozen?_drewN] at hc2 hf2
    have g2_0 : w.heap.size < w2.heap.size := by omega
    go_wp2
    go_ret2
    exact ⟨_, rfl, hr2, by (repeat' first | exact Below.refl _ _ | (refine Below.setCell ?_ (by first | omega | (simp; omega) | simp) _) | (refine below_drewN ?_ _) | (refine Below.alloc ?_ (by first | omega | (simp; omega) | simp) _) | (refine Below.trans ?_ (Below.mono (by assumption) (by first | omega | (simp; omega) | simp))))⟩

set_option maxHeartbeats 1600000 in
theorem impl_SpinAt (W H : Int) (a : Option Addr) (n cap : Nat) (c : Nat → Option Nat) (w : World) (h : IsY w a n cap c) (A : Bool) (hA : okB W H n c = A) (x y : Int) : Calls Try.prog 27 #[bV W H a n cap, .int .i64 x, .int .i64 y] w (RetN (spinC A W H x y c) w) := by
  have HV := Lib.hid (fun w' (hb : Below w.heap.size w w') => impl_valid W H a n cap c w' (h.later hb) A hA)
  unfold spinC RetN
  cases A
  · clear hA h
    go_enter Try.func27, Try.ntmps27
    go_wp2_with (go_at_call 18; refine (HV.out _ (by (repeat' first | exact Below.refl _ _ | (refine Below.setCell ?_ (by first | omega | (simp; omega) | simp) _) | (refine below_drewN ?_ _) | (refine Below.alloc ?_ (by first | omega | (simp; omega) | simp) _) | (refine Below.trans ?_ (Below.mono (by assumption) (by first | omega | (simp; omega) | simp)))))).mono ?_; rintro e w1 ⟨rfl, hb1⟩)
    go_ret2
    exact ⟨_, rfl, zero32, by (repeat' first | exact Below.refl _ _ | (refine Below.setCell ?_ (by first | omega | (simp; omega) | simp) _) | (refine below_drewN ?_ _) | (refine Below.alloc ?_ (by first | omega | (simp; omega) | simp) _) | (refine Below.trans ?_ (Below.mono (by assumption) (by first | omega | (simp; omega) | simp))))⟩
  have HH := Lib.hid (fun w' => impl_has W H a n cap x y w')
  cases hC : cellB W H x y
  · rw [hC] at HH
    clear hA h hC
    go_enter Try.func27, Try.ntmps27
    go_wp2_with fail
    refine (HV.out _ (by (repeat' first | exact Below.refl _ _ | (refine Below.setCell ?_ (by first | omega | (simp; omega) | simp) _) | (refine below_drewN ?_ _) | (refine Below.alloc ?_ (by first | omega | (simp; omega) | simp) _) | (refine Below.trans ?_ (Below.mono (by assumption) (by first | omega | (simp; omega) | simp)))))).mono ?_
    rintro e w1 ⟨rfl, hb1⟩
    have hz1 := hb1.size
    try simp only [World.size_alloc, World.size_setCell, World.heap_drewN, World.size_drew] at hz1
    obtain ⟨hc1, hf1⟩ := Fl.bcell hb1
    try simp only [World.heap_drewN, World.cell?_drewN, World.frozen?_drewN] at hc1 hf1
    have g1_0 : w.heap.size < w1.heap.size := by omega
    go_wp2_with (go_at_call 64; refine (HH.out _).mono ?_; rintro e w2 ⟨rfl, hb2⟩)
    go_ret2
    have hz2 := hb2.size
    exact ⟨_, rfl, zero32, by (repeat' first | exact Below.refl _ _ | (refine Below.setCell ?_ (by first | omega | (simp; omega) | simp) _) | (refine below_drewN ?_ _) | (refine Below.alloc ?_ (by first | omega | (simp; omega) | simp) _) | (refine Below.trans ?_ (Below.mono (by assumption) (by first | omega | (simp; omega) | simp))))⟩
  · rw [hC] at HH
    have hk := cell_of hC
    have hs := okB_of hA
    have sW := side_of hs.1
    have sH := side_of hs.2.1
    have HF := Lib.hid (spin_fin (x := x) (y := y) hA)
    have HA := Lib.hid (fun w' (hb : Below w.heap.size w w') => impl_at W H a n cap c w' (h.later hb) hs.1 hs.2.1 hs.2.2.1 x y (by omega) (by omega))
    simp only [Bool.and_self, if_true]
    rw [HF.out]
    generalize c (idx W H x y) = d at *
    clear hA h hC hs
    go_enter Try.func27, Try.ntmps27
    go_wp2_with fail
    refine (HV.out _ (by (repeat' first | exact Below.refl _ _ | (refine Below.setCell ?_ (by first | omega | (simp; omega) | simp) _) | (refine below_drewN ?_ _) | (refine Below.alloc ?_ (by first | omega | (simp; omega) | simp) _) | (refine Below.trans ?_ (Below.mono (by assumption) (by first | omega | (simp; omega) | simp)))))).mono ?_
    rintro e w1 ⟨rfl, hb1⟩
    have hz1 := hb1.size
    try simp only [World.size_alloc, World.size_setCell, World.heap_drewN, World.size_drew] at hz1
    obtain ⟨hc1, hf1⟩ := Fl.bcell hb1
    try simp only [World.heap_drewN, World.cell?_drewN, World.frozen?_drewN] at hc1 hf1
    have g1_0 : w.heap.size < w1.heap.size := by omega
    go_wp2_with fail
    refine (HH.out _).mono ?_
    rintro e w2 ⟨rfl, hb2⟩
    have hz2 := hb2.size
    try simp only [World.size_alloc, World.size_setCell, World.heap_drewN, World.size_drew] at hz2
    obtain ⟨hc2, hf2⟩ := Fl.bcell hb2
    try simp only [World.heap_drewN, World.cell?_drewN, World.frozen?_drewN] at hc2 hf2
    have g2_0 : w.heap.size < w2.heap.size := by omega
    go_wp2_with fail
    refine (HA.out _ (by (repeat' first | exact Below.refl _ _ | (refine Below.setCell ?_ (by first | omega | (simp; omega) | simp) _) | (refine below_drewN ?_ _) | (refine Below.alloc ?_ (by first | omega | (simp; omega) | simp) _) | (refine Below.trans ?_ (Below.mono (by assumption) (by first | omega | (simp; omega) | simp)))))).mono ?_
    rintro e w3 ⟨r3, rfl, hr3, hb3⟩
    have hz3 := hb3.size
    try simp only [World.size_alloc, World.size_setCell, World.heap_drewN, World.size_drew] at hz3
    obtain ⟨hc3, hf3⟩ := Fl.bcell hb3
    try simp only [World.heap_drewN, World.cell?_drewN, World.frozen?_drewN] at hc3 hf3
    have g3_0 : w.heap.size < w3.heap.size := by omega
    go_wp2
    go_ret2
    exact ⟨_, rfl, hr3, by (repeat' first | exact Below.refl _ _ | (refine Below.setCell ?_ (by first | omega | (simp; omega) | simp) _) | (refine below_drewN ?_ _) | (refine Below.alloc ?_ (by first | omega | (simp; omega) | simp) _) | (refine Below.trans ?_ (Below.mono (by assumption) (by first | omega | (simp; omega) | simp))))⟩

end Ba
end Go.Proofs.Ytdejkkledamkeaa
