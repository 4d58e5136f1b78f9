/- Contracts for the law of vectors. -/
import Derived.Test.YtpmnjbgfdhhomabGreatDoorVecB
import Derived.Test.YtpmnjbgfdhhomabGreatDoorVec
import Derived.Test.YtpmnjbgfdhhomabGreatDoorSameV
import Derived.Test.YtpmnjbgfdhhomabGreatDoorSize
import Derived.Test.YtpmnjbgfdhhomabGreatDoorVText
import Derived.Test.YtpmnjbgfdhhomabGreatDoorReadV
import Derived.Test.YtpmnjbgfdhhomabGreatDoorInt32
namespace Go.Proofs.YtpmnjbgfdhhomabGreatDoor
set_option linter.unusedSimpArgs false
set_option linter.unusedVariables false
open Go.RowKit
namespace VecC
open Fl Src

set_option maxRecDepth 20000 in
theorem small (G K : Nat) (w : World) (h : IsSrc G K w) (hK : K ≤ 800000) : Calls Tryz.prog 37 #[.pointer (some ⟨G, 0, none⟩)] w (RetX G (K + 2) w) := by
  have c1 : Fr .f32 1082130432 (some 1082130432) := Fr.const (by kernel_rfl) (by decide)
  go_enter Tryz.func37, Tryz.ntmps37
  go_wp2_with fail
  refine (pick G K 33 w h (by omega) (by omega) (by omega)).mono ?_
  rintro e w1 ⟨r1, rfl, ha1, hr1, hs1, hk1⟩
  have fi := intFr ((r1 : Int) - 16)
  go_wp2_with (first | (refine Fl.wpList_fl rfl rfl rfl rfl rfl (by assumption) (by assumption) ?_; intro r n hr))
  exact bodyPost_ret (by simp [results, Tryz.results37, go_sem]) rfl ⟨_, rfl, hr.2, hs1.draw _, hk1.draw _⟩

theorem put_src {G K b i : Nat} {w : World} {v : Value} (h : IsSrc G K w) (hb : G < b) : IsSrc G K (w.setCell ⟨b, i, none⟩ v) := by
  obtain ⟨a, len, cap, n, seed, h, hn, hs, hB⟩ := h
  exact ⟨a, len, cap, n, seed, by rw [set_keep w i v (by omega)]; exact h, hn, hs, hB.keep fun x hx => set_keep w i v (by omega)⟩

def RetIV (w : World) (e : Ending) (w' : World) : Prop :=
  ∃ A B C : Int, (A.natAbs ≤ 50 ∧ B.natAbs ≤ 50 ∧ C.natAbs ≤ 50) ∧ e = .returned (.agg #[.float .f32 (floatOfInt .f32 A), .float .f32 (floatOfInt .f32 B), .float .f32 (floatOfInt .f32 C)]) ∧ Below w.heap.size w w'

def RetAV (w : World) (e : Ending) (w' : World) : Prop :=
  ∃ x y z : Nat, e = .returned (.agg #[.float .f32 x, .float .f32 y, .float .f32 z]) ∧ x < 4294967296 ∧ y < 4294967296 ∧ z < 4294967296 ∧ Below w.heap.size w w'

theorem keep_cells {G : Nat} {w w' : World} (h : Keeps G w w') : (∀ b o, b ≠ G → b < w.heap.size → w'.cell? ⟨b, o, none⟩ = w.cell? ⟨b, o, none⟩) ∧ (∀ b o, b ≠ G → b < w.heap.size → w'.frozen? ⟨b, o, none⟩ = w.frozen? ⟨b, o, none⟩) :=
  ⟨fun b o h1 h2 => by simp [World.cell?, h.2 b h1 h2], fun b o h1 h2 => by simp [World.frozen?, h.2 b h1 h2]⟩

set_option maxHeartbeats 800000 in
theorem vequal (a0 a1 a2 b0 b1 b2 : Nat) (c0 c1 c2 d0 d1 d2 : Option Nat) (w : World) (f0 : Fr .f32 a0 c0) (f1 : Fr .f32 a1 c1) (f2 : Fr .f32 a2 c2) (g0 : Fr .f32 b0 d0) (g1 : Fr .f32 b1 d1) (g2 : Fr .f32 b2 d2)
    (h0 : cmpC .eql (ord .f32 c0 d0) = true) (h1 : cmpC .eql (ord .f32 c1 d1) = true) (h2 : cmpC .eql (ord .f32 c2 d2) = true) :
    Calls Tryz.prog 10 #[.agg #[.float .f32 a0, .float .f32 a1, .float .f32 a2], .agg #[.float .f32 b0, .float .f32 b1, .float .f32 b2]] w (RetD (.bool true) w) := by
  go_enter Tryz.func10, Tryz.ntmps10
  go_wp2_with (refine Fl.wpList_cmp rfl rfl rfl rfl rfl (by assumption) (by assumption) ?_; try simp only [h0, h1, h2])
  go_ret
  exact ⟨rfl, by repeat' first | exact Below.refl _ _ | (refine Below.setCell ?_ (by first | omega | (simp; omega) | simp) _) | (refine below_drewN ?_ _) | (refine Below.alloc ?_ (by first | omega | (simp; omega) | simp) _) | (refine Below.trans ?_ (Below.mono (by assumption) (by first | omega | (simp; omega) | simp)))⟩

set_option maxHeartbeats 800000 in
theorem square (a0 a1 a2 : Nat) (c0 c1 c2 : Option Nat) (w : World) (f0 : Fr .f32 a0 c0) (f1 : Fr .f32 a1 c1) (f2 : Fr .f32 a2 c2) :
    Calls Tryz.prog 12 #[.agg #[.float .f32 a0, .float .f32 a1, .float .f32 a2]] w (RetF .f32 (op2 .add .f32 (op2 .add .f32 (op2 .mul .f32 c0 c0) (op2 .mul .f32 c1 c1)) (op2 .mul .f32 c2 c2)) w) := by
  go_enter Tryz.func12, Tryz.ntmps12
  go_wp2_with (first | (refine Fl.wpList_fl rfl rfl rfl rfl rfl (by assumption) (by assumption) ?_; intro r n hr))
  go_ret
  exact ⟨_, rfl, by assumption, by repeat' first | exact Below.refl _ _ | (refine Below.setCell ?_ (by first | omega | (simp; omega) | simp) _) | (refine below_drewN ?_ _) | (refine Below.alloc ?_ (by first | omega | (simp; omega) | simp) _) | (refine Below.trans ?_ (Below.mono (by assumption) (by first | omega | (simp; omega) | simp)))⟩

set_option maxRecDepth 20000 in
set_option maxHeartbeats 400000 in
theorem vector (a : Option Addr) (len cap : Nat) (w : World) (h : IsB w.heap.size w a len cap) : Calls Tryz.prog 5 #[.slice a len cap, .int .i64 50] w (RetIV w) := by
  go_enter Tryz.func5, Tryz.ntmps5
  go_wp2_with fail
  have hB1 := h.later ((Below.refl w.heap.size w).alloc (Nat.le_refl _) (.cells #[.float .f32 0, .float .f32 0, .float .f32 0] 26))
  refine (from0 a len cap _ hB1).mono ?_
  rintro e w1 ⟨rfl, hs1, hb1⟩
  rw [World.size_alloc] at hs1 hb1
  obtain ⟨hc1, hf1⟩ := Fl.bcell hb1
  have hz1 := hb1.size
  have hl1 := hs1.lt
  rw [World.size_alloc] at hz1
  go_wp2_with fail
  refine (pick _ 0 101 w1 hs1 (by omega) (by omega) (by omega)).mono ?_
  rintro e w2 ⟨r2, rfl, _, hr2, hs2, hk2⟩
  have hz2 := hk2.1.size
  have i2 : (r2 : Int) < 101 := by omega
  have hR1 : w1.heap[w.heap.size]? = some (.cells #[.float .f32 0, .float .f32 0, .float .f32 0] 26) := by
    rw [hb1.block w.heap.size (by omega)]; exact Cut.new_block w _
  have hR2 : w2.heap[w.heap.size]? = some (.cells #[.float .f32 0, .float .f32 0, .float .f32 0] 26) := by
    rw [hk2.2 w.heap.size (by omega) (by omega)]; exact hR1
  clear hc1 hf1
  go_wp2_with fail
  generalize hA : floatOfInt .f32 ((r2 : Int) - 50) = xa
  refine (pick _ 2 101 _ (hs2.alloc _) (by omega) (by omega) (by omega)).mono ?_
  rintro e w3 ⟨r3, rfl, _, hr3, hs3, hk3⟩
  have hz3 := hk3.1.size
  rw [World.size_alloc] at hz3
  have i3 : (r3 : Int) < 101 := by omega
  have hV3 : w3.heap[w2.heap.size]? = some (.cells #[.float .f32 xa, .float .f32 0, .float .f32 0] 26) := by
    rw [hk3.2 w2.heap.size (by omega) (by rw [World.size_alloc]; omega)]; exact Cut.new_block w2 _
  have hR3 : w3.heap[w.heap.size]? = some (.cells #[.float .f32 0, .float .f32 0, .float .f32 0] 26) := by
    rw [hk3.2 w.heap.size (by omega) (by rw [World.size_alloc]; omega), ((Below.refl w2.heap.size w2).alloc (Nat.le_refl _) _).block w.heap.size (by omega)]; exact hR2
  have hcV3 := Loose.cells_of hV3
  have hfV3 := Loose.free_of hV3
  have HV3 := Lib.hid hV3
  have HR3 := Lib.hid hR3
  have HR1 := Lib.hid hR1
  have HR2 := Lib.hid hR2
  clear hV3 hR3 hR1 hR2
  go_wp2_with fail
  generalize hB : floatOfInt .f32 ((r3 : Int) - 50) = xb
  refine (pick _ 4 101 _ (put_src hs3 (by omega)) (by omega) (by omega) (by omega)).mono ?_
  rintro e w4 ⟨r4, rfl, _, hr4, hs4, hk4⟩
  have i4 : (r4 : Int) < 101 := by omega
  have hz4 := hk4.1.size
  rw [World.size_setCell] at hz4
  have hV4 : w4.heap[w2.heap.size]? = some (.cells #[.float .f32 xa, .float .f32 xb, .float .f32 0] 26) := by
    rw [hk4.2 w2.heap.size (by omega) (by rw [World.size_setCell]; omega), set_block HV3.out 1 (.float .f32 xb)]; simp
  have hR4 : w4.heap[w.heap.size]? = some (.cells #[.float .f32 0, .float .f32 0, .float .f32 0] 26) := by
    rw [hk4.2 w.heap.size (by omega) (by rw [World.size_setCell]; omega), set_keep w3 1 (.float .f32 xb) (by omega)]; exact HR3.out
  have hcV4 := Loose.cells_of hV4
  have hfV4 := Loose.free_of hV4
  have hcR4 := Loose.cells_of hR4
  have hfR4 := Loose.free_of hR4
  have HB4 : Hid (Below w.heap.size w w4) := by
    refine Lib.hid ?_
    have b1 := ((Below.refl w.heap.size w).alloc (Nat.le_refl _) (.cells #[.float .f32 0, .float .f32 0, .float .f32 0] 26)).trans (hb1.mono (by omega))
    have b2 := b1.trans (hk2.1.mono (by omega))
    have b3 := (b2.alloc (by omega) (.cells #[.float .f32 xa, .float .f32 0, .float .f32 0] 26)).trans (hk3.1.mono (by omega))
    exact (b3.setCell (p := ⟨w2.heap.size, 1, none⟩) (by show w.heap.size ≤ w2.heap.size; omega) _).trans (hk4.1.mono (by omega))
  clear hcV3 hfV3 hV4 hR4 hb1 hk2 hk3 hk4
  generalize hC : floatOfInt .f32 ((r4 : Int) - 50) = xc
  go_wp2
  refine bodyPost_ret (v := .agg #[.float .f32 xa, .float .f32 xb, .float .f32 xc]) ?oh rfl ⟨(r2 : Int) - 50, (r3 : Int) - 50, (r4 : Int) - 50, ⟨by omega, by omega, by omega⟩, by rw [hA, hB, hC], ?obel⟩
  case oh => simp [results, Tryz.results5, go_sem, *]
  case obel =>
    have hbel := HB4.out
    repeat' first | exact Below.refl _ _ | (refine Below.setCell ?_ (by first | omega | (simp; omega) | simp) _) | (refine below_drewN ?_ _) | (refine Below.alloc ?_ (by first | omega | (simp; omega) | simp) _) | (refine Below.trans ?_ (Below.mono (by assumption) (by first | omega | (simp; omega) | simp)))

set_option maxRecDepth 20000 in
set_option maxHeartbeats 3200000 in
theorem drawVector (G K : Nat) (w : World) (h : IsSrc G K w) (hK : K ≤ 600000) : Calls Tryz.prog 27 #[.pointer (some ⟨G, 0, none⟩)] w (fun e w' => ∃ x y z : Nat, e = .returned (.agg #[.float .f32 x, .float .f32 y, .float .f32 z]) ∧ x < 4294967296 ∧ y < 4294967296 ∧ z < 4294967296 ∧ Below G w w') := by
  have hl := h.lt
  go_enter Tryz.func27, Tryz.ntmps27
  go_wp2_with fail
  refine (one G K 10 _ (h.alloc _) (by omega) (by omega) (by omega)).mono ?_
  rintro e w1 ⟨b, rfl, hs1, hk1⟩
  have hz1 := hk1.1.size
  rw [World.size_alloc] at hz1
  have hR1 : w1.heap[w.heap.size]? = some (.cells #[.float .f32 0, .float .f32 0, .float .f32 0] 26) := by
    rw [hk1.2 w.heap.size (by omega) (by rw [World.size_alloc]; omega)]; exact Cut.new_block w _
  have k1 : Keeps G w w1 := ((Keeps.refl G w).alloc h _).trans hk1
  have HR1 := Lib.hid hR1
  clear hR1 hk1
  go_wp2_with fail
  refine (small G (K + 2) w1 hs1 (by omega)).mono ?_
  rintro e w2 ⟨x, rfl, hx, hs2, hk2⟩
  have hz2 := hk2.1.size
  go_wp2_with fail
  refine (small G (K + 4) _ (hs2.alloc _) (by omega)).mono ?_
  rintro e w3 ⟨y, rfl, hy, hs3, hk3⟩
  have hz3 := hk3.1.size
  rw [World.size_alloc] at hz3
  have hl2 := hs2.lt
  have hV3 : w3.heap[w2.heap.size]? = some (.cells #[.float .f32 x, .float .f32 0, .float .f32 0] 26) := by
    rw [hk3.2 w2.heap.size (by omega) (by rw [World.size_alloc]; omega)]; exact Cut.new_block w2 _
  have k3 : Keeps G w w3 := ((k1.trans hk2).alloc hs2 _).trans hk3
  have hR3 : w3.heap[w.heap.size]? = some (.cells #[.float .f32 0, .float .f32 0, .float .f32 0] 26) := by
    rw [hk3.2 w.heap.size (by omega) (by rw [World.size_alloc]; omega), ((Below.refl w2.heap.size w2).alloc (Nat.le_refl _) _).block w.heap.size (by omega), hk2.2 w.heap.size (by omega) (by omega)]; exact HR1.out
  have hcV3 := Loose.cells_of hV3
  have hfV3 := Loose.free_of hV3
  have HV3 := Lib.hid hV3
  have HR3 := Lib.hid hR3
  clear hV3 hR3 hk2 hk3 k1
  go_wp2_with fail
  refine (small G (K + 6) _ (put_src hs3 (by omega)) (by omega)).mono ?_
  rintro e w4 ⟨z, rfl, hz, hs4, hk4⟩
  have hz4 := hk4.1.size
  rw [World.size_setCell] at hz4
  have hV4 : w4.heap[w2.heap.size]? = some (.cells #[.float .f32 x, .float .f32 y, .float .f32 0] 26) := by
    rw [hk4.2 w2.heap.size (by omega) (by rw [World.size_setCell]; omega), set_block HV3.out 1 (.float .f32 y)]; simp
  have hR4 : w4.heap[w.heap.size]? = some (.cells #[.float .f32 0, .float .f32 0, .float .f32 0] 26) := by
    rw [hk4.2 w.heap.size (by omega) (by rw [World.size_setCell]; omega), set_keep w3 1 (.float .f32 y) (by omega)]; exact HR3.out
  have k4 : Below G w w4 := (k3.1.setCell (p := ⟨w2.heap.size, 1, none⟩) (by show G ≤ w2.heap.size; omega) _).trans hk4.1
  have HV4 := Lib.hid hV4
  have HR4 := Lib.hid hR4
  have K4 := Lib.hid k4
  clear hcV3 hfV3 hV4 hR4 hk4 k3 k4
  cases b
  · have hcV4 := Loose.cells_of HV4.out
    have hfV4 := Loose.free_of HV4.out
    have hcR4 := Loose.cells_of HR4.out
    have hfR4 := Loose.free_of HR4.out
    go_wp2
    refine bodyPost_ret (v := .agg #[.float .f32 x, .float .f32 y, .float .f32 z]) ?oh rfl ⟨x, y, z, rfl, hx, hy, hz, ?obel⟩
    case oh => simp [results, Tryz.results27, go_sem, *]
    case obel =>
      have hbel := K4.out
      repeat' first | exact Below.refl _ _ | (refine Below.setCell ?_ (by first | omega | (simp; omega) | simp) _) | (refine below_drewN ?_ _) | (refine Below.alloc ?_ (by first | omega | (simp; omega) | simp) _) | (refine Below.trans ?_ (Below.mono (by assumption) (by first | omega | (simp; omega) | simp)))
  · have hcV4 := Loose.cells_of HV4.out
    have hfV4 := Loose.free_of HV4.out
    go_wp2_with fail
    refine (drawFloat G (K + 8) _ (put_src hs4 (by omega)) (by omega)).mono ?_
    rintro e w5 ⟨y', rfl, hy', hs5, hk5⟩
    have hz5 := hk5.1.size
    rw [World.size_setCell] at hz5
    have hV5 : w5.heap[w2.heap.size]? = some (.cells #[.float .f32 x, .float .f32 y, .float .f32 z] 26) := by
      rw [hk5.2 w2.heap.size (by omega) (by rw [World.size_setCell]; omega), set_block HV4.out 2 (.float .f32 z)]; simp
    have hR5 : w5.heap[w.heap.size]? = some (.cells #[.float .f32 0, .float .f32 0, .float .f32 0] 26) := by
      rw [hk5.2 w.heap.size (by omega) (by rw [World.size_setCell]; omega), set_keep w4 2 (.float .f32 z) (by omega)]; exact HR4.out
    have K5 : Hid (Below G w w5) := Lib.hid ((K4.out.setCell (p := ⟨w2.heap.size, 2, none⟩) (by show G ≤ w2.heap.size; omega) _).trans hk5.1)
    have hcV5 := Loose.cells_of hV5
    have hfV5 := Loose.free_of hV5
    have hcR5 := Loose.cells_of hR5
    have hfR5 := Loose.free_of hR5
    clear hcV4 hfV4 hV5 hR5 hk5
    go_wp2
    refine bodyPost_ret (v := .agg #[.float .f32 x, .float .f32 y', .float .f32 z]) ?oj rfl ⟨x, y', z, rfl, hx, hy', hz, ?objl⟩
    case oj => simp [results, Tryz.results27, go_sem, *]
    case objl =>
      have hbel := K5.out
      repeat' first | exact Below.refl _ _ | (refine Below.setCell ?_ (by first | omega | (simp; omega) | simp) _) | (refine below_drewN ?_ _) | (refine Below.alloc ?_ (by first | omega | (simp; omega) | simp) _) | (refine Below.trans ?_ (Below.mono (by assumption) (by first | omega | (simp; omega) | simp)))

set_option maxRecDepth 20000 in
theorem anyVector (a : Option Addr) (len cap : Nat) (w : World) (h : IsB w.heap.size w a len cap) : Calls Tryz.prog 17 #[.slice a len cap] w (RetAV w) := by
  go_enter Tryz.func17, Tryz.ntmps17
  go_wp2_with fail
  have hB1 := h.later ((Below.refl w.heap.size w).alloc (Nat.le_refl _) (.cells #[.float .f32 0, .float .f32 0, .float .f32 0] 26))
  refine (from0 a len cap _ hB1).mono ?_
  rintro e w1 ⟨rfl, hs1, hb1⟩
  rw [World.size_alloc] at hs1 hb1
  have hz1 := hb1.size
  rw [World.size_alloc] at hz1
  have hl1 := hs1.lt
  go_wp2_with fail
  refine (drawVector _ 0 w1 hs1 (by omega)).mono ?_
  rintro e w2 ⟨x, y, z, rfl, hx, hy, hz, hb2⟩
  have hz2 := hb2.size
  have hR2 : w2.heap[w.heap.size]? = some (.cells #[.float .f32 0, .float .f32 0, .float .f32 0] 26) := by
    rw [hb2.block w.heap.size (by omega), hb1.block w.heap.size (by omega)]; exact Cut.new_block w _
  have K2 : Hid (Below w.heap.size w w2) := Lib.hid ((((Below.refl w.heap.size w).alloc (Nat.le_refl _) _).trans (hb1.mono (by omega))).trans (hb2.mono (by omega)))
  have hcR2 := Loose.cells_of hR2
  have hfR2 := Loose.free_of hR2
  clear hR2 hb1 hb2
  go_wp2
  refine bodyPost_ret (v := .agg #[.float .f32 x, .float .f32 y, .float .f32 z]) ?oh rfl ⟨x, y, z, rfl, hx, hy, hz, ?obel⟩
  case oh => simp [results, Tryz.results17, go_sem, *]
  case obel =>
    have hbel := K2.out
    repeat' first | exact Below.refl _ _ | (refine Below.setCell ?_ (by first | omega | (simp; omega) | simp) _) | (refine below_drewN ?_ _) | (refine Below.alloc ?_ (by first | omega | (simp; omega) | simp) _) | (refine Below.trans ?_ (Below.mono (by assumption) (by first | omega | (simp; omega) | simp)))

open Int32_ in
theorem mul_le {A B : Int} {m n : Nat} (hA : A.natAbs ≤ m) (hB : B.natAbs ≤ n) : (A * B).natAbs ≤ m * n := by
  rw [Int.natAbs_mul]; exact Nat.mul_le_mul hA hB

theorem cr {p q r s : Option Nat} {P Q R S : Int} (hp : Int32_.IsI p P) (hq : Int32_.IsI q Q) (hr : Int32_.IsI r R) (hs : Int32_.IsI s S) (bP : P.natAbs ≤ 50) (bQ : Q.natAbs ≤ 50) (bR : R.natAbs ≤ 50) (bS : S.natAbs ≤ 50) :
    Int32_.IsI (op2 .sub .f32 (op2 .mul .f32 p q) (op2 .mul .f32 r s)) (P * Q - R * S) ∧ (P * Q - R * S).natAbs ≤ 5000 := by
  have h1 := mul_le bP bQ
  have h2 := mul_le bR bS
  have m1 := Int32_.mul hp hq (by omega)
  have m2 := Int32_.mul hr hs (by omega)
  exact ⟨Int32_.sub m1 m2 (by omega), by omega⟩

theorem inn {c0 c1 c2 d0 d1 d2 : Option Nat} {C0 C1 C2 D0 D1 D2 : Int} (h0 : Int32_.IsI c0 C0) (h1 : Int32_.IsI c1 C1) (h2 : Int32_.IsI c2 C2) (k0 : Int32_.IsI d0 D0) (k1 : Int32_.IsI d1 D1) (k2 : Int32_.IsI d2 D2)
    (b0 : C0.natAbs ≤ 5000) (b1 : C1.natAbs ≤ 5000) (b2 : C2.natAbs ≤ 5000) (e0 : D0.natAbs ≤ 50) (e1 : D1.natAbs ≤ 50) (e2 : D2.natAbs ≤ 50) :
    Int32_.IsI (op2 .add .f32 (op2 .add .f32 (op2 .mul .f32 c0 d0) (op2 .mul .f32 c1 d1)) (op2 .mul .f32 c2 d2)) (C0 * D0 + C1 * D1 + C2 * D2) := by
  have n0 := mul_le b0 e0
  have n1 := mul_le b1 e1
  have n2 := mul_le b2 e2
  have m0 := Int32_.mul h0 k0 (by omega)
  have m1 := Int32_.mul h1 k1 (by omega)
  have m2 := Int32_.mul h2 k2 (by omega)
  exact Int32_.add (Int32_.add m0 m1 (by omega)) m2 (by omega)

theorem zero_int : Int32_.IsI (some 0) 0 := ⟨0, rfl, by decide, by show At (FloatKind.f32.decode 0); rw [show FloatKind.f32.decode 0 = .number false 0 (-149) from by decide +kernel]; show (-1074 : Int) ≤ -149; omega, by rw [show FloatKind.f32.decode 0 = .number false 0 (-149) from by decide +kernel, Int.zero_mul]; exact Int32_.signed_zero _ _⟩

theorem const_int {c : Nat} (n : Int) (hn : n.natAbs < 16777216) (h : floatOfInt .f32 n = c) : Int32_.IsI (some c) n := by
  subst h
  obtain ⟨h1, h2⟩ := Int32_.int hn
  rw [h2] at h1; exact h1

theorem cross_left (A0 A1 A2 B0 B1 B2 : Int) : (A1 * B2 - A2 * B1) * A0 + (A2 * B0 - A0 * B2) * A1 + (A0 * B1 - A1 * B0) * A2 = 0 := by grind
theorem cross_right (A0 A1 A2 B0 B1 B2 : Int) : (A1 * B2 - A2 * B1) * B0 + (A2 * B0 - A0 * B2) * B1 + (A0 * B1 - A1 * B0) * B2 = 0 := by grind

theorem eql_of {c d : Option Nat} {n k : Int} (hc : Int32_.IsI c n) (hd : Int32_.IsI d k) (h : n = k) : cmpC .eql (ord .f32 c d) = true := (Int32_.eql hc hd h).1
theorem neq_of {c d : Option Nat} {n k : Int} (hc : Int32_.IsI c n) (hd : Int32_.IsI d k) (h : n = k) : cmpC .neq (ord .f32 c d) = false := (Int32_.eql hc hd h).2

theorem g1 {c d : Option Nat} {A B : Int} (ja : Int32_.IsI c A) (jb : Int32_.IsI d B) (na : A.natAbs ≤ 50) (nb : B.natAbs ≤ 50) : cmpC .eql (ord .f32 (op2 .add .f32 d (op2 .sub .f32 c d)) c) = true :=
  eql_of (Int32_.add jb (Int32_.sub ja jb (by omega)) (by omega)) ja (by omega)

theorem g2 {c d : Option Nat} {C D : Int} (hc : Int32_.IsI c C) (hd : Int32_.IsI d D) (nd : D.natAbs ≤ 5000) (h : C = D * -1) : cmpC .eql (ord .f32 c (op2 .mul .f32 d (some 3212836864))) = true :=
  eql_of hc (Int32_.mul hd (const_int (-1) (by decide) (by decide +kernel)) (by omega)) h

theorem g3 {c : Option Nat} {A : Int} (ja : Int32_.IsI c A) (na : A.natAbs ≤ 50) : cmpC .eql (ord .f32 (op2 .mul .f32 c (some 1073741824)) (op2 .add .f32 c c)) = true :=
  eql_of (Int32_.mul ja (const_int 2 (by decide) (by decide +kernel)) (by omega)) (Int32_.add ja ja (by omega)) (by omega)

theorem g4 {c d : Option Nat} {A B : Int} (ja : Int32_.IsI c A) (jb : Int32_.IsI d B) (na : A.natAbs ≤ 50) (nb : B.natAbs ≤ 50) : cmpC .eql (ord .f32 (op2 .add .f32 c (op2 .mul .f32 (op2 .sub .f32 d c) (some 0))) c) = true :=
  eql_of (Int32_.add ja (Int32_.mul (Int32_.sub jb ja (by omega)) zero_int (by omega)) (by omega)) ja (by omega)

theorem g5 {c d : Option Nat} {A B : Int} (ja : Int32_.IsI c A) (jb : Int32_.IsI d B) (na : A.natAbs ≤ 50) (nb : B.natAbs ≤ 50) : cmpC .eql (ord .f32 (op2 .add .f32 c (op2 .mul .f32 (op2 .sub .f32 d c) (some 1065353216))) d) = true :=
  eql_of (Int32_.add ja (Int32_.mul (Int32_.sub jb ja (by omega)) (const_int 1 (by decide) (by decide +kernel)) (by omega)) (by omega)) jb (by omega)

theorem anti (P Q R S : Int) : P * Q - R * S = (R * S - P * Q) * -1 := by grind
theorem anti2' (P Q R S : Int) : P * Q - R * S = (S * R - Q * P) * -1 := by grind

theorem vfacts {ca0 ca1 ca2 cb0 cb1 cb2 : Option Nat} {A0 A1 A2 B0 B1 B2 : Int} (jA0 : Int32_.IsI ca0 A0) (jA1 : Int32_.IsI ca1 A1) (jA2 : Int32_.IsI ca2 A2) (jB0 : Int32_.IsI cb0 B0) (jB1 : Int32_.IsI cb1 B1) (jB2 : Int32_.IsI cb2 B2)
    (nA0 : A0.natAbs ≤ 50) (nA1 : A1.natAbs ≤ 50) (nA2 : A2.natAbs ≤ 50) (nB0 : B0.natAbs ≤ 50) (nB1 : B1.natAbs ≤ 50) (nB2 : B2.natAbs ≤ 50) :
    cmpC .eql (ord .f32 (op2 .add .f32 cb0 (op2 .sub .f32 ca0 cb0)) ca0) = true ∧
    cmpC .eql (ord .f32 (op2 .add .f32 cb1 (op2 .sub .f32 ca1 cb1)) ca1) = true ∧
    cmpC .eql (ord .f32 (op2 .add .f32 cb2 (op2 .sub .f32 ca2 cb2)) ca2) = true ∧
    cmpC .neq (ord .f32 (op2 .add .f32 (op2 .add .f32 (op2 .mul .f32 (op2 .sub .f32 (op2 .mul .f32 ca1 cb2) (op2 .mul .f32 ca2 cb1)) ca0) (op2 .mul .f32 (op2 .sub .f32 (op2 .mul .f32 ca2 cb0) (op2 .mul .f32 ca0 cb2)) ca1)) (op2 .mul .f32 (op2 .sub .f32 (op2 .mul .f32 ca0 cb1) (op2 .mul .f32 ca1 cb0)) ca2)) (some 0)) = false ∧
    cmpC .neq (ord .f32 (op2 .add .f32 (op2 .add .f32 (op2 .mul .f32 (op2 .sub .f32 (op2 .mul .f32 ca1 cb2) (op2 .mul .f32 ca2 cb1)) cb0) (op2 .mul .f32 (op2 .sub .f32 (op2 .mul .f32 ca2 cb0) (op2 .mul .f32 ca0 cb2)) cb1)) (op2 .mul .f32 (op2 .sub .f32 (op2 .mul .f32 ca0 cb1) (op2 .mul .f32 ca1 cb0)) cb2)) (some 0)) = false ∧
    cmpC .neq (ord .f32 (op2 .add .f32 (op2 .add .f32 (op2 .mul .f32 ca0 ca0) (op2 .mul .f32 ca1 ca1)) (op2 .mul .f32 ca2 ca2)) (op2 .add .f32 (op2 .add .f32 (op2 .mul .f32 ca0 ca0) (op2 .mul .f32 ca1 ca1)) (op2 .mul .f32 ca2 ca2))) = false ∧
    cmpC .eql (ord .f32 (op2 .sub .f32 (op2 .mul .f32 ca1 cb2) (op2 .mul .f32 ca2 cb1)) (op2 .mul .f32 (op2 .sub .f32 (op2 .mul .f32 cb1 ca2) (op2 .mul .f32 cb2 ca1)) (some 3212836864))) = true ∧
    cmpC .eql (ord .f32 (op2 .sub .f32 (op2 .mul .f32 ca2 cb0) (op2 .mul .f32 ca0 cb2)) (op2 .mul .f32 (op2 .sub .f32 (op2 .mul .f32 cb2 ca0) (op2 .mul .f32 cb0 ca2)) (some 3212836864))) = true ∧
    cmpC .eql (ord .f32 (op2 .sub .f32 (op2 .mul .f32 ca0 cb1) (op2 .mul .f32 ca1 cb0)) (op2 .mul .f32 (op2 .sub .f32 (op2 .mul .f32 cb0 ca1) (op2 .mul .f32 cb1 ca0)) (some 3212836864))) = true ∧
    cmpC .eql (ord .f32 (op2 .mul .f32 ca0 (some 1073741824)) (op2 .add .f32 ca0 ca0)) = true ∧
    cmpC .eql (ord .f32 (op2 .mul .f32 ca1 (some 1073741824)) (op2 .add .f32 ca1 ca1)) = true ∧
    cmpC .eql (ord .f32 (op2 .mul .f32 ca2 (some 1073741824)) (op2 .add .f32 ca2 ca2)) = true ∧
    cmpC .eql (ord .f32 (op2 .add .f32 ca0 (op2 .mul .f32 (op2 .sub .f32 cb0 ca0) (some 0))) ca0) = true ∧
    cmpC .eql (ord .f32 (op2 .add .f32 ca1 (op2 .mul .f32 (op2 .sub .f32 cb1 ca1) (some 0))) ca1) = true ∧
    cmpC .eql (ord .f32 (op2 .add .f32 ca2 (op2 .mul .f32 (op2 .sub .f32 cb2 ca2) (some 0))) ca2) = true ∧
    cmpC .eql (ord .f32 (op2 .add .f32 ca0 (op2 .mul .f32 (op2 .sub .f32 cb0 ca0) (some 1065353216))) cb0) = true ∧
    cmpC .eql (ord .f32 (op2 .add .f32 ca1 (op2 .mul .f32 (op2 .sub .f32 cb1 ca1) (some 1065353216))) cb1) = true ∧
    cmpC .eql (ord .f32 (op2 .add .f32 ca2 (op2 .mul .f32 (op2 .sub .f32 cb2 ca2) (some 1065353216))) cb2) = true := by
  have rc0 := cr jA1 jB2 jA2 jB1 nA1 nB2 nA2 nB1
  have rc1 := cr jA2 jB0 jA0 jB2 nA2 nB0 nA0 nB2
  have rc2 := cr jA0 jB1 jA1 jB0 nA0 nB1 nA1 nB0
  have rd0 := cr jB1 jA2 jB2 jA1 nB1 nA2 nB2 nA1
  have rd1 := cr jB2 jA0 jB0 jA2 nB2 nA0 nB0 nA2
  have rd2 := cr jB0 jA1 jB1 jA0 nB0 nA1 nB1 nA0
  have w0 : A0.natAbs ≤ 5000 := Nat.le_trans nA0 (by decide)
  have w1 : A1.natAbs ≤ 5000 := Nat.le_trans nA1 (by decide)
  have w2 : A2.natAbs ≤ 5000 := Nat.le_trans nA2 (by decide)
  have jS := inn jA0 jA1 jA2 jA0 jA1 jA2 w0 w1 w2 nA0 nA1 nA2
  exact ⟨g1 jA0 jB0 nA0 nB0, g1 jA1 jB1 nA1 nB1, g1 jA2 jB2 nA2 nB2,
    neq_of (inn rc0.1 rc1.1 rc2.1 jA0 jA1 jA2 rc0.2 rc1.2 rc2.2 nA0 nA1 nA2) zero_int (cross_left _ _ _ _ _ _),
    neq_of (inn rc0.1 rc1.1 rc2.1 jB0 jB1 jB2 rc0.2 rc1.2 rc2.2 nB0 nB1 nB2) zero_int (cross_right _ _ _ _ _ _),
    neq_of jS jS rfl,
    g2 rc0.1 rd0.1 rd0.2 (anti2' _ _ _ _), g2 rc1.1 rd1.1 rd1.2 (anti2' _ _ _ _), g2 rc2.1 rd2.1 rd2.2 (anti2' _ _ _ _),
    g3 jA0 nA0, g3 jA1 nA1, g3 jA2 nA2,
    g4 jA0 jB0 nA0 nB0, g4 jA1 jB1 nA1 nB1, g4 jA2 jB2 nA2 nB2,
    g5 jA0 jB0 nA0 nB0, g5 jA1 jB1 nA1 nB1, g5 jA2 jB2 nA2 nB2⟩

theorem text_len (u0 u1 u2 : Nat) : (⟨(NTL.txt [u0, u1, u2]).toArray⟩ : ByteArray).size = 26 := by
  have e : (⟨(NTL.txt [u0, u1, u2]).toArray⟩ : ByteArray).size = (NTL.txt [u0, u1, u2]).length := by simp [ByteArray.size]
  have l : ∀ z, (NTL.hexz z).length = 8 := fun z => by rw [NTL.hexz, Hex.hex8, Hex.text_len]
  rw [e]
  unfold NTL.txt
  rw [if_neg (by simp)]
  show (Lib.join [NTL.hexz u0, NTL.hexz u1, NTL.hexz u2] [44]).length = 26
  rw [Lib.join_length]
  simp [Lib.lens, l]

theorem put3_keep {w : World} {b p : Nat} {x y z : Value} (h : p ≠ b) : (((w.setCell ⟨b, 0, none⟩ x).setCell ⟨b, 1, none⟩ y).setCell ⟨b, 2, none⟩ z).heap[p]? = w.heap[p]? := by
  rw [set_keep _ 2 z h, set_keep _ 1 y h, set_keep _ 0 x h]

theorem put3_own {w : World} {b : Nat} {t : TypeId} {o0 o1 o2 x y z : Value} (h : w.heap[b]? = some (.cells #[o0, o1, o2] t)) : (((w.setCell ⟨b, 0, none⟩ x).setCell ⟨b, 1, none⟩ y).setCell ⟨b, 2, none⟩ z).heap[b]? = some (.cells #[x, y, z] t) := by
  rw [set_block (set_block (set_block h 0 x) 1 y) 2 z]; simp

theorem put3_size {w : World} {b : Nat} {x y z : Value} : (((w.setCell ⟨b, 0, none⟩ x).setCell ⟨b, 1, none⟩ y).setCell ⟨b, 2, none⟩ z).heap.size = w.heap.size := by
  rw [World.size_setCell, World.size_setCell, World.size_setCell]

theorem sameD (x y : Nat) (c : Option Nat) (w : World) (fx : Fr .f32 x c) (fy : Fr .f32 y c) : Calls Tryz.prog 13 #[.float .f32 x, .float .f32 y] w (RetD (.bool true) w) :=
  (NumC.same x y w fx.2 fy.2).mono fun e w' h => ⟨by rw [h.1, decide_eq_true (show cl .f32 x = cl .f32 y by rw [fx.1, fy.1])], h.2 ▸ Below.refl _ _⟩
end VecC
end Go.Proofs.YtpmnjbgfdhhomabGreatDoor
