/- Middles of threads: the program's function and the model's. -/
import Derived.Test.YtggklnanhiomjacThA
namespace Go.Proofs.Ytggklnanhiomjac
set_option linter.unusedSimpArgs false
set_option linter.unusedVariables false
open Go.RowKit
set_option maxRecDepth 20000
namespace Th
open Fl Rate

def ptC (c : Nat → Option Nat) (k i : Nat) : Option Nat := c (k * 3 + i)

def midC (c : Nat → Option Nat) (n i : Nat) : Option Nat := op2 .mul .f32 (sumC (ptC c) i n) (op2 .quo .f32 (some 1065353216) (cl .f32 (floatOfInt .f32 (n : Int))))

theorem one1 : Fr .f32 1065353216 (some 1065353216) := Fr.const (by decide +kernel) (by decide)

set_option maxHeartbeats 6400000 in
theorem spec_MidT (a : Option Addr) (n cap s : Nat) (cs : Option Nat) (c : Nat → Option Nat) (w : World) (h : IsV w a n cap c) (fs : Fr .f32 s cs) (A : Bool) (hA : okT n cs c = A) (F : Bool) (hF : (A && fin3 (midC c n 0) (midC c n 1) (midC c n 2)) = F) :
    Calls Try.prog 18 #[tV a n cap s] w (RetVF F (midC c n 0) (midC c n 1) (midC c n 2) w) := by
  have HI2 := Lib.hid (fun G w' (hb : Below w.heap.size w w') e0 e1 => spec_is G a n cap s cs c w' e0 e1 (h.later hb) fs A hA)
  cases A
  · obtain rfl : F = false := by rw [← hF]; rfl
    clear hA h hF
    go_enter Try.func18, Try.ntmps18
    go_wp2_with fail
    refine (HI2.out _ _ (by (repeat' first | exact Below.refl _ _ | (refine Below.setCell ?_ (by first | omega | (simp; omega) | simp) _) | (refine below_drewN ?_ _) | (refine Below.alloc ?_ (by first | omega | (simp; omega) | simp) _) | (refine Below.trans ?_ (Below.mono (by assumption) (by first | omega | (simp; omega) | simp))))) (by simp) (by simp)).mono ?_
    rintro e w1 ⟨rfl, hb1⟩
    have hz1 := hb1.size
    try simp only [World.size_alloc, World.size_setCell, World.heap_drewN, World.size_drew] at hz1
    obtain ⟨hc1, hf1⟩ := Fl.bcell hb1
    try simp only [World.heap_drewN, World.cell?_drewN, World.frozen?_drewN] at hc1 hf1
    have g1_0 : w.heap.size < w1.heap.size := by omega
    have g1' : w.heap.size + 1 < w1.heap.size := by omega
    go_wp2
    refine bodyPost_ret ?ohr rfl ⟨0, 0, 0, rfl, zz, zz, zz, ?obel⟩
    case ohr => simp [results, Try.results18, go_sem, *]
    case obel => (repeat' first | exact Below.refl _ _ | (refine Below.setCell ?_ (by first | omega | (simp; omega) | simp) _) | (refine below_drewN ?_ _) | (refine Below.alloc ?_ (by first | omega | (simp; omega) | simp) _) | (refine Below.trans ?_ (Below.mono (by assumption) (by first | omega | (simp; omega) | simp))))
  · have hn := (okT_of hA).2.1
    have hnm : n ≤ 9223372036854775807 := by omega
    have HY := Lib.hid h
    rw [Bool.true_and] at hF
    have HF := Lib.hid hF
    clear hA h hF
    go_enter Try.func18, Try.ntmps18
    go_wp2_with fail
    refine (HI2.out _ _ (by (repeat' first | exact Below.refl _ _ | (refine Below.setCell ?_ (by first | omega | (simp; omega) | simp) _) | (refine below_drewN ?_ _) | (refine Below.alloc ?_ (by first | omega | (simp; omega) | simp) _) | (refine Below.trans ?_ (Below.mono (by assumption) (by first | omega | (simp; omega) | simp))))) (by simp) (by simp)).mono ?_
    rintro e w1 ⟨rfl, hb1⟩
    have hz1 := hb1.size
    simp only [World.size_alloc] at hz1
    have qp := keep_block hb1 (alloc_block (o' := .cells #[.float .f32 0, .float .f32 0, .float .f32 0] 28) (new_block w (.cells #[.slice a n cap, .float .f32 s] 33)))
    have q4 : w1.heap[w.heap.size + 1]? = some (.cells #[.float .f32 0, .float .f32 0, .float .f32 0] 28) := keep_block hb1 (by simpa using new_block (w.alloc (.cells #[.slice a n cap, .float .f32 s] 33)) (.cells #[.float .f32 0, .float .f32 0, .float .f32 0] 28))
    have e20 := (cells_of (i := 0) qp).trans (show _ = some (.slice a n cap) from rfl)
    have e21 := (cells_of (i := 1) qp).trans (show _ = some (.float .f32 s) from rfl)
    have hbw : Below w.heap.size w w1 := by (repeat' first | exact Below.refl _ _ | (refine Below.setCell ?_ (by first | omega | (simp; omega) | simp) _) | (refine below_drewN ?_ _) | (refine Below.alloc ?_ (by first | omega | (simp; omega) | simp) _) | (refine Below.trans ?_ (Below.mono (by assumption) (by first | omega | (simp; omega) | simp))))
    have HBW := Lib.hid hbw
    have lP := block_lt qp
    have Q4 := Lib.hid q4
    clear qp q4 hbw hb1
    have HE0 := Lib.hid e20
    have l4 := block_lt Q4.out
    go_wp2
    go_loopw [5] (fun i wr => ∃ (k x y z : Nat), k ≤ n ∧ i = .int .i64 (k : Int) ∧ wr.heap[w1.heap.size]? = some (.cells #[.float .f32 x, .float .f32 y, .float .f32 z] 28) ∧ Fr .f32 x (sumC (ptC c) 0 k) ∧ Fr .f32 y (sumC (ptC c) 1 k) ∧ Fr .f32 z (sumC (ptC c) 2 k) ∧ Below w1.heap.size w1 wr)
      (fun i _ => n - (intOf i).toNat)
    case atStart => exact ⟨0, 0, 0, 0, by omega, rfl, by simpa using new_block w1 (.cells #[.float .f32 0, .float .f32 0, .float .f32 0] 28), zz, zz, zz, (Below.refl _ _).alloc (Nat.le_refl _) _⟩
    case round =>
      clear e20 e21
      obtain ⟨k, qx, qy, qz, hk, rfl, h5, gx, gy, gz, hb⟩ := hrel
      have H5 := Lib.hid h5
      have HB := Lib.hid hb
      have FQ := Lib.hid (And.intro gx (And.intro gy gz))
      have s0 := (cells_of (i := 0) h5).trans (show _ = some (.float .f32 qx) from rfl)
      have s1 := (cells_of (i := 1) h5).trans (show _ = some (.float .f32 qy) from rfl)
      have s2 := (cells_of (i := 2) h5).trans (show _ = some (.float .f32 qz) from rfl)
      have l5 := block_lt h5
      have hbz := hb.size
      have lPr : w.heap.size < wr.heap.size := by omega
      have e0 : wr.cell? ⟨w.heap.size, 0, none⟩ = some (.slice a n cap) := by rw [hb.cell (p := ⟨w.heap.size, 0, none⟩) lP]; exact HE0.out
      have HYR := Lib.hid (HY.out.later (HBW.out.trans (hb.mono (by omega))))
      clear h5 hb gx gy gz
      by_cases hlt : k < n
      · obtain ⟨h2, h3, b, off, h5, h6⟩ := HYR.out
        obtain rfl := h5 (by omega)
        obtain ⟨x, y, z, hx, hy, hz, fx, fy, fz, hbr⟩ := at_v h6 hlt (Below.refl wr.heap.size wr)
        clear h5 h6
        go_wp2_with fail
        refine Loose.wp_region_below 7 [] (by kernel_rfl) (by kernel_rfl) (by simp [undef]) ?_
        apply Exists.intro
        simp only [List.take_succ_cons, List.take_zero, List.drop_succ_cons, List.drop_zero]
        repeat (first | (apply Loose.walk_step; intro K hK; apply Loose.turn_value (hwant := rfl) (hd := rfl); (focus (intro w' hw'; obtain ⟨hc, hf⟩ := Fl.bcell hw'; go_simp; first | done | rfl | exact ⟨rfl, rfl⟩)); go_simp; refine hK _ ?_; clear hK K) | (apply Loose.walk_step; intro K hK; apply Loose.turn_callVB (Nat.le_refl _) (hwant := rfl) (hd := rfl); (focus (intro w'; go_simp; first | done | rfl | exact ⟨rfl, rfl⟩)); (focus (intro w' hw'; go_at_call 67; exact Vec.spec_add _ _ _ _ _ _ _ _ _ _ _ _ _ FQ.out.1 FQ.out.2.1 FQ.out.2.2 fx fy fz)); intro x4 y4 z4 fx4 fy4 fz4; go_simp; refine hK _ ?_; clear hK K))
        refine Loose.walk_nil ?_
        intro w4 hcls4
        obtain ⟨hb4, _⟩ := hcls4
        obtain ⟨hc4, hf4⟩ := Fl.bcell hb4
        have hz4 := hb4.size
        try simp only [World.size_alloc, World.size_setCell, World.heap_drewN, World.size_drew] at hz4
        clear hc4 hf4
        have h54 := keep_block hb4 H5.out
        have t0 := (cells_of (i := 0) h54).trans (show _ = some (.float .f32 qx) from rfl)
        have t1 := (cells_of (i := 1) h54).trans (show _ = some (.float .f32 qy) from rfl)
        have t2 := (cells_of (i := 2) h54).trans (show _ = some (.float .f32 qz) from rfl)
        have u0 := free_of h54 0
        have u1 := free_of h54 1
        have u2 := free_of h54 2
        have HB4 := Lib.hid (HB.out.trans (show Below w1.heap.size wr w4 from hb4.mono (by omega)))
        have H54 := Lib.hid h54
        have F4 := Lib.hid (show Fr .f32 x4 (sumC (ptC c) 0 (k + 1)) ∧ Fr .f32 y4 (sumC (ptC c) 1 (k + 1)) ∧ Fr .f32 z4 (sumC (ptC c) 2 (k + 1)) from ⟨fx4, fy4, fz4⟩)
        clear hb4 h54 s0 s1 s2 e0 fx4 fy4 fz4 hx hy hz fx fy fz
        go_wp2
        go_roundw
        case rel =>
          refine ⟨k + 1, x4, y4, z4, by omega, by go_num, by simpa using setCell_block (setCell_block (setCell_block H54.out 0 (.float .f32 x4)) 1 (.float .f32 y4)) 2 (.float .f32 z4), F4.out.1, F4.out.2.1, F4.out.2.2, ?_⟩
          exact ((HB4.out.setCell (by first | omega | simp) _).setCell (by first | omega | simp) _).setCell (by first | omega | simp) _
        case measure => simp [intOf]; omega
      · obtain rfl : n = k := by omega
        have fn : Fr .f32 (floatOfInt .f32 (n : Int)) (cl .f32 (floatOfInt .f32 (n : Int))) := ⟨rfl, by unfold floatOfInt FloatKind.nearest; exact FloatKind.f32.format.write_lt _⟩
        have f1 := one1
        have HBR := Lib.hid (HBW.out.trans (HB.out.mono (by omega)))
        go_wp2_with (first | (refine Fl.wpList_fl rfl rfl rfl rfl rfl (by assumption) (by assumption) ?_; intro r nd hr))
        refine (Vec.spec_scale _ _ _ _ _ _ _ _ _ FQ.out.1 FQ.out.2.1 FQ.out.2.2 (by assumption)).mono ?_
        rintro e w3 ⟨x3, y3, z3, rfl, fx3, fy3, fz3, hb3⟩
        have hz3 := hb3.size
        try simp only [World.heap_drewN] at hz3
        go_wp2_with fail
        refine (spec_checkedV _ _ _ _ _ _ _ fx3 fy3 fz3 F HF.out).mono ?_
        rintro e w5 ⟨x9, y9, z9, rfl, gx, gy, gz, hb5⟩
        have hz5 := hb5.size
        have q4 := keep_block hb5 (keep_block (p := wr) (w := w3) (by (repeat' first | exact Below.refl _ _ | (refine Below.setCell ?_ (by first | omega | (simp; omega) | simp) _) | (refine below_drewN ?_ _) | (refine Below.alloc ?_ (by first | omega | (simp; omega) | simp) _) | (refine Below.trans ?_ (Below.mono (by assumption) (by first | omega | (simp; omega) | simp))))) (keep_block HB.out Q4.out))
        have t0 := (cells_of (i := 0) q4).trans (show _ = some (.float .f32 0) from rfl)
        have t1 := (cells_of (i := 1) q4).trans (show _ = some (.float .f32 0) from rfl)
        have t2 := (cells_of (i := 2) q4).trans (show _ = some (.float .f32 0) from rfl)
        have u0 := free_of q4 0
        have u1 := free_of q4 1
        have u2 := free_of q4 2
        have l45 := block_lt q4
        have HBX := Lib.hid (HBR.out.trans (show Below w.heap.size wr w5 from Below.mono (show Below wr.heap.size wr w5 by (repeat' first | exact Below.refl _ _ | (refine Below.setCell ?_ (by first | omega | (simp; omega) | simp) _) | (refine below_drewN ?_ _) | (refine Below.alloc ?_ (by first | omega | (simp; omega) | simp) _) | (refine Below.trans ?_ (Below.mono (by assumption) (by first | omega | (simp; omega) | simp))))) (by omega)))
        have F4 := Lib.hid (And.intro gx (And.intro gy gz))
        clear q4 hb3 hb5 gx gy gz s0 s1 s2 e0 fx3 fy3 fz3
        go_wp2
        refine bodyPost_ret ?ohr rfl ⟨x9, y9, z9, rfl, F4.out.1, F4.out.2.1, F4.out.2.2, ?obel⟩
        case ohr => simp [results, Try.results18, go_sem, *]
        case obel => exact ((HBX.out.setCell (by first | omega | simp) _).setCell (by first | omega | simp) _).setCell (by first | omega | simp) _

set_option maxHeartbeats 6400000 in
theorem impl_MidT (a : Option Addr) (n cap s : Nat) (cs : Option Nat) (c : Nat → Option Nat) (w : World) (h : IsV w a n cap c) (fs : Fr .f32 s cs) (A : Bool) (hA : okT n cs c = A) (F : Bool) (hF : (A && fin3 (midC c n 0) (midC c n 1) (midC c n 2)) = F) :
    Calls Try.prog 19 #[tV a n cap s] w (RetVF F (midC c n 0) (midC c n 1) (midC c n 2) w) := by
  have HI2 := Lib.hid (fun w' (hb : Below w.heap.size w w') => impl_is a n cap s cs c w' (h.later hb) fs A hA)
  cases A
  · obtain rfl : F = false := by rw [← hF]; rfl
    clear hA h hF
    go_enter Try.func19, Try.ntmps19
    go_wp2_with fail
    refine (HI2.out _ (by (repeat' first | exact Below.refl _ _ | (refine Below.setCell ?_ (by first | omega | (simp; omega) | simp) _) | (refine below_drewN ?_ _) | (refine Below.alloc ?_ (by first | omega | (simp; omega) | simp) _) | (refine Below.trans ?_ (Below.mono (by assumption) (by first | omega | (simp; omega) | simp)))))).mono ?_
    rintro e w1 ⟨rfl, hb1⟩
    have hz1 := hb1.size
    try simp only [World.size_alloc, World.size_setCell, World.heap_drewN, World.size_drew] at hz1
    obtain ⟨hc1, hf1⟩ := Fl.bcell hb1
    try simp only [World.heap_drewN, World.cell?_drewN, World.frozen?_drewN] at hc1 hf1
    have g1_0 : w.heap.size < w1.heap.size := by omega
    have g1' : w.heap.size + 1 < w1.heap.size := by omega
    go_wp2
    refine bodyPost_ret ?ohr rfl ⟨0, 0, 0, rfl, zz, zz, zz, ?obel⟩
    case ohr => simp [results, Try.results19, go_sem, *]
    case obel => (repeat' first | exact Below.refl _ _ | (refine Below.setCell ?_ (by first | omega | (simp; omega) | simp) _) | (refine below_drewN ?_ _) | (refine Below.alloc ?_ (by first | omega | (simp; omega) | simp) _) | (refine Below.trans ?_ (Below.mono (by assumption) (by first | omega | (simp; omega) | simp))))
  · have hn := (okT_of hA).2.1
    have hnm : n ≤ 9223372036854775807 := by omega
    have HY := Lib.hid h
    rw [Bool.true_and] at hF
    have HF := Lib.hid hF
    clear hA h hF
    go_enter Try.func19, Try.ntmps19
    go_wp2_with fail
    refine (HI2.out _ (by (repeat' first | exact Below.refl _ _ | (refine Below.setCell ?_ (by first | omega | (simp; omega) | simp) _) | (refine below_drewN ?_ _) | (refine Below.alloc ?_ (by first | omega | (simp; omega) | simp) _) | (refine Below.trans ?_ (Below.mono (by assumption) (by first | omega | (simp; omega) | simp)))))).mono ?_
    rintro e w1 ⟨rfl, hb1⟩
    have hz1 := hb1.size
    simp only [World.size_alloc] at hz1
    have qp := keep_block hb1 (alloc_block (o' := .cells #[.float .f32 0, .float .f32 0, .float .f32 0] 28) (new_block w (.cells #[.slice a n cap, .float .f32 s] 33)))
    have q4 : w1.heap[w.heap.size + 1]? = some (.cells #[.float .f32 0, .float .f32 0, .float .f32 0] 28) := keep_block hb1 (by simpa using new_block (w.alloc (.cells #[.slice a n cap, .float .f32 s] 33)) (.cells #[.float .f32 0, .float .f32 0, .float .f32 0] 28))
    have e20 := (cells_of (i := 0) qp).trans (show _ = some (.slice a n cap) from rfl)
    have e21 := (cells_of (i := 1) qp).trans (show _ = some (.float .f32 s) from rfl)
    have hbw : Below w.heap.size w w1 := by (repeat' first | exact Below.refl _ _ | (refine Below.setCell ?_ (by first | omega | (simp; omega) | simp) _) | (refine below_drewN ?_ _) | (refine Below.alloc ?_ (by first | omega | (simp; omega) | simp) _) | (refine Below.trans ?_ (Below.mono (by assumption) (by first | omega | (simp; omega) | simp))))
    have HBW := Lib.hid hbw
    have lP := block_lt qp
    have Q4 := Lib.hid q4
    clear qp q4 hbw hb1
    have HE0 := Lib.hid e20
    have l4 := block_lt Q4.out
    go_wp2
    go_loopw [14] (fun i wr => ∃ (k x y z : Nat), k ≤ n ∧ i = .int .i64 (k : Int) ∧ wr.heap[w1.heap.size]? = some (.cells #[.float .f32 x, .float .f32 y, .float .f32 z] 28) ∧ Fr .f32 x (sumC (ptC c) 0 k) ∧ Fr .f32 y (sumC (ptC c) 1 k) ∧ Fr .f32 z (sumC (ptC c) 2 k) ∧ Below w1.heap.size w1 wr)
      (fun i _ => n - (intOf i).toNat)
    case atStart => exact ⟨0, 0, 0, 0, by omega, rfl, by simpa using new_block w1 (.cells #[.float .f32 0, .float .f32 0, .float .f32 0] 28), zz, zz, zz, (Below.refl _ _).alloc (Nat.le_refl _) _⟩
    case round =>
      clear e20 e21
      obtain ⟨k, qx, qy, qz, hk, rfl, h5, gx, gy, gz, hb⟩ := hrel
      have H5 := Lib.hid h5
      have HB := Lib.hid hb
      have FQ := Lib.hid (And.intro gx (And.intro gy gz))
      have s0 := (cells_of (i := 0) h5).trans (show _ = some (.float .f32 qx) from rfl)
      have s1 := (cells_of (i := 1) h5).trans (show _ = some (.float .f32 qy) from rfl)
      have s2 := (cells_of (i := 2) h5).trans (show _ = some (.float .f32 qz) from rfl)
      have l5 := block_lt h5
      have hbz := hb.size
      have lPr : w.heap.size < wr.heap.size := by omega
      have e0 : wr.cell? ⟨w.heap.size, 0, none⟩ = some (.slice a n cap) := by rw [hb.cell (p := ⟨w.heap.size, 0, none⟩) lP]; exact HE0.out
      have HYR := Lib.hid (HY.out.later (HBW.out.trans (hb.mono (by omega))))
      clear h5 hb gx gy gz
      by_cases hlt : k < n
      · obtain ⟨h2, h3, b, off, h5, h6⟩ := HYR.out
        obtain rfl := h5 (by omega)
        obtain ⟨x, y, z, hx, hy, hz, fx, fy, fz, hbr⟩ := at_v h6 hlt (Below.refl wr.heap.size wr)
        clear h5 h6
        go_wp2_with fail
        refine (Vec.impl_add _ _ _ _ _ _ _ _ _ _ _ _ _ FQ.out.1 FQ.out.2.1 FQ.out.2.2 fx fy fz).mono ?_
        rintro e w4 ⟨x4, y4, z4, rfl, fx4, fy4, fz4, hb4⟩
        have hz4 := hb4.size
        simp only [World.size_alloc] at hz4
        have h54 := keep_block hb4 (alloc_block H5.out)
        have t0 := (cells_of (i := 0) h54).trans (show _ = some (.float .f32 qx) from rfl)
        have t1 := (cells_of (i := 1) h54).trans (show _ = some (.float .f32 qy) from rfl)
        have t2 := (cells_of (i := 2) h54).trans (show _ = some (.float .f32 qz) from rfl)
        have u0 := free_of h54 0
        have u1 := free_of h54 1
        have u2 := free_of h54 2
        have HB4 := Lib.hid (HB.out.trans (show Below w1.heap.size wr w4 from ((Below.refl w1.heap.size wr).alloc (by omega) _).trans (hb4.mono (by simp; omega))))
        have H54 := Lib.hid h54
        have F4 := Lib.hid (show Fr .f32 x4 (sumC (ptC c) 0 (k + 1)) ∧ Fr .f32 y4 (sumC (ptC c) 1 (k + 1)) ∧ Fr .f32 z4 (sumC (ptC c) 2 (k + 1)) from ⟨fx4, fy4, fz4⟩)
        clear hb4 h54 s0 s1 s2 e0 fx4 fy4 fz4 hx hy hz fx fy fz
        go_wp2
        go_roundw
        case rel =>
          refine ⟨k + 1, x4, y4, z4, by omega, by go_num, by simpa using setCell_block (setCell_block (setCell_block H54.out 0 (.float .f32 x4)) 1 (.float .f32 y4)) 2 (.float .f32 z4), F4.out.1, F4.out.2.1, F4.out.2.2, ?_⟩
          exact ((HB4.out.setCell (by first | omega | simp) _).setCell (by first | omega | simp) _).setCell (by first | omega | simp) _
        case measure => simp [intOf]; omega
      · obtain rfl : n = k := by omega
        have fn : Fr .f32 (floatOfInt .f32 (n : Int)) (cl .f32 (floatOfInt .f32 (n : Int))) := ⟨rfl, by unfold floatOfInt FloatKind.nearest; exact FloatKind.f32.format.write_lt _⟩
        have f1 := one1
        have HBR := Lib.hid (HBW.out.trans (HB.out.mono (by omega)))
        go_wp2_with (first | (refine Fl.wpList_fl rfl rfl rfl rfl rfl (by assumption) (by assumption) ?_; intro r nd hr))
        refine (Vec.impl_scale _ _ _ _ _ _ _ _ _ FQ.out.1 FQ.out.2.1 FQ.out.2.2 (by assumption)).mono ?_
        rintro e w3 ⟨x3, y3, z3, rfl, fx3, fy3, fz3, hb3⟩
        have hz3 := hb3.size
        try simp only [World.heap_drewN] at hz3
        go_wp2_with fail
        refine (impl_checkedV _ _ _ _ _ _ _ fx3 fy3 fz3 F HF.out).mono ?_
        rintro e w5 ⟨x9, y9, z9, rfl, gx, gy, gz, hb5⟩
        have hz5 := hb5.size
        have q4 := keep_block hb5 (keep_block (p := wr) (w := w3) (by (repeat' first | exact Below.refl _ _ | (refine Below.setCell ?_ (by first | omega | (simp; omega) | simp) _) | (refine below_drewN ?_ _) | (refine Below.alloc ?_ (by first | omega | (simp; omega) | simp) _) | (refine Below.trans ?_ (Below.mono (by assumption) (by first | omega | (simp; omega) | simp))))) (keep_block HB.out Q4.out))
        have t0 := (cells_of (i := 0) q4).trans (show _ = some (.float .f32 0) from rfl)
        have t1 := (cells_of (i := 1) q4).trans (show _ = some (.float .f32 0) from rfl)
        have t2 := (cells_of (i := 2) q4).trans (show _ = some (.float .f32 0) from rfl)
        have u0 := free_of q4 0
        have u1 := free_of q4 1
        have u2 := free_of q4 2
        have l45 := block_lt q4
        have HBX := Lib.hid (HBR.out.trans (show Below w.heap.size wr w5 from Below.mono (show Below wr.heap.size wr w5 by (repeat' first | exact Below.refl _ _ | (refine Below.setCell ?_ (by first | omega | (simp; omega) | simp) _) | (refine below_drewN ?_ _) | (refine Below.alloc ?_ (by first | omega | (simp; omega) | simp) _) | (refine Below.trans ?_ (Below.mono (by assumption) (by first | omega | (simp; omega) | simp))))) (by omega)))
        have F4 := Lib.hid (And.intro gx (And.intro gy gz))
        clear q4 hb3 hb5 gx gy gz s0 s1 s2 e0 fx3 fy3 fz3
        go_wp2
        refine bodyPost_ret ?ohr rfl ⟨x9, y9, z9, rfl, F4.out.1, F4.out.2.1, F4.out.2.2, ?obel⟩
        case ohr => simp [results, Try.results19, go_sem, *]
        case obel => exact ((HBX.out.setCell (by first | omega | simp) _).setCell (by first | omega | simp) _).setCell (by first | omega | simp) _

end Th
end Go.Proofs.Ytggklnanhiomjac
