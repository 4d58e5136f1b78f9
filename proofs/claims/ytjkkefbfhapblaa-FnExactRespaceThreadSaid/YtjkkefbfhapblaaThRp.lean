/- Even points along a thread: the program's functions. -/
import Derived.Test.YtjkkefbfhapblaaThQ
import Derived.Test.YtjkkefbfhapblaaThN
import Derived.Test.YtjkkefbfhapblaaPos
namespace Go.Proofs.Ytjkkefbfhapblaa
set_option linter.unusedSimpArgs false
set_option linter.unusedVariables false
open Go.RowKit
set_option maxRecDepth 20000
namespace Th
open Fl Rate

/-- What of a segment of this length lies behind. -/
def shareC (L f : Option Nat) : Option Nat := if cmpC .neq (ord .f32 L (some 0)) = true then op2 .quo .f32 f L else some 0

/-- The segment and what is left, so far along. -/
def scanC (c : Nat → Option Nat) (n : Nat) : Nat → Nat → Option Nat → Nat × Option Nat
  | 0, i, f => (i, f)
  | m + 1, i, f => if i + 1 < n then (if cmpC .geq (ord .f32 (longC c n i) f) = true then (i, f) else scanC c n m (i + 1) (op2 .sub .f32 f (longC c n i))) else (i, f)

theorem scan_stop {c : Nat → Option Nat} {n m i : Nat} {f : Option Nat} (h : cmpC .geq (ord .f32 (longC c n i) f) = true) : scanC c n m i f = (i, f) := by
  cases m with
  | zero => rfl
  | succ m => unfold scanC; rw [if_pos h]; split <;> rfl

theorem scan_last {c : Nat → Option Nat} {n m i : Nat} {f : Option Nat} (h : ¬ i + 1 < n) : scanC c n m i f = (i, f) := by
  cases m with
  | zero => rfl
  | succ m => unfold scanC; rw [if_neg h]

theorem scan_next {c : Nat → Option Nat} {n i : Nat} {f : Option Nat} (h : cmpC .geq (ord .f32 (longC c n i) f) = false) (hi : i + 1 < n) : scanC c n (n - i) i f = scanC c n (n - (i + 1)) (i + 1) (op2 .sub .f32 f (longC c n i)) := by
  rw [show n - i = (n - (i + 1)) + 1 by omega]
  show (if i + 1 < n then _ else _) = _
  rw [if_pos hi, h]
  rfl

/-- One number of the point that lies so far along segment i. -/
def segC (c : Nat → Option Nat) (n i : Nat) (f : Option Nat) (r : Nat) : Option Nat := op2 .add .f32 (c (i * 3 + r)) (op2 .mul .f32 (op2 .sub .f32 (c (nx n i * 3 + r)) (c (i * 3 + r))) (shareC (longC c n i) f))

def pointC (c : Nat → Option Nat) (n : Nat) (f : Option Nat) (r : Nat) : Option Nat := segC c n (scanC c n n 0 f).1 (scanC c n n 0 f).2 r

theorem fl_int (n : Int) : Fr .f32 (floatOfInt .f32 n) (cl .f32 (floatOfInt .f32 n)) := ⟨rfl, by unfold floatOfInt FloatKind.nearest; exact FloatKind.f32.format.write_lt _⟩

def leftC (c : Nat → Option Nat) (n N k : Nat) : Option Nat := op2 .mul .f32 (cl .f32 (floatOfInt .f32 (k : Int))) (op2 .quo .f32 (lenC c n n) (cl .f32 (floatOfInt .f32 (N : Int))))

/-- The even points. -/
def evenC (c : Nat → Option Nat) (n N : Nat) : Nat → Option Nat := fun j => pointC c n (leftC c n N (j / 3)) (j % 3)

theorem evenC_at (c : Nat → Option Nat) (n N k r : Nat) (hr : r < 3) : evenC c n N (k * 3 + r) = pointC c n (leftC c n N k) r := by
  unfold evenC
  rw [show (k * 3 + r) / 3 = k by omega, show (k * 3 + r) % 3 = r by omega]

set_option maxHeartbeats 3200000 in
theorem at_run (x y z x' y' z' q : Nat) (c0 c1 c2 d0 d1 d2 cq : Option Nat) (w : World) (f0 : Fr .f32 x c0) (f1 : Fr .f32 y c1) (f2 : Fr .f32 z c2) (g0 : Fr .f32 x' d0) (g1 : Fr .f32 y' d1) (g2 : Fr .f32 z' d2) (fq : Fr .f32 q cq) (S : Option Nat) (hS : shareC (sizeC (op2 .sub .f32 d0 c0) (op2 .sub .f32 d1 c1) (op2 .sub .f32 d2 c2)) cq = S) :
    Calls Try.prog 117 #[.agg #[.float .f32 x, .float .f32 y, .float .f32 z, .float .f32 x', .float .f32 y', .float .f32 z'], .float .f32 q] w (RetV (op2 .add .f32 c0 (op2 .mul .f32 (op2 .sub .f32 d0 c0) S)) (op2 .add .f32 c1 (op2 .mul .f32 (op2 .sub .f32 d1 c1) S)) (op2 .add .f32 c2 (op2 .mul .f32 (op2 .sub .f32 d2 c2) S)) w) := by
  have HL := Lib.hid (fun w => long_run x y z x' y' z' c0 c1 c2 d0 d1 d2 w f0 f1 f2 g0 g1 g2)
  have HWY := Lib.hid (fun w => way_run x y z x' y' z' c0 c1 c2 d0 d1 d2 w f0 f1 f2 g0 g1 g2)
  generalize sizeC (op2 .sub .f32 d0 c0) (op2 .sub .f32 d1 c1) (op2 .sub .f32 d2 c2) = L at *
  have z0 := z32
  have HF := Lib.hid (And.intro f0 (And.intro f1 f2))
  unfold shareC at hS
  go_enter Try.func117, Try.ntmps117
  go_wp2_with fail
  refine (HL.out _).mono ?_
  rintro e w1 ⟨r1, rfl, fr1, hb1⟩
  have hz1 := hb1.size
  simp only [World.size_alloc] at hz1
  have qp := keep_block hb1 (alloc_block (o' := .cells #[.float .f32 0, .float .f32 0, .float .f32 0] 28) (new_block w (.cells #[.float .f32 x, .float .f32 y, .float .f32 z, .float .f32 x', .float .f32 y', .float .f32 z'] 94)))
  have q4 : w1.heap[w.heap.size + 1]? = some (.cells #[.float .f32 0, .float .f32 0, .float .f32 0] 28) := keep_block hb1 (by simpa using new_block (w.alloc (.cells #[.float .f32 x, .float .f32 y, .float .f32 z, .float .f32 x', .float .f32 y', .float .f32 z'] 94)) (.cells #[.float .f32 0, .float .f32 0, .float .f32 0] 28))
  have p0 := (cells_of (i := 0) qp).trans (show _ = some (.float .f32 x) from rfl)
  have p1 := (cells_of (i := 1) qp).trans (show _ = some (.float .f32 y) from rfl)
  have p2 := (cells_of (i := 2) qp).trans (show _ = some (.float .f32 z) from rfl)
  have p3 := (cells_of (i := 3) qp).trans (show _ = some (.float .f32 x') from rfl)
  have p4 := (cells_of (i := 4) qp).trans (show _ = some (.float .f32 y') from rfl)
  have p5 := (cells_of (i := 5) qp).trans (show _ = some (.float .f32 z') from rfl)
  have hbw : Below w.heap.size w w1 := by (repeat' first | exact Below.refl _ _ | (refine Below.setCell ?_ (by first | omega | (simp; omega) | simp) _) | (refine below_drewN ?_ _) | (refine Below.alloc ?_ (by first | omega | (simp; omega) | simp) _) | (refine Below.trans ?_ (Below.mono (by assumption) (by first | omega | (simp; omega) | simp))))
  have HBW := Lib.hid hbw
  have Q4 := Lib.hid q4
  have lP := block_lt qp
  clear qp q4 hbw hb1
  cases hN : cmpC .neq (ord .f32 L (some 0))
  all_goals
    rw [hN] at hS
    simp only [Bool.false_eq_true, if_false, if_true] at hS
    subst hS
  · go_wp2_with (first | (refine Fl.wpList_cmp rfl rfl rfl rfl rfl fr1 z0 ?_; try simp only [hN]))
    have fs : Fr .f32 0 (some 0) := z0
    refine Loose.wp_region_below 7 [] (by kernel_rfl) (by kernel_rfl) (by simp [undef]) ?_
    apply Exists.intro
    simp only [List.take_succ_cons, List.take_zero, List.drop_succ_cons, List.drop_zero]
    repeat (first | (apply Loose.walk_step; intro K hK; apply Loose.turn_value (hwant := rfl) (hd := rfl); (focus (intro w' hw'; obtain ⟨hc, hf⟩ := Fl.bcell hw'; go_simp; first | done | rfl | exact ⟨rfl, rfl⟩)); go_simp; refine hK _ ?_; clear hK K) | (apply Loose.walk_step; intro K hK; apply Loose.turn_value (hwant := rfl) (hd := rfl); (focus (intro w' hw'; obtain ⟨hc, hf⟩ := Fl.bcell hw'; go_simp; first | done | rfl | exact ⟨rfl, rfl⟩)); go_simp; refine hK _ ?_; clear hK K) | (apply Loose.walk_step; intro K hK; apply Loose.turn_callVB (Nat.le_refl _) (hwant := rfl) (hd := rfl); (focus (intro w'; go_simp; first | done | rfl | exact ⟨rfl, rfl⟩)); (focus (intro w' hw'; exact HWY.out w')); intro x3 y3 z3 fx3 fy3 fz3; go_simp; refine hK _ ?_; clear hK K) | (apply Loose.walk_step; intro K hK; apply Loose.turn_callVB (Nat.le_refl _) (hwant := rfl) (hd := rfl); (focus (intro w'; go_simp; first | done | rfl | exact ⟨rfl, rfl⟩)); (focus (intro w' hw'; go_at_call 51; exact Vec.impl_scale _ _ _ _ _ _ _ _ _ fx3 fy3 fz3 fs)); intro x5 y5 z5 fx5 fy5 fz5; go_simp; refine hK _ ?_; clear hK K) | (apply Loose.walk_step; intro K hK; apply Loose.turn_callVB (Nat.le_refl _) (hwant := rfl) (hd := rfl); (focus (intro w'; go_simp; first | done | rfl | exact ⟨rfl, rfl⟩)); (focus (intro w' hw'; go_at_call 121; exact Vec.impl_add _ _ _ _ _ _ _ _ _ _ _ _ _ HF.out.1 HF.out.2.1 HF.out.2.2 fx5 fy5 fz5)); intro x4 y4 z4 fx4 fy4 fz4; go_simp; refine hK _ ?_; clear hK K))
    refine Loose.walk_nil ?_
    intro w4 hcls4
    obtain ⟨hb4, _⟩ := hcls4
    obtain ⟨hc4, hf4⟩ := Fl.bcell hb4
    have hz4 := hb4.size
    try simp only [World.size_alloc, World.size_setCell, World.heap_drewN, World.size_drew] at hz4
    have q44 := keep_block hb4 Q4.out
    have t0 := (cells_of (i := 0) q44).trans (show _ = some (.float .f32 0) from rfl)
    have t1 := (cells_of (i := 1) q44).trans (show _ = some (.float .f32 0) from rfl)
    have t2 := (cells_of (i := 2) q44).trans (show _ = some (.float .f32 0) from rfl)
    have u0 := free_of q44 0
    have u1 := free_of q44 1
    have u2 := free_of q44 2
    have l4 := block_lt q44
    have HB4 := Lib.hid (HBW.out.trans (hb4.mono (by omega)))
    have F4 := Lib.hid (And.intro fx4 (And.intro fy4 fz4))
    clear q44 hb4 hc4 hf4 p0 p1 p2 p3 p4 p5 fx4 fy4 fz4 fx5 fy5 fz5 fx3 fy3 fz3
    go_wp2
    refine bodyPost_ret ?ohr rfl ⟨x4, y4, z4, rfl, F4.out.1, F4.out.2.1, F4.out.2.2, ?obel⟩
    case ohr => simp [results, Try.results117, go_sem, *]
    case obel => exact ((HB4.out.setCell (by first | omega | simp) _).setCell (by first | omega | simp) _).setCell (by first | omega | simp) _
  · go_wp2_with (first | (refine Fl.wpList_cmp rfl rfl rfl rfl rfl fr1 z0 ?_; try simp only [hN]) | (refine Fl.wpList_fl rfl rfl rfl rfl rfl fq fr1 ?_; intro rs nd fs))
    generalize hwz : World.drewN w1 _ = wz
    have hbz : Below w1.heap.size w1 wz := by rw [← hwz]; exact below_drewN (Below.refl _ _) _
    have hz1z : wz.heap.size = w1.heap.size := by rw [← hwz]; rfl
    have p0 : wz.cell? ⟨w.heap.size, 0, none⟩ = _ := (hbz.cell (p := ⟨w.heap.size, 0, none⟩) lP).trans p0
    have p1 : wz.cell? ⟨w.heap.size, 1, none⟩ = _ := (hbz.cell (p := ⟨w.heap.size, 1, none⟩) lP).trans p1
    have p2 : wz.cell? ⟨w.heap.size, 2, none⟩ = _ := (hbz.cell (p := ⟨w.heap.size, 2, none⟩) lP).trans p2
    have p3 : wz.cell? ⟨w.heap.size, 3, none⟩ = _ := (hbz.cell (p := ⟨w.heap.size, 3, none⟩) lP).trans p3
    have p4 : wz.cell? ⟨w.heap.size, 4, none⟩ = _ := (hbz.cell (p := ⟨w.heap.size, 4, none⟩) lP).trans p4
    have p5 : wz.cell? ⟨w.heap.size, 5, none⟩ = _ := (hbz.cell (p := ⟨w.heap.size, 5, none⟩) lP).trans p5
    have lP : w.heap.size < wz.heap.size := by omega
    have HBW := Lib.hid (HBW.out.trans (hbz.mono (by omega)))
    have Q4 := Lib.hid (keep_block hbz Q4.out)
    clear hwz hbz
    refine Loose.wp_region_below 7 [] (by kernel_rfl) (by kernel_rfl) (by simp [undef]) ?_
    apply Exists.intro
    simp only [List.take_succ_cons, List.take_zero, List.drop_succ_cons, List.drop_zero]
    repeat (first | (apply Loose.walk_step; intro K hK; apply Loose.turn_value (hwant := rfl) (hd := rfl); (focus (intro w' hw'; obtain ⟨hc, hf⟩ := Fl.bcell hw'; go_simp; first | done | rfl | exact ⟨rfl, rfl⟩)); go_simp; refine hK _ ?_; clear hK K) | (apply Loose.walk_step; intro K hK; apply Loose.turn_value (hwant := rfl) (hd := rfl); (focus (intro w' hw'; obtain ⟨hc, hf⟩ := Fl.bcell hw'; go_simp; first | done | rfl | exact ⟨rfl, rfl⟩)); go_simp; refine hK _ ?_; clear hK K) | (apply Loose.walk_step; intro K hK; apply Loose.turn_callVB (Nat.le_refl _) (hwant := rfl) (hd := rfl); (focus (intro w'; go_simp; first | done | rfl | exact ⟨rfl, rfl⟩)); (focus (intro w' hw'; exact HWY.out w')); intro x3 y3 z3 fx3 fy3 fz3; go_simp; refine hK _ ?_; clear hK K) | (apply Loose.walk_step; intro K hK; apply Loose.turn_callVB (Nat.le_refl _) (hwant := rfl) (hd := rfl); (focus (intro w'; go_simp; first | done | rfl | exact ⟨rfl, rfl⟩)); (focus (intro w' hw'; go_at_call 51; exact Vec.impl_scale _ _ _ _ _ _ _ _ _ fx3 fy3 fz3 fs)); intro x5 y5 z5 fx5 fy5 fz5; go_simp; refine hK _ ?_; clear hK K) | (apply Loose.walk_step; intro K hK; apply Loose.turn_callVB (Nat.le_refl _) (hwant := rfl) (hd := rfl); (focus (intro w'; go_simp; first | done | rfl | exact ⟨rfl, rfl⟩)); (focus (intro w' hw'; go_at_call 121; exact Vec.impl_add _ _ _ _ _ _ _ _ _ _ _ _ _ HF.out.1 HF.out.2.1 HF.out.2.2 fx5 fy5 fz5)); intro x4 y4 z4 fx4 fy4 fz4; go_simp; refine hK _ ?_; clear hK K))
    refine Loose.walk_nil ?_
    intro w4 hcls4
    obtain ⟨hb4, _⟩ := hcls4
    obtain ⟨hc4, hf4⟩ := Fl.bcell hb4
    have hz4 := hb4.size
    try simp only [World.size_alloc, World.size_setCell, World.heap_drewN, World.size_drew] at hz4
    have q44 := keep_block hb4 Q4.out
    have t0 := (cells_of (i := 0) q44).trans (show _ = some (.float .f32 0) from rfl)
    have t1 := (cells_of (i := 1) q44).trans (show _ = some (.float .f32 0) from rfl)
    have t2 := (cells_of (i := 2) q44).trans (show _ = some (.float .f32 0) from rfl)
    have u0 := free_of q44 0
    have u1 := free_of q44 1
    have u2 := free_of q44 2
    have l4 := block_lt q44
    have HB4 := Lib.hid (HBW.out.trans (hb4.mono (by omega)))
    have F4 := Lib.hid (And.intro fx4 (And.intro fy4 fz4))
    clear q44 hb4 hc4 hf4 p0 p1 p2 p3 p4 p5 fx4 fy4 fz4 fx5 fy5 fz5 fx3 fy3 fz3
    go_wp2
    refine bodyPost_ret ?ohr rfl ⟨x4, y4, z4, rfl, F4.out.1, F4.out.2.1, F4.out.2.2, ?obel⟩
    case ohr => simp [results, Try.results117, go_sem, *]
    case obel => exact ((HB4.out.setCell (by first | omega | simp) _).setCell (by first | omega | simp) _).setCell (by first | omega | simp) _

set_option maxHeartbeats 6400000 in
theorem along_run (G : Nat) (a : Option Addr) (n cap q : Nat) (cq : Option Nat) (c : Nat → Option Nat) (w : World) (e0 : w.cell? ⟨G, 0, none⟩ = some (.slice a n cap)) (h : IsV w a n cap c) (hn : 3 ≤ n ∧ n ≤ 32) (fq : Fr .f32 q cq) :
    Calls Try.prog 91 #[.pointer (some ⟨G, 0, none⟩), .float .f32 q] w (RetV (pointC c n cq 0) (pointC c n cq 1) (pointC c n cq 2) w) := by
  have lG := block_lt_of_cell e0
  have HY := Lib.hid h
  have hn9 : (n : Int) ≤ 9223372036854775807 := by omega
  clear h
  go_enter Try.func91, Try.ntmps91
  go_wp2_with fail
  obtain ⟨wc, hwc⟩ : ∃ x, x = w.alloc (.cells #[.float .f32 0, .float .f32 0, .float .f32 0] 28) := ⟨_, rfl⟩
  rw [← hwc]
  have q4 : wc.heap[w.heap.size]? = some (.cells #[.float .f32 0, .float .f32 0, .float .f32 0] 28) := by rw [hwc]; exact new_block _ _
  have hbw : Below w.heap.size w wc := by rw [hwc]; exact (Below.refl _ _).alloc (Nat.le_refl _) _
  have e0' : wc.cell? ⟨G, 0, none⟩ = some (.slice a n cap) := by rw [hbw.cell lG]; exact e0
  have hzc : w.heap.size + 1 ≤ wc.heap.size := by rw [hwc]; simp
  have lG' : G < wc.heap.size := by omega
  have HE := Lib.hid e0'
  have Q4 := Lib.hid q4
  have HBW := Lib.hid hbw
  clear hwc e0 q4 hbw
  refine LooseP.wp_region 7 [] (by kernel_rfl) (by kernel_rfl) (by intro p hp; cases hp) ?_
  apply Exists.intro
  simp only [List.take_succ_cons, List.take_zero, List.drop_succ_cons, List.drop_zero]
  repeat (apply Loose.walk_step; intro K hK; apply LooseP.turn_value (hwant := rfl) (hd := rfl); (focus (intro w' hw'; obtain ⟨hc, hf⟩ := Fl.bcell hw'; go_simp; first | done | rfl | exact ⟨rfl, rfl⟩)); go_simp; refine hK _ ?_; clear hK K)
  refine Loose.walk_nil ?_
  intro w1 hcls1
  have hb1 := hcls1.1
  clear hcls1
  have HB1 := Lib.hid hb1
  have hz1 := hb1.size
  have HE1 := Lib.hid (show w1.cell? ⟨G, 0, none⟩ = some (.slice a n cap) by rw [hb1.cell (p := ⟨G, 0, none⟩) lG']; exact HE.out)
  have Q41 := Lib.hid (keep_block hb1 Q4.out)
  have HBW1 := Lib.hid (HBW.out.trans (hb1.mono (by omega)))
  have lG1 : G < w1.heap.size := by omega
  clear hb1 e0'
  rw [show IntKind.i64.wrap ((n : Int) - 1) = (n : Int) - 1 from IntWalk.i64_in _ (by omega)]
  go_wp2
  go_loopw [5, 1] (fun i f wr => ∃ (k q' : Nat) (F : Option Nat), k < n ∧ i = .int .i64 (k : Int) ∧ f = .float .f32 q' ∧ Fr .f32 q' F ∧ scanC c n (n - k) k F = scanC c n n 0 cq ∧ Below w1.heap.size w1 wr)
    (fun i _ _ => n - (intOf i).toNat)
  case atStart => exact ⟨0, q, cq, by omega, rfl, rfl, fq, rfl, Below.refl _ _⟩
  case round =>
    obtain ⟨k, q', F, hk, rfl, rfl, fq', hsc, hb⟩ := hrel
    have FQ := Lib.hid fq'
    have HB := Lib.hid hb
    have hbs := hb.size
    have er : wr.cell? ⟨G, 0, none⟩ = some (.slice a n cap) := by rw [hb.cell (p := ⟨G, 0, none⟩) lG1]; exact HE1.out
    have lGr : G < wr.heap.size := by omega
    have HBR := Lib.hid (HBW1.out.trans (hb.mono (by omega)))
    have QR := Lib.hid (keep_block hb Q41.out)
    clear hb fq' fq
    by_cases hlt : k + 1 < n
    · have hlt' : (k : Int) < (n : Int) - 1 := by omega
      go_wp2_with fail
      refine (segment_from G a n cap k c _ er (HY.out.later HBR.out) hk hn.2).mono ?_
      rintro e w2 ⟨x, y, z, x', y', z', rfl, fx, fy, fz, fx', fy', fz', hb2⟩
      have hz2 := hb2.size
      go_wp2_with fail
      refine (long_run _ _ _ _ _ _ _ _ _ _ _ _ _ fx fy fz fx' fy' fz').mono ?_
      rintro e w3 ⟨r, rfl, hr, hb3⟩
      have hz3 := hb3.size
      have fr : Fr .f32 r (longC c n k) := hr
      have fq := FQ.out
      have HB3 := Lib.hid (HB.out.trans ((hb2.mono hbs).trans (hb3.mono (by omega))))
      have HBF := Lib.hid (HBR.out.trans ((hb2.mono (by omega)).trans (hb3.mono (by omega))))
      have QF := Lib.hid (keep_block hb3 (keep_block hb2 QR.out))
      have e3 : w3.cell? ⟨G, 0, none⟩ = some (.slice a n cap) := by rw [hb3.cell (p := ⟨G, 0, none⟩) (show G < w2.heap.size by omega), hb2.cell (p := ⟨G, 0, none⟩) lGr]; exact er
      clear hr hb2 hb3 fx fy fz fx' fy' fz' er
      obtain ⟨L, hL⟩ : ∃ L, longC c n k = L := ⟨_, rfl⟩
      rw [hL] at fr
      cases hB : cmpC .geq (ord .f32 L F)
      · have HSC := Lib.hid (show scanC c n (n - (k + 1)) (k + 1) (op2 .sub .f32 F L) = scanC c n n 0 cq by rw [← hsc, ← hL]; exact (scan_next (by rw [hL]; exact hB) hlt).symm)
        go_wp2_with (first | (refine Fl.wpList_cmp rfl rfl rfl rfl rfl fr fq ?_; try simp only [hB]) | (refine Fl.wpList_fl rfl rfl rfl rfl rfl fq fr ?_; intro rs nd fs))
        go_roundw
        case rel => exact ⟨k + 1, _, _, hlt, by go_num, rfl, fs, HSC.out, by first | exact HB3.out | exact below_drewN HB3.out _⟩
        case measure => simp [intOf]; omega
      · have hRk : scanC c n n 0 cq = (k, F) := by rw [← hsc]; exact scan_stop (by rw [hL]; exact hB)
        go_wp2_with (first | (refine Fl.wpList_cmp rfl rfl rfl rfl rfl fr fq ?_; try simp only [hB]))
        have lGf : G < w3.heap.size := by omega
        refine (segment_from G a n cap k c _ e3 (HY.out.later HBF.out) hk hn.2).mono ?_
        rintro e w7 ⟨x, y, z, x', y', z', rfl, fx, fy, fz, fx', fy', fz', hb7⟩
        have hz7 := hb7.size
        go_wp2_with fail
        refine (at_run _ _ _ _ _ _ _ _ _ _ _ _ _ _ _ fx fy fz fx' fy' fz' FQ.out _ rfl).mono ?_
        rintro e w8 ⟨x8, y8, z8, rfl, gx, gy, gz, hb8⟩
        have hz8 := hb8.size
        have q48 := keep_block hb8 (keep_block hb7 QF.out)
        have t0 := (cells_of (i := 0) q48).trans (show _ = some (.float .f32 0) from rfl)
        have t1 := (cells_of (i := 1) q48).trans (show _ = some (.float .f32 0) from rfl)
        have t2 := (cells_of (i := 2) q48).trans (show _ = some (.float .f32 0) from rfl)
        have u0 := free_of q48 0
        have u1 := free_of q48 1
        have u2 := free_of q48 2
        have l4 := block_lt q48
        have HB8 := Lib.hid (HBF.out.trans ((hb7.mono (by omega)).trans (hb8.mono (by omega))))
        have F8 := Lib.hid (show Fr .f32 x8 (pointC c n cq 0) ∧ Fr .f32 y8 (pointC c n cq 1) ∧ Fr .f32 z8 (pointC c n cq 2) by unfold pointC; rw [hRk]; exact ⟨gx, gy, gz⟩)
        clear q48 hb7 hb8 gx gy gz fx fy fz fx' fy' fz'
        go_wp2
        refine bodyPost_ret ?ohr rfl ⟨x8, y8, z8, rfl, F8.out.1, F8.out.2.1, F8.out.2.2, ?obel⟩
        case ohr => simp [results, Try.results91, go_sem, *]
        case obel => exact ((HB8.out.setCell (by first | omega | simp) _).setCell (by first | omega | simp) _).setCell (by first | omega | simp) _
    · have hlt' : ¬ (k : Int) < (n : Int) - 1 := by omega
      have hRk : scanC c n n 0 cq = (k, F) := by rw [← hsc]; exact scan_last hlt
      have HBF := HBR
      have QF := QR
      have lGf : G < wr.heap.size := by omega
      go_wp2_with fail
      refine (segment_from G a n cap k c _ er (HY.out.later HBF.out) hk hn.2).mono ?_
      rintro e w7 ⟨x, y, z, x', y', z', rfl, fx, fy, fz, fx', fy', fz', hb7⟩
      have hz7 := hb7.size
      go_wp2_with fail
      refine (at_run _ _ _ _ _ _ _ _ _ _ _ _ _ _ _ fx fy fz fx' fy' fz' FQ.out _ rfl).mono ?_
      rintro e w8 ⟨x8, y8, z8, rfl, gx, gy, gz, hb8⟩
      have hz8 := hb8.size
      have q48 := keep_block hb8 (keep_block hb7 QF.out)
      have t0 := (cells_of (i := 0) q48).trans (show _ = some (.float .f32 0) from rfl)
      have t1 := (cells_of (i := 1) q48).trans (show _ = some (.float .f32 0) from rfl)
      have t2 := (cells_of (i := 2) q48).trans (show _ = some (.float .f32 0) from rfl)
      have u0 := free_of q48 0
      have u1 := free_of q48 1
      have u2 := free_of q48 2
      have l4 := block_lt q48
      have HB8 := Lib.hid (HBF.out.trans ((hb7.mono (by omega)).trans (hb8.mono (by omega))))
      have F8 := Lib.hid (show Fr .f32 x8 (pointC c n cq 0) ∧ Fr .f32 y8 (pointC c n cq 1) ∧ Fr .f32 z8 (pointC c n cq 2) by unfold pointC; rw [hRk]; exact ⟨gx, gy, gz⟩)
      clear q48 hb7 hb8 gx gy gz fx fy fz fx' fy' fz'
      go_wp2
      refine bodyPost_ret ?ohr rfl ⟨x8, y8, z8, rfl, F8.out.1, F8.out.2.1, F8.out.2.2, ?obel⟩
      case ohr => simp [results, Try.results91, go_sem, *]
      case obel => exact ((HB8.out.setCell (by first | omega | simp) _).setCell (by first | omega | simp) _).setCell (by first | omega | simp) _

def cnB (N : Int) : Bool := decide (3 ≤ N) && decide (N ≤ 32)

set_option maxHeartbeats 6400000 in
theorem impl_RespT (a : Option Addr) (n cap s : Nat) (cs : Option Nat) (c : Nat → Option Nat) (w : World) (h : IsV w a n cap c) (fs : Fr .f32 s cs) (m : Int) (A : Bool) (hA : okT n cs c = A) (R : Bool) (hR : (((A && finC (lenC c n n)) && cnB m) && allV (evenC c n m.toNat) m.toNat) = R) :
    Calls Try.prog 40 #[tV a n cap s, .int .i64 m] w (RetG R s m.toNat (evenC c n m.toNat) w) := by
  have HL := Lib.hid (fun w' (hb : Below w.heap.size w w') => impl_LenT a n cap s cs c w' (h.later hb) fs A hA)
  have HCN := Lib.hid (fun w => impl_count m w)
  change Hid (∀ w, Calls Try.prog 90 #[.int .i64 m] w fun e w' => e = .returned (.bool (cnB m)) ∧ w = w') at HCN
  unfold RetN at HL
  cases hG : (A && finC (lenC c n n))
  · rw [hG] at hR HL
    obtain rfl : R = false := by rw [← hR]; rfl
    clear hR hA h
    go_enter Try.func40, Try.ntmps40
    go_wp2_with fail
    refine (HL.out _ (by (repeat' first | exact Below.refl _ _ | (refine Below.setCell ?_ (by first | omega | (simp; omega) | simp) _) | (refine below_drewN ?_ _) | (refine Below.alloc ?_ (by first | omega | (simp; omega) | simp) _) | (refine Below.trans ?_ (Below.mono (by assumption) (by first | omega | (simp; omega) | simp)))))).mono ?_
    rintro e w1 ⟨r1, rfl, fr1, hb1⟩
    have hz1 := hb1.size
    try simp only [World.size_alloc, World.size_setCell, World.heap_drewN, World.size_drew] at hz1
    obtain ⟨hc1, hf1⟩ := Fl.bcell hb1
    try simp only [World.heap_drewN, World.cell?_drewN, World.frozen?_drewN] at hc1 hf1
    have g1_0 : w.heap.size < w1.heap.size := by omega
    have g1' : w.heap.size + 1 < w1.heap.size := by omega
    go_wp2
    refine bodyPost_ret ?ohr rfl (retG_no ?obel)
    case ohr => simp [results, Try.results40, go_sem, *]
    case obel => (repeat' first | exact Below.refl _ _ | (refine Below.setCell ?_ (by first | omega | (simp; omega) | simp) _) | (refine below_drewN ?_ _) | (refine Below.alloc ?_ (by first | omega | (simp; omega) | simp) _) | (refine Below.trans ?_ (Below.mono (by assumption) (by first | omega | (simp; omega) | simp))))
  cases hC : cnB m
  · rw [hG, hC] at hR
    rw [hG] at HL
    rw [hC] at HCN
    obtain rfl : R = false := by rw [← hR]; rfl
    clear hR hA h
    go_enter Try.func40, Try.ntmps40
    go_wp2_with fail
    refine (HL.out _ (by (repeat' first | exact Below.refl _ _ | (refine Below.setCell ?_ (by first | omega | (simp; omega) | simp) _) | (refine below_drewN ?_ _) | (refine Below.alloc ?_ (by first | omega | (simp; omega) | simp) _) | (refine Below.trans ?_ (Below.mono (by assumption) (by first | omega | (simp; omega) | simp)))))).mono ?_
    rintro e w1 ⟨r1, rfl, fr1, hb1⟩
    have hz1 := hb1.size
    try simp only [World.size_alloc, World.size_setCell, World.heap_drewN, World.size_drew] at hz1
    obtain ⟨hc1, hf1⟩ := Fl.bcell hb1
    try simp only [World.heap_drewN, World.cell?_drewN, World.frozen?_drewN] at hc1 hf1
    have g1_0 : w.heap.size < w1.heap.size := by omega
    have g1' : w.heap.size + 1 < w1.heap.size := by omega
    go_wp2_with (go_at_call 90; refine (HCN.out _).mono ?_; rintro e w2 ⟨rfl, rfl⟩)
    refine bodyPost_ret ?ohr rfl (retG_no ?obel)
    case ohr => simp [results, Try.results40, go_sem, *]
    case obel => (repeat' first | exact Below.refl _ _ | (refine Below.setCell ?_ (by first | omega | (simp; omega) | simp) _) | (refine below_drewN ?_ _) | (refine Below.alloc ?_ (by first | omega | (simp; omega) | simp) _) | (refine Below.trans ?_ (Below.mono (by assumption) (by first | omega | (simp; omega) | simp))))
  rw [hG, hC] at hR
  rw [hG] at HL
  rw [hC] at HCN
  obtain ⟨rfl, hfin⟩ : A = true ∧ finC (lenC c n n) = true := by simpa using hG
  obtain ⟨hn3, hn32, hsf, _⟩ := okT_of hA
  have hNN : 3 ≤ m ∧ m ≤ 32 := by
    unfold cnB at hC
    simpa using hC
  obtain ⟨N, rfl⟩ : ∃ N : Nat, m = (N : Int) := ⟨m.toNat, by omega⟩
  rw [show (N : Int).toNat = N by simp] at hR ⊢
  have hR' : allV (evenC c n N) N = R := hR
  have hok : okT N cs (evenC c n N) = R := by
    unfold okT
    rw [hsf, hR', decide_eq_true (show (3 : Int) ≤ N by omega), decide_eq_true (show (N : Int) ≤ 32 by omega)]; rfl
  have HCH := Lib.hid (fun a cap w (h : IsV w a N cap (evenC c n N)) => impl_checked a N cap s cs _ w h fs R hok)
  have HY := Lib.hid h
  obtain ⟨s', hs'⟩ : ∃ s', (if R then s else 0) = s' := ⟨_, rfl⟩
  obtain ⟨N', hN'⟩ : ∃ N', (if R then N else 0) = N' := ⟨_, rfl⟩
  show Calls _ _ _ w (RetB R _ _ _ w)
  rw [hs', hN']
  have HR := Lib.hid (And.intro hs' hN')
  have HEV := Lib.hid (fun k r hr => evenC_at c n N k r hr)
  have HLE := Lib.hid (fun k => show leftC c n N k = op2 .mul .f32 (cl .f32 (floatOfInt .f32 (k : Int))) (op2 .quo .f32 (lenC c n n) (cl .f32 (floatOfInt .f32 (N : Int)))) from rfl)
  generalize evenC c n N = F at *
  generalize leftC c n N = LF at *
  generalize lenC c n n = L0 at *
  have fN := fl_int (N : Int)
  have hN3 : 3 ≤ N := by omega
  have hN32 : N ≤ 32 := by omega
  obtain ⟨i0, hI, hI0, hI1, hI2⟩ := info_v
  clear hG hC hfin hA hR hR' hok hs' hN' h hNN
  go_enter Try.func40, Try.ntmps40
  go_wp2_with fail
  refine (HL.out _ (by (repeat' first | exact Below.refl _ _ | (refine Below.setCell ?_ (by first | omega | (simp; omega) | simp) _) | (refine below_drewN ?_ _) | (refine Below.alloc ?_ (by first | omega | (simp; omega) | simp) _) | (refine Below.trans ?_ (Below.mono (by assumption) (by first | omega | (simp; omega) | simp)))))).mono ?_
  rintro e w1 ⟨r1, rfl, fr1, hb1⟩
  simp only [Bool.and_self, Bool.true_and, if_true] at fr1
  have hz1 := hb1.size
  simp only [World.size_alloc] at hz1
  have qp := keep_block hb1 (alloc_block (o' := .cells #[.slice none 0 0, .float .f32 0] 33) (new_block w (.cells #[.slice a n cap, .float .f32 s] 33)))
  have q4 : w1.heap[w.heap.size + 1]? = some (.cells #[.slice none 0 0, .float .f32 0] 33) := keep_block hb1 (by simpa using new_block (w.alloc (.cells #[.slice a n cap, .float .f32 s] 33)) (.cells #[.slice none 0 0, .float .f32 0] 33))
  have e20 := (cells_of (i := 0) qp).trans (show _ = some (.slice a n cap) from rfl)
  have e21 := (cells_of (i := 1) qp).trans (show _ = some (.float .f32 s) from rfl)
  have hbw : Below w.heap.size w w1 := by (repeat' first | exact Below.refl _ _ | (refine Below.setCell ?_ (by first | omega | (simp; omega) | simp) _) | (refine below_drewN ?_ _) | (refine Below.alloc ?_ (by first | omega | (simp; omega) | simp) _) | (refine Below.trans ?_ (Below.mono (by assumption) (by first | omega | (simp; omega) | simp))))
  have HBW := Lib.hid hbw
  have lP := block_lt qp
  have l4 := block_lt q4
  have c40 := (cells_of (i := 0) q4).trans (show _ = some (.slice none 0 0) from rfl)
  have c41 := (cells_of (i := 1) q4).trans (show _ = some (.float .f32 0) from rfl)
  have f40 := free_of q4 0
  have f41 := free_of q4 1
  have Q4 := Lib.hid q4
  clear qp q4 hbw hb1
  have HE20 := Lib.hid e20
  have HE21 := Lib.hid e21
  clear c40 c41 f40 f41
  go_wp2_with (first | (go_at_call 90; refine (HCN.out _).mono ?_; rintro e w2 ⟨rfl, rfl⟩) | (refine Fl.wpList_fl rfl rfl rfl rfl rfl fr1 fN ?_; intro rA nA fA) | (at_make; refine wpList_make_full _ rfl _ _ 31 rfl w1.heap.size 28 i0 (.agg #[.float .f32 0, .float .f32 0, .float .f32 0]) 3 Try.underlying31 hI hI0 hI1 .i64 .i64 _ _ N rfl rfl rfl rfl (by rw [hI2]; omega) (by unfold maxLen; omega) (Nat.le_refl _) ?_; intro w2 hown hgrow; have HG := Lib.hid (And.intro hown hgrow); clear hown hgrow))
  obtain ⟨hown, hgrow⟩ := HG.out
  have hb2 : Below w1.heap.size w1 w2 := Below.grown (below_drewN (Below.refl _ _) _) hgrow (Nat.le_refl _) (fun k h => by cases h)
  have hblk : ∃ cur : Array Value, w2.heap[w1.heap.size]? = some (.cells cur 28) ∧ cur.size = N * 3 := by
    obtain ⟨_, h | ⟨g, c, cur, hv, _, hh, _, _, hs, _⟩⟩ := hown
    · cases h.1
    · simp only [Value.slice.injEq, Option.some.injEq, Addr.mk.injEq] at hv
      obtain ⟨⟨rfl, _⟩, _, rfl⟩ := hv
      exact ⟨cur, hh, by omega⟩
  obtain ⟨cur0, hc0, hs0⟩ := hblk
  have HC0 := Lib.hid hc0
  have HS0 := Lib.hid hs0
  have HB2 := Lib.hid hb2
  have hz2 := hb2.size
  clear hown hgrow HG hc0 hs0 hb2
  clear e20 e21
  go_wp2
  go_loopw [32] (fun i wr => ∃ (k : Nat) (cur : Array Value), k ≤ N ∧ i = .int .i64 (k : Int) ∧ wr.heap[w1.heap.size]? = some (.cells cur 28) ∧ cur.size = N * 3 ∧ Done (k * 3) F cur ∧ Below w1.heap.size w1 wr)
    (fun i _ => N - (intOf i).toNat)
  case atStart => exact ⟨0, cur0, by omega, rfl, HC0.out, HS0.out, fun j hj => absurd hj (by omega), HB2.out⟩
  case round =>
    obtain ⟨k, cur, hk, rfl, hq, hs, hd, hb⟩ := hrel
    have HQ := Lib.hid hq
    have HSZ := Lib.hid hs
    have HD := Lib.hid hd
    have HB := Lib.hid hb
    have hbs := hb.size
    have lg := block_lt hq
    have er := (hb.cell (p := ⟨w.heap.size, 0, none⟩) lP).trans HE20.out
    have er1 := (hb.cell (p := ⟨w.heap.size, 1, none⟩) lP).trans HE21.out
    have HBR := Lib.hid (HBW.out.trans (hb.mono (by omega)))
    have lPr : w.heap.size < wr.heap.size := by omega
    clear hq hs hd hb
    by_cases hlt : k < N
    · have fk := fl_int (k : Int)
      go_wp2_with fail
      refine (Rate.product_run _ _ _ _ _ fk fA).mono ?_
      rintro e w3 ⟨r3, rfl, fr3, hb3⟩
      have hz3 := hb3.size
      go_wp2_with fail
      refine (along_run w.heap.size a n cap r3 _ c _ ((hb3.cell (p := ⟨w.heap.size, 0, none⟩) lPr).trans er) (HY.out.later (HBR.out.trans (hb3.mono (by omega)))) ⟨hn3, hn32⟩ fr3).mono ?_
      rintro e w4 ⟨x4, y4, z4, rfl, fx4, fy4, fz4, hb4⟩
      have hz4 := hb4.size
      have hg4 := keep_block hb4 (keep_block hb3 HQ.out)
      have hdx : w4.cell? ⟨w1.heap.size, k * 3, none⟩ = some cur[k * 3]! := by
        rw [cells_of hg4]
        have : k * 3 < cur.size := by have := HSZ.out; omega
        simp [this]
      have hdy : w4.cell? ⟨w1.heap.size, k * 3 + 1, none⟩ = some cur[k * 3 + 1]! := by
        rw [cells_of hg4]
        have : k * 3 + 1 < cur.size := by have := HSZ.out; omega
        simp [this]
      have hdz : w4.cell? ⟨w1.heap.size, k * 3 + 2, none⟩ = some cur[k * 3 + 2]! := by
        rw [cells_of hg4]
        have : k * 3 + 2 < cur.size := by have := HSZ.out; omega
        simp [this]
      generalize cur[k * 3]! = o0 at *
      generalize cur[k * 3 + 1]! = o1 at *
      generalize cur[k * 3 + 2]! = o2 at *
      have hfx := free_of hg4 (k * 3)
      have hfy := free_of hg4 (k * 3 + 1)
      have hfz := free_of hg4 (k * 3 + 2)
      have HG4 := Lib.hid hg4
      have HB4 := Lib.hid (HB.out.trans ((hb3.mono hbs).trans (hb4.mono (by omega))))
      have F4 := Lib.hid (show Fr .f32 x4 (F (k * 3)) ∧ Fr .f32 y4 (F (k * 3 + 1)) ∧ Fr .f32 z4 (F (k * 3 + 2)) by rw [show F (k * 3) = F (k * 3 + 0) from rfl, HEV.out k 0 (by omega), HEV.out k 1 (by omega), HEV.out k 2 (by omega), HLE.out]; exact ⟨fx4, fy4, fz4⟩)
      clear hg4 hb3 hb4 fx4 fy4 fz4 er er1 fk fr3
      go_wp2
      go_roundw
      case rel =>
        refine ⟨k + 1, _, by omega, by go_num, setCell_block (setCell_block (setCell_block HG4.out (k * 3) _) (k * 3 + 1) _) (k * 3 + 2) _, by simpa using HSZ.out, HD.out.three (by have := HSZ.out; omega) F4.out.1 F4.out.2.1 F4.out.2.2, ?_⟩
        exact ((HB4.out.setCell (Nat.le_refl _) _).setCell (Nat.le_refl _) _).setCell (Nat.le_refl _) _
      case measure => simp [intOf]; omega
    · obtain rfl : N = k := by omega
      have hio : ∀ w', w'.heap[w1.heap.size]? = some (.cells cur 28) → IsR w.heap.size (w1.heap.size + 1) w' (some ⟨w1.heap.size, 0, none⟩) N N F := fun w' hw => ⟨Nat.le_refl _, by unfold maxLen; omega, w1.heap.size, cur, fun _ => ⟨rfl, by omega, by omega, hw⟩, by rw [HSZ.out]; exact Nat.le_refl _, HD.out⟩
      have HIO := Lib.hid hio
      have q4 := keep_block HB.out Q4.out
      have Q44 := Lib.hid q4
      clear hio q4
      go_wp2_with fail
      refine (HCH.out _ _ _ (HIO.out _ HQ.out).v).mono ?_
      rintro e w5 ⟨rfl, hb5⟩
      have hz5 := hb5.size
      have q45 := keep_block hb5 Q44.out
      have e40 := (cells_of (i := 0) q45).trans (show _ = some (Value.slice none 0 0) from rfl)
      have e41 := (cells_of (i := 1) q45).trans (show _ = some (Value.float .f32 0) from rfl)
      have f40 := free_of q45 0
      have f41 := free_of q45 1
      have HB5 := Lib.hid (HBR.out.trans (hb5.mono (by omega)))
      have HG5 := Lib.hid (keep_block hb5 HQ.out)
      have l5 := block_lt q45
      clear q45 hb5 er er1
      cases R
      all_goals
        go_wp2
        have hR := HR.out
        simp only [Bool.false_eq_true, if_false, if_true] at hR
        obtain ⟨rfl, rfl⟩ := hR
      · refine bodyPost_ret ?ohr rfl ⟨none, 0, rfl, isR_nil _ _ _ _, ?obel⟩
        case ohr => simp [results, Try.results40, go_sem, *]
        case obel => exact Below.setCell (Below.setCell HB5.out (by simp) _) (by simp) _
      · refine bodyPost_ret ?ohr rfl ⟨some ⟨w1.heap.size, 0, none⟩, N, rfl, ?oio, ?obel⟩
        case ohr => simp [results, Try.results40, go_sem, *]
        case oio =>
          refine (HIO.out _ (by rw [set_keep _ _ _ (by omega), set_keep _ _ _ (by omega)]; exact HG5.out)).wider (by omega) (by simp; omega)
        case obel => exact Below.setCell (Below.setCell HB5.out (by simp) _) (by simp) _

end Th
end Go.Proofs.Ytjkkefbfhapblaa
