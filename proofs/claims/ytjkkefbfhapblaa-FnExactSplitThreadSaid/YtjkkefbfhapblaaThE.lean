/- Ends of segments on both sides, and how long they are. -/
import Derived.Test.YtjkkefbfhapblaaThM
import Derived.Test.YtjkkefbfhapblaaSize
namespace Go.Proofs.Ytjkkefbfhapblaa
set_option linter.unusedSimpArgs false
set_option linter.unusedVariables false
open Go.RowKit
set_option maxRecDepth 20000
namespace Th
open Fl Rate

/-- The point behind point k. -/
def nx (n k : Nat) : Nat := if k + 1 < n then k + 1 else 0

theorem nx_lt {n k : Nat} (h : k < n) : nx n k < n := by
  unfold nx
  split <;> omega

/-- The segment from point k on. -/
def RetSeg (c : Nat → Option Nat) (n k : Nat) (w : World) (e : Ending) (w' : World) : Prop :=
  ∃ x y z x' y' z', e = .returned (.agg #[.float .f32 x, .float .f32 y, .float .f32 z, .float .f32 x', .float .f32 y', .float .f32 z']) ∧ Fr .f32 x (c (k * 3)) ∧ Fr .f32 y (c (k * 3 + 1)) ∧ Fr .f32 z (c (k * 3 + 2)) ∧
    Fr .f32 x' (c (nx n k * 3)) ∧ Fr .f32 y' (c (nx n k * 3 + 1)) ∧ Fr .f32 z' (c (nx n k * 3 + 2)) ∧ Below w.heap.size w w'

/-- Both ends, as the model tells them. -/
def RetEnds (c : Nat → Option Nat) (n k : Nat) (w : World) (e : Ending) (w' : World) : Prop :=
  ∃ x y z x' y' z', e = .returned (.tuple #[.agg #[.float .f32 x, .float .f32 y, .float .f32 z], .agg #[.float .f32 x', .float .f32 y', .float .f32 z']]) ∧ Fr .f32 x (c (k * 3)) ∧ Fr .f32 y (c (k * 3 + 1)) ∧ Fr .f32 z (c (k * 3 + 2)) ∧
    Fr .f32 x' (c (nx n k * 3)) ∧ Fr .f32 y' (c (nx n k * 3 + 1)) ∧ Fr .f32 z' (c (nx n k * 3 + 2)) ∧ Below w.heap.size w w'

set_option maxHeartbeats 3200000 in
theorem segment_from (G : Nat) (a : Option Addr) (n cap k : Nat) (c : Nat → Option Nat) (w : World) (e0 : w.cell? ⟨G, 0, none⟩ = some (.slice a n cap)) (h : IsV w a n cap c) (hk : k < n) (hn : n ≤ 32) :
    Calls Try.prog 75 #[.pointer (some ⟨G, 0, none⟩), .int .i64 (k : Int)] w (RetSeg c n k w) := by
  have lG := block_lt_of_cell e0
  obtain ⟨h2, h3, b, off, h5, h6⟩ := h
  obtain rfl := h5 (by omega)
  obtain ⟨x, y, z, hx, hy, hz, fx, fy, fz, hbr⟩ := at_v h6 hk (Below.refl w.heap.size w)
  obtain ⟨x', y', z', hx', hy', hz', fx', fy', fz', hbr'⟩ := at_v h6 (nx_lt hk) (Below.refl w.heap.size w)
  have F := Lib.hid (And.intro fx (And.intro fy (And.intro fz (And.intro fx' (And.intro fy' fz')))))
  clear h5 h6 fx fy fz fx' fy' fz' hbr'
  unfold maxLen at h3
  have hw1 : IntKind.i64.wrap ((k : Int) + 1) = (k : Int) + 1 := IntWalk.i64_in _ (by omega)
  by_cases hk1 : k + 1 < n
  all_goals
    first | rw [show nx n k = k + 1 by unfold nx; rw [if_pos hk1]] at hx' hy' hz' | rw [show nx n k = 0 by unfold nx; rw [if_neg hk1]] at hx' hy' hz'
    go_enter Try.func75, Try.ntmps75
    go_wp2_with fail
    obtain ⟨wc, hwc⟩ : ∃ u, u = w.alloc (.cells #[.float .f32 0, .float .f32 0, .float .f32 0, .float .f32 0, .float .f32 0, .float .f32 0] 94) := ⟨_, rfl⟩
    rw [← hwc]
    have q4 : wc.heap[w.heap.size]? = some (.cells #[.float .f32 0, .float .f32 0, .float .f32 0, .float .f32 0, .float .f32 0, .float .f32 0] 94) := by rw [hwc]; exact new_block _ _
    have hbw : Below w.heap.size w wc := by rw [hwc]; exact (Below.refl _ _).alloc (Nat.le_refl _) _
    have e0' : wc.cell? ⟨G, 0, none⟩ = some (.slice (some ⟨b, off, none⟩) n cap) := by rw [hbw.cell lG]; exact e0
    have kp : ∀ {o : Nat} {v : Value}, w.cell? ⟨b, o, none⟩ = some v → wc.cell? ⟨b, o, none⟩ = some v := fun h => by rw [hbw.cell (p := ⟨b, _, none⟩) hbr]; exact h
    have hx := kp hx
    have hy := kp hy
    have hz := kp hz
    have hx' := kp hx'
    have hy' := kp hy'
    have hz' := kp hz'
    have hzc : w.heap.size + 1 ≤ wc.heap.size := by rw [hwc]; simp
    have lG' : G < wc.heap.size := by omega
    have lb' : b < wc.heap.size := by omega
    have HBW := Lib.hid hbw
    have Q4 := Lib.hid q4
    have l4 := block_lt q4
    clear hwc e0 q4 hbw hzc kp lG hbr
    have hnz : ¬ n = 0 := by omega
    obtain ⟨r, hr⟩ : ∃ r : Int, ((k : Int) + 1).tmod (n : Int) = r := ⟨_, rfl⟩
    first
      | (have hr1 : ((k : Int) + 1).tmod (n : Int) = (k : Int) + 1 := Int.tmod_eq_of_lt (by omega) (by omega); obtain rfl : r = (k : Int) + 1 := (by rw [← hr, hr1]); have hk2 : (k : Int) + 1 < (n : Int) := (by omega); have hk3 : (0 : Int) ≤ (k : Int) + 1 := (by omega); have hk4 : ((k : Int) + 1).toNat = k + 1 := (by omega))
      | (have hr1 : ((k : Int) + 1).tmod (n : Int) = 0 := (by rw [show (k : Int) + 1 = n by omega]; exact Int.tmod_self); obtain rfl : r = 0 := (by rw [← hr, hr1]); simp only [Nat.zero_mul, Nat.add_zero] at hx' hy' hz')
    have hn0 : 0 < n := by omega
    refine LooseP.wp_region 21 [] (by kernel_rfl) (by kernel_rfl) (by intro p hp; cases hp) ?_
    apply Exists.intro
    simp only [List.take_succ_cons, List.take_zero, List.drop_succ_cons, List.drop_zero]
    repeat (apply Loose.walk_step; intro K hK; apply LooseP.turn_value (hwant := rfl) (hd := rfl); (focus (intro w' hw'; obtain ⟨hc, hf⟩ := Fl.bcell hw'; go_simp; first | done | rfl | exact ⟨rfl, rfl⟩)); go_simp; refine hK _ ?_; clear hK K)
    refine Loose.walk_nil ?_
    intro w3 hcls3
    have hb3 := hcls3.1
    clear hcls3
    have q43 := keep_block hb3 Q4.out
    have c0 := (cells_of (i := 0) q43).trans (show _ = some (.float .f32 0) from rfl)
    have c1 := (cells_of (i := 1) q43).trans (show _ = some (.float .f32 0) from rfl)
    have c2 := (cells_of (i := 2) q43).trans (show _ = some (.float .f32 0) from rfl)
    have c3 := (cells_of (i := 3) q43).trans (show _ = some (.float .f32 0) from rfl)
    have c4 := (cells_of (i := 4) q43).trans (show _ = some (.float .f32 0) from rfl)
    have c5 := (cells_of (i := 5) q43).trans (show _ = some (.float .f32 0) from rfl)
    have f0 := free_of q43 0
    have f1 := free_of q43 1
    have f2 := free_of q43 2
    have f3 := free_of q43 3
    have f4 := free_of q43 4
    have f5 := free_of q43 5
    have HB3 := Lib.hid (HBW.out.trans (hb3.mono (by omega)))
    clear q43 hb3 hx hy hz hx' hy' hz' e0'
    go_wp2
    refine bodyPost_ret ?ohr rfl ⟨x, y, z, x', y', z', rfl, F.out.1, F.out.2.1, F.out.2.2.1, F.out.2.2.2.1, F.out.2.2.2.2.1, F.out.2.2.2.2.2, ?obel⟩
    case ohr => simp [results, Try.results75, go_sem, *]
    case obel => exact Below.setCell (Below.setCell (Below.setCell (Below.setCell (Below.setCell (Below.setCell HB3.out (Nat.le_refl _) _) (Nat.le_refl _) _) (Nat.le_refl _) _) (Nat.le_refl _) _) (Nat.le_refl _) _) (Nat.le_refl _) _

set_option maxHeartbeats 3200000 in
theorem spec_ends (G : Nat) (a : Option Addr) (n cap k : Nat) (c : Nat → Option Nat) (w : World) (e0 : w.cell? ⟨G, 0, none⟩ = some (.slice a n cap)) (h : IsV w a n cap c) (hk : k < n) (hn : n ≤ 32) :
    Calls Try.prog 87 #[.pointer (some ⟨G, 0, none⟩), .int .i64 (k : Int)] w (RetEnds c n k w) := by
  have lG := block_lt_of_cell e0
  obtain ⟨h2, h3, b, off, h5, h6⟩ := h
  obtain rfl := h5 (by omega)
  obtain ⟨x, y, z, hx, hy, hz, fx, fy, fz, hbr⟩ := at_v h6 hk (Below.refl w.heap.size w)
  obtain ⟨x', y', z', hx', hy', hz', fx', fy', fz', hbr'⟩ := at_v h6 (nx_lt hk) (Below.refl w.heap.size w)
  have F := Lib.hid (And.intro fx (And.intro fy (And.intro fz (And.intro fx' (And.intro fy' fz')))))
  clear h5 h6 fx fy fz fx' fy' fz' hbr'
  unfold maxLen at h3
  have hw1 : IntKind.i64.wrap ((k : Int) + 1) = (k : Int) + 1 := IntWalk.i64_in _ (by omega)
  by_cases hk1 : k + 1 < n
  all_goals
    first | rw [show nx n k = k + 1 by unfold nx; rw [if_pos hk1]] at hx' hy' hz' | rw [show nx n k = 0 by unfold nx; rw [if_neg hk1]] at hx' hy' hz'
    go_enter Try.func87, Try.ntmps87
    go_wp2_with fail
    obtain ⟨wc, hwc⟩ : ∃ u, u = (w.alloc (.cells #[.float .f32 0, .float .f32 0, .float .f32 0] 28)).alloc (.cells #[.float .f32 0, .float .f32 0, .float .f32 0] 28) := ⟨_, rfl⟩
    rw [← hwc]
    have q4 : wc.heap[w.heap.size]? = some (.cells #[.float .f32 0, .float .f32 0, .float .f32 0] 28) := by rw [hwc]; exact alloc_block (new_block _ _)
    have q5 : wc.heap[w.heap.size + 1]? = some (.cells #[.float .f32 0, .float .f32 0, .float .f32 0] 28) := by rw [hwc]; simpa using new_block (w.alloc (.cells #[.float .f32 0, .float .f32 0, .float .f32 0] 28)) (.cells #[.float .f32 0, .float .f32 0, .float .f32 0] 28)
    have hbw : Below w.heap.size w wc := by rw [hwc]; exact ((Below.refl _ _).alloc (Nat.le_refl _) _).alloc (by simp) _
    have e0' : wc.cell? ⟨G, 0, none⟩ = some (.slice (some ⟨b, off, none⟩) n cap) := by rw [hbw.cell lG]; exact e0
    have kp : ∀ {o : Nat} {v : Value}, w.cell? ⟨b, o, none⟩ = some v → wc.cell? ⟨b, o, none⟩ = some v := fun h => by rw [hbw.cell (p := ⟨b, _, none⟩) hbr]; exact h
    have hx := kp hx
    have hy := kp hy
    have hz := kp hz
    have hx' := kp hx'
    have hy' := kp hy'
    have hz' := kp hz'
    have hzc : w.heap.size + 1 + 1 ≤ wc.heap.size := by rw [hwc]; simp
    have lG' : G < wc.heap.size := by omega
    have lb' : b < wc.heap.size := by omega
    have n1 : ¬ G = w.heap.size := by omega
    have n2 : ¬ w.heap.size = G := by omega
    have n3 : ¬ b = w.heap.size := by omega
    have n4 : ¬ w.heap.size = b := by omega
    have n5 : ¬ G = w.heap.size + 1 := by omega
    have n6 : ¬ w.heap.size + 1 = G := by omega
    have n7 : ¬ b = w.heap.size + 1 := by omega
    have n8 : ¬ w.heap.size + 1 = b := by omega
    have HBW := Lib.hid hbw
    have Q4 := Lib.hid q4
    have Q5 := Lib.hid q5
    have l4 := block_lt q4
    have l5 := block_lt q5
    clear hwc e0 q4 q5 hbw hzc kp lG hbr
    have hnz : ¬ n = 0 := by omega
    obtain ⟨r, hr⟩ : ∃ r : Int, ((k : Int) + 1).tmod (n : Int) = r := ⟨_, rfl⟩
    first
      | (have hr1 : ((k : Int) + 1).tmod (n : Int) = (k : Int) + 1 := Int.tmod_eq_of_lt (by omega) (by omega); obtain rfl : r = (k : Int) + 1 := (by rw [← hr, hr1]); have hk2 : (k : Int) + 1 < (n : Int) := (by omega); have hk3 : (0 : Int) ≤ (k : Int) + 1 := (by omega); have hk4 : ((k : Int) + 1).toNat = k + 1 := (by omega))
      | (have hr1 : ((k : Int) + 1).tmod (n : Int) = 0 := (by rw [show (k : Int) + 1 = n by omega]; exact Int.tmod_self); obtain rfl : r = 0 := (by rw [← hr, hr1]); simp only [Nat.zero_mul, Nat.add_zero] at hx' hy' hz')
    have hn0 : 0 < n := by omega
    have c0 := (cells_of (i := 0) Q4.out).trans (show _ = some (.float .f32 0) from rfl)
    have f0 := free_of Q4.out 0
    have c1 := (cells_of (i := 1) Q4.out).trans (show _ = some (.float .f32 0) from rfl)
    have f1 := free_of Q4.out 1
    have c2 := (cells_of (i := 2) Q4.out).trans (show _ = some (.float .f32 0) from rfl)
    have f2 := free_of Q4.out 2
    have c3 := (cells_of (i := 0) Q5.out).trans (show _ = some (.float .f32 0) from rfl)
    have f3 := free_of Q5.out 0
    have c4 := (cells_of (i := 1) Q5.out).trans (show _ = some (.float .f32 0) from rfl)
    have f4 := free_of Q5.out 1
    have c5 := (cells_of (i := 2) Q5.out).trans (show _ = some (.float .f32 0) from rfl)
    have f5 := free_of Q5.out 2
    have hne : ¬ w.heap.size = w.heap.size + 1 := by omega
    have hne' : ¬ w.heap.size + 1 = w.heap.size := by omega
    go_region
    clear hx hy hz hx' hy' hz' e0'
    go_wp2
    refine bodyPost_ret ?ohr rfl ⟨x, y, z, x', y', z', rfl, F.out.1, F.out.2.1, F.out.2.2.1, F.out.2.2.2.1, F.out.2.2.2.2.1, F.out.2.2.2.2.2, ?obel⟩
    case ohr => simp [results, Try.results87, go_sem, *]
    case obel =>
      have HBX := HBW.out
      clear HBW F Q4 Q5
      refine (show ∀ {u : World}, Below w.heap.size w u → Below w.heap.size w u.drew from fun h => below_drewN h 1) ?_
      iterate 6 (refine Below.setCell ?_ (by first | omega | (simp; omega) | simp) _)
      exact HBX

/-- The way of segment k, and how long it is. -/
def wayC (c : Nat → Option Nat) (n k i : Nat) : Option Nat := op2 .sub .f32 (c (nx n k * 3 + i)) (c (k * 3 + i))

def sizeC (c0 c1 c2 : Option Nat) : Option Nat := convC .f64 .f32 (sqrtC (convC .f32 .f64 (op2 .add .f32 (op2 .add .f32 (op2 .mul .f32 c0 c0) (op2 .mul .f32 c1 c1)) (op2 .mul .f32 c2 c2))))

def longC (c : Nat → Option Nat) (n k : Nat) : Option Nat := sizeC (wayC c n k 0) (wayC c n k 1) (wayC c n k 2)

theorem way_run (x y z x' y' z' : Nat) (c0 c1 c2 d0 d1 d2 : Option Nat) (w : World) (f0 : Fr .f32 x c0) (f1 : Fr .f32 y c1) (f2 : Fr .f32 z c2) (g0 : Fr .f32 x' d0) (g1 : Fr .f32 y' d1) (g2 : Fr .f32 z' d2) :
    Calls Try.prog 113 #[.agg #[.float .f32 x, .float .f32 y, .float .f32 z, .float .f32 x', .float .f32 y', .float .f32 z']] w (RetV (op2 .sub .f32 d0 c0) (op2 .sub .f32 d1 c1) (op2 .sub .f32 d2 c2) w) := by
  go_enter Try.func113, Try.ntmps113
  go_wp2_with fail
  refine (Vec.impl_less _ _ _ _ _ _ _ _ _ _ _ _ _ g0 g1 g2 f0 f1 f2).mono ?_
  rintro e w1 ⟨x1, y1, z1, rfl, fx, fy, fz, hb1⟩
  have hz1 := hb1.size
  try simp only [World.size_alloc, World.size_setCell, World.heap_drewN, World.size_drew] at hz1
  obtain ⟨hc1, hf1⟩ := Fl.bcell hb1
  try simp only [World.heap_drewN, World.cell?_drewN, World.frozen?_drewN] at hc1 hf1
  have g1_0 : w.heap.size < w1.heap.size := by omega
  have g1' : w.heap.size + 1 < w1.heap.size := by omega
  go_wp2
  refine bodyPost_ret ?ohr rfl ⟨x1, y1, z1, rfl, fx, fy, fz, ?obel⟩
  case ohr => simp [results, Try.results113, go_sem, *]
  case obel => (repeat' first | exact Below.refl _ _ | (refine Below.setCell ?_ (by first | omega | (simp; omega) | simp) _) | (refine below_drewN ?_ _) | (refine Below.alloc ?_ (by first | omega | (simp; omega) | simp) _) | (refine Below.trans ?_ (Below.mono (by assumption) (by first | omega | (simp; omega) | simp))))

theorem long_run (x y z x' y' z' : Nat) (c0 c1 c2 d0 d1 d2 : Option Nat) (w : World) (f0 : Fr .f32 x c0) (f1 : Fr .f32 y c1) (f2 : Fr .f32 z c2) (g0 : Fr .f32 x' d0) (g1 : Fr .f32 y' d1) (g2 : Fr .f32 z' d2) :
    Calls Try.prog 115 #[.agg #[.float .f32 x, .float .f32 y, .float .f32 z, .float .f32 x', .float .f32 y', .float .f32 z']] w (RetF .f32 (sizeC (op2 .sub .f32 d0 c0) (op2 .sub .f32 d1 c1) (op2 .sub .f32 d2 c2)) w) := by
  go_enter Try.func115, Try.ntmps115
  go_wp2_with fail
  refine (way_run _ _ _ _ _ _ _ _ _ _ _ _ _ f0 f1 f2 g0 g1 g2).mono ?_
  rintro e w1 ⟨x1, y1, z1, rfl, fx, fy, fz, hb1⟩
  have hz1 := hb1.size
  try simp only [World.size_alloc, World.size_setCell, World.heap_drewN, World.size_drew] at hz1
  obtain ⟨hc1, hf1⟩ := Fl.bcell hb1
  try simp only [World.heap_drewN, World.cell?_drewN, World.frozen?_drewN] at hc1 hf1
  have g1_0 : w.heap.size < w1.heap.size := by omega
  go_wp2_with fail
  refine (Size.impl_size _ _ _ _ _ _ _ fx fy fz).mono ?_
  rintro e w2 ⟨r, rfl, hr, hb2⟩
  have hz2 := hb2.size
  try simp only [World.size_alloc, World.size_setCell, World.heap_drewN, World.size_drew] at hz2
  obtain ⟨hc2, hf2⟩ := Fl.bcell hb2
  try simp only [World.heap_drewN, World.cell?_drewN, World.frozen?_drewN] at hc2 hf2
  have g2_0 : w.heap.size < w2.heap.size := by omega
  go_wp2
  go_ret
  exact ⟨_, rfl, hr, by (repeat' first | exact Below.refl _ _ | (refine Below.setCell ?_ (by first | omega | (simp; omega) | simp) _) | (refine below_drewN ?_ _) | (refine Below.alloc ?_ (by first | omega | (simp; omega) | simp) _) | (refine Below.trans ?_ (Below.mono (by assumption) (by first | omega | (simp; omega) | simp))))⟩

end Th
end Go.Proofs.Ytjkkefbfhapblaa
