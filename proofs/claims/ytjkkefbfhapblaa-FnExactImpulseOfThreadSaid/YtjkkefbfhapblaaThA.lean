/- Areas of threads: the program's function and the model's. -/
import Derived.Test.YtjkkefbfhapblaaThE
namespace Go.Proofs.Ytjkkefbfhapblaa
set_option linter.unusedSimpArgs false
set_option linter.unusedVariables false
open Go.RowKit
set_option maxRecDepth 20000
namespace Th
open Fl Rate

end Th
namespace Loose
open Fl
variable {P : Program} {ops : Array Oper} {K : Act → Prop} {a : Act} {o : Oper} {B : Nat} {w0 : World} {bx : List (Nat × Obj)}

/-- A call of whose outcome it is said that it lies in V, in whatever world of the region. -/
theorem turn_callB {V : Value → Prop} (hB : B ≤ w0.heap.size) {f : FuncId} {args : Array Value} (hwant : Region.wanted o (yielded ops a.tmps) = true) (hd : away o.dst bx = true)
    (hrun : ∀ w', (execOp a.eval o).run P w' = .ok (.enter f args) w') (hV : ∃ v, V v) (hcall : ∀ w', Below B w0 w' → Calls P f args w' (fun e w'' => ∃ v, e = .returned v ∧ V v ∧ Below w'.heap.size w' w'')) (hk : ∀ v, V v → K (a.put o.dst v)) :
    turn P ops (Cls B w0 bx) V o K a := by
  refine turn_set hwant hV (fun a' w _ hw => ?_) hk
  rw [hrun w]
  exact (hcall w hw.1).mono fun e w'' ⟨v, he, hv, hb⟩ => ⟨v, he, hv, (hw.later hB hb).put hd _⟩
end Loose
namespace Th
open Fl Rate

/-- The sum of what is told of the first k segments. -/
def sumC (g : Nat → Nat → Option Nat) (i : Nat) : Nat → Option Nat
  | 0 => some 0
  | k + 1 => op2 .add .f32 (sumC g i k) (g k i)

theorem zz : Fr .f32 0 (some 0) := Fr.const (by decide +kernel) (by decide)

def ends3 (c : Nat → Option Nat) (n k : Nat) (x y z x' y' z' : Nat) : Prop := Fr .f32 x (c (k * 3)) ∧ Fr .f32 y (c (k * 3 + 1)) ∧ Fr .f32 z (c (k * 3 + 2)) ∧ Fr .f32 x' (c (nx n k * 3)) ∧ Fr .f32 y' (c (nx n k * 3 + 1)) ∧ Fr .f32 z' (c (nx n k * 3 + 2))

set_option maxHeartbeats 6400000 in
theorem sum_along (G : Nat) (a : Option Addr) (n cap : Nat) (c : Nat → Option Nat) (fn : FuncId) (g : Nat → Nat → Option Nat) (w : World) (e0 : w.cell? ⟨G, 0, none⟩ = some (.slice a n cap)) (h : IsV w a n cap c) (hn : n ≤ 32)
    (hfn : ∀ (args : Array Value) (w : World), (callFunc fn args).run Try.prog w = .ok (.enter fn args) w)
    (hcall : ∀ (k : Nat) (w' : World), k < n → ∀ x y z x' y' z', Fr .f32 x (c (k * 3)) → Fr .f32 y (c (k * 3 + 1)) → Fr .f32 z (c (k * 3 + 2)) → Fr .f32 x' (c (nx n k * 3)) → Fr .f32 y' (c (nx n k * 3 + 1)) → Fr .f32 z' (c (nx n k * 3 + 2)) →
      Calls Try.prog fn #[.agg #[.float .f32 x, .float .f32 y, .float .f32 z, .float .f32 x', .float .f32 y', .float .f32 z']] w' (RetV (g k 0) (g k 1) (g k 2) w')) :
    Calls Try.prog 100 #[.pointer (some ⟨G, 0, none⟩), .func (Fn.func fn) #[] #[]] w (RetV (sumC g 0 n) (sumC g 1 n) (sumC g 2 n) w) := by
  have lG := block_lt_of_cell e0
  have HE := Lib.hid e0
  have HY := Lib.hid h
  have HC := Lib.hid hcall
  clear h hcall
  go_enter Try.func100, Try.ntmps100
  go_wp2
  clear e0
  obtain ⟨wc, hwc⟩ : ∃ u, u = (w.alloc (.cells #[.float .f32 0, .float .f32 0, .float .f32 0] 28)).alloc (.cells #[.float .f32 0, .float .f32 0, .float .f32 0] 28) := ⟨_, rfl⟩
  have q4 : wc.heap[w.heap.size]? = some (.cells #[.float .f32 0, .float .f32 0, .float .f32 0] 28) := by rw [hwc]; exact alloc_block (new_block _ _)
  have q5 : wc.heap[w.heap.size + 1]? = some (.cells #[.float .f32 0, .float .f32 0, .float .f32 0] 28) := by rw [hwc]; simpa using new_block (w.alloc (.cells #[.float .f32 0, .float .f32 0, .float .f32 0] 28)) (.cells #[.float .f32 0, .float .f32 0, .float .f32 0] 28)
  have hbw : Below w.heap.size w wc := by rw [hwc]; exact ((Below.refl _ _).alloc (Nat.le_refl _) _).alloc (by simp) _
  rw [hwc] at q4 q5 hbw
  have Q4 := Lib.hid q4
  have Q5 := Lib.hid q5
  have HBW := Lib.hid hbw
  clear hwc q4 q5 hbw
  have HSV := Lib.hid (show ∀ k : Nat, k < n → ∃ v : Value, ∃ x y z x' y' z', v = .agg #[.float .f32 x, .float .f32 y, .float .f32 z, .float .f32 x', .float .f32 y', .float .f32 z'] ∧ ends3 c n k x y z x' y' z' from fun k hk => by
    obtain ⟨h2, h3, b, off, h5, h6⟩ := HY.out
    obtain ⟨x, y, z, _, _, _, fx, fy, fz, _⟩ := at_v h6 hk (Below.refl w.heap.size w)
    obtain ⟨x', y', z', _, _, _, fx', fy', fz', _⟩ := at_v h6 (nx_lt hk) (Below.refl w.heap.size w)
    exact ⟨_, x, y, z, x', y', z', rfl, fx, fy, fz, fx', fy', fz'⟩)
  go_loopw [12] (fun i wr => ∃ (k x y z : Nat), k ≤ n ∧ i = .int .i64 (k : Int) ∧ wr.heap[w.heap.size]? = some (.cells #[.float .f32 0, .float .f32 0, .float .f32 0] 28) ∧ wr.heap[w.heap.size + 1]? = some (.cells #[.float .f32 x, .float .f32 y, .float .f32 z] 28) ∧ Fr .f32 x (sumC g 0 k) ∧ Fr .f32 y (sumC g 1 k) ∧ Fr .f32 z (sumC g 2 k) ∧ Below w.heap.size w wr)
    (fun i _ => n - (intOf i).toNat)
  case atStart => exact ⟨0, 0, 0, 0, by omega, rfl, Q4.out, Q5.out, zz, zz, zz, HBW.out⟩
  case round =>
    obtain ⟨k, qx, qy, qz, hk, rfl, h4, h5, gx, gy, gz, hb⟩ := hrel
    have H4 := Lib.hid h4
    have H5 := Lib.hid h5
    have HB := Lib.hid hb
    have FQ := Lib.hid (And.intro gx (And.intro gy gz))
    have s0 := (cells_of (i := 0) h5).trans (show _ = some (.float .f32 qx) from rfl)
    have s1 := (cells_of (i := 1) h5).trans (show _ = some (.float .f32 qy) from rfl)
    have s2 := (cells_of (i := 2) h5).trans (show _ = some (.float .f32 qz) from rfl)
    have l5 := block_lt h5
    have l4 := block_lt h4
    have e0 : wr.cell? ⟨G, 0, none⟩ = some (.slice a n cap) := by rw [hb.cell (p := ⟨G, 0, none⟩) lG]; exact HE.out
    have lGr : G < wr.heap.size := by omega
    have HYR := Lib.hid (HY.out.later hb)
    clear h4 h5 hb gx gy gz
    by_cases hlt : k < n
    · have HSK := Lib.hid (HSV.out k hlt)
      go_wp2_with fail
      refine Loose.wp_region_below 7 [] (by kernel_rfl) (by kernel_rfl) (by simp [undef]) ?_
      apply Exists.intro
      simp only [List.take_succ_cons, List.take_zero, List.drop_succ_cons, List.drop_zero]
      repeat (first | (apply Loose.walk_step; intro K hK; apply Loose.turn_value (hwant := rfl) (hd := rfl); (focus (intro w' hw'; obtain ⟨hc, hf⟩ := Fl.bcell hw'; go_simp; first | done | rfl | exact ⟨rfl, rfl⟩)); go_simp; refine hK _ ?_; clear hK K) | (apply Loose.walk_step; intro K hK; refine Loose.turn_callB (f := 75) (args := #[.pointer (some ⟨G, 0, none⟩), .int .i64 (k : Int)]) (V := fun v => ∃ x y z x' y' z', v = .agg #[.float .f32 x, .float .f32 y, .float .f32 z, .float .f32 x', .float .f32 y', .float .f32 z'] ∧ ends3 c n k x y z x' y' z') (Nat.le_refl _) rfl rfl ?_ HSK.out ?_ ?_; (focus (intro w'; go_simp; first | done | rfl | exact ⟨rfl, rfl⟩)); (focus (intro w' hw'; exact (segment_from G a n cap k c w' ((hw'.cell (p := ⟨G, 0, none⟩) lGr).trans e0) (HYR.out.later hw') hlt hn).mono fun e w'' ⟨x1, y1, z1, x2, y2, z2, he, f1, f2, f3, f4, f5, f6, hb⟩ => ⟨_, he, ⟨x1, y1, z1, x2, y2, z2, rfl, f1, f2, f3, f4, f5, f6⟩, hb⟩)); (intro v hv; obtain ⟨x1, y1, z1, x2, y2, z2, rfl, hseg⟩ := hv; go_simp; refine hK _ ?_; clear hK K)) | (apply Loose.walk_step; intro K hK; apply Loose.turn_callVB (Nat.le_refl _) (hwant := rfl) (hd := rfl); (focus (intro w'; go_simp; first | done | rfl | exact ⟨rfl, rfl⟩)); (focus (intro w' hw'; exact HC.out k w' hlt x1 y1 z1 x2 y2 z2 hseg.1 hseg.2.1 hseg.2.2.1 hseg.2.2.2.1 hseg.2.2.2.2.1 hseg.2.2.2.2.2)); intro x3 y3 z3 fx3 fy3 fz3; go_simp; refine hK _ ?_; clear hK K) | (apply Loose.walk_step; intro K hK; apply Loose.turn_callVB (Nat.le_refl _) (hwant := rfl) (hd := rfl); (focus (intro w'; go_simp; first | done | rfl | exact ⟨rfl, rfl⟩)); (focus (intro w' hw'; go_at_call 121; exact Vec.impl_add _ _ _ _ _ _ _ _ _ _ _ _ _ FQ.out.1 FQ.out.2.1 FQ.out.2.2 fx3 fy3 fz3)); intro x4 y4 z4 fx4 fy4 fz4; go_simp; refine hK _ ?_; clear hK K))
      refine Loose.walk_nil ?_
      intro w4 hcls4
      obtain ⟨hb4, _⟩ := hcls4
      obtain ⟨hc4, hf4⟩ := Fl.bcell hb4
      have hz4 := hb4.size
      try simp only [World.size_alloc, World.size_setCell, World.heap_drewN, World.size_drew] at hz4
      have h44 := keep_block hb4 H4.out
      have h54 := keep_block hb4 H5.out
      have t0 := (cells_of (i := 0) h54).trans (show _ = some (.float .f32 qx) from rfl)
      have t1 := (cells_of (i := 1) h54).trans (show _ = some (.float .f32 qy) from rfl)
      have t2 := (cells_of (i := 2) h54).trans (show _ = some (.float .f32 qz) from rfl)
      have u0 := free_of h54 0
      have u1 := free_of h54 1
      have u2 := free_of h54 2
      have HB4 := Lib.hid (HB.out.trans (hb4.mono HB.out.size))
      have H44 := Lib.hid h44
      have H54 := Lib.hid h54
      have F4 := Lib.hid (show Fr .f32 x4 (sumC g 0 (k + 1)) ∧ Fr .f32 y4 (sumC g 1 (k + 1)) ∧ Fr .f32 z4 (sumC g 2 (k + 1)) from ⟨fx4, fy4, fz4⟩)
      clear hb4 hc4 hf4 h44 h54 s0 s1 s2 e0 fx4 fy4 fz4 fx3 fy3 fz3 hseg
      go_wp2
      go_roundw
      case rel =>
        refine ⟨k + 1, x4, y4, z4, by omega, by go_num, by rw [set_keep _ _ _ (by omega), set_keep _ _ _ (by omega), set_keep _ _ _ (by omega)]; exact H44.out, by simpa using setCell_block (setCell_block (setCell_block H54.out 0 (.float .f32 x4)) 1 (.float .f32 y4)) 2 (.float .f32 z4), F4.out.1, F4.out.2.1, F4.out.2.2, ?_⟩
        exact ((HB4.out.setCell (by first | omega | simp) _).setCell (by first | omega | simp) _).setCell (by first | omega | simp) _
      case measure => simp [intOf]; omega
    · obtain rfl : n = k := by omega
      have t0 := (cells_of (i := 0) H4.out).trans (show _ = some (.float .f32 0) from rfl)
      have t1 := (cells_of (i := 1) H4.out).trans (show _ = some (.float .f32 0) from rfl)
      have t2 := (cells_of (i := 2) H4.out).trans (show _ = some (.float .f32 0) from rfl)
      have u0 := free_of H4.out 0
      have u1 := free_of H4.out 1
      have u2 := free_of H4.out 2
      go_wp2
      refine bodyPost_ret ?ohr rfl ⟨qx, qy, qz, rfl, FQ.out.1, FQ.out.2.1, FQ.out.2.2, ?obel⟩
      case ohr => simp [results, Try.results100, go_sem, *]
      case obel => exact ((HB.out.setCell (by first | omega | simp) _).setCell (by first | omega | simp) _).setCell (by first | omega | simp) _

def crossC (c : Nat → Option Nat) (n k i : Nat) : Option Nat :=
  match i with
  | 0 => op2 .sub .f32 (op2 .mul .f32 (c (k * 3 + 1)) (c (nx n k * 3 + 2))) (op2 .mul .f32 (c (k * 3 + 2)) (c (nx n k * 3 + 1)))
  | 1 => op2 .sub .f32 (op2 .mul .f32 (c (k * 3 + 2)) (c (nx n k * 3))) (op2 .mul .f32 (c (k * 3)) (c (nx n k * 3 + 2)))
  | _ => op2 .sub .f32 (op2 .mul .f32 (c (k * 3)) (c (nx n k * 3 + 1))) (op2 .mul .f32 (c (k * 3 + 1)) (c (nx n k * 3)))

def areaC (c : Nat → Option Nat) (n i : Nat) : Option Nat := op2 .mul .f32 (sumC (crossC c n) i n) (some 1056964608)

theorem half1 : Fr .f32 1056964608 (some 1056964608) := Fr.const (by decide +kernel) (by decide)

/-- A vector of these classes, if there is one. -/
def RetVF (F : Bool) (c0 c1 c2 : Option Nat) (w : World) (e : Ending) (w' : World) : Prop :=
  ∃ x y z, e = .returned (.tuple #[.agg #[.float .f32 x, .float .f32 y, .float .f32 z], .bool F]) ∧ Fr .f32 x (if F then c0 else some 0) ∧ Fr .f32 y (if F then c1 else some 0) ∧ Fr .f32 z (if F then c2 else some 0) ∧ Below w.heap.size w w'

def fin3 (c0 c1 c2 : Option Nat) : Bool := finC c0 && finC c1 && finC c2

theorem impl_checkedV (x y z : Nat) (c0 c1 c2 : Option Nat) (w : World) (f0 : Fr .f32 x c0) (f1 : Fr .f32 y c1) (f2 : Fr .f32 z c2) (F : Bool) (hF : fin3 c0 c1 c2 = F) : Calls Try.prog 50 #[.agg #[.float .f32 x, .float .f32 y, .float .f32 z]] w (RetVF F c0 c1 c2 w) := by
  have HV := Lib.hid (fun w => impl_vfin x y z c0 c1 c2 w f0 f1 f2 F hF)
  have F3 := Lib.hid (And.intro f0 (And.intro f1 f2))
  clear hF
  cases F
  all_goals
    go_enter Try.func50, Try.ntmps50
    go_wp2_with fail
    refine (HV.out _).mono ?_
    rintro e w1 ⟨rfl, hb1⟩
    have hz1 := hb1.size
    try simp only [World.size_alloc, World.size_setCell, World.heap_drewN, World.size_drew] at hz1
    obtain ⟨hc1, hf1⟩ := Fl.bcell hb1
    try simp only [World.heap_drewN, World.cell?_drewN, World.frozen?_drewN] at hc1 hf1
    have g1_0 : w.heap.size < w1.heap.size := by omega
    have g1' : w.heap.size + 1 < w1.heap.size := by omega
    go_wp2
  · refine bodyPost_ret ?ohr rfl ⟨0, 0, 0, rfl, zz, zz, zz, ?obel⟩
    case ohr => simp [results, Try.results50, go_sem, *]
    case obel => (repeat' first | exact Below.refl _ _ | (refine Below.setCell ?_ (by first | omega | (simp; omega) | simp) _) | (refine below_drewN ?_ _) | (refine Below.alloc ?_ (by first | omega | (simp; omega) | simp) _) | (refine Below.trans ?_ (Below.mono (by assumption) (by first | omega | (simp; omega) | simp))))
  · refine bodyPost_ret ?ohr rfl ⟨x, y, z, rfl, F3.out.1, F3.out.2.1, F3.out.2.2, ?obel⟩
    case ohr => simp [results, Try.results50, go_sem, *]
    case obel => (repeat' first | exact Below.refl _ _ | (refine Below.setCell ?_ (by first | omega | (simp; omega) | simp) _) | (refine below_drewN ?_ _) | (refine Below.alloc ?_ (by first | omega | (simp; omega) | simp) _) | (refine Below.trans ?_ (Below.mono (by assumption) (by first | omega | (simp; omega) | simp))))

theorem spec_checkedV (x y z : Nat) (c0 c1 c2 : Option Nat) (w : World) (f0 : Fr .f32 x c0) (f1 : Fr .f32 y c1) (f2 : Fr .f32 z c2) (F : Bool) (hF : fin3 c0 c1 c2 = F) : Calls Try.prog 46 #[.agg #[.float .f32 x, .float .f32 y, .float .f32 z]] w (RetVF F c0 c1 c2 w) := by
  have HV := Lib.hid (fun w => spec_vfin x y z c0 c1 c2 w f0 f1 f2 F hF)
  have F3 := Lib.hid (And.intro f0 (And.intro f1 f2))
  clear hF
  cases F
  all_goals
    go_enter Try.func46, Try.ntmps46
    go_wp2_with fail
    refine (HV.out _).mono ?_
    rintro e w1 ⟨rfl, hb1⟩
    have hz1 := hb1.size
    try simp only [World.size_alloc, World.size_setCell, World.heap_drewN, World.size_drew] at hz1
    obtain ⟨hc1, hf1⟩ := Fl.bcell hb1
    try simp only [World.heap_drewN, World.cell?_drewN, World.frozen?_drewN] at hc1 hf1
    have g1_0 : w.heap.size < w1.heap.size := by omega
    have g1' : w.heap.size + 1 < w1.heap.size := by omega
    go_wp2
  · refine bodyPost_ret ?ohr rfl ⟨0, 0, 0, rfl, zz, zz, zz, ?obel⟩
    case ohr => simp [results, Try.results46, go_sem, *]
    case obel => (repeat' first | exact Below.refl _ _ | (refine Below.setCell ?_ (by first | omega | (simp; omega) | simp) _) | (refine below_drewN ?_ _) | (refine Below.alloc ?_ (by first | omega | (simp; omega) | simp) _) | (refine Below.trans ?_ (Below.mono (by assumption) (by first | omega | (simp; omega) | simp))))
  · refine bodyPost_ret ?ohr rfl ⟨x, y, z, rfl, F3.out.1, F3.out.2.1, F3.out.2.2, ?obel⟩
    case ohr => simp [results, Try.results46, go_sem, *]
    case obel => (repeat' first | exact Below.refl _ _ | (refine Below.setCell ?_ (by first | omega | (simp; omega) | simp) _) | (refine below_drewN ?_ _) | (refine Below.alloc ?_ (by first | omega | (simp; omega) | simp) _) | (refine Below.trans ?_ (Below.mono (by assumption) (by first | omega | (simp; omega) | simp))))

theorem across_run (x y z x' y' z' : Nat) (c0 c1 c2 d0 d1 d2 : Option Nat) (w : World) (f0 : Fr .f32 x c0) (f1 : Fr .f32 y c1) (f2 : Fr .f32 z c2) (g0 : Fr .f32 x' d0) (g1 : Fr .f32 y' d1) (g2 : Fr .f32 z' d2) :
    Calls Try.prog 101 #[.agg #[.float .f32 x, .float .f32 y, .float .f32 z, .float .f32 x', .float .f32 y', .float .f32 z']] w (RetV (op2 .sub .f32 (op2 .mul .f32 c1 d2) (op2 .mul .f32 c2 d1)) (op2 .sub .f32 (op2 .mul .f32 c2 d0) (op2 .mul .f32 c0 d2)) (op2 .sub .f32 (op2 .mul .f32 c0 d1) (op2 .mul .f32 c1 d0)) w) := by
  go_enter Try.func101, Try.ntmps101
  go_wp2_with fail
  refine (Vec.impl_cross _ _ _ _ _ _ _ _ _ _ _ _ _ f0 f1 f2 g0 g1 g2).mono ?_
  rintro e w1 ⟨x1, y1, z1, rfl, fx, fy, fz, hb1⟩
  have hz1 := hb1.size
  try simp only [World.size_alloc, World.size_setCell, World.heap_drewN, World.size_drew] at hz1
  obtain ⟨hc1, hf1⟩ := Fl.bcell hb1
  try simp only [World.heap_drewN, World.cell?_drewN, World.frozen?_drewN] at hc1 hf1
  have g1_0 : w.heap.size < w1.heap.size := by omega
  have g1' : w.heap.size + 1 < w1.heap.size := by omega
  go_wp2
  refine bodyPost_ret ?ohr rfl ⟨x1, y1, z1, rfl, fx, fy, fz, ?obel⟩
  case ohr => simp [results, Try.results101, go_sem, *]
  case obel => (repeat' first | exact Below.refl _ _ | (refine Below.setCell ?_ (by first | omega | (simp; omega) | simp) _) | (refine below_drewN ?_ _) | (refine Below.alloc ?_ (by first | omega | (simp; omega) | simp) _) | (refine Below.trans ?_ (Below.mono (by assumption) (by first | omega | (simp; omega) | simp))))

theorem enter_across (args : Array Value) (w : World) : (callFunc 101 args).run Try.prog w = .ok (.enter 101 args) w := by go_simp

set_option maxHeartbeats 6400000 in
theorem spec_area (G : Nat) (a : Option Addr) (n cap : Nat) (c : Nat → Option Nat) (w : World) (e0 : w.cell? ⟨G, 0, none⟩ = some (.slice a n cap)) (h : IsV w a n cap c) (hn : n ≤ 32) :
    Calls Try.prog 99 #[.pointer (some ⟨G, 0, none⟩)] w (RetV (areaC c n 0) (areaC c n 1) (areaC c n 2) w) := by
  have lG := block_lt_of_cell e0
  have HE := Lib.hid e0
  have HY := Lib.hid h
  clear h
  go_enter Try.func99, Try.ntmps99
  go_wp2
  clear e0
  obtain ⟨wc, hwc⟩ : ∃ u, u = (w.alloc (.cells #[.float .f32 0, .float .f32 0, .float .f32 0] 28)).alloc (.cells #[.float .f32 0, .float .f32 0, .float .f32 0] 28) := ⟨_, rfl⟩
  have q4 : wc.heap[w.heap.size]? = some (.cells #[.float .f32 0, .float .f32 0, .float .f32 0] 28) := by rw [hwc]; exact alloc_block (new_block _ _)
  have q5 : wc.heap[w.heap.size + 1]? = some (.cells #[.float .f32 0, .float .f32 0, .float .f32 0] 28) := by rw [hwc]; simpa using new_block (w.alloc (.cells #[.float .f32 0, .float .f32 0, .float .f32 0] 28)) (.cells #[.float .f32 0, .float .f32 0, .float .f32 0] 28)
  have hbw : Below w.heap.size w wc := by rw [hwc]; exact ((Below.refl _ _).alloc (Nat.le_refl _) _).alloc (by simp) _
  rw [hwc] at q4 q5 hbw
  have Q4 := Lib.hid q4
  have Q5 := Lib.hid q5
  have HBW := Lib.hid hbw
  clear hwc q4 q5 hbw
  go_loopw [4] (fun i wr => ∃ (k x y z : Nat), k ≤ n ∧ i = .int .i64 (k : Int) ∧ wr.heap[w.heap.size]? = some (.cells #[.float .f32 0, .float .f32 0, .float .f32 0] 28) ∧ wr.heap[w.heap.size + 1]? = some (.cells #[.float .f32 x, .float .f32 y, .float .f32 z] 28) ∧ Fr .f32 x (sumC (crossC c n) 0 k) ∧ Fr .f32 y (sumC (crossC c n) 1 k) ∧ Fr .f32 z (sumC (crossC c n) 2 k) ∧ Below w.heap.size w wr)
    (fun i _ => n - (intOf i).toNat)
  case atStart => exact ⟨0, 0, 0, 0, by omega, rfl, Q4.out, Q5.out, zz, zz, zz, HBW.out⟩
  case round =>
    obtain ⟨k, qx, qy, qz, hk, rfl, h4, h5, gx, gy, gz, hb⟩ := hrel
    have H4 := Lib.hid h4
    have H5 := Lib.hid h5
    have HB := Lib.hid hb
    have FQ := Lib.hid (And.intro gx (And.intro gy gz))
    have l5 := block_lt h5
    have e0 : wr.cell? ⟨G, 0, none⟩ = some (.slice a n cap) := by rw [hb.cell (p := ⟨G, 0, none⟩) lG]; exact HE.out
    clear h4 h5 hb gx gy gz
    by_cases hlt : k < n
    · go_wp2_with fail
      refine (spec_ends G a n cap k c _ e0 (HY.out.later HB.out) hlt hn).mono ?_
      rintro e w1 ⟨x, y, z, x', y', z', rfl, fx, fy, fz, fx', fy', fz', hb1⟩
      have hz1 := hb1.size
      go_wp2_with fail
      obtain ⟨wz, hwz⟩ : ∃ u, u = (w1.alloc (.cells #[.float .f32 x, .float .f32 y, .float .f32 z] 28)).alloc (.cells #[.float .f32 x', .float .f32 y', .float .f32 z'] 28) := ⟨_, rfl⟩
      rw [← hwz]
      have hbz : Below w1.heap.size w1 wz := by rw [hwz]; exact ((Below.refl _ _).alloc (Nat.le_refl _) _).alloc (by simp) _
      have r1 : wz.heap[w1.heap.size]? = some (.cells #[.float .f32 x, .float .f32 y, .float .f32 z] 28) := by rw [hwz]; exact alloc_block (new_block _ _)
      have r2 : wz.heap[w1.heap.size + 1]? = some (.cells #[.float .f32 x', .float .f32 y', .float .f32 z'] 28) := by rw [hwz]; simpa using new_block (w1.alloc (.cells #[.float .f32 x, .float .f32 y, .float .f32 z] 28)) (.cells #[.float .f32 x', .float .f32 y', .float .f32 z'] 28)
      have a0 := (cells_of (i := 0) r1).trans (show _ = some (.float .f32 x) from rfl)
      have a1 := (cells_of (i := 1) r1).trans (show _ = some (.float .f32 y) from rfl)
      have a2 := (cells_of (i := 2) r1).trans (show _ = some (.float .f32 z) from rfl)
      have b0 := (cells_of (i := 0) r2).trans (show _ = some (.float .f32 x') from rfl)
      have b1 := (cells_of (i := 1) r2).trans (show _ = some (.float .f32 y') from rfl)
      have b2 := (cells_of (i := 2) r2).trans (show _ = some (.float .f32 z') from rfl)
      have h5z := keep_block hbz (keep_block hb1 H5.out)
      have h4z := keep_block hbz (keep_block hb1 H4.out)
      have s0 := (cells_of (i := 0) h5z).trans (show _ = some (.float .f32 qx) from rfl)
      have s1 := (cells_of (i := 1) h5z).trans (show _ = some (.float .f32 qy) from rfl)
      have s2 := (cells_of (i := 2) h5z).trans (show _ = some (.float .f32 qz) from rfl)
      have l1 := block_lt r1
      have l2 := block_lt r2
      have l3 := block_lt h5z
      have H5Z := Lib.hid h5z
      have H4Z := Lib.hid h4z
      have HBZ := Lib.hid (HB.out.trans ((hb1.mono HB.out.size).trans (hbz.mono (by have := HB.out.size; omega))))
      clear hwz r1 r2 h5z h4z hb1 hbz e0 hz1
      refine Loose.wp_region_below 5 [] (by kernel_rfl) (by kernel_rfl) (by simp [undef]) ?_
      apply Exists.intro
      simp only [List.take_succ_cons, List.take_zero, List.drop_succ_cons, List.drop_zero]
      repeat (first | (apply Loose.walk_step; intro K hK; apply Loose.turn_value (hwant := rfl) (hd := rfl); (focus (intro w' hw'; obtain ⟨hc, hf⟩ := Fl.bcell hw'; go_simp; first | done | rfl | exact ⟨rfl, rfl⟩)); go_simp; refine hK _ ?_; clear hK K) | (apply Loose.walk_step; intro K hK; apply Loose.turn_callVB (Nat.le_refl _) (hwant := rfl) (hd := rfl); (focus (intro w'; go_simp; first | done | rfl | exact ⟨rfl, rfl⟩)); (focus (intro w' hw'; go_at_call 71; exact Vec.spec_cross _ _ _ _ _ _ _ _ _ _ _ _ _ fx fy fz fx' fy' fz')); intro x3 y3 z3 fx3 fy3 fz3; go_simp; refine hK _ ?_; clear hK K) | (apply Loose.walk_step; intro K hK; apply Loose.turn_callVB (Nat.le_refl _) (hwant := rfl) (hd := rfl); (focus (intro w'; go_simp; first | done | rfl | exact ⟨rfl, rfl⟩)); (focus (intro w' hw'; go_at_call 88; exact Vec.spec_add _ _ _ _ _ _ _ _ _ _ _ _ _ FQ.out.1 FQ.out.2.1 FQ.out.2.2 fx3 fy3 fz3)); intro x4 y4 z4 fx4 fy4 fz4; go_simp; refine hK _ ?_; clear hK K))
      refine Loose.walk_nil ?_
      intro w4 hcls4
      obtain ⟨hb4, _⟩ := hcls4
      obtain ⟨hc4, hf4⟩ := Fl.bcell hb4
      have hz4 := hb4.size
      try simp only [World.size_alloc, World.size_setCell, World.heap_drewN, World.size_drew] at hz4
      have h44 := keep_block hb4 H4Z.out
      have h54 := keep_block hb4 H5Z.out
      have t0 := (cells_of (i := 0) h54).trans (show _ = some (.float .f32 qx) from rfl)
      have t1 := (cells_of (i := 1) h54).trans (show _ = some (.float .f32 qy) from rfl)
      have t2 := (cells_of (i := 2) h54).trans (show _ = some (.float .f32 qz) from rfl)
      have u0 := free_of h54 0
      have u1 := free_of h54 1
      have u2 := free_of h54 2
      have l54 := block_lt h54
      have HB4 := Lib.hid (HBZ.out.trans (hb4.mono HBZ.out.size))
      have H44 := Lib.hid h44
      have H54 := Lib.hid h54
      have F4 := Lib.hid (show Fr .f32 x4 (sumC (crossC c n) 0 (k + 1)) ∧ Fr .f32 y4 (sumC (crossC c n) 1 (k + 1)) ∧ Fr .f32 z4 (sumC (crossC c n) 2 (k + 1)) from ⟨fx4, fy4, fz4⟩)
      clear hb4 hc4 hf4 h44 h54 s0 s1 s2 a0 a1 a2 b0 b1 b2 fx4 fy4 fz4 fx3 fy3 fz3 fx fy fz fx' fy' fz'
      go_wp2
      go_roundw
      case rel =>
        refine ⟨k + 1, x4, y4, z4, by omega, by go_num, by rw [set_keep _ _ _ (by omega), set_keep _ _ _ (by omega), set_keep _ _ _ (by omega)]; exact H44.out, by simpa using setCell_block (setCell_block (setCell_block H54.out 0 (.float .f32 x4)) 1 (.float .f32 y4)) 2 (.float .f32 z4), F4.out.1, F4.out.2.1, F4.out.2.2, ?_⟩
        exact ((HB4.out.setCell (by first | omega | simp) _).setCell (by first | omega | simp) _).setCell (by first | omega | simp) _
      case measure => simp [intOf]; omega
    · obtain rfl : n = k := by omega
      have s0 := (cells_of (i := 0) H5.out).trans (show _ = some (.float .f32 qx) from rfl)
      have s1 := (cells_of (i := 1) H5.out).trans (show _ = some (.float .f32 qy) from rfl)
      have s2 := (cells_of (i := 2) H5.out).trans (show _ = some (.float .f32 qz) from rfl)
      go_wp2_with fail
      refine (Vec.spec_scale _ _ _ _ _ _ _ _ _ FQ.out.1 FQ.out.2.1 FQ.out.2.2 half1).mono ?_
      rintro e w1 ⟨x1, y1, z1, rfl, fx, fy, fz, hb1⟩
      have h41 := keep_block hb1 H4.out
      have t0 := (cells_of (i := 0) h41).trans (show _ = some (.float .f32 0) from rfl)
      have t1 := (cells_of (i := 1) h41).trans (show _ = some (.float .f32 0) from rfl)
      have t2 := (cells_of (i := 2) h41).trans (show _ = some (.float .f32 0) from rfl)
      have u0 := free_of h41 0
      have u1 := free_of h41 1
      have u2 := free_of h41 2
      have l41 := block_lt h41
      have HB1 := Lib.hid (HB.out.trans (hb1.mono HB.out.size))
      have F4 := Lib.hid (And.intro fx (And.intro fy fz))
      clear hb1 h41 s0 s1 s2 fx fy fz e0
      go_wp2
      refine bodyPost_ret ?ohr rfl ⟨x1, y1, z1, rfl, F4.out.1, F4.out.2.1, F4.out.2.2, ?obel⟩
      case ohr => simp [results, Try.results99, go_sem, *]
      case obel => exact ((HB1.out.setCell (by first | omega | simp) _).setCell (by first | omega | simp) _).setCell (by first | omega | simp) _

set_option maxHeartbeats 3200000 in
theorem spec_AreaT (a : Option Addr) (n cap s : Nat) (cs : Option Nat) (c : Nat → Option Nat) (w : World) (h : IsV w a n cap c) (fs : Fr .f32 s cs) (A : Bool) (hA : okT n cs c = A) (F : Bool) (hF : (A && fin3 (areaC c n 0) (areaC c n 1) (areaC c n 2)) = F) :
    Calls Try.prog 45 #[tV a n cap s] w (RetVF F (areaC c n 0) (areaC c n 1) (areaC c n 2) w) := by
  have HI2 := Lib.hid (fun G w' (hb : Below w.heap.size w w') e0 e1 => spec_is G a n cap s cs c w' e0 e1 (h.later hb) fs A hA)
  cases A
  · obtain rfl : F = false := by rw [← hF]; rfl
    clear hA h hF
    go_enter Try.func45, Try.ntmps45
    go_wp2_with fail
    refine (HI2.out _ _ (by (repeat' first | exact Below.refl _ _ | (refine Below.setCell ?_ (by first | omega | (simp; omega) | simp) _) | (refine below_drewN ?_ _) | (refine Below.alloc ?_ (by first | omega | (simp; omega) | simp) _) | (refine Below.trans ?_ (Below.mono (by assumption) (by first | omega | (simp; omega) | simp))))) (by simp) (by simp)).mono ?_
    rintro e w1 ⟨rfl, hb1⟩
    have hz1 := hb1.size
    try simp only [World.size_alloc, World.size_setCell, World.heap_drewN, World.size_drew] at hz1
    obtain ⟨hc1, hf1⟩ := Fl.bcell hb1
    try simp only [World.heap_drewN, World.cell?_drewN, World.frozen?_drewN] at hc1 hf1
    have g1_0 : w.heap.size < w1.heap.size := by omega
    have g1' : w.heap.size + 1 < w1.heap.size := by omega
    go_wp2
    refine bodyPost_ret ?ohr rfl ⟨0, 0, 0, rfl, zz, zz, zz, ?obel⟩
    case ohr => simp [results, Try.results45, go_sem, *]
    case obel => (repeat' first | exact Below.refl _ _ | (refine Below.setCell ?_ (by first | omega | (simp; omega) | simp) _) | (refine below_drewN ?_ _) | (refine Below.alloc ?_ (by first | omega | (simp; omega) | simp) _) | (refine Below.trans ?_ (Below.mono (by assumption) (by first | omega | (simp; omega) | simp))))
  · have hn := (okT_of hA).2.1
    have HY := Lib.hid h
    rw [Bool.true_and] at hF
    have HF := Lib.hid hF
    clear hA h hF
    go_enter Try.func45, Try.ntmps45
    go_wp2_with fail
    refine (HI2.out _ _ (by (repeat' first | exact Below.refl _ _ | (refine Below.setCell ?_ (by first | omega | (simp; omega) | simp) _) | (refine below_drewN ?_ _) | (refine Below.alloc ?_ (by first | omega | (simp; omega) | simp) _) | (refine Below.trans ?_ (Below.mono (by assumption) (by first | omega | (simp; omega) | simp))))) (by simp) (by simp)).mono ?_
    rintro e w1 ⟨rfl, hb1⟩
    have hz1 := hb1.size
    simp only [World.size_alloc] at hz1
    have qp := keep_block hb1 (alloc_block (o' := .cells #[.float .f32 0, .float .f32 0, .float .f32 0] 28) (new_block w (.cells #[.slice a n cap, .float .f32 s] 33)))
    have q4 : w1.heap[w.heap.size + 1]? = some (.cells #[.float .f32 0, .float .f32 0, .float .f32 0] 28) := keep_block hb1 (by simpa using new_block (w.alloc (.cells #[.slice a n cap, .float .f32 s] 33)) (.cells #[.float .f32 0, .float .f32 0, .float .f32 0] 28))
    have e20 := (cells_of (i := 0) qp).trans (show _ = some (.slice a n cap) from rfl)
    have e21 := (cells_of (i := 1) qp).trans (show _ = some (.float .f32 s) from rfl)
    have hbw : Below w.heap.size w w1 := by (repeat' first | exact Below.refl _ _ | (refine Below.setCell ?_ (by first | omega | (simp; omega) | simp) _) | (refine below_drewN ?_ _) | (refine Below.alloc ?_ (by first | omega | (simp; omega) | simp) _) | (refine Below.trans ?_ (Below.mono (by assumption) (by first | omega | (simp; omega) | simp))))
    have HBW := Lib.hid hbw
    have lP := block_lt qp
    have Q4 := Lib.hid q4
    clear qp q4 hbw hb1
    go_wp2_with fail
    refine (spec_area w.heap.size a n cap c _ e20 (HY.out.later HBW.out) hn).mono ?_
    rintro e w2 ⟨x2, y2, z2, rfl, fx2, fy2, fz2, hb2⟩
    have hz2 := hb2.size
    clear e20 e21
    go_wp2_with fail
    refine (spec_checkedV _ _ _ _ _ _ _ fx2 fy2 fz2 F HF.out).mono ?_
    rintro e w3 ⟨x9, y9, z9, rfl, gx, gy, gz, hb3⟩
    have hz3 := hb3.size
    have HB2 := HBW
    have q4 := keep_block hb3 (keep_block hb2 Q4.out)
    have t0 := (cells_of (i := 0) q4).trans (show _ = some (.float .f32 0) from rfl)
    have t1 := (cells_of (i := 1) q4).trans (show _ = some (.float .f32 0) from rfl)
    have t2 := (cells_of (i := 2) q4).trans (show _ = some (.float .f32 0) from rfl)
    have u0 := free_of q4 0
    have u1 := free_of q4 1
    have u2 := free_of q4 2
    have l4 := block_lt q4
    have HBX := Lib.hid (HB2.out.trans ((hb2.mono (by omega)).trans (hb3.mono (by omega))))
    have F4 := Lib.hid (And.intro gx (And.intro gy gz))
    clear q4 hb2 hb3 gx gy gz
    go_wp2
    refine bodyPost_ret ?ohr rfl ⟨x9, y9, z9, rfl, F4.out.1, F4.out.2.1, F4.out.2.2, ?obel⟩
    case ohr => simp [results, Try.results45, go_sem, *]
    case obel => exact ((HBX.out.setCell (by first | omega | simp) _).setCell (by first | omega | simp) _).setCell (by first | omega | simp) _

set_option maxHeartbeats 3200000 in
theorem impl_AreaT (a : Option Addr) (n cap s : Nat) (cs : Option Nat) (c : Nat → Option Nat) (w : World) (h : IsV w a n cap c) (fs : Fr .f32 s cs) (A : Bool) (hA : okT n cs c = A) (F : Bool) (hF : (A && fin3 (areaC c n 0) (areaC c n 1) (areaC c n 2)) = F) :
    Calls Try.prog 49 #[tV a n cap s] w (RetVF F (areaC c n 0) (areaC c n 1) (areaC c n 2) w) := by
  have HI2 := Lib.hid (fun w' (hb : Below w.heap.size w w') => impl_is a n cap s cs c w' (h.later hb) fs A hA)
  cases A
  · obtain rfl : F = false := by rw [← hF]; rfl
    clear hA h hF
    go_enter Try.func49, Try.ntmps49
    go_wp2_with fail
    refine (HI2.out _ (by (repeat' first | exact Below.refl _ _ | (refine Below.setCell ?_ (by first | omega | (simp; omega) | simp) _) | (refine below_drewN ?_ _) | (refine Below.alloc ?_ (by first | omega | (simp; omega) | simp) _) | (refine Below.trans ?_ (Below.mono (by assumption) (by first | omega | (simp; omega) | simp)))))).mono ?_
    rintro e w1 ⟨rfl, hb1⟩
    have hz1 := hb1.size
    try simp only [World.size_alloc, World.size_setCell, World.heap_drewN, World.size_drew] at hz1
    obtain ⟨hc1, hf1⟩ := Fl.bcell hb1
    try simp only [World.heap_drewN, World.cell?_drewN, World.frozen?_drewN] at hc1 hf1
    have g1_0 : w.heap.size < w1.heap.size := by omega
    have g1' : w.heap.size + 1 < w1.heap.size := by omega
    go_wp2
    refine bodyPost_ret ?ohr rfl ⟨0, 0, 0, rfl, zz, zz, zz, ?obel⟩
    case ohr => simp [results, Try.results49, go_sem, *]
    case obel => (repeat' first | exact Below.refl _ _ | (refine Below.setCell ?_ (by first | omega | (simp; omega) | simp) _) | (refine below_drewN ?_ _) | (refine Below.alloc ?_ (by first | omega | (simp; omega) | simp) _) | (refine Below.trans ?_ (Below.mono (by assumption) (by first | omega | (simp; omega) | simp))))
  · have hn := (okT_of hA).2.1
    have HY := Lib.hid h
    rw [Bool.true_and] at hF
    have HF := Lib.hid hF
    clear hA h hF
    go_enter Try.func49, Try.ntmps49
    go_wp2_with fail
    refine (HI2.out _ (by (repeat' first | exact Below.refl _ _ | (refine Below.setCell ?_ (by first | omega | (simp; omega) | simp) _) | (refine below_drewN ?_ _) | (refine Below.alloc ?_ (by first | omega | (simp; omega) | simp) _) | (refine Below.trans ?_ (Below.mono (by assumption) (by first | omega | (simp; omega) | simp)))))).mono ?_
    rintro e w1 ⟨rfl, hb1⟩
    have hz1 := hb1.size
    simp only [World.size_alloc] at hz1
    have qp := keep_block hb1 (alloc_block (o' := .cells #[.float .f32 0, .float .f32 0, .float .f32 0] 28) (new_block w (.cells #[.slice a n cap, .float .f32 s] 33)))
    have q4 : w1.heap[w.heap.size + 1]? = some (.cells #[.float .f32 0, .float .f32 0, .float .f32 0] 28) := keep_block hb1 (by simpa using new_block (w.alloc (.cells #[.slice a n cap, .float .f32 s] 33)) (.cells #[.float .f32 0, .float .f32 0, .float .f32 0] 28))
    have e20 := (cells_of (i := 0) qp).trans (show _ = some (.slice a n cap) from rfl)
    have e21 := (cells_of (i := 1) qp).trans (show _ = some (.float .f32 s) from rfl)
    have hbw : Below w.heap.size w w1 := by (repeat' first | exact Below.refl _ _ | (refine Below.setCell ?_ (by first | omega | (simp; omega) | simp) _) | (refine below_drewN ?_ _) | (refine Below.alloc ?_ (by first | omega | (simp; omega) | simp) _) | (refine Below.trans ?_ (Below.mono (by assumption) (by first | omega | (simp; omega) | simp))))
    have HBW := Lib.hid hbw
    have lP := block_lt qp
    have Q4 := Lib.hid q4
    clear qp q4 hbw hb1
    go_wp2_with fail
    refine (sum_along w.heap.size a n cap c 101 (crossC c n) _ e20 (HY.out.later HBW.out) hn enter_across (fun k w' hk x y z x' y' z' f0 f1 f2 g0 g1 g2 => across_run x y z x' y' z' _ _ _ _ _ _ w' f0 f1 f2 g0 g1 g2)).mono ?_
    rintro e w2 ⟨x2, y2, z2, rfl, fx2, fy2, fz2, hb2⟩
    have hz2 := hb2.size
    clear e20 e21
    go_wp2_with fail
    refine (Vec.impl_scale _ _ _ _ _ _ _ _ _ fx2 fy2 fz2 half1).mono ?_
    rintro e w3 ⟨x3, y3, z3, rfl, fx3, fy3, fz3, hb3⟩
    have hz3 := hb3.size
    go_wp2_with fail
    refine (impl_checkedV _ _ _ _ _ _ _ fx3 fy3 fz3 F HF.out).mono ?_
    rintro e w4 ⟨x9, y9, z9, rfl, gx, gy, gz, hb4⟩
    have hz4 := hb4.size
    have HB3 := Lib.hid (HBW.out.trans (hb2.mono (by omega)))
    have Q42 := Lib.hid (keep_block hb2 Q4.out)
    clear hb2 fx2 fy2 fz2 fx3 fy3 fz3
    have q4 := keep_block hb4 (keep_block hb3 Q42.out)
    have t0 := (cells_of (i := 0) q4).trans (show _ = some (.float .f32 0) from rfl)
    have t1 := (cells_of (i := 1) q4).trans (show _ = some (.float .f32 0) from rfl)
    have t2 := (cells_of (i := 2) q4).trans (show _ = some (.float .f32 0) from rfl)
    have u0 := free_of q4 0
    have u1 := free_of q4 1
    have u2 := free_of q4 2
    have l4 := block_lt q4
    have HBX := Lib.hid (HB3.out.trans ((hb3.mono (by omega)).trans (hb4.mono (by omega))))
    have F4 := Lib.hid (And.intro gx (And.intro gy gz))
    clear q4 hb3 hb4 gx gy gz
    go_wp2
    refine bodyPost_ret ?ohr rfl ⟨x9, y9, z9, rfl, F4.out.1, F4.out.2.1, F4.out.2.2, ?obel⟩
    case ohr => simp [results, Try.results49, go_sem, *]
    case obel => exact ((HBX.out.setCell (by first | omega | simp) _).setCell (by first | omega | simp) _).setCell (by first | omega | simp) _

end Th
end Go.Proofs.Ytjkkefbfhapblaa
