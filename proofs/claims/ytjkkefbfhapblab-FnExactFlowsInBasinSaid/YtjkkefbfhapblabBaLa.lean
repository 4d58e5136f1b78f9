/- Laplace basins. -/
import Derived.Test.YtjkkefbfhapblabBaEv
namespace Go.Proofs.Ytjkkefbfhapblab
set_option linter.unusedSimpArgs false
set_option linter.unusedVariables false
open Go.RowKit
set_option maxRecDepth 20000
namespace Ba
open Fl Rate

/-- The sum of the four numbers beside a cell. -/
def fourC (c : Nat → Option Nat) (W H x y : Int) : Option Nat := op2 .add .f32 (op2 .add .f32 (c (idx W H (x - 1) y)) (c (idx W H (x + 1) y))) (op2 .add .f32 (c (idx W H x (y - 1))) (c (idx W H x (y + 1))))

theorem four32 : Fr .f32 1082130432 (some 1082130432) := Fr.const (by decide +kernel) (by decide)

set_option maxHeartbeats 3200000 in
theorem impl_around (W H : Int) (a : Option Addr) (n cap : Nat) (c : Nat → Option Nat) (w : World) (h : IsY w a n cap c) (hW : sideB W = true) (hH : sideB H = true) (hn : (n : Int) = W * H) (x y : Int) (hx : -1099511627000 ≤ x ∧ x ≤ 1099511627000) (hy : -1099511627000 ≤ y ∧ y ≤ 1099511627000) :
    Calls Try.prog 142 #[bV W H a n cap, .int .i64 x, .int .i64 y] w (RetF .f32 (fourC c W H x y) w) := by
  have HX := Lib.hid h
  have hw0 : IntKind.i64.wrap (x - 1) = x - 1 := IntWalk.i64_in _ (by omega)
  have hw1 : IntKind.i64.wrap (x + 1) = x + 1 := IntWalk.i64_in _ (by omega)
  have hw2 : IntKind.i64.wrap (y - 1) = y - 1 := IntWalk.i64_in _ (by omega)
  have hw3 : IntKind.i64.wrap (y + 1) = y + 1 := IntWalk.i64_in _ (by omega)
  clear h
  go_enter Try.func142, Try.ntmps142
  go_wp2
  refine Loose.wp_region_below 23 [] (by kernel_rfl) (by kernel_rfl) (by simp [undef]) ?_
  apply Exists.intro
  simp only [List.take_succ_cons, List.take_zero, List.drop_succ_cons, List.drop_zero]
  repeat (first | (apply Loose.walk_step; intro K hK; apply Loose.turn_value (hwant := rfl) (hd := rfl); (focus (intro w' hw'; obtain ⟨hc, hf⟩ := Fl.bcell hw'; go_simp; first | done | rfl | exact ⟨rfl, rfl⟩)); go_simp; refine hK _ ?_; clear hK K) | (apply Loose.walk_step; intro K hK; apply Loose.turn_callFB (Nat.le_refl _) (hwant := rfl) (hd := rfl); (focus (intro w'; go_simp; first | done | rfl | exact ⟨rfl, rfl⟩)); (focus (intro w' hw'; go_at_call 92; exact impl_at W H a n cap c w' ((HX.out.alloc _).later hw') hW hH hn _ _ (by omega) (by omega))); intro r hr; go_simp; refine hK _ ?_; clear hK K) | (apply Loose.walk_step; intro K hK; refine Loose.turn_fl (Nat.le_refl _) rfl rfl rfl rfl rfl rfl (by assumption) (by assumption) ?_; intro r hr; go_simp; refine hK _ ?_; clear hK K))
  refine Loose.walk_nil ?_
  intro w1 hcls1
  obtain ⟨hb1, _⟩ := hcls1
  obtain ⟨hc1, hf1⟩ := Fl.bcell hb1
  have hz1 := hb1.size
  try simp only [World.size_alloc, World.size_setCell, World.heap_drewN, World.size_drew] at hz1
  go_wp2
  go_ret
  exact ⟨_, rfl, by assumption, by (repeat' first | exact Below.refl _ _ | (refine Below.setCell ?_ (by first | omega | (simp; omega) | simp) _) | (refine below_drewN ?_ _) | (refine Below.alloc ?_ (by first | omega | (simp; omega) | simp) _) | (refine Below.trans ?_ (Below.mono (by assumption) (by first | omega | (simp; omega) | simp))))⟩

set_option maxHeartbeats 3200000 in
theorem impl_laplace (W H : Int) (a : Option Addr) (n cap : Nat) (c : Nat → Option Nat) (w : World) (h : IsY w a n cap c) (hW : sideB W = true) (hH : sideB H = true) (hn : (n : Int) = W * H) (x y : Int) (hx : -1099511627000 ≤ x ∧ x ≤ 1099511627000) (hy : -1099511627000 ≤ y ∧ y ≤ 1099511627000) :
    Calls Try.prog 107 #[bV W H a n cap, .int .i64 x, .int .i64 y] w (RetF .f32 (op2 .sub .f32 (fourC c W H x y) (op2 .mul .f32 (some 1082130432) (c (idx W H x y)))) w) := by
  have HX := Lib.hid h
  have f4 := four32
  clear h
  go_enter Try.func107, Try.ntmps107
  go_wp2
  refine Loose.wp_region_below 10 [] (by kernel_rfl) (by kernel_rfl) (by simp [undef]) ?_
  apply Exists.intro
  simp only [List.take_succ_cons, List.take_zero, List.drop_succ_cons, List.drop_zero]
  repeat (first | (apply Loose.walk_step; intro K hK; apply Loose.turn_value (hwant := rfl) (hd := rfl); (focus (intro w' hw'; obtain ⟨hc, hf⟩ := Fl.bcell hw'; go_simp; first | done | rfl | exact ⟨rfl, rfl⟩)); go_simp; refine hK _ ?_; clear hK K) | (apply Loose.walk_step; intro K hK; apply Loose.turn_callFB (Nat.le_refl _) (hwant := rfl) (hd := rfl); (focus (intro w'; go_simp; first | done | rfl | exact ⟨rfl, rfl⟩)); (focus (intro w' hw'; go_at_call 142; exact impl_around W H a n cap c w' ((HX.out.alloc _).later hw') hW hH hn x y hx hy)); intro r hr; go_simp; refine hK _ ?_; clear hK K) | (apply Loose.walk_step; intro K hK; apply Loose.turn_callFB (Nat.le_refl _) (hwant := rfl) (hd := rfl); (focus (intro w'; go_simp; first | done | rfl | exact ⟨rfl, rfl⟩)); (focus (intro w' hw'; go_at_call 92; exact impl_at W H a n cap c w' ((HX.out.alloc _).later hw') hW hH hn x y (by omega) (by omega))); intro r hr; go_simp; refine hK _ ?_; clear hK K) | (apply Loose.walk_step; intro K hK; apply Loose.turn_callF (Nat.le_refl _) (hwant := rfl) (hd := rfl); (focus (intro w'; go_simp; first | done | rfl | exact ⟨rfl, rfl⟩)); (focus (intro w'; go_at_call 44; exact product_run _ _ _ _ _ (by assumption) (by assumption))); intro r hr; go_simp; refine hK _ ?_; clear hK K) | (apply Loose.walk_step; intro K hK; refine Loose.turn_fl (Nat.le_refl _) rfl rfl rfl rfl rfl rfl (by assumption) (by assumption) ?_; intro r hr; go_simp; refine hK _ ?_; clear hK K))
  refine Loose.walk_nil ?_
  intro w1 hcls1
  obtain ⟨hb1, _⟩ := hcls1
  obtain ⟨hc1, hf1⟩ := Fl.bcell hb1
  have hz1 := hb1.size
  try simp only [World.size_alloc, World.size_setCell, World.heap_drewN, World.size_drew] at hz1
  go_wp2
  go_ret
  exact ⟨_, rfl, by assumption, by (repeat' first | exact Below.refl _ _ | (refine Below.setCell ?_ (by first | omega | (simp; omega) | simp) _) | (refine below_drewN ?_ _) | (refine Below.alloc ?_ (by first | omega | (simp; omega) | simp) _) | (refine Below.trans ?_ (Below.mono (by assumption) (by first | omega | (simp; omega) | simp))))⟩

theorem enter_laplace (args : Array Value) (w : World) : (callFunc 107 args).run Try.prog w = .ok (.enter 107 args) w := by go_simp

set_option maxHeartbeats 3200000 in
theorem spec_four (G : Nat) (W H : Int) (a : Option Addr) (n cap : Nat) (c : Nat → Option Nat) (w : World) (h : IsY w a n cap c) (hW : sideB W = true) (hH : sideB H = true) (hn : (n : Int) = W * H) (x y : Int) (hx : -1099511627000 ≤ x ∧ x ≤ 1099511627000) (hy : -1099511627000 ≤ y ∧ y ≤ 1099511627000) (e0 : w.cell? ⟨G, 0, none⟩ = some (.int .i64 W)) (e1 : w.cell? ⟨G, 1, none⟩ = some (.int .i64 H)) (e2 : w.cell? ⟨G, 2, none⟩ = some (.slice a n cap)) :
    Calls Try.prog 138 #[.pointer (some ⟨G, 0, none⟩), .int .i64 x, .int .i64 y] w (RetF .f32 (fourC c W H x y) w) := by
  have hG : G < w.heap.size := block_lt_of_cell e0
  have HA := Lib.hid (fun w' (hb : Below w.heap.size w w') x y hx hy => spec_at G W H a n cap c w' (h.later hb) hW hH hn x y hx hy ((hb.cell hG).trans e0) ((hb.cell hG).trans e1) ((hb.cell hG).trans e2))
  clear h e0 e1 e2 hn
  go_enter Try.func138, Try.ntmps138
  go_wp2_with fail
  refine (HA.out _ (by (repeat' first | exact Below.refl _ _ | (refine Below.setCell ?_ (by first | omega | (simp; omega) | simp) _) | (refine below_drewN ?_ _) | (refine Below.alloc ?_ (by first | omega | (simp; omega) | simp) _) | (refine Below.trans ?_ (Below.mono (by assumption) (by first | omega | (simp; omega) | simp))))) _ _ (by omega) (by omega)).mono ?_
  rintro e w1 ⟨r1, rfl, hr1, hb1⟩
  have hz1 := hb1.size
  go_wp2_with fail
  refine (HA.out _ (by (repeat' first | exact Below.refl _ _ | (refine Below.setCell ?_ (by first | omega | (simp; omega) | simp) _) | (refine below_drewN ?_ _) | (refine Below.alloc ?_ (by first | omega | (simp; omega) | simp) _) | (refine Below.trans ?_ (Below.mono (by assumption) (by first | omega | (simp; omega) | simp))))) _ _ (by omega) (by omega)).mono ?_
  rintro e w2 ⟨r2, rfl, hr2, hb2⟩
  have hz2 := hb2.size
  go_wp2_with (refine Fl.wpList_fl rfl rfl rfl rfl rfl (by assumption) (by assumption) ?_; intro r n' hr)
  refine (HA.out _ (by (repeat' first | exact Below.refl _ _ | (refine Below.setCell ?_ (by first | omega | (simp; omega) | simp) _) | (refine below_drewN ?_ _) | (refine Below.alloc ?_ (by first | omega | (simp; omega) | simp) _) | (refine Below.trans ?_ (Below.mono (by assumption) (by first | omega | (simp; omega) | simp))))) _ _ (by omega) (by omega)).mono ?_
  rintro e w3 ⟨r3, rfl, hr3, hb3⟩
  have hz3 := hb3.size
  try simp only [World.heap_drewN, World.size_drew] at hz3
  go_wp2_with fail
  refine (HA.out _ (by (repeat' first | exact Below.refl _ _ | (refine Below.setCell ?_ (by first | omega | (simp; omega) | simp) _) | (refine below_drewN ?_ _) | (refine Below.alloc ?_ (by first | omega | (simp; omega) | simp) _) | (refine Below.trans ?_ (Below.mono (by assumption) (by first | omega | (simp; omega) | simp))))) _ _ (by omega) (by omega)).mono ?_
  rintro e w4 ⟨r4, rfl, hr4, hb4⟩
  have hz4 := hb4.size
  go_wp2_with (refine Fl.wpList_fl rfl rfl rfl rfl rfl (by assumption) (by assumption) ?_; intro r n' hr)
  go_ret
  exact ⟨_, rfl, by assumption, by (repeat' first | exact Below.refl _ _ | (refine Below.setCell ?_ (by first | omega | (simp; omega) | simp) _) | (refine below_drewN ?_ _) | (refine Below.alloc ?_ (by first | omega | (simp; omega) | simp) _) | (refine Below.trans ?_ (Below.mono (by assumption) (by first | omega | (simp; omega) | simp))))⟩

set_option maxHeartbeats 6400000 in
theorem spec_laplace (G : Nat) (W H : Int) (a : Option Addr) (n cap : Nat) (c : Nat → Option Nat) (w : World) (h : IsY w a n cap c) (hG : w.heap[G]? = some (.cells #[.int .i64 W, .int .i64 H, .slice a n cap] 33)) (hA : okB W H n c = true) :
    Calls Try.prog 139 #[.pointer (some ⟨G, 0, none⟩)] w (RetG (allF (fun k => op2 .sub .f32 (fourC c W H ((k : Int) % W) ((k : Int) / W)) (op2 .mul .f32 (some 1082130432) (c k))) n) W H n (fun k => op2 .sub .f32 (fourC c W H ((k : Int) % W) ((k : Int) / W)) (op2 .mul .f32 (some 1082130432) (c k))) w) := by
  have hs := okB_of hA
  have hn9 := okB_n hA
  have sW := side_of hs.1
  have sH := side_of hs.2.1
  have hmul := mul_bd hs.1 hs.2.1
  have HN := Lib.hid hs.2.2.1
  have HSS := Lib.hid hs
  have lG := block_lt hG
  have HQ := Lib.hid hG
  have f4 := four32
  clear hG hA
  obtain ⟨R, hR0⟩ : ∃ R, allF (fun k => op2 .sub .f32 (fourC c W H ((k : Int) % W) ((k : Int) / W)) (op2 .mul .f32 (some 1082130432) (c k))) n = R := ⟨_, rfl⟩
  have hok : okB W H n (fun k => op2 .sub .f32 (fourC c W H ((k : Int) % W) ((k : Int) / W)) (op2 .mul .f32 (some 1082130432) (c k))) = R := by
    unfold okB
    rw [hs.1, hs.2.1, hR0, decide_eq_true hs.2.2.1]; rfl
  have HG := Lib.hid (fun a cap w (h : IsY w a n cap (fun k => op2 .sub .f32 (fourC c W H ((k : Int) % W) ((k : Int) / W)) (op2 .mul .f32 (some 1082130432) (c k)))) => spec_give W H a n cap _ w h R hok)
  rw [hR0]
  unfold RetG
  obtain ⟨W', hW'⟩ : ∃ W' : Int, (if R then W else 0) = W' := ⟨_, rfl⟩
  obtain ⟨H', hH'⟩ : ∃ H' : Int, (if R then H else 0) = H' := ⟨_, rfl⟩
  obtain ⟨N', hN'⟩ : ∃ N' : Nat, (if R then n else 0) = N' := ⟨_, rfl⟩
  rw [hW', hH', hN']
  have HR := Lib.hid (And.intro hW' (And.intro hH' hN'))
  clear hR0 hok hW' hH' hN'
  have H6 := Lib.hid h
  clear h hs
  go_enter Try.func139, Try.ntmps139
  go_wp2
  obtain ⟨wc1, hwc⟩ : ∃ x, x = w.alloc (.cells #[.int .i64 0, .int .i64 0, .slice none 0 0] 33) := ⟨_, rfl⟩
  rw [← hwc]
  have q2 : wc1.heap[G]? = some (.cells #[.int .i64 W, .int .i64 H, .slice a n cap] 33) := by rw [hwc]; exact alloc_block HQ.out
  have q4 : wc1.heap[w.heap.size]? = some (.cells #[.int .i64 0, .int .i64 0, .slice none 0 0] 33) := by rw [hwc]; exact new_block _ _
  have HBW := Lib.hid (show Below w.heap.size w wc1 by rw [hwc]; exact (Below.refl _ _).alloc (Nat.le_refl _) _)
  have hzc1 : w.heap.size ≤ wc1.heap.size := HBW.out.size
  clear hwc
  have Q2 := Lib.hid q2
  have l2 := block_lt q2
  have e20 := (cells_of (i := 0) q2).trans (show _ = some (.int .i64 W) from rfl)
  have e21 := (cells_of (i := 1) q2).trans (show _ = some (.int .i64 H) from rfl)
  have e22 := (cells_of (i := 2) q2).trans (show _ = some (.slice a n cap) from rfl)
  clear q2
  have Q4 := Lib.hid q4
  have l4 := block_lt q4
  clear q4
  refine LooseP.wp_region 10 [((14 : Nat), phiN W H wc1.heap.size), ((4 : Nat), phiB wc1.heap.size)] (by kernel_rfl) (by kernel_rfl) (by simp [undef]) ?_
  apply Exists.intro
  simp only [List.take_succ_cons, List.take_zero, List.drop_succ_cons, List.drop_zero]
  have hst : ∀ p ∈ [((14 : Nat), phiN W H wc1.heap.size), ((4 : Nat), phiB wc1.heap.size)], LooseP.Stable p.2 := two_stable (phiN_stable _ _ _) (phiB_stable _)
  repeat (first | (apply Loose.walk_step; intro K hK; apply LooseP.turn_value (hwant := rfl) (hd := rfl); (focus (intro w' hw'; obtain ⟨hc, hf⟩ := Fl.bcell hw'; go_simp; first | done | rfl | exact ⟨rfl, rfl⟩)); go_simp; refine hK _ ?_; clear hK K) | (apply Loose.walk_step; intro K hK; refine LooseP.turn_callP (f := 87) (args := fun a => #[a.eval (.tmp 9), a.eval (.tmp 13)]) (V := fun v => ∃ g, v = bV W H (some ⟨g, 0, none⟩) 0 0) (φ := phiN W H wc1.heap.size) (d := 14) hst (Nat.le_refl _) rfl rfl (two_first (by decide)) (by intro a' w'; go_simp; first | done | rfl | exact ⟨rfl, rfl⟩) ⟨_, 0, rfl⟩ ?_ ?_; (focus (intro a' w' _ hcl; go_simp; exact new_phi hcl.1)); (intro v hv; obtain ⟨gv, rfl⟩ := hv; go_simp; refine hK _ ?_; clear hK K)) | (apply Loose.walk_step; intro K hK; refine LooseP.turn_allocP (φ := phiB wc1.heap.size) (d := 4) (ob := .cells #[.int .i64 0, .int .i64 0, .slice none 0 0] 33) hst (Nat.le_refl _) rfl rfl (two_second (by decide)) (by intro w'; go_simp; first | done | rfl | exact ⟨rfl, rfl⟩) (fun w' hw' => ⟨_, rfl, hw', new_block _ _⟩) ?_; (intro Sb hSb; go_simp; refine hK _ ?_; clear hK K)))
  refine Loose.walk_nil ?_
  intro w3 hcls3
  have hb3 := hcls3.1
  obtain ⟨g3, hg3, ho3⟩ := hcls3.at (v := bV W H (some ⟨gv, 0, none⟩) 0 0) (List.mem_cons_self ..) rfl (by simp [undef])
  obtain rfl : gv = g3 := by simpa using hg3
  obtain ⟨S3, hS3, _, hq3⟩ := hcls3.at (v := .pointer (some ⟨Sb, 0, none⟩)) (List.mem_cons_of_mem _ (List.mem_singleton.2 rfl)) rfl (by simp [undef])
  obtain rfl : Sb = S3 := by simpa using hS3
  clear hcls3 hst hg3 hS3
  have c30 := (cells_of (i := 0) hq3).trans (show _ = some (.int .i64 0) from rfl)
  have c31 := (cells_of (i := 1) hq3).trans (show _ = some (.int .i64 0) from rfl)
  have c32 := (cells_of (i := 2) hq3).trans (show _ = some (.slice none 0 0) from rfl)
  have f30 := free_of hq3 0
  have f31 := free_of hq3 1
  have f32 := free_of hq3 2
  have lS3 := block_lt hq3
  have HQ3 := Lib.hid hq3
  have HO3 := Lib.hid ho3
  have HB3 := Lib.hid hb3
  clear ho3 hb3 e20 e21 e22 hq3
  obtain ⟨i0, hi, hz0, hz1, hz2⟩ := info_parts Nums.A_info32
  have HS0 := Lib.hid (show ((((w3.setCell ⟨Sb, 0, none⟩ (.int .i64 W)).setCell ⟨Sb, 1, none⟩ (.int .i64 H)).setCell ⟨Sb, 2, none⟩ (.slice (some ⟨gv, 0, none⟩) 0 0)).heap[Sb]? = some (.cells #[.int .i64 W, .int .i64 H, .slice (some ⟨gv, 0, none⟩) 0 0] 33)) from by simpa using setCell_block (setCell_block (setCell_block HQ3.out 0 (.int .i64 W)) 1 (.int .i64 H)) 2 (.slice (some ⟨gv, 0, none⟩) 0 0))
  have HO0 := Lib.hid (own_set (i := 2) (u := .slice (some ⟨gv, 0, none⟩) 0 0) (own_set (i := 1) (u := .int .i64 H) (own_set (i := 0) (u := .int .i64 W) HO3.out HQ3.out (by decide)) (setCell_block HQ3.out 0 _) (by decide)) (setCell_block (setCell_block HQ3.out 0 _) 1 _) (by decide))
  have HB0 := Lib.hid (show Below wc1.heap.size wc1 (((w3.setCell ⟨Sb, 0, none⟩ (.int .i64 W)).setCell ⟨Sb, 1, none⟩ (.int .i64 H)).setCell ⟨Sb, 2, none⟩ (.slice (some ⟨gv, 0, none⟩) 0 0)) from Below.setCell (Below.setCell (Below.setCell HB3.out hSb (p := ⟨Sb, 0, none⟩) _) hSb (p := ⟨Sb, 1, none⟩) _) hSb (p := ⟨Sb, 2, none⟩) _)
  have hz3 := HB3.out.size
  go_wp2
  go_loopw [5, 53] (fun i s wr => ∃ (k : Nat) (v : Value) (xs : List Value), (∀ b, s = .slice (some ⟨b, 0, none⟩) 1 1 → b < wr.heap.size) ∧ k ≤ n ∧ i = .int .i64 k ∧ wr.heap[Sb]? = some (.cells #[.int .i64 W, .int .i64 H, v] 33) ∧ wr.ownsRow wc1.heap.size 22 1 v k xs ∧ FPts k (fun k => op2 .sub .f32 (fourC c W H ((k : Int) % W) ((k : Int) / W)) (op2 .mul .f32 (some 1082130432) (c k))) xs ∧ Below wc1.heap.size wc1 wr)
    (fun i _ _ => n - (intOf i).toNat)
  case atStart => exact ⟨0, _, [], by intro b hb; simp [undef] at hb, Nat.zero_le _, rfl, HS0.out, HO0.out, FPts.nil _, HB0.out⟩
  case round =>
    obtain ⟨k, v, xs, hsl, hk, rfl, hblk, hown, hpts, hbel⟩ := hrel
    have HSL := Lib.hid hsl
    have HBK := Lib.hid hblk
    have HO := Lib.hid hown
    have HP := Lib.hid hpts
    have HB := Lib.hid hbel
    have hSl := block_lt hblk
    have s0 := (cells_of (i := 0) hblk).trans (show _ = some (.int .i64 W) from rfl)
    have s1 := (cells_of (i := 1) hblk).trans (show _ = some (.int .i64 H) from rfl)
    have s2 := (cells_of (i := 2) hblk).trans (show _ = some v from rfl)
    have fS := free_of hblk 2
    have hbs := hbel.size
    have q2 : wr.heap[G]? = some (.cells #[.int .i64 W, .int .i64 H, .slice a n cap] 33) := by rw [hbel.block _ (by omega)]; exact Q2.out
    have Q2 := Lib.hid q2
    have l2 := block_lt q2
    have e20 := (cells_of (i := 0) q2).trans (show _ = some (.int .i64 W) from rfl)
    have e21 := (cells_of (i := 1) q2).trans (show _ = some (.int .i64 H) from rfl)
    have e22 := (cells_of (i := 2) q2).trans (show _ = some (.slice a n cap) from rfl)
    clear q2
    clear hsl hblk hown hpts hbel
    by_cases hlt : k < n
    · have hN := HN.out
      have hkN : (k : Int) < W * H := by omega
      have hwm : IntKind.i64.wrap (W * H) = W * H := IntWalk.i64_in _ (by omega)
      clear hN
      go_wp2
      go_quiet (fail)
      obtain ⟨wr', hwr⟩ : ∃ x, x = wr.drewN nq := ⟨_, rfl⟩
      rw [← hwr]
      have HSL := Lib.hid (show ∀ b, u53 = .slice (some ⟨b, 0, none⟩) 1 1 → b < wr'.heap.size by rw [hwr]; exact HSL.out)
      have HBK := Lib.hid (show wr'.heap[Sb]? = some (.cells #[.int .i64 W, .int .i64 H, v] 33) by rw [hwr]; exact HBK.out)
      have HO := Lib.hid (show wr'.ownsRow wc1.heap.size 22 1 v k xs by rw [hwr]; exact HO.out)
      have HB := Lib.hid (show Below wc1.heap.size wc1 wr' by rw [hwr]; exact below_drewN HB.out _)
      have hSl : Sb < wr'.heap.size := by rw [hwr]; exact hSl
      have s0 : wr'.cell? ⟨Sb, 0, none⟩ = some (.int .i64 W) := by rw [hwr]; exact s0
      have s1 : wr'.cell? ⟨Sb, 1, none⟩ = some (.int .i64 H) := by rw [hwr]; exact s1
      have s2 : wr'.cell? ⟨Sb, 2, none⟩ = some v := by rw [hwr]; exact s2
      have fS : wr'.frozen? ⟨Sb, 2, none⟩ = false := by rw [hwr]; exact fS
      have hbs : wc1.heap.size ≤ wr'.heap.size := by rw [hwr]; exact hbs
      have Q2 := Lib.hid (show wr'.heap[G]? = some (.cells #[.int .i64 W, .int .i64 H, .slice a n cap] 33) by rw [hwr]; exact Q2.out)
      have l2 : G < wr'.heap.size := by rw [hwr]; exact l2
      have e20 : wr'.cell? ⟨G, 0, none⟩ = some (.int .i64 W) := by rw [hwr]; exact e20
      have e21 : wr'.cell? ⟨G, 1, none⟩ = some (.int .i64 H) := by rw [hwr]; exact e21
      have e22 : wr'.cell? ⟨G, 2, none⟩ = some (.slice a n cap) := by rw [hwr]; exact e22
      clear hwr
      obtain ⟨wr, hwr⟩ : ∃ x, x = wr' := ⟨_, rfl⟩
      subst hwr
      clear s0 s1
      have hN := HN.out
      have HX := Lib.hid (H6.out.later (HBW.out.trans (HB.out.mono (by omega))))
      have hkN : (k : Int) < W * H := by omega
      have hwW : 0 < W := by omega
      have hm0 := Int.emod_nonneg (k : Int) (show W ≠ 0 by omega)
      have hm1 := Int.emod_lt_of_pos (k : Int) hwW
      have hd0 : 0 ≤ (k : Int) / W := Int.ediv_nonneg (by omega) (by omega)
      have hd1 : (k : Int) / W ≤ (k : Int) := Int.ediv_le_self _ (by omega)
      have hWz : (W == 0) = false := by simp; omega
      have ht : (k : Int).tmod W = (k : Int) % W := Int.tmod_eq_emod_of_nonneg (by omega)
      have hq : (k : Int).tdiv W = (k : Int) / W := Int.tdiv_eq_ediv_of_nonneg (by omega)
      have hw1 : IntKind.i64.wrap ((k : Int) % W) = (k : Int) % W := IntWalk.i64_in _ (by omega)
      have hw2 : IntKind.i64.wrap ((k : Int) / W) = (k : Int) / W := IntWalk.i64_in _ (by omega)
      have hwz : W ≠ 0 := by omega
      obtain ⟨h2, h3, b, off, h5, h6⟩ := H6.out
      obtain rfl := h5 (by omega)
      obtain ⟨x, hsrc, fx, hlb⟩ := at_y h6 hlt (HBW.out.trans (HB.out.mono (by omega)))
      clear h5 h6
      clear hN
      go_wp2_with fail
      refine LooseS.wp_region 26 53 (fun ob => ∃ r, ob = .cells #[.float .f32 r] 22 ∧ Fr .f32 r (op2 .sub .f32 (fourC c W H ((k : Int) % W) ((k : Int) / W)) (op2 .mul .f32 (some 1082130432) (c k)))) (by kernel_rfl) (by kernel_rfl) (by intro b hb; exact HSL.out b (by simpa using hb)) ?_
      apply Exists.intro
      simp only [List.take_succ_cons, List.take_zero, List.drop_succ_cons, List.drop_zero]
      repeat (first | (apply Loose.walk_step; intro K hK; apply LooseS.turn_value (hwant := rfl) (hd := rfl); (focus (intro w' hw'; obtain ⟨hc, hf⟩ := Fl.bcell hw'; go_simp; first | done | rfl | exact ⟨rfl, rfl⟩)); go_simp; refine hK _ ?_; clear hK K) | (apply Loose.walk_step; intro K hK; apply LooseS.turn_callF (Nat.le_refl _) (hwant := rfl) (hd := rfl); (focus (intro w'; go_simp; first | done | rfl | exact ⟨rfl, rfl⟩)); (focus (intro w' hw'; go_at_call 138; exact spec_four G W H _ n cap c w' (HX.out.later hw') HSS.out.1 HSS.out.2.1 HSS.out.2.2.1 ((k : Int) % W) ((k : Int) / W) (by omega) (by omega) ((hw'.cell l2).trans e20) ((hw'.cell l2).trans e21) ((hw'.cell l2).trans e22))); intro r hr; go_simp; refine hK _ ?_; clear hK K) | (apply Loose.walk_step; intro K hK; refine LooseS.turn_fl (Nat.le_refl _) rfl rfl rfl rfl rfl rfl (by assumption) (by assumption) ?_; intro r hr; go_simp; refine hK _ ?_; clear hK K) | (apply Loose.walk_step; intro K hK; apply LooseS.turn_row (Nat.le_refl _) (hwant := rfl) (hdst := rfl) (hφ := ⟨_, rfl, by assumption⟩); (focus (intro w'; go_simp; first | done | rfl | exact ⟨rfl, rfl⟩)); intro b4 hb4B; go_simp; refine hK _ ?_; clear hK K))
      refine Loose.walk_nil ?_
      intro w4 hcls4
      obtain ⟨hb4, hrow4⟩ := hcls4
      obtain ⟨ob4, hob4, q, rfl, fq⟩ := hrow4 _ hb4B rfl
      have hz4 := hb4.size
      have hS4 : w4.heap[Sb]? = some (.cells #[.int .i64 W, .int .i64 H, v] 33) := by rw [hb4.block _ hSl]; exact HBK.out
      have HS4 := Lib.hid hS4
      have HO4 := Lib.hid (own_below HO.out hb4)
      have HB4 := Lib.hid (HB.out.trans (hb4.mono HB.out.size))
      have HOB4 := Lib.hid hob4
      have hb4l := block_lt hob4
      have l4 := block_lt hS4
      clear hS4 hb4 hrow4 hob4 e20 e21 e22 s2 fS
      go_wp2_with (first
        | (
          at_builtin
          refine wpList_append_own _ rfl (.tmp 29) (.tmp 53) 29 rfl wc1.heap.size 22 i0 (.float .f32 0) 1 4 Try.underlying29 hi hz0 hz1 hz2 rfl (by decide) v k xs rfl HO4.out ⟨b4, 0, none⟩ 1 1 [.float .f32 q] rfl rfl (row_cell HOB4.out) (by intro u hu; rw [List.mem_singleton.1 hu]; rfl) (by unfold maxLen; omega) (by omega) (by omega) ?_
          intro v5 w5 hown5 hgrow5 hnil5
          obtain ⟨g5, cap5, rfl⟩ := Joins.ownsRow_form hown5 (by omega)
          have hz45 := hgrow5.size
          obtain ⟨hS5, hb5⟩ := appended HS4.out HO4.out HB4.out (by omega) hgrow5 (by decide)
          have d50 := (cells_of (i := 2) hS5).trans (show _ = some v from rfl)
          have f50 := free_of hS5 2
          have l5 := block_lt hS5
          have HS5 := Lib.hid hS5
          have HO5 := Lib.hid hown5
          have HB5 := Lib.hid hb5
          clear hS5 hown5 hgrow5 hnil5 hb5
          skip))
      go_roundw
      case rel => exact ⟨k + 1, _, _, by intro b hb; simp at hb; subst hb; simp; omega, by omega, by go_num, setCell_block HS5.out 2 _, own_set HO5.out HS5.out (by decide), HP.out.next fq, Below.setCell HB5.out (by omega) (p := ⟨Sb, 2, none⟩) _⟩
      case measure => simp [intOf]; omega
    · obtain rfl : n = k := by omega
      have hN := HN.out
      have hge : ¬ (n : Int) < W * H := by omega
      have hwm : IntKind.i64.wrap (W * H) = W * H := IntWalk.i64_in _ (by omega)
      clear hN
      go_wp2
      go_quiet (fail)
      obtain ⟨wr', hwr⟩ : ∃ x, x = wr.drewN nq := ⟨_, rfl⟩
      rw [← hwr]
      have HSL := Lib.hid (show ∀ b, u53 = .slice (some ⟨b, 0, none⟩) 1 1 → b < wr'.heap.size by rw [hwr]; exact HSL.out)
      have HBK := Lib.hid (show wr'.heap[Sb]? = some (.cells #[.int .i64 W, .int .i64 H, v] 33) by rw [hwr]; exact HBK.out)
      have HO := Lib.hid (show wr'.ownsRow wc1.heap.size 22 1 v n xs by rw [hwr]; exact HO.out)
      have HB := Lib.hid (show Below wc1.heap.size wc1 wr' by rw [hwr]; exact below_drewN HB.out _)
      have hSl : Sb < wr'.heap.size := by rw [hwr]; exact hSl
      have s0 : wr'.cell? ⟨Sb, 0, none⟩ = some (.int .i64 W) := by rw [hwr]; exact s0
      have s1 : wr'.cell? ⟨Sb, 1, none⟩ = some (.int .i64 H) := by rw [hwr]; exact s1
      have s2 : wr'.cell? ⟨Sb, 2, none⟩ = some v := by rw [hwr]; exact s2
      have fS : wr'.frozen? ⟨Sb, 2, none⟩ = false := by rw [hwr]; exact fS
      have hbs : wc1.heap.size ≤ wr'.heap.size := by rw [hwr]; exact hbs
      have Q2 := Lib.hid (show wr'.heap[G]? = some (.cells #[.int .i64 W, .int .i64 H, .slice a n cap] 33) by rw [hwr]; exact Q2.out)
      have l2 : G < wr'.heap.size := by rw [hwr]; exact l2
      have e20 : wr'.cell? ⟨G, 0, none⟩ = some (.int .i64 W) := by rw [hwr]; exact e20
      have e21 : wr'.cell? ⟨G, 1, none⟩ = some (.int .i64 H) := by rw [hwr]; exact e21
      have e22 : wr'.cell? ⟨G, 2, none⟩ = some (.slice a n cap) := by rw [hwr]; exact e22
      clear hwr
      obtain ⟨wr, hwr⟩ : ∃ x, x = wr' := ⟨_, rfl⟩
      subst hwr
      obtain ⟨av, capv, rfl, hio⟩ := isO_of HO.out HP.out (by omega)
      have HIO := Lib.hid hio
      clear hio
      have q4 : wr.heap[w.heap.size]? = some (.cells #[.int .i64 0, .int .i64 0, .slice none 0 0] 33) := by rw [HB.out.block _ (by omega)]; exact Q4.out
      have Q4r := Lib.hid q4
      have l4 := block_lt q4
      clear q4
      go_wp2_with fail
      refine (HG.out _ _ _ HIO.out.y).mono ?_
      rintro e w9 ⟨rfl, hb9⟩
      have hz9 := hb9.size
      have hq9 := keep_block hb9 Q4r.out
      have c90 := (cells_of (i := 0) hq9).trans (show _ = some (.int .i64 0) from rfl)
      have c91 := (cells_of (i := 1) hq9).trans (show _ = some (.int .i64 0) from rfl)
      have c92 := (cells_of (i := 2) hq9).trans (show _ = some (.slice none 0 0) from rfl)
      have f90 := free_of hq9 0
      have f91 := free_of hq9 1
      have f92 := free_of hq9 2
      have HIO9 := Lib.hid (HIO.out.later hb9)
      have HB9 := Lib.hid ((HBW.out.trans (HB.out.mono (by omega))).trans (hb9.mono (by omega)))
      clear hq9 hb9 e20 e21 e22 s0 s1 s2
      cases R
      all_goals
        go_wp2
        have hR := HR.out
        simp only [Bool.false_eq_true, if_false, if_true] at hR
        obtain ⟨rfl, rfl, rfl⟩ := hR
      · refine bodyPost_ret ?ohr rfl ⟨none, 0, rfl, isO_nil _ _ _ _, ?obel⟩
        case ohr => simp [results, Try.results139, go_sem, *]
        case obel => exact Below.setCell (Below.setCell (Below.setCell HB9.out (by simp) (p := ⟨w.heap.size, 0, none⟩) _) (by simp) (p := ⟨w.heap.size, 1, none⟩) _) (by simp) (p := ⟨w.heap.size, 2, none⟩) _
      · refine bodyPost_ret ?ohr rfl ⟨av, capv, rfl, ?oio, ?obel⟩
        case ohr => simp [results, Try.results139, go_sem, *]
        case oio =>
          refine (HIO9.out.keep fun g hg _ _ => ?_).wider (by omega) (by simp; omega)
          rw [set_keep _ _ _ (by omega), set_keep _ _ _ (by omega), set_keep _ _ _ (by omega)]
        case obel => exact Below.setCell (Below.setCell (Below.setCell HB9.out (by simp) (p := ⟨w.heap.size, 0, none⟩) _) (by simp) (p := ⟨w.heap.size, 1, none⟩) _) (by simp) (p := ⟨w.heap.size, 2, none⟩) _

theorem laplace_at {W H : Int} {c : Nat → Option Nat} {x y : Nat} (hW : 3 ≤ W) (hx : (x : Int) < W) (hy : (y : Int) < H) : op2 .sub .f32 (fourC c W H (x : Int) (y : Int)) (op2 .mul .f32 (some 1082130432) (c (idx W H (x : Int) (y : Int)))) = (fun k : Nat => op2 .sub .f32 (fourC c W H ((k : Int) % W) ((k : Int) / W)) (op2 .mul .f32 (some 1082130432) (c k))) ((W * (y : Int)).toNat + x) := by
  have hdm := cell_divmod (y := y) hW hx
  show _ = op2 .sub .f32 (fourC c W H ((((W * (y : Int)).toNat + x : Nat) : Int) % W) ((((W * (y : Int)).toNat + x : Nat) : Int) / W)) (op2 .mul .f32 (some 1082130432) (c ((W * (y : Int)).toNat + x)))
  rw [hdm.1, hdm.2, idx_cell hx hy]

end Ba
end Go.Proofs.Ytjkkefbfhapblab
