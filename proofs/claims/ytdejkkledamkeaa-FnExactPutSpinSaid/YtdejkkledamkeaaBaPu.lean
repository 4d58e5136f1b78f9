/- One number put into a basin. -/
import Derived.Test.YtdejkkledamkeaaBaOw
import Derived.Test.YtdejkkledamkeaaBaC
namespace Go.Proofs.Ytdejkkledamkeaa
set_option linter.unusedSimpArgs false
set_option linter.unusedVariables false
open Go.RowKit
set_option maxRecDepth 20000
namespace Ba
open Fl Rate

set_option maxHeartbeats 6400000 in
theorem spec_PutB (W H : Int) (a : Option Addr) (n cap : Nat) (c : Nat → Option Nat) (w : World) (h : IsY w a n cap c) (A : Bool) (hA : okB W H n c = A) (x y : Int) (s : Nat) (d : Option Nat) (fy : Fr .f32 s d) : Calls Try.prog 29 #[bV W H a n cap, .int .i64 x, .int .i64 y, .float .f32 s] w (RetG ((A && cellB W H x y) && allF (fun k => if k = (W * y + x).toNat then d else c k) n) W H n (fun k => if k = (W * y + x).toNat then d else c k) w) := by
  have HV := Lib.hid (fun G w' (hb : Below w.heap.size w w') e0 e1 e2 => spec_cell G W H a n cap c w' (h.later hb) A hA x y e0 e1 e2)
  cases hB : (A && cellB W H x y)
  · rw [hB] at HV
    clear hA h hB
    show Calls _ _ _ w (RetG false W H n _ w)
    go_enter Try.func29, Try.ntmps29
    go_wp2_with fail
    refine (HV.out _ _ (by (repeat' first | exact Below.refl _ _ | (refine Below.setCell ?_ (by first | omega | (simp; omega) | simp) _) | (refine below_drewN ?_ _) | (refine Below.alloc ?_ (by first | omega | (simp; omega) | simp) _) | (refine Below.trans ?_ (Below.mono (by assumption) (by first | omega | (simp; omega) | simp))))) (by simp) (by simp) (by simp)).mono ?_
    rintro e w1 ⟨rfl, hb1⟩
    have hz1 := hb1.size
    try simp only [World.size_alloc, World.size_setCell, World.heap_drewN, World.size_drew] at hz1
    obtain ⟨hc1, hf1⟩ := Fl.bcell hb1
    try simp only [World.heap_drewN, World.cell?_drewN, World.frozen?_drewN] at hc1 hf1
    have g1_0 : w.heap.size < w1.heap.size := by omega
    have g1_1 : w.heap.size + 1 < w1.heap.size := by omega
    go_wp2
    refine bodyPost_ret ?ohr rfl (retG_no ?obel)
    case ohr => simp [results, Try.results29, go_sem, *]
    case obel => (repeat' first | exact Below.refl _ _ | (refine Below.setCell ?_ (by first | omega | (simp; omega) | simp) _) | (refine below_drewN ?_ _) | (refine Below.alloc ?_ (by first | omega | (simp; omega) | simp) _) | (refine Below.trans ?_ (Below.mono (by assumption) (by first | omega | (simp; omega) | simp))))
  rw [hB] at HV
  rw [Bool.and_eq_true] at hB
  obtain ⟨rfl, hC⟩ := hB
  rw [Bool.true_and]
  have hk := cell_of hC
  have hs := okB_of hA
  have hn9 := okB_n hA
  have sW := side_of hs.1
  have sH := side_of hs.2.1
  obtain ⟨xn, rfl⟩ : ∃ xn : Nat, x = (xn : Int) := ⟨x.toNat, by omega⟩
  obtain ⟨yn, rfl⟩ : ∃ yn : Nat, y = (yn : Int) := ⟨y.toNat, by omega⟩
  have hr0 : 0 ≤ W * (yn : Int) := Int.mul_nonneg (by omega) (by omega)
  have hr1 : W * ((yn : Int) + 1) ≤ (n : Int) := by rw [hs.2.2.1]; exact Int.mul_le_mul_of_nonneg_left (by omega) (by omega)
  have hr2 : W * ((yn : Int) + 1) = W * (yn : Int) + W := by rw [Int.mul_add, Int.mul_one]
  have hJJ : (W * (yn : Int) + (xn : Int)).toNat = (W * (yn : Int)).toNat + xn := by omega
  rw [hJJ]
  have hJb : (W * (yn : Int)).toNat + xn < n := by omega
  obtain ⟨J, hJ⟩ : ∃ J, (W * (yn : Int)).toNat + xn = J := ⟨_, rfl⟩
  rw [hJ]
  have hJn : J < n := by omega
  have hw1 : IntKind.i64.wrap (W * (yn : Int)) = W * (yn : Int) := IntWalk.i64_in _ (by omega)
  have hw2 : IntKind.i64.wrap ((xn : Int) + W * (yn : Int)) = (J : Int) := by rw [IntWalk.i64_in _ (by omega)]; omega
  obtain ⟨R, hR0⟩ : ∃ R, allF (fun k => if k = J then d else c k) n = R := ⟨_, rfl⟩
  have hok : okB W H n (fun k => if k = J then d else c k) = R := by
    unfold okB
    rw [hs.1, hs.2.1, hR0, decide_eq_true hs.2.2.1]; rfl
  have HG := Lib.hid (fun a cap w (h : IsY w a n cap (fun k => if k = J then d else c k)) => spec_give W H a n cap _ w h R hok)
  rw [hR0]
  unfold RetG
  obtain ⟨W', hW'⟩ : ∃ W' : Int, (if R then W else 0) = W' := ⟨_, rfl⟩
  obtain ⟨H', hH'⟩ : ∃ H' : Int, (if R then H else 0) = H' := ⟨_, rfl⟩
  obtain ⟨N', hN'⟩ : ∃ N' : Nat, (if R then n else 0) = N' := ⟨_, rfl⟩
  rw [hW', hH', hN']
  have HR := Lib.hid (And.intro hW' (And.intro hH' hN'))
  clear hR0 hok hW' hH' hN'
  have H6 := Lib.hid h
  clear h hs hA hJ hr0 hr1 hr2 hJJ hJb
  go_enter Try.func29, Try.ntmps29
  go_wp2_with fail
  refine (HV.out _ _ (by (repeat' first | exact Below.refl _ _ | (refine Below.setCell ?_ (by first | omega | (simp; omega) | simp) _) | (refine below_drewN ?_ _) | (refine Below.alloc ?_ (by first | omega | (simp; omega) | simp) _) | (refine Below.trans ?_ (Below.mono (by assumption) (by first | omega | (simp; omega) | simp))))) (by simp) (by simp) (by simp)).mono ?_
  rintro e wc1 ⟨rfl, hb1⟩
  have hz1 := hb1.size
  simp only [World.size_alloc] at hz1
  have q2 := keep_block hb1 (alloc_block (o' := .cells #[.int .i64 0, .int .i64 0, .slice none 0 0] 27) (new_block w (.cells #[.int .i64 W, .int .i64 H, .slice a n cap] 27)))
  have q4 : wc1.heap[w.heap.size + 1]? = some (.cells #[.int .i64 0, .int .i64 0, .slice none 0 0] 27) := keep_block hb1 (by simpa using new_block (w.alloc (.cells #[.int .i64 W, .int .i64 H, .slice a n cap] 27)) (.cells #[.int .i64 0, .int .i64 0, .slice none 0 0] 27))
  have HBW := Lib.hid (show Below w.heap.size w wc1 by (repeat' first | exact Below.refl _ _ | (refine Below.setCell ?_ (by first | omega | (simp; omega) | simp) _) | (refine below_drewN ?_ _) | (refine Below.alloc ?_ (by first | omega | (simp; omega) | simp) _) | (refine Below.trans ?_ (Below.mono (by assumption) (by first | omega | (simp; omega) | simp)))))
  have Q2 := Lib.hid q2
  have l2 := block_lt q2
  have e20 := (cells_of (i := 0) q2).trans (show _ = some (.int .i64 W) from rfl)
  have e21 := (cells_of (i := 1) q2).trans (show _ = some (.int .i64 H) from rfl)
  have e22 := (cells_of (i := 2) q2).trans (show _ = some (.slice a n cap) from rfl)
  clear q2
  have Q4 := Lib.hid q4
  have l4 := block_lt q4
  clear q4
  clear hb1
  go_wp2_with fail
  refine (spec_own w.heap.size W H a n cap c _ (H6.out.later HBW.out) Q2.out hn9).mono ?_
  rintro e w3 ⟨a3, cap3, rfl, ho3, hb3⟩
  clear e20 e21 e22
  have hz3 := hb3.size
  have q2 := keep_block hb3 Q2.out
  have q4 := keep_block hb3 Q4.out
  obtain ⟨g, rfl, hg1, hg2, hg3, hcap, hmx, hfr, _, hcell⟩ := isO_cell ho3 (by omega)
  obtain ⟨x0, hx0⟩ := hcell _ hJn
  have hfJ := hfr J
  have hgn : ¬ w3.heap.size = g := by omega
  have hgn' : ¬ g = w3.heap.size := by omega
  have hgk : ¬ w.heap.size = g := by omega
  have hgk' : ¬ g = w.heap.size := by omega
  have Q4r := Lib.hid q4
  have l40 := block_lt q4
  have l20 := block_lt q2
  have e20 := (cells_of (i := 0) q2).trans (show _ = some (.int .i64 W) from rfl)
  have HO3 := Lib.hid ho3
  have HB3 := Lib.hid (HBW.out.trans (hb3.mono (by omega)))
  clear q2 q4 ho3 hb3 hfr hcell
  go_wp2_with fail
  refine (HG.out _ _ _ ((isO_put HO3.out fy hJn).alloc _).y).mono ?_
  rintro e w9 ⟨rfl, hb9⟩
  have hz9 := hb9.size
  simp only [World.size_setCell, World.size_alloc] at hz9
  have hq9 : w9.heap[w.heap.size + 1]? = some (.cells #[.int .i64 0, .int .i64 0, .slice none 0 0] 27) := keep_block hb9 (alloc_block ((set_keep _ _ _ (by omega)).trans Q4r.out))
  have c90 := (cells_of (i := 0) hq9).trans (show _ = some (.int .i64 0) from rfl)
  have c91 := (cells_of (i := 1) hq9).trans (show _ = some (.int .i64 0) from rfl)
  have c92 := (cells_of (i := 2) hq9).trans (show _ = some (.slice none 0 0) from rfl)
  have f90 := free_of hq9 0
  have f91 := free_of hq9 1
  have f92 := free_of hq9 2
  have HIO9 := Lib.hid (((isO_put HO3.out fy hJn).alloc (.cells #[.int .i64 W, .int .i64 H, .slice (some ⟨g, 0, none⟩) n cap3] 27)).later hb9)
  have HB9 := Lib.hid (((Below.setCell HB3.out (show w.heap.size ≤ g by omega) (p := ⟨g, J, none⟩) (.float .f32 s)).alloc (by simp; omega) (.cells #[.int .i64 W, .int .i64 H, .slice (some ⟨g, 0, none⟩) n cap3] 27)).trans (hb9.mono (by simp; omega)))
  clear hq9 hb9
  cases R
  all_goals
    go_wp2
    have hR := HR.out
    simp only [Bool.false_eq_true, if_false, if_true] at hR
    obtain ⟨rfl, rfl, rfl⟩ := hR
  · refine bodyPost_ret ?ohr rfl ⟨none, 0, rfl, isO_nil _ _ _ _, ?obel⟩
    case ohr => simp [results, Try.results29, go_sem, *]
    case obel => exact Below.setCell (Below.setCell (Below.setCell HB9.out (by simp) (p := ⟨w.heap.size + 1, 0, none⟩) _) (by simp) (p := ⟨w.heap.size + 1, 1, none⟩) _) (by simp) (p := ⟨w.heap.size + 1, 2, none⟩) _
  · refine bodyPost_ret ?ohr rfl ⟨some ⟨g, 0, none⟩, cap3, rfl, ?oio, ?obel⟩
    case ohr => simp [results, Try.results29, go_sem, *]
    case oio =>
      refine (HIO9.out.keep fun g hg _ _ => ?_).wider (by omega) (by simp; omega)
      rw [set_keep _ _ _ (by omega), set_keep _ _ _ (by omega), set_keep _ _ _ (by omega)]
    case obel => exact Below.setCell (Below.setCell (Below.setCell HB9.out (by simp) (p := ⟨w.heap.size + 1, 0, none⟩) _) (by simp) (p := ⟨w.heap.size + 1, 1, none⟩) _) (by simp) (p := ⟨w.heap.size + 1, 2, none⟩) _

set_option maxHeartbeats 6400000 in
theorem impl_PutB (W H : Int) (a : Option Addr) (n cap : Nat) (c : Nat → Option Nat) (w : World) (h : IsY w a n cap c) (A : Bool) (hA : okB W H n c = A) (x y : Int) (s : Nat) (d : Option Nat) (fy : Fr .f32 s d) : Calls Try.prog 30 #[bV W H a n cap, .int .i64 x, .int .i64 y, .float .f32 s] w (RetG ((A && cellB W H x y) && allF (fun k => if k = (W * y + x).toNat then d else c k) n) W H n (fun k => if k = (W * y + x).toNat then d else c k) w) := by
  have HV := Lib.hid (fun w' (hb : Below w.heap.size w w') => impl_valid W H a n cap c w' (h.later hb) A hA)
  have HH := Lib.hid (fun w' => impl_has W H a n cap x y w')
  cases A
  · clear hA h
    show Calls _ _ _ w (RetG false W H n _ w)
    go_enter Try.func30, Try.ntmps30
    go_wp2_with fail
    refine (HV.out _ (by (repeat' first | exact Below.refl _ _ | (refine Below.setCell ?_ (by first | omega | (simp; omega) | simp) _) | (refine below_drewN ?_ _) | (refine Below.alloc ?_ (by first | omega | (simp; omega) | simp) _) | (refine Below.trans ?_ (Below.mono (by assumption) (by first | omega | (simp; omega) | simp)))))).mono ?_
    rintro e w1 ⟨rfl, hb1⟩
    have hz1 := hb1.size
    try simp only [World.size_alloc, World.size_setCell, World.heap_drewN, World.size_drew] at hz1
    obtain ⟨hc1, hf1⟩ := Fl.bcell hb1
    try simp only [World.heap_drewN, World.cell?_drewN, World.frozen?_drewN] at hc1 hf1
    have g1_0 : w.heap.size < w1.heap.size := by omega
    have g1_1 : w.heap.size + 1 < w1.heap.size := by omega
    go_wp2
    refine bodyPost_ret ?ohr rfl (retG_no ?obel)
    case ohr => simp [results, Try.results30, go_sem, *]
    case obel => (repeat' first | exact Below.refl _ _ | (refine Below.setCell ?_ (by first | omega | (simp; omega) | simp) _) | (refine below_drewN ?_ _) | (refine Below.alloc ?_ (by first | omega | (simp; omega) | simp) _) | (refine Below.trans ?_ (Below.mono (by assumption) (by first | omega | (simp; omega) | simp))))
  cases hC : cellB W H x y
  · rw [hC] at HH
    clear hA h hC
    show Calls _ _ _ w (RetG false W H n _ w)
    go_enter Try.func30, Try.ntmps30
    go_wp2_with fail
    refine (HV.out _ (by (repeat' first | exact Below.refl _ _ | (refine Below.setCell ?_ (by first | omega | (simp; omega) | simp) _) | (refine below_drewN ?_ _) | (refine Below.alloc ?_ (by first | omega | (simp; omega) | simp) _) | (refine Below.trans ?_ (Below.mono (by assumption) (by first | omega | (simp; omega) | simp)))))).mono ?_
    rintro e w1 ⟨rfl, hb1⟩
    have hz1 := hb1.size
    try simp only [World.size_alloc, World.size_setCell, World.heap_drewN, World.size_drew] at hz1
    obtain ⟨hc1, hf1⟩ := Fl.bcell hb1
    try simp only [World.heap_drewN, World.cell?_drewN, World.frozen?_drewN] at hc1 hf1
    have g1_0 : w.heap.size < w1.heap.size := by omega
    have g1_1 : w.heap.size + 1 < w1.heap.size := by omega
    go_wp2_with fail
    refine (HH.out _).mono ?_
    rintro e w2 ⟨rfl, hb2⟩
    have hz2 := hb2.size
    try simp only [World.size_alloc, World.size_setCell, World.heap_drewN, World.size_drew] at hz2
    obtain ⟨hc2, hf2⟩ := Fl.bcell hb2
    try simp only [World.heap_drewN, World.cell?_drewN, World.frozen?_drewN] at hc2 hf2
    have g2_0 : w.heap.size < w2.heap.size := by omega
    have g2_1 : w.heap.size + 1 < w2.heap.size := by omega
    go_wp2
    refine bodyPost_ret ?ohr rfl (retG_no ?obel)
    case ohr => simp [results, Try.results30, go_sem, *]
    case obel => (repeat' first | exact Below.refl _ _ | (refine Below.setCell ?_ (by first | omega | (simp; omega) | simp) _) | (refine below_drewN ?_ _) | (refine Below.alloc ?_ (by first | omega | (simp; omega) | simp) _) | (refine Below.trans ?_ (Below.mono (by assumption) (by first | omega | (simp; omega) | simp))))
  rw [hC] at HH
  show Calls _ _ _ w (RetG (allF (fun k => if k = (W * y + x).toNat then d else c k) n) W H n _ w)
  have hk := cell_of hC
  have hs := okB_of hA
  have hn9 := okB_n hA
  have sW := side_of hs.1
  have sH := side_of hs.2.1
  obtain ⟨xn, rfl⟩ : ∃ xn : Nat, x = (xn : Int) := ⟨x.toNat, by omega⟩
  obtain ⟨yn, rfl⟩ : ∃ yn : Nat, y = (yn : Int) := ⟨y.toNat, by omega⟩
  have hr0 : 0 ≤ W * (yn : Int) := Int.mul_nonneg (by omega) (by omega)
  have hr1 : W * ((yn : Int) + 1) ≤ (n : Int) := by rw [hs.2.2.1]; exact Int.mul_le_mul_of_nonneg_left (by omega) (by omega)
  have hr2 : W * ((yn : Int) + 1) = W * (yn : Int) + W := by rw [Int.mul_add, Int.mul_one]
  have hJJ : (W * (yn : Int) + (xn : Int)).toNat = (W * (yn : Int)).toNat + xn := by omega
  rw [hJJ]
  have hJb : (W * (yn : Int)).toNat + xn < n := by omega
  have hJn := hJb
  have hHC := Lib.hid (fun w' (hb : Below w.heap.size w w') => impl_clone W H a n cap c w' (h.later hb) hn9)
  obtain ⟨R, hR0⟩ : ∃ R, allF (fun k => if k = ((W * (yn : Int)).toNat + xn) then d else c k) n = R := ⟨_, rfl⟩
  have hok : okB W H n (fun k => if k = ((W * (yn : Int)).toNat + xn) then d else c k) = R := by
    unfold okB
    rw [hs.1, hs.2.1, hR0, decide_eq_true hs.2.2.1]; rfl
  have HG := Lib.hid (fun a cap w (h : IsY w a n cap (fun k => if k = ((W * (yn : Int)).toNat + xn) then d else c k)) => impl_checked W H a n cap _ w h R hok)
  rw [hR0]
  unfold RetG
  obtain ⟨W', hW'⟩ : ∃ W' : Int, (if R then W else 0) = W' := ⟨_, rfl⟩
  obtain ⟨H', hH'⟩ : ∃ H' : Int, (if R then H else 0) = H' := ⟨_, rfl⟩
  obtain ⟨N', hN'⟩ : ∃ N' : Nat, (if R then n else 0) = N' := ⟨_, rfl⟩
  rw [hW', hH', hN']
  have HR := Lib.hid (And.intro hW' (And.intro hH' hN'))
  have HRR := Lib.hid hr1
  have hWt : (W.toNat : Int) = W := by omega
  have hxW : xn < W.toNat := by omega
  clear hR0 hok hW' hH' hN' h hs hA hr0 hr1 hr2 hJJ hJb
  go_enter Try.func30, Try.ntmps30
  go_wp2_with fail
  refine (HV.out _ (by (repeat' first | exact Below.refl _ _ | (refine Below.setCell ?_ (by first | omega | (simp; omega) | simp) _) | (refine below_drewN ?_ _) | (refine Below.alloc ?_ (by first | omega | (simp; omega) | simp) _) | (refine Below.trans ?_ (Below.mono (by assumption) (by first | omega | (simp; omega) | simp)))))).mono ?_
  rintro e w1 ⟨rfl, hb1⟩
  have hz1 := hb1.size
  try simp only [World.size_alloc, World.size_setCell, World.heap_drewN, World.size_drew] at hz1
  obtain ⟨hc1, hf1⟩ := Fl.bcell hb1
  try simp only [World.heap_drewN, World.cell?_drewN, World.frozen?_drewN] at hc1 hf1
  have g1_0 : w.heap.size < w1.heap.size := by omega
  have g1_1 : w.heap.size + 1 < w1.heap.size := by omega
  go_wp2_with fail
  refine (HH.out _).mono ?_
  rintro e w2 ⟨rfl, hb2⟩
  have hz1' := hb1.size
  have hz2' := hb2.size
  simp only [World.size_alloc] at hz1' hz2'
  have q2 := keep_block hb2 (keep_block hb1 (alloc_block (o' := .cells #[.int .i64 0, .int .i64 0, .slice none 0 0] 27) (new_block w (.cells #[.int .i64 W, .int .i64 H, .slice a n cap] 27))))
  have q4 : w2.heap[w.heap.size + 1]? = some (.cells #[.int .i64 0, .int .i64 0, .slice none 0 0] 27) := keep_block hb2 (keep_block hb1 (by simpa using new_block (w.alloc (.cells #[.int .i64 W, .int .i64 H, .slice a n cap] 27)) (.cells #[.int .i64 0, .int .i64 0, .slice none 0 0] 27)))
  have HBW := Lib.hid (show Below w.heap.size w w2 by (repeat' first | exact Below.refl _ _ | (refine Below.setCell ?_ (by first | omega | (simp; omega) | simp) _) | (refine below_drewN ?_ _) | (refine Below.alloc ?_ (by first | omega | (simp; omega) | simp) _) | (refine Below.trans ?_ (Below.mono (by assumption) (by first | omega | (simp; omega) | simp)))))
  clear hb1 hb2 hc1 hf1
  have Q2 := Lib.hid q2
  have l2 := block_lt q2
  have e20 := (cells_of (i := 0) q2).trans (show _ = some (.int .i64 W) from rfl)
  have e21 := (cells_of (i := 1) q2).trans (show _ = some (.int .i64 H) from rfl)
  have e22 := (cells_of (i := 2) q2).trans (show _ = some (.slice a n cap) from rfl)
  clear q2
  have Q4 := Lib.hid q4
  have l4 := block_lt q4
  clear q4
  go_wp2_with fail
  refine (hHC.out _ HBW.out).mono ?_
  rintro e w3 ⟨a3, cap3, rfl, ho3, hb3⟩
  clear e20 e21 e22
  have hz3 := hb3.size
  have q2 := keep_block hb3 Q2.out
  have q4 := keep_block hb3 Q4.out
  obtain ⟨g, rfl, hg1, hg2, hg3, hcap, hmx, hfr, _, hcell⟩ := isO_cell ho3 (by omega)
  obtain ⟨x0, hx0⟩ := hcell _ hJn
  have hfJ := hfr ((W * (yn : Int)).toNat + xn)
  have hgn : ¬ w3.heap.size = g := by omega
  have hgn' : ¬ g = w3.heap.size := by omega
  have hgk : ¬ w.heap.size = g := by omega
  have hgk' : ¬ g = w.heap.size := by omega
  have Q4r := Lib.hid q4
  have l40 := block_lt q4
  have l20 := block_lt q2
  have e20 := (cells_of (i := 0) q2).trans (show _ = some (.int .i64 W) from rfl)
  have HO3 := Lib.hid ho3
  have HB3 := Lib.hid (HBW.out.trans (hb3.mono (by omega)))
  clear q2 q4 ho3 hb3 hfr hcell
  go_wp2_with fail
  refine (row_run g n cap3 W (yn : Int) _ sW (by omega) HRR.out hcap hmx).mono ?_
  rintro e w4 ⟨rfl, rfl⟩
  go_wp2_with fail
  refine (HG.out _ _ _ ((isO_put HO3.out fy hJn).alloc _).y).mono ?_
  rintro e w9 ⟨rfl, hb9⟩
  have hz9 := hb9.size
  simp only [World.size_setCell, World.size_alloc] at hz9
  have hq9 : w9.heap[w.heap.size + 1]? = some (.cells #[.int .i64 0, .int .i64 0, .slice none 0 0] 27) := keep_block hb9 (alloc_block ((set_keep _ _ _ (by omega)).trans Q4r.out))
  have c90 := (cells_of (i := 0) hq9).trans (show _ = some (.int .i64 0) from rfl)
  have c91 := (cells_of (i := 1) hq9).trans (show _ = some (.int .i64 0) from rfl)
  have c92 := (cells_of (i := 2) hq9).trans (show _ = some (.slice none 0 0) from rfl)
  have f90 := free_of hq9 0
  have f91 := free_of hq9 1
  have f92 := free_of hq9 2
  have HIO9 := Lib.hid (((isO_put HO3.out fy hJn).alloc (.cells #[.int .i64 W, .int .i64 H, .slice (some ⟨g, 0, none⟩) n cap3] 27)).later hb9)
  have HB9 := Lib.hid (((Below.setCell HB3.out (show w.heap.size ≤ g by omega) (p := ⟨g, (W * (yn : Int)).toNat + xn, none⟩) (.float .f32 s)).alloc (by simp; omega) (.cells #[.int .i64 W, .int .i64 H, .slice (some ⟨g, 0, none⟩) n cap3] 27)).trans (hb9.mono (by simp; omega)))
  clear hq9 hb9
  cases R
  all_goals
    go_wp2
    have hR := HR.out
    simp only [Bool.false_eq_true, if_false, if_true] at hR
    obtain ⟨rfl, rfl, rfl⟩ := hR
  · refine bodyPost_ret ?ohr rfl ⟨none, 0, rfl, isO_nil _ _ _ _, ?obel⟩
    case ohr => simp [results, Try.results30, go_sem, *]
    case obel => exact Below.setCell (Below.setCell (Below.setCell HB9.out (by simp) (p := ⟨w.heap.size + 1, 0, none⟩) _) (by simp) (p := ⟨w.heap.size + 1, 1, none⟩) _) (by simp) (p := ⟨w.heap.size + 1, 2, none⟩) _
  · refine bodyPost_ret ?ohr rfl ⟨some ⟨g, 0, none⟩, cap3, rfl, ?oio, ?obel⟩
    case ohr => simp [results, Try.results30, go_sem, *]
    case oio =>
      refine (HIO9.out.keep fun g hg _ _ => ?_).wider (by omega) (by simp; omega)
      rw [set_keep _ _ _ (by omega), set_keep _ _ _ (by omega), set_keep _ _ _ (by omega)]
    case obel => exact Below.setCell (Below.setCell (Below.setCell HB9.out (by simp) (p := ⟨w.heap.size + 1, 0, none⟩) _) (by simp) (p := ⟨w.heap.size + 1, 1, none⟩) _) (by simp) (p := ⟨w.heap.size + 1, 2, none⟩) _

end Ba
end Go.Proofs.Ytdejkkledamkeaa
