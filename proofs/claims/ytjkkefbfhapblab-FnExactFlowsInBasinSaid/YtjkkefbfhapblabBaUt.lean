/- Flows: the model whole. -/
import Derived.Test.YtjkkefbfhapblabBaUs
namespace Go.Proofs.Ytjkkefbfhapblab
set_option linter.unusedSimpArgs false
set_option linter.unusedVariables false
open Go.RowKit
set_option maxRecDepth 20000
namespace Ba
open Fl Rate

theorem spec_FlowsB (W H : Int) (a : Option Addr) (n cap : Nat) (c : Nat → Option Nat) (w : World) (h : IsY w a n cap c) (A : Bool) (hA : okB W H n c = A) (T : Bool) (hT : ((A && allF (uF W H c) n) && allF (vF W H c) n) = T) : Calls Try.prog 16 #[bV W H a n cap] w (RetHW T (if T then W else 0) (if T then H else 0) (if T then n else 0) (uF W H c) (vF W H c) w) := by
  have HV := Lib.hid (fun G w' (hb : Below w.heap.size w w') e0 e1 e2 => spec_is G W H a n cap c w' e0 e1 e2 (h.later hb) A hA)
  cases A
  · obtain rfl : T = false := by rw [← hT]; rfl
    show Calls _ _ _ w (RetHW false 0 0 0 _ _ w)
    clear hA h hT
    go_enter Try.func16, Try.ntmps16
    go_wp2_with fail
    obtain ⟨wc, hwc⟩ : ∃ x, x = ((w.alloc (.cells #[.int .i64 W, .int .i64 H, .slice a n cap] 33)).alloc (.cells #[.int .i64 0, .int .i64 0, .slice none 0 0] 33)).alloc (.cells #[.int .i64 0, .int .i64 0, .slice none 0 0] 33) := ⟨_, rfl⟩
    rw [← hwc]
    have qp : wc.heap[w.heap.size]? = some (.cells #[.int .i64 W, .int .i64 H, .slice a n cap] 33) := by rw [hwc]; exact alloc_block (alloc_block (new_block _ _))
    have HZ := Lib.hid (show wc.heap[w.heap.size + 1]? = some (.cells #[.int .i64 0, .int .i64 0, .slice none 0 0] 33) ∧ wc.heap[w.heap.size + 2]? = some (.cells #[.int .i64 0, .int .i64 0, .slice none 0 0] 33) by rw [hwc]; exact ⟨alloc_block (by simpa using new_block (w.alloc (.cells #[.int .i64 W, .int .i64 H, .slice a n cap] 33)) (.cells #[.int .i64 0, .int .i64 0, .slice none 0 0] 33)), by simpa using new_block ((w.alloc (.cells #[.int .i64 W, .int .i64 H, .slice a n cap] 33)).alloc (.cells #[.int .i64 0, .int .i64 0, .slice none 0 0] 33)) (.cells #[.int .i64 0, .int .i64 0, .slice none 0 0] 33)⟩)
    have hbw : Below w.heap.size w wc := by rw [hwc]; exact (((Below.refl _ _).alloc (Nat.le_refl _) _).alloc (by simp) _).alloc (by simp; omega) _
    clear hwc
    refine (HV.out w.heap.size wc hbw ((cells_of (i := 0) qp).trans rfl) ((cells_of (i := 1) qp).trans rfl) ((cells_of (i := 2) qp).trans rfl)).mono ?_
    rintro e w1 ⟨rfl, hb1⟩
    have hz1 := hb1.size
    have qp1 := keep_block hb1 qp
    have HZ1 := Lib.hid (And.intro (keep_block hb1 HZ.out.1) (keep_block hb1 HZ.out.2))
    have HBW := Lib.hid (hbw.trans (hb1.mono hbw.size))
    clear HZ qp hb1 hbw
    have HZ := HZ1
    clear HZ1
    clear qp1
    have z0 := (cells_of (i := 0) HZ.out.1).trans (show _ = some (Value.int .i64 0) from rfl)
    have z1 := (cells_of (i := 1) HZ.out.1).trans (show _ = some (Value.int .i64 0) from rfl)
    have z2 := (cells_of (i := 2) HZ.out.1).trans (show _ = some (Value.slice none 0 0) from rfl)
    have y0 := free_of HZ.out.1 0
    have y1 := free_of HZ.out.1 1
    have y2 := free_of HZ.out.1 2
    have x0 := (cells_of (i := 0) HZ.out.2).trans (show _ = some (Value.int .i64 0) from rfl)
    have x1 := (cells_of (i := 1) HZ.out.2).trans (show _ = some (Value.int .i64 0) from rfl)
    have x2 := (cells_of (i := 2) HZ.out.2).trans (show _ = some (Value.slice none 0 0) from rfl)
    have t0 := free_of HZ.out.2 0
    have t1 := free_of HZ.out.2 1
    have t2 := free_of HZ.out.2 2
    have lz := block_lt HZ.out.1
    have lx := block_lt HZ.out.2
    go_wp2
    refine bodyPost_ret ?ohr rfl ⟨none, 0, none, 0, rfl, isO_nil _ _ _ _, isO_nil _ _ _ _, ?obel⟩
    case ohr => simp [results, Try.results16, go_sem, *]
    case obel =>
      have HBX := HBW.out
      iterate 6 (refine Below.setCell ?_ (by first | (show w.heap.size ≤ w.heap.size + 1; omega) | (show w.heap.size ≤ w.heap.size + 2; omega) | omega | (simp; omega) | simp) _)
      exact HBX
  have hT' : (allF (uF W H c) n && allF (vF W H c) n) = T := by rw [← hT]; rfl
  have HE := Lib.hid (fun (w' : World) (hb : Below w.heap.size w w') (hG : w'.heap[w.heap.size]? = some (.cells #[.int .i64 W, .int .i64 H, .slice a n cap] 33)) => spec_flows w.heap.size W H a n cap c w' (h.later hb) hG hA T hT')
  obtain ⟨W', hW'⟩ : ∃ W' : Int, (if T then W else 0) = W' := ⟨_, rfl⟩
  obtain ⟨H', hH'⟩ : ∃ H' : Int, (if T then H else 0) = H' := ⟨_, rfl⟩
  obtain ⟨N', hN'⟩ : ∃ N' : Nat, (if T then n else 0) = N' := ⟨_, rfl⟩
  rw [hW', hH', hN'] at HE ⊢
  clear hA h hT hT' hW' hH' hN'
  go_enter Try.func16, Try.ntmps16
  go_wp2_with fail
  obtain ⟨wc, hwc⟩ : ∃ x, x = ((w.alloc (.cells #[.int .i64 W, .int .i64 H, .slice a n cap] 33)).alloc (.cells #[.int .i64 0, .int .i64 0, .slice none 0 0] 33)).alloc (.cells #[.int .i64 0, .int .i64 0, .slice none 0 0] 33) := ⟨_, rfl⟩
  rw [← hwc]
  have qp : wc.heap[w.heap.size]? = some (.cells #[.int .i64 W, .int .i64 H, .slice a n cap] 33) := by rw [hwc]; exact alloc_block (alloc_block (new_block _ _))
  have HZ := Lib.hid (show wc.heap[w.heap.size + 1]? = some (.cells #[.int .i64 0, .int .i64 0, .slice none 0 0] 33) ∧ wc.heap[w.heap.size + 2]? = some (.cells #[.int .i64 0, .int .i64 0, .slice none 0 0] 33) by rw [hwc]; exact ⟨alloc_block (by simpa using new_block (w.alloc (.cells #[.int .i64 W, .int .i64 H, .slice a n cap] 33)) (.cells #[.int .i64 0, .int .i64 0, .slice none 0 0] 33)), by simpa using new_block ((w.alloc (.cells #[.int .i64 W, .int .i64 H, .slice a n cap] 33)).alloc (.cells #[.int .i64 0, .int .i64 0, .slice none 0 0] 33)) (.cells #[.int .i64 0, .int .i64 0, .slice none 0 0] 33)⟩)
  have hbw : Below w.heap.size w wc := by rw [hwc]; exact (((Below.refl _ _).alloc (Nat.le_refl _) _).alloc (by simp) _).alloc (by simp; omega) _
  clear hwc
  refine (HV.out w.heap.size wc hbw ((cells_of (i := 0) qp).trans rfl) ((cells_of (i := 1) qp).trans rfl) ((cells_of (i := 2) qp).trans rfl)).mono ?_
  rintro e w1 ⟨rfl, hb1⟩
  have hz1 := hb1.size
  have qp1 := keep_block hb1 qp
  have HZ1 := Lib.hid (And.intro (keep_block hb1 HZ.out.1) (keep_block hb1 HZ.out.2))
  have HBW := Lib.hid (hbw.trans (hb1.mono hbw.size))
  clear HZ qp hb1 hbw
  have HZ := HZ1
  clear HZ1
  go_wp2_with fail
  refine (HE.out _ HBW.out qp1).mono ?_
  rintro e w2 ⟨av, capv, bv, capw, rfl, ho, hp, hb2⟩
  have hz2 := hb2.size
  have HZ2 := Lib.hid (And.intro (keep_block hb2 HZ.out.1) (keep_block hb2 HZ.out.2))
  have HB2 := Lib.hid (HBW.out.trans (hb2.mono HBW.out.size))
  have HIO := Lib.hid ho
  have HIP := Lib.hid hp
  have lq := block_lt HZ.out.2
  clear HZ hb2 ho hp qp1 HBW
  have HZ := HZ2
  clear HZ2
  have z0 := (cells_of (i := 0) HZ.out.1).trans (show _ = some (Value.int .i64 0) from rfl)
  have z1 := (cells_of (i := 1) HZ.out.1).trans (show _ = some (Value.int .i64 0) from rfl)
  have z2 := (cells_of (i := 2) HZ.out.1).trans (show _ = some (Value.slice none 0 0) from rfl)
  have y0 := free_of HZ.out.1 0
  have y1 := free_of HZ.out.1 1
  have y2 := free_of HZ.out.1 2
  have x0 := (cells_of (i := 0) HZ.out.2).trans (show _ = some (Value.int .i64 0) from rfl)
  have x1 := (cells_of (i := 1) HZ.out.2).trans (show _ = some (Value.int .i64 0) from rfl)
  have x2 := (cells_of (i := 2) HZ.out.2).trans (show _ = some (Value.slice none 0 0) from rfl)
  have t0 := free_of HZ.out.2 0
  have t1 := free_of HZ.out.2 1
  have t2 := free_of HZ.out.2 2
  have lz := block_lt HZ.out.1
  have lx := block_lt HZ.out.2
  go_wp2
  refine bodyPost_ret ?ohr rfl ⟨av, capv, bv, capw, rfl, ?o1, ?o2, ?obel⟩
  case ohr => simp [results, Try.results16, go_sem, *]
  case o1 =>
    refine (HIO.out.keep fun g hg _ _ => ?_).wider (by omega) (by simp only [World.size_setCell]; omega)
    rw [set_keep _ _ _ (by show g ≠ w.heap.size + 2; omega), set_keep _ _ _ (by show g ≠ w.heap.size + 2; omega), set_keep _ _ _ (by show g ≠ w.heap.size + 2; omega), set_keep _ _ _ (by omega), set_keep _ _ _ (by omega), set_keep _ _ _ (by omega)]
  case o2 =>
    refine (HIP.out.keep fun g hg _ _ => ?_).wider (by omega) (by simp only [World.size_setCell]; omega)
    rw [set_keep _ _ _ (by show g ≠ w.heap.size + 2; omega), set_keep _ _ _ (by show g ≠ w.heap.size + 2; omega), set_keep _ _ _ (by show g ≠ w.heap.size + 2; omega), set_keep _ _ _ (by omega), set_keep _ _ _ (by omega), set_keep _ _ _ (by omega)]
  case obel =>
    have HBX := HB2.out
    iterate 6 (refine Below.setCell ?_ (by first | (show w.heap.size ≤ w.heap.size + 1; omega) | (show w.heap.size ≤ w.heap.size + 2; omega) | omega | (simp; omega) | simp) _)
    exact HBX

end Ba
end Go.Proofs.Ytjkkefbfhapblab
