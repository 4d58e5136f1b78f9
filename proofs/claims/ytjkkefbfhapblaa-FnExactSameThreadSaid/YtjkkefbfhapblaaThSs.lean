/- Whether threads are the same: the model's function. -/
import Derived.Test.YtjkkefbfhapblaaThSp
namespace Go.Proofs.Ytjkkefbfhapblaa
set_option linter.unusedSimpArgs false
set_option linter.unusedVariables false
open Go.RowKit
set_option maxRecDepth 20000
namespace Th
open Fl Rate

set_option maxHeartbeats 6400000 in
theorem spec_same (G G' : Nat) (a a' : Option Addr) (n n' cap cap' s s' : Nat) (cs cs' : Option Nat) (c c' : Nat → Option Nat) (w : World) (e0 : w.cell? ⟨G, 0, none⟩ = some (.slice a n cap)) (e1 : w.cell? ⟨G, 1, none⟩ = some (.float .f32 s)) (u0 : w.cell? ⟨G', 0, none⟩ = some (.slice a' n' cap')) (u1 : w.cell? ⟨G', 1, none⟩ = some (.float .f32 s')) (h : IsV w a n cap c) (h' : IsV w a' n' cap' c') (fs : Fr .f32 s cs) (fs' : Fr .f32 s' cs') (hn : n ≤ 1048576) (hn' : n' ≤ 1048576) (R : Bool) (hR : sameB n n' cs cs' c c' = R) :
    Calls Try.prog 59 #[.pointer (some ⟨G, 0, none⟩), .pointer (some ⟨G', 0, none⟩)] w (RetD (.bool R) w) := by
  have lG := block_lt_of_cell e0
  have lG' := block_lt_of_cell u0
  obtain ⟨h2, h3, b, off, h5, h6⟩ := h
  obtain ⟨h2', h3', b', off', h5', h6'⟩ := h'
  have H5 := Lib.hid h5
  have H6 := Lib.hid h6
  have H5' := Lib.hid h5'
  have H6' := Lib.hid h6'
  clear h5 h6 h5' h6'
  unfold maxLen at h3 h3'
  unfold sameB at hR
  by_cases hnn : ¬ n = n'
  · obtain rfl : R = false := by rw [← hR, decide_eq_false hnn]; rfl
    have hne : ¬ (n : Int) = (n' : Int) := by omega
    have hne3 : ((n : Int) != (n' : Int)) = true := by simpa using hne
    clear hR
    go_enter Try.func59, Try.ntmps59
    go_wp2_with fail
    have hst : ∀ p ∈ ([] : List (Nat × (Value → World → Prop))), LooseP.Stable p.2 := by intro p hp; cases hp
    refine LooseP.wp_region 22 [] (by kernel_rfl) (by kernel_rfl) (by intro p hp; cases hp) ?_
    apply Exists.intro
    simp only [List.take_succ_cons, List.take_zero, List.drop_succ_cons, List.drop_zero]
    repeat (first | (apply Loose.walk_step; intro K hK; apply LooseP.turn_value (hwant := rfl) (hd := rfl); (focus (intro w' hw'; obtain ⟨hc, hf⟩ := Fl.bcell hw'; go_simp; first | done | rfl | exact ⟨rfl, rfl⟩)); go_simp; refine hK _ ?_; clear hK K) | (apply Loose.walk_step; intro K hK; apply LooseP.turn_skip (hwant := rfl) (hd := rfl); go_simp; refine hK _ ?_; clear hK K))
    refine Loose.walk_nil ?_
    intro w1 hcls1
    have hb1 := hcls1.1
    clear hcls1 hst
    go_wp2
    go_ret
    exact ⟨rfl, hb1⟩
  obtain rfl : n = n' := Decidable.not_not.1 hnn
  clear hnn
  rw [decide_eq_true rfl, Bool.true_and] at hR
  cases hE : (bitsC cs == bitsC cs')
  · obtain rfl : R = false := by rw [← hR, hE]; rfl
    clear hR
    go_enter Try.func59, Try.ntmps59
    go_wp2_with fail
    have hst : ∀ p ∈ ([] : List (Nat × (Value → World → Prop))), LooseP.Stable p.2 := by intro p hp; cases hp
    refine LooseP.wp_region 22 [] (by kernel_rfl) (by kernel_rfl) (by intro p hp; cases hp) ?_
    apply Exists.intro
    simp only [List.take_succ_cons, List.take_zero, List.drop_succ_cons, List.drop_zero]
    repeat (first | (apply Loose.walk_step; intro K hK; apply LooseP.turn_value (hwant := rfl) (hd := rfl); (focus (intro w' hw'; obtain ⟨hc, hf⟩ := Fl.bcell hw'; go_simp; first | done | rfl | exact ⟨rfl, rfl⟩)); go_simp; refine hK _ ?_; clear hK K) | (apply Loose.walk_step; intro K hK; apply LooseP.turn_skip (hwant := rfl) (hd := rfl); go_simp; refine hK _ ?_; clear hK K) | (apply Loose.walk_step; intro K hK; apply LooseP.turn_callD hst (Nat.le_refl _) (hwant := rfl) (hd := rfl); (focus (intro w'; go_simp; first | done | rfl | exact ⟨rfl, rfl⟩)); (focus (intro w'; exact SameV.spec_num _ _ _ _ _ _ fs fs' hE)); go_simp; refine hK _ ?_; clear hK K))
    refine Loose.walk_nil ?_
    intro w1 hcls1
    have hb1 := hcls1.1
    clear hcls1 hst
    go_wp2
    go_ret
    exact ⟨rfl, hb1⟩
  rw [hE, Bool.true_and] at hR
  have HE := Lib.hid (And.intro e0 u0)
  go_enter Try.func59, Try.ntmps59
  go_wp2_with fail
  have hst : ∀ p ∈ ([] : List (Nat × (Value → World → Prop))), LooseP.Stable p.2 := by intro p hp; cases hp
  refine LooseP.wp_region 22 [] (by kernel_rfl) (by kernel_rfl) (by intro p hp; cases hp) ?_
  apply Exists.intro
  simp only [List.take_succ_cons, List.take_zero, List.drop_succ_cons, List.drop_zero]
  repeat (first | (apply Loose.walk_step; intro K hK; apply LooseP.turn_value (hwant := rfl) (hd := rfl); (focus (intro w' hw'; obtain ⟨hc, hf⟩ := Fl.bcell hw'; go_simp; first | done | rfl | exact ⟨rfl, rfl⟩)); go_simp; refine hK _ ?_; clear hK K) | (apply Loose.walk_step; intro K hK; apply LooseP.turn_skip (hwant := rfl) (hd := rfl); go_simp; refine hK _ ?_; clear hK K) | (apply Loose.walk_step; intro K hK; apply LooseP.turn_callD hst (Nat.le_refl _) (hwant := rfl) (hd := rfl); (focus (intro w'; go_simp; first | done | rfl | exact ⟨rfl, rfl⟩)); (focus (intro w'; exact SameV.spec_num _ _ _ _ _ _ fs fs' hE)); go_simp; refine hK _ ?_; clear hK K))
  refine Loose.walk_nil ?_
  intro w1 hcls1
  have hb1 := hcls1.1
  have hz1 := hb1.size
  have HB1 := Lib.hid hb1
  clear hcls1 hst e0 e1 u0 u1 hb1
  go_wp2
  go_loopw [5] (fun i wr => ∃ k : Nat, k ≤ n ∧ i = .int .i64 (k : Int) ∧ sameN c c' k = true ∧ Below w.heap.size w wr) (fun i _ => n - (intOf i).toNat)
  case atStart => exact ⟨0, Nat.zero_le _, rfl, rfl, HB1.out⟩
  case round =>
    obtain ⟨k, hk, rfl, hS, hbel⟩ := hrel
    have HB := Lib.hid hbel
    have HS := Lib.hid hS
    have hzr := hbel.size
    have e0 := (hbel.cell (p := ⟨G, 0, none⟩) lG).trans HE.out.1
    have u0 := (hbel.cell (p := ⟨G', 0, none⟩) lG').trans HE.out.2
    have lGr : G < wr.heap.size := by omega
    have lGr' : G' < wr.heap.size := by omega
    clear hS
    by_cases hlt : k < n
    · obtain rfl := H5.out (by omega)
      obtain rfl := H5'.out (by omega)
      obtain ⟨x, y, z, hx, hy, hz, fx, fy, fz, hbr⟩ := at_v H6.out hlt hbel
      obtain ⟨x', y', z', hx', hy', hz', fx', fy', fz', hbr'⟩ := at_v H6'.out hlt hbel
      clear hbel
      cases hT : (bitsC (c (k * 3)) == bitsC (c' (k * 3)) && bitsC (c (k * 3 + 1)) == bitsC (c' (k * 3 + 1)) && bitsC (c (k * 3 + 2)) == bitsC (c' (k * 3 + 2)))
      · obtain rfl : R = false := by rw [← hR]; exact same_no (k := k + 1) (by unfold sameN; rw [HS.out, hT]; rfl) n hlt
        clear hR
        go_wp2_with fail
        have hst : ∀ p ∈ ([] : List (Nat × (Value → World → Prop))), LooseP.Stable p.2 := by intro p hp; cases hp
        refine LooseP.wp_region 15 [] (by kernel_rfl) (by kernel_rfl) (by intro p hp; cases hp) ?_
        apply Exists.intro
        simp only [List.take_succ_cons, List.take_zero, List.drop_succ_cons, List.drop_zero]
        repeat (first | (apply Loose.walk_step; intro K hK; apply LooseP.turn_value (hwant := rfl) (hd := rfl); (focus (intro w' hw'; obtain ⟨hc, hf⟩ := Fl.bcell hw'; go_simp; first | done | rfl | exact ⟨rfl, rfl⟩)); go_simp; refine hK _ ?_; clear hK K) | (apply Loose.walk_step; intro K hK; apply LooseP.turn_skip (hwant := rfl) (hd := rfl); go_simp; refine hK _ ?_; clear hK K) | (apply Loose.walk_step; intro K hK; apply LooseP.turn_callD hst (Nat.le_refl _) (hwant := rfl) (hd := rfl); (focus (intro w'; go_simp; first | done | rfl | exact ⟨rfl, rfl⟩)); (focus (intro w'; exact SameV.spec_same _ _ _ _ _ _ _ _ _ _ _ _ _ _ fx fy fz fx' fy' fz' hT)); go_simp; refine hK _ ?_; clear hK K))
        refine Loose.walk_nil ?_
        intro w5 hcls5
        have HB5 := Lib.hid (HB.out.trans (hcls5.1.mono hzr))
        clear hcls5 hst
        go_wp2
        go_ret
        exact ⟨rfl, HB5.out⟩
      · have HS1 := Lib.hid (show sameN c c' (k + 1) = true by unfold sameN; rw [HS.out, hT]; rfl)
        go_wp2_with fail
        have hst : ∀ p ∈ ([] : List (Nat × (Value → World → Prop))), LooseP.Stable p.2 := by intro p hp; cases hp
        refine LooseP.wp_region 15 [] (by kernel_rfl) (by kernel_rfl) (by intro p hp; cases hp) ?_
        apply Exists.intro
        simp only [List.take_succ_cons, List.take_zero, List.drop_succ_cons, List.drop_zero]
        repeat (first | (apply Loose.walk_step; intro K hK; apply LooseP.turn_value (hwant := rfl) (hd := rfl); (focus (intro w' hw'; obtain ⟨hc, hf⟩ := Fl.bcell hw'; go_simp; first | done | rfl | exact ⟨rfl, rfl⟩)); go_simp; refine hK _ ?_; clear hK K) | (apply Loose.walk_step; intro K hK; apply LooseP.turn_skip (hwant := rfl) (hd := rfl); go_simp; refine hK _ ?_; clear hK K) | (apply Loose.walk_step; intro K hK; apply LooseP.turn_callD hst (Nat.le_refl _) (hwant := rfl) (hd := rfl); (focus (intro w'; go_simp; first | done | rfl | exact ⟨rfl, rfl⟩)); (focus (intro w'; exact SameV.spec_same _ _ _ _ _ _ _ _ _ _ _ _ _ _ fx fy fz fx' fy' fz' hT)); go_simp; refine hK _ ?_; clear hK K))
        refine Loose.walk_nil ?_
        intro w5 hcls5
        have HB5 := Lib.hid (HB.out.trans (hcls5.1.mono hzr))
        clear hcls5 hst hx hy hz hx' hy' hz'
        go_wp2
        go_roundw
        case rel => exact ⟨k + 1, by omega, by go_num, HS1.out, HB5.out⟩
        case measure => simp [intOf]; omega
    · obtain rfl : n = k := by omega
      obtain rfl : R = true := by rw [← hR]; exact HS.out
      clear hbel
      go_wp2
      go_ret
      exact ⟨rfl, HB.out⟩

theorem spec_SameT (a a' : Option Addr) (n n' cap cap' s s' : Nat) (cs cs' : Option Nat) (c c' : Nat → Option Nat) (w : World) (h : IsV w a n cap c) (h' : IsV w a' n' cap' c') (fs : Fr .f32 s cs) (fs' : Fr .f32 s' cs') (hn : n ≤ 1048576) (hn' : n' ≤ 1048576) (R : Bool) (hR : sameB n n' cs cs' c c' = R) :
    Calls Try.prog 23 #[tV a n cap s, tV a' n' cap' s'] w (RetD (.bool R) w) := by
  have HY := Lib.hid h
  have HY' := Lib.hid h'
  clear h h'
  go_enter Try.func23, Try.ntmps23
  go_wp2_with fail
  obtain ⟨wc, hwc⟩ : ∃ u, u = (w.alloc (.cells #[.slice a n cap, .float .f32 s] 33)).alloc (.cells #[.slice a' n' cap', .float .f32 s'] 33) := ⟨_, rfl⟩
  rw [← hwc]
  have qa : wc.heap[w.heap.size]? = some (.cells #[.slice a n cap, .float .f32 s] 33) := by rw [hwc]; exact alloc_block (new_block _ _)
  have qb : wc.heap[w.heap.size + 1]? = some (.cells #[.slice a' n' cap', .float .f32 s'] 33) := by rw [hwc]; simpa using new_block (w.alloc (.cells #[.slice a n cap, .float .f32 s] 33)) (.cells #[.slice a' n' cap', .float .f32 s'] 33)
  have hbw : Below w.heap.size w wc := by rw [hwc]; exact ((Below.refl _ _).alloc (Nat.le_refl _) _).alloc (by simp) _
  clear hwc
  refine (spec_same w.heap.size (w.heap.size + 1) a a' n n' cap cap' s s' cs cs' c c' _ ((cells_of (i := 0) qa).trans rfl) ((cells_of (i := 1) qa).trans rfl) ((cells_of (i := 0) qb).trans rfl) ((cells_of (i := 1) qb).trans rfl) (HY.out.later hbw) (HY'.out.later hbw) fs fs' hn hn' R hR).mono ?_
  rintro e w1 ⟨rfl, hb1⟩
  have HBW := Lib.hid (hbw.trans (hb1.mono hbw.size))
  clear hbw hb1 qa qb
  go_wp2
  go_ret
  exact ⟨rfl, HBW.out⟩

end Th
end Go.Proofs.Ytjkkefbfhapblaa
