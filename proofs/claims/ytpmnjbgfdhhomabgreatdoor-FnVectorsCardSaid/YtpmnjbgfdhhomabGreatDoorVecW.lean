/- The law of vectors. -/
import Derived.Test.YtpmnjbgfdhhomabGreatDoorVecC
import Derived.Deep.QuietTactic
import Derived.BigQuiet
import Derived.LoopTactic
namespace Go.Proofs.YtpmnjbgfdhhomabGreatDoor
set_option linter.unusedSimpArgs false
set_option linter.unusedVariables false
open Go.RowKit
namespace VecW
open Go.ChangeShapes Go.WideShapes Go.ChangeAt Go.RowKit
set_option maxRecDepth 20000 in
set_option maxHeartbeats 6400000 in
theorem walk (p0 p1 : Option Addr) (len0 cap0 len1 cap1 : Nat) (w : World) (h0 : NumC.IsY w p0 len0) (h1 : NumC.IsY w p1 len1) (ht : Hex.Tabs w) :
    Calls Tryz.prog 3 #[.slice p0 len0 cap0, .slice p1 len1 cap1] w fun e w' => e = .returned (.bool true) ∧ Below w.heap.size w w' := by
  by_cases hbig : 1048576 < len0 ∨ 1048576 < len1
  · have hd : (decide ((1048576 : Int) < (len0 : Int)) || decide ((1048576 : Int) < (len1 : Int))) = true := by
      rcases hbig with h | h
      · rw [decide_eq_true (show (1048576 : Int) < (len0 : Int) by omega)]; rfl
      · rw [decide_eq_true (show (1048576 : Int) < (len1 : Int) by omega), Bool.or_true]
    have HD := Lib.hid hd
    clear hd h0 h1 ht
    go_enter Tryz.func3, Tryz.ntmps3
    go_wp2_with fail
    refine (NumC.long _ _ _ _ _ _ _).mono ?_
    rintro e w1 ⟨rfl, rfl⟩
    rw [HD.out]
    go_wp2
    go_ret
    exact ⟨rfl, Below.refl _ _⟩
  · have hd : (decide ((1048576 : Int) < (len0 : Int)) || decide ((1048576 : Int) < (len1 : Int))) = false := by
      rw [decide_eq_false (show ¬ (1048576 : Int) < (len0 : Int) by omega), decide_eq_false (show ¬ (1048576 : Int) < (len1 : Int) by omega)]; rfl
    have y0 : Src.IsB w.heap.size w p0 len0 cap0 := h0.isB (by omega)
    have y1 : Src.IsB w.heap.size w p1 len1 cap1 := h1.isB (by omega)
    have HD := Lib.hid hd
    have HY0 := Lib.hid y0
    have HY1 := Lib.hid y1
    have HT := Lib.hid ht
    clear hd h0 h1 y0 y1 ht hbig
    go_enter Tryz.func3, Tryz.ntmps3
    go_wp2_with fail
    refine (NumC.long _ _ _ _ _ _ _).mono ?_
    rintro e w1 ⟨rfl, rfl⟩
    rw [HD.out]
    go_wp2_with fail
    refine (VecC.vector _ _ _ _ HY0.out).mono ?_
    rintro e w1 ⟨A0, A1, A2, ⟨nA0, nA1, nA2⟩, rfl, hb1⟩
    have hz1 := hb1.size
    have iA0 := Int32_.int (n := A0) (by omega)
    have iA1 := Int32_.int (n := A1) (by omega)
    have iA2 := Int32_.int (n := A2) (by omega)
    generalize floatOfInt .f32 A0 = a0 at *
    generalize floatOfInt .f32 A1 = a1 at *
    generalize floatOfInt .f32 A2 = a2 at *
    have B1 := Lib.hid hb1
    go_wp2_with fail
    refine (VecC.vector _ _ _ _ (HY1.out.later (hb1.alloc hz1 _))).mono ?_
    rintro e w2 ⟨B0, B1_, B2, ⟨nB0, nB1, nB2⟩, rfl, hb2⟩
    have hz2 := hb2.size
    rw [World.size_alloc] at hz2
    have iB0 := Int32_.int (n := B0) (by omega)
    have iB1 := Int32_.int (n := B1_) (by omega)
    have iB2 := Int32_.int (n := B2) (by omega)
    generalize floatOfInt .f32 B0 = b0 at *
    generalize floatOfInt .f32 B1_ = b1 at *
    generalize floatOfInt .f32 B2 = b2 at *
    have fa0 : Fl.Fr .f32 a0 (some a0) := ⟨iA0.2, by obtain ⟨x, hx, hl, _⟩ := iA0.1; rw [iA0.2] at hx; cases hx; exact hl⟩
    have fa1 : Fl.Fr .f32 a1 (some a1) := ⟨iA1.2, by obtain ⟨x, hx, hl, _⟩ := iA1.1; rw [iA1.2] at hx; cases hx; exact hl⟩
    have fa2 : Fl.Fr .f32 a2 (some a2) := ⟨iA2.2, by obtain ⟨x, hx, hl, _⟩ := iA2.1; rw [iA2.2] at hx; cases hx; exact hl⟩
    have fb0 : Fl.Fr .f32 b0 (some b0) := ⟨iB0.2, by obtain ⟨x, hx, hl, _⟩ := iB0.1; rw [iB0.2] at hx; cases hx; exact hl⟩
    have fb1 : Fl.Fr .f32 b1 (some b1) := ⟨iB1.2, by obtain ⟨x, hx, hl, _⟩ := iB1.1; rw [iB1.2] at hx; cases hx; exact hl⟩
    have fb2 : Fl.Fr .f32 b2 (some b2) := ⟨iB2.2, by obtain ⟨x, hx, hl, _⟩ := iB2.1; rw [iB2.2] at hx; cases hx; exact hl⟩
    have jA0 : Int32_.IsI (some a0) A0 := iA0.2 ▸ iA0.1
    have jA1 : Int32_.IsI (some a1) A1 := iA1.2 ▸ iA1.1
    have jA2 : Int32_.IsI (some a2) A2 := iA2.2 ▸ iA2.1
    have jB0 : Int32_.IsI (some b0) B0 := iB0.2 ▸ iB0.1
    have jB1 : Int32_.IsI (some b1) B1_ := iB1.2 ▸ iB1.1
    have jB2 : Int32_.IsI (some b2) B2 := iB2.2 ▸ iB2.1
    clear iA0 iA1 iA2 iB0 iB1 iB2
    have g12 : w1.heap.size < w2.heap.size := by omega
    have ka2 : w2.heap[w1.heap.size]? = some (.cells #[.float .f32 a0, .float .f32 a1, .float .f32 a2] 26) := by rw [hb2.block w1.heap.size (by rw [World.size_alloc]; omega)]; exact Cut.new_block w1 _
    have hca2 := Loose.cells_of ka2
    have hfa2 := Loose.free_of ka2
    go_wp2_with fail
    refine (Vec.impl_cross _ _ _ _ _ _ _ _ _ _ _ _ _ (by assumption) (by assumption) (by assumption) (by assumption) (by assumption) (by assumption)).mono ?_
    rintro e w3 ⟨c0, c1, c2, rfl, fc0, fc1, fc2, hb3⟩
    have hz3 := hb3.size
    rw [World.size_alloc] at hz3
    have g23 : w2.heap.size < w3.heap.size := by omega
    have g13 : w1.heap.size < w3.heap.size := by omega
    clear hca2 hfa2
    have kb3 : w3.heap[w2.heap.size]? = some (.cells #[.float .f32 b0, .float .f32 b1, .float .f32 b2] 26) := by rw [hb3.block w2.heap.size (by rw [World.size_alloc]; omega)]; exact Cut.new_block w2 _
    have ka3 : w3.heap[w1.heap.size]? = some (.cells #[.float .f32 a0, .float .f32 a1, .float .f32 a2] 26) := by rw [hb3.block w1.heap.size (by rw [World.size_alloc]; omega)]; rw [((Below.refl w2.heap.size w2).alloc (Nat.le_refl _) _).block w1.heap.size (by omega)]; exact ka2
    have hca3 := Loose.cells_of ka3
    have hfa3 := Loose.free_of ka3
    have hcb3 := Loose.cells_of kb3
    have hfb3 := Loose.free_of kb3
    go_wp2_with fail
    refine (Vec.impl_cross _ _ _ _ _ _ _ _ _ _ _ _ _ (by assumption) (by assumption) (by assumption) (by assumption) (by assumption) (by assumption)).mono ?_
    rintro e w4 ⟨d0, d1, d2, rfl, fd0, fd1, fd2, hb4⟩
    have hz4 := hb4.size
    rw [World.size_alloc] at hz4
    have g34 : w3.heap.size < w4.heap.size := by omega
    have g24 : w2.heap.size < w4.heap.size := by omega
    have g14 : w1.heap.size < w4.heap.size := by omega
    clear hca3 hfa3 hcb3 hfb3
    have kc4 : w4.heap[w3.heap.size]? = some (.cells #[.float .f32 c0, .float .f32 c1, .float .f32 c2] 26) := by rw [hb4.block w3.heap.size (by rw [World.size_alloc]; omega)]; exact Cut.new_block w3 _
    have kb4 : w4.heap[w2.heap.size]? = some (.cells #[.float .f32 b0, .float .f32 b1, .float .f32 b2] 26) := by rw [hb4.block w2.heap.size (by rw [World.size_alloc]; omega)]; rw [((Below.refl w3.heap.size w3).alloc (Nat.le_refl _) _).block w2.heap.size (by omega)]; exact kb3
    have ka4 : w4.heap[w1.heap.size]? = some (.cells #[.float .f32 a0, .float .f32 a1, .float .f32 a2] 26) := by rw [hb4.block w1.heap.size (by rw [World.size_alloc]; omega)]; rw [((Below.refl w3.heap.size w3).alloc (Nat.le_refl _) _).block w1.heap.size (by omega)]; exact ka3
    have hca4 := Loose.cells_of ka4
    have hfa4 := Loose.free_of ka4
    have hcb4 := Loose.cells_of kb4
    have hfb4 := Loose.free_of kb4
    have hcc4 := Loose.cells_of kc4
    have hfc4 := Loose.free_of kc4
    have HB2 := Lib.hid hb2
    have HB3 := Lib.hid hb3
    have HB4 := Lib.hid hb4
    clear hb1 hb2 hb3 hb4
    have KA4 := Lib.hid ka4
    have KB4 := Lib.hid kb4
    have KC4 := Lib.hid kc4
    clear ka2 ka3 kb3 ka4 kb4 kc4
    go_wp2_with fail
    refine Loose.wp_region_below 6 [(9, (.cells #[.float .f32 0, .float .f32 0, .float .f32 0] 26))] (by kernel_rfl) (by kernel_rfl) (by simp [undef]) ?_
    apply Exists.intro
    simp only [List.take_succ_cons, List.take_zero, List.drop_succ_cons, List.drop_zero]
    repeat (first | (apply Loose.walk_step; intro K hK; apply Loose.turn_value (hwant := rfl) (hd := rfl); (focus (intro w' hw'; obtain ⟨hc, hf⟩ := Fl.bcell hw'; go_simp; first | done | rfl | exact ⟨rfl, rfl⟩)); go_simp; refine hK _ ?_; clear hK K) | (apply Loose.walk_step; intro K hK; apply Loose.turn_callV (Nat.le_refl _) (hwant := rfl) (hd := rfl); (focus (intro w'; go_simp; first | done | rfl | exact ⟨rfl, rfl⟩)); (focus (intro w'; go_at_call 8; exact Vec.impl_less _ _ _ _ _ _ _ _ _ _ _ _ _ (by assumption) (by assumption) (by assumption) (by assumption) (by assumption) (by assumption))); intro x y z hx hy hz; go_simp; refine hK _ ?_; clear hK K) | (apply Loose.walk_step; intro K hK; apply Loose.turn_callV (Nat.le_refl _) (hwant := rfl) (hd := rfl); (focus (intro w'; go_simp; first | done | rfl | exact ⟨rfl, rfl⟩)); (focus (intro w'; go_at_call 7; exact Vec.impl_add _ _ _ _ _ _ _ _ _ _ _ _ _ (by assumption) (by assumption) (by assumption) (by assumption) (by assumption) (by assumption))); intro e0 e1 e2 he0 he1 he2; go_simp; refine hK _ ?_; clear hK K) | (apply Loose.walk_step; intro K hK; apply Loose.turn_alloc (Nat.le_refl _) (hwant := rfl) (hdst := rfl); (focus (intro w'; go_simp; first | done | rfl | exact ⟨rfl, rfl⟩)); intro b hbB; go_simp; refine hK _ ?_; clear hK K))
    refine Loose.walk_nil ?_
    intro w5 hcls5
    obtain ⟨hB5, hlt5, hblk5⟩ := Loose.Cls.block hcls5 rfl
    have hcell5 := Loose.cells_of hblk5
    have hfree5 := Loose.free_of hblk5
    have HBK5 := Lib.hid hblk5
    clear hblk5
    obtain ⟨hb5, _⟩ := hcls5
    obtain ⟨hc5, hf5⟩ := Fl.bcell hb5
    have hz5 := hb5.size
    try simp only [World.size_alloc, World.size_setCell, World.heap_drewN, World.size_drew] at hz5 hB5
    try (have g5_0 : w1.heap.size < w5.heap.size := by omega)
    try (have l5_0 : w1.heap.size ≤ w5.heap.size := by omega)
    try (have g5_1 : w2.heap.size < w5.heap.size := by omega)
    try (have l5_1 : w2.heap.size ≤ w5.heap.size := by omega)
    try (have g5_2 : w3.heap.size < w5.heap.size := by omega)
    try (have l5_2 : w3.heap.size ≤ w5.heap.size := by omega)
    try (have g5_3 : w4.heap.size < w5.heap.size := by omega)
    try (have l5_3 : w4.heap.size ≤ w5.heap.size := by omega)
    have ka5 : w5.heap[w1.heap.size]? = some (.cells #[.float .f32 a0, .float .f32 a1, .float .f32 a2] 26) := by rw [hb5.block w1.heap.size (by rw [World.size_alloc]; omega), ((Below.refl w4.heap.size w4).alloc (Nat.le_refl _) _).block w1.heap.size (by omega)]; exact KA4.out
    have kb5 : w5.heap[w2.heap.size]? = some (.cells #[.float .f32 b0, .float .f32 b1, .float .f32 b2] 26) := by rw [hb5.block w2.heap.size (by rw [World.size_alloc]; omega), ((Below.refl w4.heap.size w4).alloc (Nat.le_refl _) _).block w2.heap.size (by omega)]; exact KB4.out
    have kc5 : w5.heap[w3.heap.size]? = some (.cells #[.float .f32 c0, .float .f32 c1, .float .f32 c2] 26) := by rw [hb5.block w3.heap.size (by rw [World.size_alloc]; omega), ((Below.refl w4.heap.size w4).alloc (Nat.le_refl _) _).block w3.heap.size (by omega)]; exact KC4.out
    have kd5 : w5.heap[w4.heap.size]? = some (.cells #[.float .f32 d0, .float .f32 d1, .float .f32 d2] 26) := by rw [hb5.block w4.heap.size (by rw [World.size_alloc]; omega)]; exact Cut.new_block w4 _
    have gb1 : w1.heap.size < b := by omega
    have gb2 : w2.heap.size < b := by omega
    have hbb : w4.heap.size < b := by omega
    have nb1 : b ≠ w1.heap.size := by omega
    have nb1' : w1.heap.size ≠ b := by omega
    have KA5 := Lib.hid ka5
    have KB5 := Lib.hid kb5
    have KC5 := Lib.hid kc5
    have KD5 := Lib.hid kd5
    have kaW : (((w5.setCell ⟨b, 0, none⟩ (.float .f32 e0)).setCell ⟨b, 1, none⟩ (.float .f32 e1)).setCell ⟨b, 2, none⟩ (.float .f32 e2)).heap[w1.heap.size]? = some (.cells #[.float .f32 a0, .float .f32 a1, .float .f32 a2] 26) := by rw [VecC.put3_keep (by omega)]; exact ka5
    have hca5 := Loose.cells_of kaW
    have hfa5 := Loose.free_of kaW
    have ftwo : Fl.Fr .f32 1073741824 (some 1073741824) := Fl.Fr.const (by decide +kernel) (by decide)
    clear kaW ka5 kb5 kc5 kd5 hca4 hfa4 hcb4 hfb4 hcc4 hfc4
    go_wp2_with fail
    refine (Vec.impl_scale _ _ _ _ _ _ _ _ _ (by assumption) (by assumption) (by assumption) (by assumption)).mono ?_
    rintro e w6 ⟨t0, t1, t2, rfl, ft0, ft1, ft2, hb6⟩
    have hz6 := hb6.size
    rw [VecC.put3_size] at hz6
    have g16 : w1.heap.size < w6.heap.size := by omega
    have g26 : w2.heap.size < w6.heap.size := by omega
    have g36 : w3.heap.size < w6.heap.size := by omega
    have g46 : w4.heap.size < w6.heap.size := by omega
    have gb6 : b < w6.heap.size := by omega
    have ka6 : w6.heap[w1.heap.size]? = some (.cells #[.float .f32 a0, .float .f32 a1, .float .f32 a2] 26) := by rw [hb6.block w1.heap.size (by rw [VecC.put3_size]; omega), VecC.put3_keep (by omega)]; exact KA5.out
    have kb6 : w6.heap[w2.heap.size]? = some (.cells #[.float .f32 b0, .float .f32 b1, .float .f32 b2] 26) := by rw [hb6.block w2.heap.size (by rw [VecC.put3_size]; omega), VecC.put3_keep (by omega)]; exact KB5.out
    have kc6 : w6.heap[w3.heap.size]? = some (.cells #[.float .f32 c0, .float .f32 c1, .float .f32 c2] 26) := by rw [hb6.block w3.heap.size (by rw [VecC.put3_size]; omega), VecC.put3_keep (by omega)]; exact KC5.out
    have kd6 : w6.heap[w4.heap.size]? = some (.cells #[.float .f32 d0, .float .f32 d1, .float .f32 d2] 26) := by rw [hb6.block w4.heap.size (by rw [VecC.put3_size]; omega), VecC.put3_keep (by omega)]; exact KD5.out
    have ke6 : w6.heap[b]? = some (.cells #[.float .f32 e0, .float .f32 e1, .float .f32 e2] 26) := by rw [hb6.block b (by rw [VecC.put3_size]; omega)]; exact VecC.put3_own HBK5.out
    have hca6 := Loose.cells_of ka6
    have hfa6 := Loose.free_of ka6
    have hcb6 := Loose.cells_of kb6
    have hfb6 := Loose.free_of kb6
    have hcc6 := Loose.cells_of kc6
    have hfc6 := Loose.free_of kc6
    have hcd6 := Loose.cells_of kd6
    have hfd6 := Loose.free_of kd6
    have hce6 := Loose.cells_of ke6
    have hfe6 := Loose.free_of ke6
    have KA6 := Lib.hid ka6
    have KB6 := Lib.hid kb6
    have fz : Fl.Fr .f32 0 (some 0) := Fl.Fr.const (by decide +kernel) (by decide)
    have f1 : Fl.Fr .f32 1065353216 (some 1065353216) := Fl.Fr.const (by decide +kernel) (by decide)
    have fm : Fl.Fr .f32 3212836864 (some 3212836864) := Fl.Fr.const (by decide +kernel) (by decide)
    obtain ⟨q1_0, q1_1, q1_2, n1, n2, n3, q2_0, q2_1, q2_2, q3_0, q3_1, q3_2, q4_0, q4_1, q4_2, q5_0, q5_1, q5_2⟩ := VecC.vfacts jA0 jA1 jA2 jB0 jB1 jB2 nA0 nA1 nA2 nB0 nB1 nB2
    clear jA0 jA1 jA2 jB0 jB1 jB2 nA0 nA1 nA2 nB0 nB1 nB2 hca5 hfa5
    clear ka6 kb6 kc6 kd6 ke6
    go_wp2_with fail
    refine Loose.wp_region_below 47 [] (by kernel_rfl) (by kernel_rfl) (by simp [undef]) ?_
    apply Exists.intro
    simp only [List.take_succ_cons, List.take_zero, List.drop_succ_cons, List.drop_zero]
    repeat (first | (apply Loose.walk_step; intro K hK; apply Loose.turn_value (hwant := rfl) (hd := rfl); (focus (intro w' hw'; obtain ⟨hc, hf⟩ := Fl.bcell hw'; go_simp; first | done | rfl | exact ⟨rfl, rfl⟩)); go_simp; refine hK _ ?_; clear hK K) | (apply Loose.walk_step; intro K hK; apply Loose.turn_callD (Nat.le_refl _) (hwant := rfl) (hd := rfl); (focus (intro w'; go_simp; first | done | rfl | exact ⟨rfl, rfl⟩)); (focus (intro w'; go_at_call 10; exact VecC.vequal _ _ _ _ _ _ _ _ _ _ _ _ _ (by assumption) (by assumption) (by assumption) (by assumption) (by assumption) (by assumption) (by assumption) (by assumption) (by assumption) )); skip; go_simp; refine hK _ ?_; clear hK K) | (apply Loose.walk_step; intro K hK; apply Loose.turn_callF (Nat.le_refl _) (hwant := rfl) (hd := rfl); (focus (intro w'; go_simp; first | done | rfl | exact ⟨rfl, rfl⟩)); (focus (intro w'; go_at_call 12; exact VecC.square _ _ _ _ _ _ _ (by assumption) (by assumption) (by assumption))); intro r hr; go_simp; refine hK _ ?_; clear hK K) | (apply Loose.walk_step; intro K hK; apply Loose.turn_callF (Nat.le_refl _) (hwant := rfl) (hd := rfl); (focus (intro w'; go_simp; first | done | rfl | exact ⟨rfl, rfl⟩)); (focus (intro w'; go_at_call 11; exact Vec.impl_inner _ _ _ _ _ _ _ _ _ _ _ _ _ (by assumption) (by assumption) (by assumption) (by assumption) (by assumption) (by assumption))); intro r hr; go_simp; refine hK _ ?_; clear hK K) | (apply Loose.walk_step; intro K hK; apply Loose.turn_callF (Nat.le_refl _) (hwant := rfl) (hd := rfl); (focus (intro w'; go_simp; first | done | rfl | exact ⟨rfl, rfl⟩)); (focus (intro w'; go_at_call 14; exact Size.impl_size _ _ _ _ _ _ _ (by assumption) (by assumption) (by assumption))); intro r hr; go_simp; refine hK _ ?_; clear hK K) | (apply Loose.walk_step; intro K hK; apply Loose.turn_callF (Nat.le_refl _) (hwant := rfl) (hd := rfl); (focus (intro w'; go_simp; first | done | rfl | exact ⟨rfl, rfl⟩)); (focus (intro w'; go_at_call 15; exact Root.top_root _ _ _ (by assumption))); intro r hr; go_simp; refine hK _ ?_; clear hK K) | (apply Loose.walk_step; intro K hK; apply Loose.turn_callD (Nat.le_refl _) (hwant := rfl) (hd := rfl); (focus (intro w'; go_simp; first | done | rfl | exact ⟨rfl, rfl⟩)); (focus (intro w'; go_at_call 13; exact VecC.sameD _ _ _ _ (by assumption) (by assumption))); skip; go_simp; refine hK _ ?_; clear hK K) | (apply Loose.walk_step; intro K hK; apply Loose.turn_callV (Nat.le_refl _) (hwant := rfl) (hd := rfl); (focus (intro w'; go_simp; first | done | rfl | exact ⟨rfl, rfl⟩)); (focus (intro w'; go_at_call 9; exact Vec.impl_scale _ _ _ _ _ _ _ _ _ (by assumption) (by assumption) (by assumption) (by assumption))); intro x y z hx hy hz; go_simp; refine hK _ ?_; clear hK K) | (apply Loose.walk_step; intro K hK; apply Loose.turn_callV (Nat.le_refl _) (hwant := rfl) (hd := rfl); (focus (intro w'; go_simp; first | done | rfl | exact ⟨rfl, rfl⟩)); (focus (intro w'; go_at_call 7; exact Vec.impl_add _ _ _ _ _ _ _ _ _ _ _ _ _ (by assumption) (by assumption) (by assumption) (by assumption) (by assumption) (by assumption))); intro x y z hx hy hz; go_simp; refine hK _ ?_; clear hK K) | (apply Loose.walk_step; intro K hK; apply Loose.turn_callV (Nat.le_refl _) (hwant := rfl) (hd := rfl); (focus (intro w'; go_simp; first | done | rfl | exact ⟨rfl, rfl⟩)); (focus (intro w'; go_at_call 16; exact Vec.impl_between _ _ _ _ _ _ _ _ _ _ _ _ _ _ _ (by assumption) (by assumption) (by assumption) (by assumption) (by assumption) (by assumption) (by assumption))); intro x y z hx hy hz; go_simp; refine hK _ ?_; clear hK K) | (apply Loose.walk_step; intro K hK; refine Loose.turn_cmp rfl rfl rfl rfl rfl rfl (by assumption) (by assumption) ?_; try simp only [n1, n2, n3]; go_simp; refine hK _ ?_; clear hK K))
    refine Loose.walk_nil ?_
    intro w7 hcls7
    obtain ⟨hb7, _⟩ := hcls7
    obtain ⟨hc7, hf7⟩ := Fl.bcell hb7
    have hz7 := hb7.size
    try simp only [World.size_alloc, World.size_setCell, World.heap_drewN, World.size_drew] at hz7
    try (have g7_0 : w1.heap.size < w7.heap.size := by omega)
    try (have l7_0 : w1.heap.size ≤ w7.heap.size := by omega)
    try (have g7_1 : w2.heap.size < w7.heap.size := by omega)
    try (have l7_1 : w2.heap.size ≤ w7.heap.size := by omega)
    have hz67 : w6.heap.size + 1 ≤ w7.heap.size := by have h := hb7.size; rw [World.size_alloc] at h; exact h
    have g17 : w1.heap.size < w7.heap.size := by omega
    have g27 : w2.heap.size < w7.heap.size := by omega
    have ka7 : w7.heap[w1.heap.size]? = some (.cells #[.float .f32 a0, .float .f32 a1, .float .f32 a2] 26) := by rw [hb7.block w1.heap.size (by rw [World.size_alloc]; omega), ((Below.refl w6.heap.size w6).alloc (Nat.le_refl _) _).block w1.heap.size (by omega)]; exact KA6.out
    have kb7 : w7.heap[w2.heap.size]? = some (.cells #[.float .f32 b0, .float .f32 b1, .float .f32 b2] 26) := by rw [hb7.block w2.heap.size (by rw [World.size_alloc]; omega), ((Below.refl w6.heap.size w6).alloc (Nat.le_refl _) _).block w2.heap.size (by omega)]; exact KB6.out
    have hca7 := Loose.cells_of ka7
    have hfa7 := Loose.free_of ka7
    have hcb7 := Loose.cells_of kb7
    have hfb7 := Loose.free_of kb7
    have HQ7 := Lib.hid hb7
    clear ka7 kb7 hb7 hc7 hf7 hca6 hfa6 hcb6 hfb6 hcc6 hfc6 hcd6 hfd6 hce6 hfe6 q1_0 q1_1 q1_2 q2_0 q2_1 q2_2 q3_0 q3_1 q3_2 n1 n2 n3
    go_wp2_with fail
    refine Loose.wp_region_below 13 [] (by kernel_rfl) (by kernel_rfl) (by simp [undef]) ?_
    apply Exists.intro
    simp only [List.take_succ_cons, List.take_zero, List.drop_succ_cons, List.drop_zero]
    repeat (first | (apply Loose.walk_step; intro K hK; apply Loose.turn_value (hwant := rfl) (hd := rfl); (focus (intro w' hw'; obtain ⟨hc, hf⟩ := Fl.bcell hw'; go_simp; first | done | rfl | exact ⟨rfl, rfl⟩)); go_simp; refine hK _ ?_; clear hK K) | (apply Loose.walk_step; intro K hK; apply Loose.turn_callD (Nat.le_refl _) (hwant := rfl) (hd := rfl); (focus (intro w'; go_simp; first | done | rfl | exact ⟨rfl, rfl⟩)); (focus (intro w'; go_at_call 10; exact VecC.vequal _ _ _ _ _ _ _ _ _ _ _ _ _ (by assumption) (by assumption) (by assumption) (by assumption) (by assumption) (by assumption) (by assumption) (by assumption) (by assumption) )); skip; go_simp; refine hK _ ?_; clear hK K) | (apply Loose.walk_step; intro K hK; apply Loose.turn_callV (Nat.le_refl _) (hwant := rfl) (hd := rfl); (focus (intro w'; go_simp; first | done | rfl | exact ⟨rfl, rfl⟩)); (focus (intro w'; go_at_call 16; exact Vec.impl_between _ _ _ _ _ _ _ _ _ _ _ _ _ _ _ (by assumption) (by assumption) (by assumption) (by assumption) (by assumption) (by assumption) (by assumption))); intro x y z hx hy hz; go_simp; refine hK _ ?_; clear hK K))
    refine Loose.walk_nil ?_
    intro w8 hcls8
    obtain ⟨hb8, _⟩ := hcls8
    obtain ⟨hc8, hf8⟩ := Fl.bcell hb8
    have hz8 := hb8.size
    try simp only [World.size_alloc, World.size_setCell, World.heap_drewN, World.size_drew] at hz8
    try (have g8_0 : w1.heap.size < w8.heap.size := by omega)
    try (have l8_0 : w1.heap.size ≤ w8.heap.size := by omega)
    try (have g8_1 : w2.heap.size < w8.heap.size := by omega)
    try (have l8_1 : w2.heap.size ≤ w8.heap.size := by omega)
    have hch8 : Below w.heap.size w w8 := by
      have q1a := B1.out.alloc hz1 (.cells #[.float .f32 a0, .float .f32 a1, .float .f32 a2] 26)
      have q2 := q1a.trans (HB2.out.mono q1a.size)
      have q2a := q2.alloc q2.size (.cells #[.float .f32 b0, .float .f32 b1, .float .f32 b2] 26)
      have q3 := q2a.trans (HB3.out.mono q2a.size)
      have q3a := q3.alloc q3.size (.cells #[.float .f32 c0, .float .f32 c1, .float .f32 c2] 26)
      have q4 := q3a.trans (HB4.out.mono q3a.size)
      have q4a := q4.alloc q4.size (.cells #[.float .f32 d0, .float .f32 d1, .float .f32 d2] 26)
      have q5 := q4a.trans (hb5.mono q4a.size)
      have hwb : w.heap.size ≤ b := by omega
      have q5s := ((q5.setCell (p := ⟨b, 0, none⟩) hwb (.float .f32 e0)).setCell (p := ⟨b, 1, none⟩) hwb (.float .f32 e1)).setCell (p := ⟨b, 2, none⟩) hwb (.float .f32 e2)
      have q6 := q5s.trans (hb6.mono q5s.size)
      have q6a := q6.alloc q6.size (.cells #[.float .f32 t0, .float .f32 t1, .float .f32 t2] 26)
      have q7 := q6a.trans (HQ7.out.mono q6a.size)
      exact q7.trans (hb8.mono q7.size)
    have HC8 := Lib.hid hch8
    have hz08 := hch8.size
    clear hch8 hb5 hb6 hb8 hc8 hf8 hca7 hfa7 hcb7 hfb7 q4_0 q4_1 q4_2 q5_0 q5_1 q5_2
    go_wp2_with fail
    refine (VecC.anyVector _ _ _ _ (HY0.out.later HC8.out)).mono ?_
    rintro e w9 ⟨u0, u1, u2, rfl, hu0, hu1, hu2, hb9⟩
    have hch9 := HC8.out.trans (hb9.mono hz08)
    have hz09 := hch9.size
    have HC9 := Lib.hid hch9
    clear hb9 hch9
    go_wp2_with fail
    have q9a := HC9.out.alloc hz09 (.cells #[.float .f32 u0, .float .f32 u1, .float .f32 u2] 26)
    have HQ9 := Lib.hid q9a
    clear q9a
    refine (NTL.impl_vectortext u0 u1 u2 (NTL.wf_of (c := Fl.cl .f32 u0) ⟨rfl, hu0⟩) (NTL.wf_of (c := Fl.cl .f32 u1) ⟨rfl, hu1⟩) (NTL.wf_of (c := Fl.cl .f32 u2) ⟨rfl, hu2⟩) _ (HT.out.on HQ9.out).2.1).mono ?_
    rintro e w10 ⟨rfl, hb10⟩
    have hz10 := hb10.size
    rw [World.size_alloc] at hz10
    have hch10 := HQ9.out.trans (hb10.mono HQ9.out.size)
    have hz010 := hch10.size
    have ku10 : w10.heap[w9.heap.size]? = some (.cells #[.float .f32 u0, .float .f32 u1, .float .f32 u2] 26) := by rw [hb10.block w9.heap.size (by rw [World.size_alloc]; omega)]; exact Cut.new_block w9 _
    have HC10 := Lib.hid hch10
    have KU10 := Lib.hid ku10
    clear hb10 hch10 ku10
    have hok : ∀ v ∈ [u0, u1, u2], v < 4294967296 := by
      intro v hv
      simp only [List.mem_cons, List.not_mem_nil, or_false] at hv
      rcases hv with rfl | rfl | rfl <;> assumption
    have HR := Lib.hid (NumC.text_reads [u0, u1, u2] hok (by simp))
    have HS := Lib.hid (NumC.text_size (zs := [u0, u1, u2]) (by simp))
    have HL := Lib.hid (VecC.text_len u0 u1 u2)
    clear hok
    have HV := Lib.hid (fun w (h : Hex.Tabs w) => FList.impl_vread (⟨(NTL.txt [u0, u1, u2]).toArray⟩ : ByteArray) [NTL.nb u0, NTL.nb u1, NTL.nb u2] true w HS.out HR.out h (NTL.nb u0) (NTL.nb u1) (NTL.nb u2) true (.inl ⟨rfl, rfl, rfl, rfl⟩))
    clear HR HS
    generalize (⟨(NTL.txt [u0, u1, u2]).toArray⟩ : ByteArray) = S at *
    have i26 : (S.size : Int) = 26 := by have h := HL.out; omega
    go_wp2_with fail
    refine (HV.out _ (HT.out.on HC10.out)).mono ?_
    rintro e w11 ⟨rfl, hb11⟩
    have hz11 := hb11.size
    have g9 : w9.heap.size < w11.heap.size := by omega
    have hch11 := HC10.out.trans (hb11.mono hz010)
    have hz011 := hch11.size
    have ku11 : w11.heap[w9.heap.size]? = some (.cells #[.float .f32 u0, .float .f32 u1, .float .f32 u2] 26) := by rw [hb11.block w9.heap.size (by omega)]; exact KU10.out
    have HC11 := Lib.hid hch11
    have hcu11 := Loose.cells_of ku11
    have hfu11 := Loose.free_of ku11
    have l0 := NTL.nb_lt u0 hu0
    have l1 := NTL.nb_lt u1 hu1
    have l2 := NTL.nb_lt u2 hu2
    have s0 := NumC.nb_cl u0
    have s1 := NumC.nb_cl u1
    have s2 := NumC.nb_cl u2
    have S0 := Lib.hid s0
    have S1 := Lib.hid s1
    have S2 := Lib.hid s2
    clear hb11 hch11 ku11 s0 s1 s2
    generalize NTL.nb u0 = v0 at *
    generalize NTL.nb u1 = v1 at *
    generalize NTL.nb u2 = v2 at *
    go_wp2_with fail
    refine (SameV.impl_same v0 v1 v2 u0 u1 u2 (Fl.cl .f32 u0) (Fl.cl .f32 u1) (Fl.cl .f32 u2) (Fl.cl .f32 u0) (Fl.cl .f32 u1) (Fl.cl .f32 u2) true _ ⟨S0.out, l0⟩ ⟨S1.out, l1⟩ ⟨S2.out, l2⟩ ⟨rfl, hu0⟩ ⟨rfl, hu1⟩ ⟨rfl, hu2⟩ (by simp)).mono ?_
    rintro e w12 ⟨rfl, hb12⟩
    go_wp2
    go_ret
    have z1 := HC11.out.alloc hz011 (.cells #[.float .f32 v0, .float .f32 v1, .float .f32 v2] 26)
    exact ⟨rfl, z1.trans (hb12.mono z1.size)⟩

end VecW
end Go.Proofs.YtpmnjbgfdhhomabGreatDoor
