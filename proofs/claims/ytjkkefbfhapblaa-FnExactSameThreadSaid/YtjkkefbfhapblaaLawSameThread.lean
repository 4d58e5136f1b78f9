/- 'FnExactSameThread' returns true at every input, and every argument reads afterwards as before. No conditions. -/
import Derived.Test.YtjkkefbfhapblaaRows
import Derived.WalkKit
import Derived.WalkLawsBesides
import Derived.ProofKit
import Derived.OpenShut
import Derived.ShutString
import Derived.ChangeOld
import Derived.Below
import Derived.Test.YtjkkefbfhapblaaFrame
import Derived.Test.YtjkkefbfhapblaaThU
import Derived.Test.YtjkkefbfhapblaaThSs
namespace Go.Proofs.Ytjkkefbfhapblaa.fnExactSameThread
open Go.ChangeShapes Go.WideShapes Go.ChangeAt Go.RowKit
open Go.ChangeMaps (open_string shut_string)
set_option linter.unusedVariables false
set_option linter.unusedSimpArgs false

theorem own : ownKnob Try.prog.godebug = none := by kernel_rfl
theorem laidOut : laidOutB Try.prog = true := by kernel_rfl

set_option maxHeartbeats 12800000 in
theorem walk (a0S : Nat) (a0 : Option Addr) (len0 cap0 : Nat) (c0 : Nat → Option Nat) (a1S : Nat) (a1 : Option Addr) (len1 cap1 : Nat) (c1 : Nat → Option Nat) (w : World) (w0 : Th.IsV w a0 len0 cap0 c0) (w0S : (Lit.float .f32 a0S).wf = true) (w1 : Th.IsV w a1 len1 cap1 c1) (w1S : (Lit.float .f32 a1S).wf = true) :
    Calls Try.prog 5 #[.agg #[.slice a0 len0 cap0, .float .f32 a0S], .agg #[.slice a1 len1 cap1, .float .f32 a1S]] w fun e w' => e = .returned (.bool true) ∧ Below w.heap.size w w' := by
  have hY0 := w0
  have HY0 := Lib.hid hY0
  have hmx0 : len0 ≤ maxLen := by have h1 := w0.1; have h2 := w0.2.1; omega
  have hmi0 : len0 ≤ 9223372036854775807 := by unfold maxLen at hmx0; omega
  have HF0 := Lib.hid (show Fl.Fr .f32 a0S (Fl.cl .f32 a0S) from ⟨rfl, Fl.lt32 w0S⟩)
  clear hY0 w0 w0S
  have hY1 := w1
  have HY1 := Lib.hid hY1
  have hmx1 : len1 ≤ maxLen := by have h1 := w1.1; have h2 := w1.2.1; omega
  have hmi1 : len1 ≤ 9223372036854775807 := by unfold maxLen at hmx1; omega
  have HF1 := Lib.hid (show Fl.Fr .f32 a1S (Fl.cl .f32 a1S) from ⟨rfl, Fl.lt32 w1S⟩)
  clear hY1 w1 w1S
  by_cases hbig0 : len0 ≤ 1048576
  · obtain ⟨K0, hK0⟩ : ∃ K : Int, K = if (len0 : Int) ≤ 1048576 then 1048576 - (len0 : Int) else -1 := ⟨_, rfl⟩
    have hk0 : ¬ K0 < 0 := by rw [hK0, if_pos (by omega)]; omega
    have hk0b : K0 ≤ 1048576 := by rw [hK0, if_pos (by omega)]; omega
    have HK0 := Lib.hid hK0; clear hK0
    have HT0 := Lib.hid (fun w' (hb : Below w.heap.size w w') => Th.to_thread a0 len0 cap0 a0S c0 w' (HY0.out.later hb) hbig0)
    by_cases hbig1' : (len1 : Int) ≤ K0
    · have hbig1 : len1 ≤ 1048576 := by omega
      obtain ⟨K1, hK1⟩ : ∃ K : Int, K = if (len1 : Int) ≤ K0 then K0 - (len1 : Int) else -1 := ⟨_, rfl⟩
      have hk1 : ¬ K1 < 0 := by rw [hK1, if_pos hbig1']; omega
      have HK1 := Lib.hid hK1; clear hK1
      have HT1 := Lib.hid (fun w' (hb : Below w.heap.size w w') => Th.to_thread a1 len1 cap1 a1S c1 w' (HY1.out.later hb) hbig1)
      obtain ⟨R, hR⟩ : ∃ R, Th.sameB len0 len1 (Fl.cl .f32 a0S) (Fl.cl .f32 a1S) c0 c1 = R := ⟨_, rfl⟩
      have HS := Lib.hid (fun a cap a' cap' w (h : Th.IsV w a len0 cap c0) (h' : Th.IsV w a' len1 cap' c1) => Th.spec_SameT a a' len0 len1 cap cap' a0S a1S _ _ c0 c1 w h h' HF0.out HF1.out hbig0 hbig1 R hR)
      have HI := Lib.hid (fun a cap a' cap' w (h : Th.IsV w a len0 cap c0) (h' : Th.IsV w a' len1 cap' c1) => Th.impl_SameT a a' len0 len1 cap cap' a0S a1S _ _ c0 c1 w h h' HF0.out HF1.out hbig0 hbig1 R hR)
      clear hR
      go_enter Try.func5, Try.ntmps5
      go_wp2_with fail
      refine (Th.sz_thread _ _ _ _ 1048576 _ hmx0 (by omega) K0 HK0.out).mono ?_
      rintro e w1 ⟨rfl, hb1⟩
      have hz1 := hb1.size
      try simp only [World.size_alloc] at hz1
      have qa0 : w1.heap[w.heap.size]? = some (.cells #[.slice a0 len0 cap0, .float .f32 a0S] 25) := Th.keep_block hb1 (Th.alloc_block (Th.new_block _ _))
      have qa1 : w1.heap[w.heap.size + 1]? = some (.cells #[.slice a1 len1 cap1, .float .f32 a1S] 25) := Th.keep_block hb1 (by simpa using Th.new_block ((w).alloc (.cells #[.slice a0 len0 cap0, .float .f32 a0S] 25)) (.cells #[.slice a1 len1 cap1, .float .f32 a1S] 25))
      have hbw : Below w.heap.size w w1 := Below.trans (Below.alloc (Below.alloc (Below.refl _ _) (by first | exact Nat.le_refl _ | omega | (simp; omega) | simp) _) (by first | exact Nat.le_refl _ | omega | (simp; omega) | simp) _) (hb1.mono (by first | omega | (simp; omega) | simp))
      clear hb1
      have Qa0 := Lib.hid qa0
      have la0 := Th.block_lt qa0
      have ea00 := (Th.cells_of (i := 0) qa0).trans (show _ = some (.slice a0 len0 cap0) from rfl)
      have ea01 := (Th.cells_of (i := 1) qa0).trans (show _ = some (.float .f32 a0S) from rfl)
      have Qa1 := Lib.hid qa1
      have la1 := Th.block_lt qa1
      have ea10 := (Th.cells_of (i := 0) qa1).trans (show _ = some (.slice a1 len1 cap1) from rfl)
      have ea11 := (Th.cells_of (i := 1) qa1).trans (show _ = some (.float .f32 a1S) from rfl)
      clear qa0 qa1
      have HBW := Lib.hid hbw
      clear hbw
      go_wp2_with fail
      refine (Th.sz_thread _ _ _ _ K0 _ hmx1 (by omega) K1 HK1.out).mono ?_
      rintro e w2 ⟨rfl, hb2⟩
      have hz2 := hb2.size
      try simp only [World.size_alloc] at hz2
      have qa0 := Th.keep_block hb2 Qa0.out
      have qa1 := Th.keep_block hb2 Qa1.out
      have hbw : Below w.heap.size w w2 := Below.trans HBW.out (hb2.mono (by first | omega | (simp; omega) | simp))
      clear Qa0 Qa1 la0 la1 ea00 ea01 ea10 ea11 HBW
      clear hb2
      have Qa0 := Lib.hid qa0
      have la0 := Th.block_lt qa0
      have ea00 := (Th.cells_of (i := 0) qa0).trans (show _ = some (.slice a0 len0 cap0) from rfl)
      have ea01 := (Th.cells_of (i := 1) qa0).trans (show _ = some (.float .f32 a0S) from rfl)
      have Qa1 := Lib.hid qa1
      have la1 := Th.block_lt qa1
      have ea10 := (Th.cells_of (i := 0) qa1).trans (show _ = some (.slice a1 len1 cap1) from rfl)
      have ea11 := (Th.cells_of (i := 1) qa1).trans (show _ = some (.float .f32 a1S) from rfl)
      clear qa0 qa1
      have HBW := Lib.hid hbw
      clear hbw
      have HW0 := Lib.hid (HY0.out.later HBW.out)
      have HW1 := Lib.hid (HY1.out.later HBW.out)
      go_wp2_with fail
      refine LooseP.wp_region 5 [((21 : Nat), Th.phi a0S len0 c0), ((23 : Nat), Th.phi a1S len1 c1)] (by kernel_rfl) (by kernel_rfl) (by simp [undef]) ?_
      apply Exists.intro
      simp only [List.take_succ_cons, List.take_zero, List.drop_succ_cons, List.drop_zero]
      have hst : ∀ p ∈ [((21 : Nat), Th.phi a0S len0 c0), ((23 : Nat), Th.phi a1S len1 c1)], LooseP.Stable p.2 := Th.duo_stable (Th.phi_stable _ _ _) (Th.phi_stable _ _ _)
      repeat (first | (apply Loose.walk_step; intro K hK; apply LooseP.turn_value (hwant := rfl) (hd := rfl); (focus (intro w' hw'; obtain ⟨hc, hf⟩ := Fl.bcell hw'; go_simp; first | done | rfl | exact ⟨rfl, rfl⟩)); go_simp; refine hK _ ?_; clear hK K) | (apply Loose.walk_step; intro K hK; refine LooseP.turn_callP (f := 15) (args := fun a => #[a.eval (.tmp 20)]) (V := fun v => ∃ a cap, v = Th.tV a len0 cap a0S) (φ := Th.phi a0S len0 c0) (d := 21) hst (Nat.le_refl _) rfl rfl (Th.duo_first (by decide)) (by intro a' w'; go_simp; first | done | rfl | exact ⟨rfl, rfl⟩) ⟨_, none, 0, rfl⟩ ?_ ?_; (focus (intro a' w' _ hcl; go_simp; exact Th.to_phi HW0.out hcl.1 hbig0)); (intro v hv; obtain ⟨av0, capv0, rfl⟩ := hv; go_simp; refine hK _ ?_; clear hK K)) | (apply Loose.walk_step; intro K hK; refine LooseP.turn_callP (f := 15) (args := fun a => #[a.eval (.tmp 22)]) (V := fun v => ∃ a cap, v = Th.tV a len1 cap a1S) (φ := Th.phi a1S len1 c1) (d := 23) hst (Nat.le_refl _) rfl rfl (Th.duo_second (by decide)) (by intro a' w'; go_simp; first | done | rfl | exact ⟨rfl, rfl⟩) ⟨_, none, 0, rfl⟩ ?_ ?_; (focus (intro a' w' _ hcl; go_simp; exact Th.to_phi HW1.out hcl.1 hbig1)); (intro v hv; obtain ⟨av1, capv1, rfl⟩ := hv; go_simp; refine hK _ ?_; clear hK K)) | (apply Loose.walk_step; intro K hK; refine LooseP.turn_call (f := 23) (args := fun a => #[a.eval (.tmp 21), a.eval (.tmp 23)]) (V := fun v => v = .bool R) hst (Nat.le_refl _) rfl rfl (by intro a' w'; go_simp; first | done | rfl | exact ⟨rfl, rfl⟩) ⟨_, rfl⟩ ?_ ?_; (focus (intro a' w' ha hcl; go_simp; obtain ⟨h1, h2⟩ := Th.two_phi hcl (List.mem_cons_self ..) (List.mem_cons_of_mem _ (List.mem_singleton.2 rfl)) (Th.first4 ha).1 (Th.first4 ha).2; exact (HS.out _ _ _ _ _ h1 h2).mono fun e w'' ⟨he, hb⟩ => ⟨_, he, rfl, hb⟩)); (intro v hv; obtain rfl := hv; go_simp; refine hK _ ?_; clear hK K)))
      refine Loose.walk_nil ?_
      intro w3 hcls3
      have hb3 := hcls3.1
      clear hcls3 hst HW0 HW1
      have hz3 := hb3.size
      try simp only [World.size_alloc] at hz3
      have qa0 := Th.keep_block hb3 Qa0.out
      have qa1 := Th.keep_block hb3 Qa1.out
      have hbw : Below w.heap.size w w3 := Below.trans HBW.out (hb3.mono (by first | omega | (simp; omega) | simp))
      clear Qa0 Qa1 la0 la1 ea00 ea01 ea10 ea11 HBW
      clear hb3
      have Qa0 := Lib.hid qa0
      have la0 := Th.block_lt qa0
      have ea00 := (Th.cells_of (i := 0) qa0).trans (show _ = some (.slice a0 len0 cap0) from rfl)
      have ea01 := (Th.cells_of (i := 1) qa0).trans (show _ = some (.float .f32 a0S) from rfl)
      have Qa1 := Lib.hid qa1
      have la1 := Th.block_lt qa1
      have ea10 := (Th.cells_of (i := 0) qa1).trans (show _ = some (.slice a1 len1 cap1) from rfl)
      have ea11 := (Th.cells_of (i := 1) qa1).trans (show _ = some (.float .f32 a1S) from rfl)
      clear qa0 qa1
      have HBW := Lib.hid hbw
      clear hbw
      go_wp2_with fail
      refine (HT0.out _ (HBW.out)).mono ?_
      rintro e w4 ⟨a4, cap4, rfl, ho4, hb4⟩
      have hz4 := hb4.size
      try simp only [World.size_alloc] at hz4
      have qa0 := Th.keep_block hb4 Qa0.out
      have qa1 := Th.keep_block hb4 Qa1.out
      have hbw : Below w.heap.size w w4 := Below.trans HBW.out (hb4.mono (by first | omega | (simp; omega) | simp))
      clear Qa0 Qa1 la0 la1 ea00 ea01 ea10 ea11 HBW
      clear hb4
      have Qa0 := Lib.hid qa0
      have la0 := Th.block_lt qa0
      have ea00 := (Th.cells_of (i := 0) qa0).trans (show _ = some (.slice a0 len0 cap0) from rfl)
      have ea01 := (Th.cells_of (i := 1) qa0).trans (show _ = some (.float .f32 a0S) from rfl)
      have Qa1 := Lib.hid qa1
      have la1 := Th.block_lt qa1
      have ea10 := (Th.cells_of (i := 0) qa1).trans (show _ = some (.slice a1 len1 cap1) from rfl)
      have ea11 := (Th.cells_of (i := 1) qa1).trans (show _ = some (.float .f32 a1S) from rfl)
      clear qa0 qa1
      have HBW := Lib.hid hbw
      clear hbw
      have RX0 := Lib.hid (ho4.wider (show w3.heap.size ≤ _ by simp) (Nat.le_refl _))
      clear ho4
      go_wp2_with fail
      refine (HT1.out _ (HBW.out.alloc (by omega) _)).mono ?_
      rintro e w5 ⟨a5, cap5, rfl, ho5, hb5⟩
      have hz5 := hb5.size
      try simp only [World.size_alloc] at hz5
      have qa0 := Th.keep_block hb5 (Th.alloc_block Qa0.out)
      have qa1 := Th.keep_block hb5 (Th.alloc_block Qa1.out)
      have qx0 : w5.heap[w4.heap.size]? = some (.cells #[.slice a4 len0 cap4, .float .f32 a0S] 33) := Th.keep_block hb5 (Th.new_block _ _)
      have yX0 := ((RX0.out.alloc _)).later hb5
      have hbw : Below w.heap.size w w5 := Below.trans (Below.alloc HBW.out (by first | exact Nat.le_refl _ | omega | (simp; omega) | simp) _) (hb5.mono (by first | omega | (simp; omega) | simp))
      clear Qa0 Qa1 la0 la1 ea00 ea01 ea10 ea11 RX0 HBW
      clear hb5
      have Qa0 := Lib.hid qa0
      have la0 := Th.block_lt qa0
      have ea00 := (Th.cells_of (i := 0) qa0).trans (show _ = some (.slice a0 len0 cap0) from rfl)
      have ea01 := (Th.cells_of (i := 1) qa0).trans (show _ = some (.float .f32 a0S) from rfl)
      have Qa1 := Lib.hid qa1
      have la1 := Th.block_lt qa1
      have ea10 := (Th.cells_of (i := 0) qa1).trans (show _ = some (.slice a1 len1 cap1) from rfl)
      have ea11 := (Th.cells_of (i := 1) qa1).trans (show _ = some (.float .f32 a1S) from rfl)
      have Qx0 := Lib.hid qx0
      have lx0 := Th.block_lt qx0
      have ex00 := (Th.cells_of (i := 0) qx0).trans (show _ = some (.slice a4 len0 cap4) from rfl)
      have ex01 := (Th.cells_of (i := 1) qx0).trans (show _ = some (.float .f32 a0S) from rfl)
      clear qa0 qa1 qx0
      have RX0 := Lib.hid yX0
      clear yX0
      have HBW := Lib.hid hbw
      clear hbw
      have RX1 := Lib.hid (ho5.wider (show w4.heap.size + 1 ≤ _ by simp) (Nat.le_refl _))
      clear ho5
      go_wp2_with fail
      refine (HI.out a4 cap4 a5 cap5 _ ((RX0.out.alloc _)).v ((RX1.out.alloc _)).v).mono ?_
      rintro e w6 ⟨rfl, hb6⟩
      have hz6 := hb6.size
      try simp only [World.size_alloc] at hz6
      have qa0 := Th.keep_block hb6 (Th.alloc_block Qa0.out)
      have qa1 := Th.keep_block hb6 (Th.alloc_block Qa1.out)
      have qx0 := Th.keep_block hb6 (Th.alloc_block Qx0.out)
      have qx1 : w6.heap[w5.heap.size]? = some (.cells #[.slice a5 len1 cap5, .float .f32 a1S] 33) := Th.keep_block hb6 (Th.new_block _ _)
      have yX0 := ((RX0.out.alloc _)).later hb6
      have yX1 := ((RX1.out.alloc _)).later hb6
      have hbw : Below w.heap.size w w6 := Below.trans (Below.alloc HBW.out (by first | exact Nat.le_refl _ | omega | (simp; omega) | simp) _) (hb6.mono (by first | omega | (simp; omega) | simp))
      clear Qa0 Qa1 Qx0 la0 la1 lx0 ea00 ea01 ea10 ea11 ex00 ex01 RX0 RX1 HBW
      clear hb6
      have Qa0 := Lib.hid qa0
      have la0 := Th.block_lt qa0
      have ea00 := (Th.cells_of (i := 0) qa0).trans (show _ = some (.slice a0 len0 cap0) from rfl)
      have ea01 := (Th.cells_of (i := 1) qa0).trans (show _ = some (.float .f32 a0S) from rfl)
      have Qa1 := Lib.hid qa1
      have la1 := Th.block_lt qa1
      have ea10 := (Th.cells_of (i := 0) qa1).trans (show _ = some (.slice a1 len1 cap1) from rfl)
      have ea11 := (Th.cells_of (i := 1) qa1).trans (show _ = some (.float .f32 a1S) from rfl)
      have Qx0 := Lib.hid qx0
      have lx0 := Th.block_lt qx0
      have ex00 := (Th.cells_of (i := 0) qx0).trans (show _ = some (.slice a4 len0 cap4) from rfl)
      have ex01 := (Th.cells_of (i := 1) qx0).trans (show _ = some (.float .f32 a0S) from rfl)
      have Qx1 := Lib.hid qx1
      have lx1 := Th.block_lt qx1
      have ex10 := (Th.cells_of (i := 0) qx1).trans (show _ = some (.slice a5 len1 cap5) from rfl)
      have ex11 := (Th.cells_of (i := 1) qx1).trans (show _ = some (.float .f32 a1S) from rfl)
      clear qa0 qa1 qx0 qx1
      have RX0 := Lib.hid yX0
      have RX1 := Lib.hid yX1
      clear yX0 yX1
      have HBW := Lib.hid hbw
      clear hbw
      have HX := Lib.hid RX0.out.v
      have HW := Lib.hid (HY0.out.later HBW.out)
      go_wp2_with fail
      refine LooseP.wp_region 4 [(37, Th.phi a0S len0 c0)] (by kernel_rfl) (by kernel_rfl) (by simp [undef]) ?_
      apply Exists.intro
      simp only [List.take_succ_cons, List.take_zero, List.drop_succ_cons, List.drop_zero]
      have hst : ∀ p ∈ [((37 : Nat), Th.phi a0S len0 c0)], LooseP.Stable p.2 := by intro p hp; rw [List.mem_singleton.1 hp]; exact Th.phi_stable _ _ _
      repeat (first | (apply Loose.walk_step; intro K hK; apply LooseP.turn_value (hwant := rfl) (hd := rfl); (focus (intro w' hw'; obtain ⟨hc, hf⟩ := Fl.bcell hw'; go_simp; first | done | rfl | exact ⟨rfl, rfl⟩)); go_simp; refine hK _ ?_; clear hK K) | (apply Loose.walk_step; intro K hK; refine LooseP.turn_callP (f := 15) (args := fun a => #[a.eval (.tmp 36)]) (V := fun v => ∃ a cap, v = Th.tV a len0 cap a0S) (φ := Th.phi a0S len0 c0) (d := 37) hst (Nat.le_refl _) rfl rfl (by intro p hp _; rw [List.mem_singleton.1 hp]) (by intro a' w'; go_simp; first | done | rfl | exact ⟨rfl, rfl⟩) ⟨_, none, 0, rfl⟩ ?_ ?_; (focus (intro a' w' _ hcl; go_simp; exact Th.to_phi HW.out hcl.1 hbig0)); (intro v hv; obtain ⟨av, capv, rfl⟩ := hv; go_simp; refine hK _ ?_; clear hK K)) | (apply Loose.walk_step; intro K hK; refine LooseP.turn_call (f := 18) (args := fun a => #[a.eval (.tmp 35), a.eval (.tmp 37)]) (V := fun v => v = .bool true) hst (Nat.le_refl _) rfl rfl (by intro a' w'; go_simp; first | done | rfl | exact ⟨rfl, rfl⟩) ⟨_, rfl⟩ ?_ ?_; (focus (intro a' w' ha hcl; go_simp; exact Th.eq_phi HX.out HF0.out HF0.out hcl (by simp) ha)); (intro v hv; obtain rfl := hv; go_simp; refine hK _ ?_; clear hK K)))
      refine Loose.walk_nil ?_
      intro w7 hcls7
      have hb7 := hcls7.1
      clear hcls7 hst
      clear HX HW
      have hz7 := hb7.size
      try simp only [World.size_alloc] at hz7
      have qa0 := Th.keep_block hb7 Qa0.out
      have qa1 := Th.keep_block hb7 Qa1.out
      have qx0 := Th.keep_block hb7 Qx0.out
      have qx1 := Th.keep_block hb7 Qx1.out
      have yX0 := (RX0.out).later hb7
      have yX1 := (RX1.out).later hb7
      have hbw : Below w.heap.size w w7 := Below.trans HBW.out (hb7.mono (by first | omega | (simp; omega) | simp))
      clear Qa0 Qa1 Qx0 Qx1 la0 la1 lx0 lx1 ea00 ea01 ea10 ea11 ex00 ex01 ex10 ex11 RX0 RX1 HBW
      clear hb7
      have Qa0 := Lib.hid qa0
      have la0 := Th.block_lt qa0
      have ea00 := (Th.cells_of (i := 0) qa0).trans (show _ = some (.slice a0 len0 cap0) from rfl)
      have ea01 := (Th.cells_of (i := 1) qa0).trans (show _ = some (.float .f32 a0S) from rfl)
      have Qa1 := Lib.hid qa1
      have la1 := Th.block_lt qa1
      have ea10 := (Th.cells_of (i := 0) qa1).trans (show _ = some (.slice a1 len1 cap1) from rfl)
      have ea11 := (Th.cells_of (i := 1) qa1).trans (show _ = some (.float .f32 a1S) from rfl)
      have Qx0 := Lib.hid qx0
      have lx0 := Th.block_lt qx0
      have ex00 := (Th.cells_of (i := 0) qx0).trans (show _ = some (.slice a4 len0 cap4) from rfl)
      have ex01 := (Th.cells_of (i := 1) qx0).trans (show _ = some (.float .f32 a0S) from rfl)
      have Qx1 := Lib.hid qx1
      have lx1 := Th.block_lt qx1
      have ex10 := (Th.cells_of (i := 0) qx1).trans (show _ = some (.slice a5 len1 cap5) from rfl)
      have ex11 := (Th.cells_of (i := 1) qx1).trans (show _ = some (.float .f32 a1S) from rfl)
      clear qa0 qa1 qx0 qx1
      have RX0 := Lib.hid yX0
      have RX1 := Lib.hid yX1
      clear yX0 yX1
      have HBW := Lib.hid hbw
      clear hbw
      have HX := Lib.hid RX1.out.v
      have HW := Lib.hid (HY1.out.later HBW.out)
      go_wp2_with fail
      refine LooseP.wp_region 4 [(42, Th.phi a1S len1 c1)] (by kernel_rfl) (by kernel_rfl) (by simp [undef]) ?_
      apply Exists.intro
      simp only [List.take_succ_cons, List.take_zero, List.drop_succ_cons, List.drop_zero]
      have hst : ∀ p ∈ [((42 : Nat), Th.phi a1S len1 c1)], LooseP.Stable p.2 := by intro p hp; rw [List.mem_singleton.1 hp]; exact Th.phi_stable _ _ _
      repeat (first | (apply Loose.walk_step; intro K hK; apply LooseP.turn_value (hwant := rfl) (hd := rfl); (focus (intro w' hw'; obtain ⟨hc, hf⟩ := Fl.bcell hw'; go_simp; first | done | rfl | exact ⟨rfl, rfl⟩)); go_simp; refine hK _ ?_; clear hK K) | (apply Loose.walk_step; intro K hK; refine LooseP.turn_callP (f := 15) (args := fun a => #[a.eval (.tmp 41)]) (V := fun v => ∃ a cap, v = Th.tV a len1 cap a1S) (φ := Th.phi a1S len1 c1) (d := 42) hst (Nat.le_refl _) rfl rfl (by intro p hp _; rw [List.mem_singleton.1 hp]) (by intro a' w'; go_simp; first | done | rfl | exact ⟨rfl, rfl⟩) ⟨_, none, 0, rfl⟩ ?_ ?_; (focus (intro a' w' _ hcl; go_simp; exact Th.to_phi HW.out hcl.1 hbig1)); (intro v hv; obtain ⟨av, capv, rfl⟩ := hv; go_simp; refine hK _ ?_; clear hK K)) | (apply Loose.walk_step; intro K hK; refine LooseP.turn_call (f := 18) (args := fun a => #[a.eval (.tmp 40), a.eval (.tmp 42)]) (V := fun v => v = .bool true) hst (Nat.le_refl _) rfl rfl (by intro a' w'; go_simp; first | done | rfl | exact ⟨rfl, rfl⟩) ⟨_, rfl⟩ ?_ ?_; (focus (intro a' w' ha hcl; go_simp; exact Th.eq_phi HX.out HF1.out HF1.out hcl (by simp) ha)); (intro v hv; obtain rfl := hv; go_simp; refine hK _ ?_; clear hK K)))
      refine Loose.walk_nil ?_
      intro w8 hcls8
      have hb8 := hcls8.1
      clear hcls8 hst
      clear HX HW
      have hz8 := hb8.size
      try simp only [World.size_alloc] at hz8
      have qa0 := Th.keep_block hb8 Qa0.out
      have qa1 := Th.keep_block hb8 Qa1.out
      have qx0 := Th.keep_block hb8 Qx0.out
      have qx1 := Th.keep_block hb8 Qx1.out
      have yX0 := (RX0.out).later hb8
      have yX1 := (RX1.out).later hb8
      have hbw : Below w.heap.size w w8 := Below.trans HBW.out (hb8.mono (by first | omega | (simp; omega) | simp))
      clear Qa0 Qa1 Qx0 Qx1 la0 la1 lx0 lx1 ea00 ea01 ea10 ea11 ex00 ex01 ex10 ex11 RX0 RX1 HBW
      clear hb8
      have Qa0 := Lib.hid qa0
      have la0 := Th.block_lt qa0
      have ea00 := (Th.cells_of (i := 0) qa0).trans (show _ = some (.slice a0 len0 cap0) from rfl)
      have ea01 := (Th.cells_of (i := 1) qa0).trans (show _ = some (.float .f32 a0S) from rfl)
      have Qa1 := Lib.hid qa1
      have la1 := Th.block_lt qa1
      have ea10 := (Th.cells_of (i := 0) qa1).trans (show _ = some (.slice a1 len1 cap1) from rfl)
      have ea11 := (Th.cells_of (i := 1) qa1).trans (show _ = some (.float .f32 a1S) from rfl)
      have Qx0 := Lib.hid qx0
      have lx0 := Th.block_lt qx0
      have ex00 := (Th.cells_of (i := 0) qx0).trans (show _ = some (.slice a4 len0 cap4) from rfl)
      have ex01 := (Th.cells_of (i := 1) qx0).trans (show _ = some (.float .f32 a0S) from rfl)
      have Qx1 := Lib.hid qx1
      have lx1 := Th.block_lt qx1
      have ex10 := (Th.cells_of (i := 0) qx1).trans (show _ = some (.slice a5 len1 cap5) from rfl)
      have ex11 := (Th.cells_of (i := 1) qx1).trans (show _ = some (.float .f32 a1S) from rfl)
      clear qa0 qa1 qx0 qx1
      have RX0 := Lib.hid yX0
      have RX1 := Lib.hid yX1
      clear yX0 yX1
      have HBW := Lib.hid hbw
      clear hbw
      go_wp2
      go_ret
      exact ⟨rfl, HBW.out⟩
    · go_enter Try.func5, Try.ntmps5
      go_wp2_with fail
      refine (Th.sz_thread _ _ _ _ 1048576 _ hmx0 (by omega) K0 HK0.out).mono ?_
      rintro e w1 ⟨rfl, hb1⟩
      have hz1 := hb1.size
      simp only [World.size_alloc] at hz1
      obtain ⟨hc1, hf1⟩ := Fl.bcell hb1
      have g1 : w.heap.size < w1.heap.size := by omega
      have g1' : w.heap.size + 1 < w1.heap.size := by omega
      go_wp2_with fail
      refine (Th.sz_thread _ _ _ _ K0 _ hmx1 (by omega) (-1) (by rw [if_neg (by omega)])).mono ?_
      rintro e w2 ⟨rfl, hb2⟩
      go_wp2
      go_ret
      exact ⟨rfl, by (repeat' first | exact Below.refl _ _ | (refine Below.setCell ?_ (by first | omega | (simp; omega) | simp) _) | (refine below_drewN ?_ _) | (refine Below.alloc ?_ (by first | omega | (simp; omega) | simp) _) | (refine Below.trans ?_ (Below.mono (by assumption) (by first | omega | (simp; omega) | simp))))⟩
  · have hk0 : Th.tV a0 len0 cap0 a0S = Th.tV a0 len0 cap0 a0S := rfl
    go_enter Try.func5, Try.ntmps5
    go_wp2_with fail
    refine (Th.sz_thread _ _ _ _ 1048576 _ hmx0 (by omega) (-1) (by rw [if_neg (by omega)])).mono ?_
    rintro e w1 ⟨rfl, hb1⟩
    go_wp2
    go_ret
    exact ⟨rfl, by (repeat' first | exact Below.refl _ _ | (refine Below.setCell ?_ (by first | omega | (simp; omega) | simp) _) | (refine below_drewN ?_ _) | (refine Below.alloc ?_ (by first | omega | (simp; omega) | simp) _) | (refine Below.trans ?_ (Below.mono (by assumption) (by first | omega | (simp; omega) | simp))))⟩

set_option maxRecDepth 100000 in
theorem lifted (os : Os) (started : os.Started) (H : Type) (enc : TypeId × Value → H) :
    ReturnsInHanded {} Try.checked os 5 .any (Rows.fnExactSameThreadSpec.pre6 enc Try.prog Try.f5 Rows.fnExactSameThreadRow.domain false) (Rows.fnExactSameThreadSpec.post enc Try.prog Try.f5 false true false false) := by
  refine returnsInHanded_of_change (C := Try.checked) own started (by kernel_rfl) Try.func5
    (ChangeSpec.witness6 (enc := enc) (C := Try.checked) false ⟨#[], #[.agg #[.slice none 0 0, .float .f32 0], .agg #[.slice none 0 0, .float .f32 0]], []⟩ 8 (by kernel_rfl) (by kernel_rfl) (by kernel_rfl) (by kernel_rfl)) ?_
  intro W base args ds gs before hval0 hW hcnd _
  have hval : ∀ (j : Nat) t v, Try.f5.params[j]? = some t → args[j]? = some v → Value.okWide Try.prog W .any base t v := hval0
  have hW' := hW
  obtain ⟨p, q, hA0, hV, rfl, hfz, hnd⟩ := hW
  have hA : DataW.TrodAll enc Try.prog W 0 (fun _ => true) true Try.f5.params.toList args.toList ds p := hA0
  rw [Try.params5] at hA hval
  obtain ⟨v0, vs0, d0, ds0, p0, q0, hargs, rfl, rfl, h0, r0⟩ := trodAll_cons hA
  obtain ⟨v1, vs1, d1, ds1, p1, q1, rfl, rfl, rfl, h1, r1⟩ := trodAll_cons r0
  obtain ⟨rfl, rfl, rfl⟩ := trodAll_nil r1
  obtain rfl : args = #[v0, v1] := by cases args; simp_all
  obtain ⟨rfl, rfl⟩ := trodVars_none hV
  have k0 := h0
  have lt0 : ∀ x ∈ p0, x.block < W.heap.size := by obtain ⟨m, hm⟩ := k0; exact DataW.trod_lt m _ _ _ hm
  obtain ⟨a0S, a0, len0, cap0, c0, rfl, w0, w0S⟩ := Th.open_thread Try.underlying25 (by kernel_rfl) (by kernel_rfl) rfl rfl Try.underlying23 Try.underlying22 Try.underlying62 (by kernel_rfl) (by kernel_rfl) rfl rfl rfl (hval 0 25 v0 rfl rfl) h0
  have k1 := h1
  have lt1 : ∀ x ∈ p1, x.block < W.heap.size := by obtain ⟨m, hm⟩ := k1; exact DataW.trod_lt m _ _ _ hm
  obtain ⟨a1S, a1, len1, cap1, c1, rfl, w1, w1S⟩ := Th.open_thread Try.underlying25 (by kernel_rfl) (by kernel_rfl) rfl rfl Try.underlying23 Try.underlying22 Try.underlying62 (by kernel_rfl) (by kernel_rfl) rfl rfl rfl (hval 1 25 v1 rfl rfl) h1
  clear hA0 hval0
  refine (walk a0S a0 len0 cap0 c0 a1S a1 len1 cap1 c1 W w0 w0S w1 w1S).mono fun e W' ⟨he, bel⟩ => ?_
  subst he
  exact ⟨_, rfl, _, _, _, [], _, [], hW', trodAll_mk1 (shut_bool Try.underlying4 _), (trodAll_cons_mk (Below.trod laidOut (by kernel_rfl) (of_decide_eq_true (by kernel_rfl)) k0 bel lt0) (trodAll_cons_mk (Below.trod laidOut (by kernel_rfl) (of_decide_eq_true (by kernel_rfl)) k1 bel lt1) trodAll_mk0)), rfl, bel.frame _, fun h => by cases h⟩

theorem over : Rows.fnExactSameThreadRow.holds Try.pinned (OpenSpec.ofChange Rows.fnExactSameThreadSpec) :=
  OpenClaim.holds_of_wide 5 Try.f5 rfl rfl rfl rfl rfl rfl rfl ⟨rfl, rfl, rfl, rfl, rfl⟩ rfl rfl rfl rfl rfl (by kernel_rfl) Try.func5 (by kernel_rfl)
    (of_decide_eq_true (by kernel_rfl)) (by unfold Func.isWrapper; first | (rw [if_pos (by decide +kernel)]; kernel_rfl) | (rw [if_neg (by decide +kernel)]; exact ⟨rfl, rfl⟩))
    (fun os started H enc _ => lifted os started H enc)

/-- The statement. -/
theorem proved : Rows.FnExactSameThreadSaid := over
#print axioms proved
end Go.Proofs.Ytjkkefbfhapblaa.fnExactSameThread
