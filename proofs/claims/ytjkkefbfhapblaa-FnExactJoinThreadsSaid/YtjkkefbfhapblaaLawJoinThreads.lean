/- 'FnExactJoinThreads' returns true at every input, and every argument reads afterwards as before. No conditions. -/
import Derived.Test.YtjkkefbfhapblaaRows
import Derived.WalkKit
import Derived.WalkLawsBesides
import Derived.ProofKit
import Derived.OpenShut
import Derived.ShutString
import Derived.ChangeOld
import Derived.Below
import Derived.Test.YtjkkefbfhapblaaFrame
import Derived.Test.YtjkkefbfhapblaaThU
import Derived.Test.YtjkkefbfhapblaaThJp
import Derived.Test.YtjkkefbfhapblaaThJs
namespace Go.Proofs.Ytjkkefbfhapblaa.fnExactJoinThreads
open Go.ChangeShapes Go.WideShapes Go.ChangeAt Go.RowKit
open Go.ChangeMaps (open_string shut_string)
set_option linter.unusedVariables false
set_option linter.unusedSimpArgs false

theorem own : ownKnob Try.prog.godebug = none := by kernel_rfl
theorem laidOut : laidOutB Try.prog = true := by kernel_rfl

set_option maxHeartbeats 25600000 in
theorem walk (a0S : Nat) (a0 : Option Addr) (len0 cap0 : Nat) (c0 : Nat → Option Nat) (a1S : Nat) (a1 : Option Addr) (len1 cap1 : Nat) (c1 : Nat → Option Nat) (a2 : Int) (a3 : Int) (w : World) (w0 : Th.IsV w a0 len0 cap0 c0) (w0S : (Lit.float .f32 a0S).wf = true) (w1 : Th.IsV w a1 len1 cap1 c1) (w1S : (Lit.float .f32 a1S).wf = true) (w2 : (Lit.int .i64 a2).wf = true) (w3 : (Lit.int .i64 a3).wf = true) :
    Calls Try.prog 9 #[.agg #[.slice a0 len0 cap0, .float .f32 a0S], .agg #[.slice a1 len1 cap1, .float .f32 a1S], .int .i64 a2, .int .i64 a3] w fun e w' => e = .returned (.bool true) ∧ Below w.heap.size w w' := by
  have hY0 := w0
  have HY0 := Lib.hid hY0
  have hmx0 : len0 ≤ maxLen := by have h1 := w0.1; have h2 := w0.2.1; omega
  have hmi0 : len0 ≤ 9223372036854775807 := by unfold maxLen at hmx0; omega
  have HF0 := Lib.hid (show Fl.Fr .f32 a0S (Fl.cl .f32 a0S) from ⟨rfl, Fl.lt32 w0S⟩)
  clear hY0 w0 w0S
  have hY1 := w1
  have HY1 := Lib.hid hY1
  have hmx1 : len1 ≤ maxLen := by have h1 := w1.1; have h2 := w1.2.1; omega
  have hmi1 : len1 ≤ 9223372036854775807 := by unfold maxLen at hmx1; omega
  have HF1 := Lib.hid (show Fl.Fr .f32 a1S (Fl.cl .f32 a1S) from ⟨rfl, Fl.lt32 w1S⟩)
  clear hY1 w1 w1S
  by_cases hbig0 : len0 ≤ 1048576
  · obtain ⟨K0, hK0⟩ : ∃ K : Int, K = if (len0 : Int) ≤ 1048576 then 1048576 - (len0 : Int) else -1 := ⟨_, rfl⟩
    have hk0 : ¬ K0 < 0 := by rw [hK0, if_pos (by omega)]; omega
    have hk0b : K0 ≤ 1048576 := by rw [hK0, if_pos (by omega)]; omega
    have HK0 := Lib.hid hK0; clear hK0
    have HT0 := Lib.hid (fun w' (hb : Below w.heap.size w w') => Th.to_thread a0 len0 cap0 a0S c0 w' (HY0.out.later hb) hbig0)
    by_cases hbig1' : (len1 : Int) ≤ K0
    · have hbig1 : len1 ≤ 1048576 := by omega
      obtain ⟨K1, hK1⟩ : ∃ K : Int, K = if (len1 : Int) ≤ K0 then K0 - (len1 : Int) else -1 := ⟨_, rfl⟩
      have hk1 : ¬ K1 < 0 := by rw [hK1, if_pos hbig1']; omega
      have HK1 := Lib.hid hK1; clear hK1
      have HT1 := Lib.hid (fun w' (hb : Below w.heap.size w w') => Th.to_thread a1 len1 cap1 a1S c1 w' (HY1.out.later hb) hbig1)
      have HS := Lib.hid (fun a cap a' cap' w (h : Th.IsV w a len0 cap c0) (h' : Th.IsV w a' len1 cap' c1) => Th.spec_JoinT a a' len0 len1 cap cap' a0S a1S _ _ c0 c1 w h h' HF0.out HF1.out a2 a3 _ rfl)
      have HI := Lib.hid (fun a cap a' cap' w (h : Th.IsV w a len0 cap c0) (h' : Th.IsV w a' len1 cap' c1) => Th.impl_JoinT a a' len0 len1 cap cap' a0S a1S _ _ c0 c1 w h h' HF0.out HF1.out a2 a3 _ rfl)
      obtain ⟨A3, hA3⟩ : ∃ A3, Th.joinB len0 len1 a2 a3 (Fl.cl .f32 a0S) (Fl.cl .f32 a1S) c0 c1 = A3 := ⟨_, rfl⟩
      rw [hA3] at HS HI
      unfold Th.RetG at HS HI
      have hn3 : (if A3 then len0 + len1 else 0) ≤ 32 := by
        cases A3
        · simp
        · unfold Th.joinB at hA3
          simp only [Bool.and_eq_true] at hA3
          simp only [if_true]
          exact (Th.okT_of hA3.2).2.1
      have h3s : Fl.Fr .f32 (if A3 then a0S else 0) (Fl.cl .f32 (if A3 then a0S else 0)) := ⟨rfl, by
        cases A3
        · exact (by decide : 0 < 2 ^ FloatKind.f32.format.width)
        · exact HF0.out.2⟩
      generalize (if A3 then len0 + len1 else 0) = n3 at *
      generalize (if A3 then a0S else 0) = s3 at *
      generalize Th.joinF len0 len1 a2 a3 c0 c1 = f3 at *
      clear hA3
      obtain ⟨p0, hp0⟩ : ∃ p : Int, p = 1 + (len0 : Int) * 3 := ⟨_, rfl⟩
      have hp00 : 0 ≤ p0 := by omega
      have hp0b : p0 ≤ 8388608 := by omega
      have HP0 := Lib.hid hp0
      obtain ⟨p1, hp1⟩ : ∃ p : Int, p = p0 + (len1 : Int) * 3 := ⟨_, rfl⟩
      have hp10 : 0 ≤ p1 := by omega
      have hp1b : p1 ≤ 16777216 := by omega
      have HP1 := Lib.hid hp1
      clear hp0 hp1
      obtain ⟨q, hq⟩ : ∃ q : Int, q = 1 + (n3 : Int) * 3 := ⟨_, rfl⟩
      have hq0 : 0 ≤ q := by omega
      have HQ := Lib.hid hq
      clear hq
      go_enter Try.func9, Try.ntmps9
      go_wp2_with fail
      refine (Th.sz_thread _ _ _ _ 1048576 _ hmx0 (by omega) K0 HK0.out).mono ?_
      rintro e w1 ⟨rfl, hb1⟩
      have hz1 := hb1.size
      try simp only [World.size_alloc] at hz1
      have qa0 : w1.heap[w.heap.size]? = some (.cells #[.slice a0 len0 cap0, .float .f32 a0S] 25) := Th.keep_block hb1 (Th.alloc_block (Th.new_block _ _))
      have qa1 : w1.heap[w.heap.size + 1]? = some (.cells #[.slice a1 len1 cap1, .float .f32 a1S] 25) := Th.keep_block hb1 (by simpa using Th.new_block ((w).alloc (.cells #[.slice a0 len0 cap0, .float .f32 a0S] 25)) (.cells #[.slice a1 len1 cap1, .float .f32 a1S] 25))
      have hbw : Below w.heap.size w w1 := Below.trans (Below.alloc (Below.alloc (Below.refl _ _) (by first | exact Nat.le_refl _ | omega | (simp; omega) | simp) _) (by first | exact Nat.le_refl _ | omega | (simp; omega) | simp) _) (hb1.mono (by first | omega | (simp; omega) | simp))
      clear hb1
      have Qa0 := Lib.hid qa0
      have la0 := Th.block_lt qa0
      have ea00 := (Th.cells_of (i := 0) qa0).trans (show _ = some (.slice a0 len0 cap0) from rfl)
      have ea01 := (Th.cells_of (i := 1) qa0).trans (show _ = some (.float .f32 a0S) from rfl)
      have Qa1 := Lib.hid qa1
      have la1 := Th.block_lt qa1
      have ea10 := (Th.cells_of (i := 0) qa1).trans (show _ = some (.slice a1 len1 cap1) from rfl)
      have ea11 := (Th.cells_of (i := 1) qa1).trans (show _ = some (.float .f32 a1S) from rfl)
      clear qa0 qa1
      have HBW := Lib.hid hbw
      clear hbw
      go_wp2_with fail
      refine (Th.sz_thread _ _ _ _ K0 _ hmx1 (by omega) K1 HK1.out).mono ?_
      rintro e w2 ⟨rfl, hb2⟩
      have hz2 := hb2.size
      try simp only [World.size_alloc] at hz2
      have qa0 := Th.keep_block hb2 Qa0.out
      have qa1 := Th.keep_block hb2 Qa1.out
      have hbw : Below w.heap.size w w2 := Below.trans HBW.out (hb2.mono (by first | omega | (simp; omega) | simp))
      clear Qa0 Qa1 la0 la1 ea00 ea01 ea10 ea11 HBW
      clear hb2
      have Qa0 := Lib.hid qa0
      have la0 := Th.block_lt qa0
      have ea00 := (Th.cells_of (i := 0) qa0).trans (show _ = some (.slice a0 len0 cap0) from rfl)
      have ea01 := (Th.cells_of (i := 1) qa0).trans (show _ = some (.float .f32 a0S) from rfl)
      have Qa1 := Lib.hid qa1
      have la1 := Th.block_lt qa1
      have ea10 := (Th.cells_of (i := 0) qa1).trans (show _ = some (.slice a1 len1 cap1) from rfl)
      have ea11 := (Th.cells_of (i := 1) qa1).trans (show _ = some (.float .f32 a1S) from rfl)
      clear qa0 qa1
      have HBW := Lib.hid hbw
      clear hbw
      have HW0 := Lib.hid (HY0.out.later HBW.out)
      have HW1 := Lib.hid (HY1.out.later HBW.out)
      go_wp2_with fail
      have hst : ∀ p ∈ [((33 : Nat), Th.phi a0S len0 c0), ((35 : Nat), Th.phi a1S len1 c1), ((38 : Nat), Th.phiG w2.heap.size A3 s3 n3 f3), ((31 : Nat), Th.phiG w2.heap.size A3 s3 n3 f3), ((39 : Nat), Th.phiO w2.heap.size s3 n3 f3), ((10 : Nat), Th.phiB w2.heap.size)], LooseP.Stable p.2 := Th.six_stable (Th.phi_stable _ _ _) (Th.phi_stable _ _ _) (Th.phiG_stable _ _ _ _ _) (Th.phiG_stable _ _ _ _ _) (Th.phiO_stable _ _ _ _) (Th.phiB_stable _)
      have hm0 : (33, Th.phi a0S len0 c0) ∈ [((33 : Nat), Th.phi a0S len0 c0), ((35 : Nat), Th.phi a1S len1 c1), ((38 : Nat), Th.phiG w2.heap.size A3 s3 n3 f3), ((31 : Nat), Th.phiG w2.heap.size A3 s3 n3 f3), ((39 : Nat), Th.phiO w2.heap.size s3 n3 f3), ((10 : Nat), Th.phiB w2.heap.size)] := (List.mem_cons_self ..)
      have hun0 : ∀ p ∈ [((33 : Nat), Th.phi a0S len0 c0), ((35 : Nat), Th.phi a1S len1 c1), ((38 : Nat), Th.phiG w2.heap.size A3 s3 n3 f3), ((31 : Nat), Th.phiG w2.heap.size A3 s3 n3 f3), ((39 : Nat), Th.phiO w2.heap.size s3 n3 f3), ((10 : Nat), Th.phiB w2.heap.size)], p.1 = 33 → p.2 = Th.phi a0S len0 c0 := Th.uni_of hm0 (by simp)
      have hm1 : (35, Th.phi a1S len1 c1) ∈ [((33 : Nat), Th.phi a0S len0 c0), ((35 : Nat), Th.phi a1S len1 c1), ((38 : Nat), Th.phiG w2.heap.size A3 s3 n3 f3), ((31 : Nat), Th.phiG w2.heap.size A3 s3 n3 f3), ((39 : Nat), Th.phiO w2.heap.size s3 n3 f3), ((10 : Nat), Th.phiB w2.heap.size)] := List.mem_cons_of_mem _ ((List.mem_cons_self ..))
      have hun1 : ∀ p ∈ [((33 : Nat), Th.phi a0S len0 c0), ((35 : Nat), Th.phi a1S len1 c1), ((38 : Nat), Th.phiG w2.heap.size A3 s3 n3 f3), ((31 : Nat), Th.phiG w2.heap.size A3 s3 n3 f3), ((39 : Nat), Th.phiO w2.heap.size s3 n3 f3), ((10 : Nat), Th.phiB w2.heap.size)], p.1 = 35 → p.2 = Th.phi a1S len1 c1 := Th.uni_of hm1 (by simp)
      have hm2 : (38, Th.phiG w2.heap.size A3 s3 n3 f3) ∈ [((33 : Nat), Th.phi a0S len0 c0), ((35 : Nat), Th.phi a1S len1 c1), ((38 : Nat), Th.phiG w2.heap.size A3 s3 n3 f3), ((31 : Nat), Th.phiG w2.heap.size A3 s3 n3 f3), ((39 : Nat), Th.phiO w2.heap.size s3 n3 f3), ((10 : Nat), Th.phiB w2.heap.size)] := List.mem_cons_of_mem _ (List.mem_cons_of_mem _ ((List.mem_cons_self ..)))
      have hun2 : ∀ p ∈ [((33 : Nat), Th.phi a0S len0 c0), ((35 : Nat), Th.phi a1S len1 c1), ((38 : Nat), Th.phiG w2.heap.size A3 s3 n3 f3), ((31 : Nat), Th.phiG w2.heap.size A3 s3 n3 f3), ((39 : Nat), Th.phiO w2.heap.size s3 n3 f3), ((10 : Nat), Th.phiB w2.heap.size)], p.1 = 38 → p.2 = Th.phiG w2.heap.size A3 s3 n3 f3 := Th.uni_of hm2 (by simp)
      have hm3 : (31, Th.phiG w2.heap.size A3 s3 n3 f3) ∈ [((33 : Nat), Th.phi a0S len0 c0), ((35 : Nat), Th.phi a1S len1 c1), ((38 : Nat), Th.phiG w2.heap.size A3 s3 n3 f3), ((31 : Nat), Th.phiG w2.heap.size A3 s3 n3 f3), ((39 : Nat), Th.phiO w2.heap.size s3 n3 f3), ((10 : Nat), Th.phiB w2.heap.size)] := List.mem_cons_of_mem _ (List.mem_cons_of_mem _ (List.mem_cons_of_mem _ ((List.mem_cons_self ..))))
      have hun3 : ∀ p ∈ [((33 : Nat), Th.phi a0S len0 c0), ((35 : Nat), Th.phi a1S len1 c1), ((38 : Nat), Th.phiG w2.heap.size A3 s3 n3 f3), ((31 : Nat), Th.phiG w2.heap.size A3 s3 n3 f3), ((39 : Nat), Th.phiO w2.heap.size s3 n3 f3), ((10 : Nat), Th.phiB w2.heap.size)], p.1 = 31 → p.2 = Th.phiG w2.heap.size A3 s3 n3 f3 := Th.uni_of hm3 (by simp)
      have hm4 : (39, Th.phiO w2.heap.size s3 n3 f3) ∈ [((33 : Nat), Th.phi a0S len0 c0), ((35 : Nat), Th.phi a1S len1 c1), ((38 : Nat), Th.phiG w2.heap.size A3 s3 n3 f3), ((31 : Nat), Th.phiG w2.heap.size A3 s3 n3 f3), ((39 : Nat), Th.phiO w2.heap.size s3 n3 f3), ((10 : Nat), Th.phiB w2.heap.size)] := List.mem_cons_of_mem _ (List.mem_cons_of_mem _ (List.mem_cons_of_mem _ (List.mem_cons_of_mem _ ((List.mem_cons_self ..)))))
      have hun4 : ∀ p ∈ [((33 : Nat), Th.phi a0S len0 c0), ((35 : Nat), Th.phi a1S len1 c1), ((38 : Nat), Th.phiG w2.heap.size A3 s3 n3 f3), ((31 : Nat), Th.phiG w2.heap.size A3 s3 n3 f3), ((39 : Nat), Th.phiO w2.heap.size s3 n3 f3), ((10 : Nat), Th.phiB w2.heap.size)], p.1 = 39 → p.2 = Th.phiO w2.heap.size s3 n3 f3 := Th.uni_of hm4 (by simp)
      have hm5 : (10, Th.phiB w2.heap.size) ∈ [((33 : Nat), Th.phi a0S len0 c0), ((35 : Nat), Th.phi a1S len1 c1), ((38 : Nat), Th.phiG w2.heap.size A3 s3 n3 f3), ((31 : Nat), Th.phiG w2.heap.size A3 s3 n3 f3), ((39 : Nat), Th.phiO w2.heap.size s3 n3 f3), ((10 : Nat), Th.phiB w2.heap.size)] := List.mem_cons_of_mem _ (List.mem_cons_of_mem _ (List.mem_cons_of_mem _ (List.mem_cons_of_mem _ (List.mem_cons_of_mem _ ((List.mem_cons_self ..))))))
      have hun5 : ∀ p ∈ [((33 : Nat), Th.phi a0S len0 c0), ((35 : Nat), Th.phi a1S len1 c1), ((38 : Nat), Th.phiG w2.heap.size A3 s3 n3 f3), ((31 : Nat), Th.phiG w2.heap.size A3 s3 n3 f3), ((39 : Nat), Th.phiO w2.heap.size s3 n3 f3), ((10 : Nat), Th.phiB w2.heap.size)], p.1 = 10 → p.2 = Th.phiB w2.heap.size := Th.uni_of hm5 (by simp)
      refine LooseL.wp_region 12 11 (fun i => decide (i < 9) || decide (i = 10)) [((33 : Nat), Th.phi a0S len0 c0), ((35 : Nat), Th.phi a1S len1 c1), ((38 : Nat), Th.phiG w2.heap.size A3 s3 n3 f3), ((31 : Nat), Th.phiG w2.heap.size A3 s3 n3 f3), ((39 : Nat), Th.phiO w2.heap.size s3 n3 f3), ((10 : Nat), Th.phiB w2.heap.size)] [((10 : Nat), Th.phiS w2.heap.size s3 n3 f3)] (by decide) (fun i hi => by simp; omega) (by kernel_rfl) (by kernel_rfl) (by kernel_rfl) (by simp [undef]) ?_
      apply Exists.intro
      simp only [List.take_succ_cons, List.take_zero, List.drop_succ_cons, List.drop_zero]
      repeat (first | (apply LooseL.walk_before (by decide) rfl; intro K hK; apply LooseP.turn_value (hwant := rfl) (hd := rfl); (focus (intro w' hw'; obtain ⟨hc, hf⟩ := Fl.bcell hw'; go_simp; first | done | rfl | exact ⟨rfl, rfl⟩)); go_simp; refine hK _ ?_; clear hK K) | (apply LooseL.walk_before (by decide) rfl; intro K hK; refine LooseP.turn_callP (f := 15) (args := fun a => #[a.eval (.tmp 32)]) (V := fun v => ∃ a cap, v = Th.tV a len0 cap a0S) (φ := Th.phi a0S len0 c0) (d := 33) hst (Nat.le_refl _) rfl rfl hun0 (by intro a' w'; go_simp; first | done | rfl | exact ⟨rfl, rfl⟩) ⟨_, none, 0, rfl⟩ ?_ ?_; (focus (intro a' w' _ hcl; go_simp; exact Th.to_phi HW0.out hcl.1 hbig0)); (intro v hv; obtain ⟨av0, capv0, rfl⟩ := hv; go_simp; refine hK _ ?_; clear hK K)) | (apply LooseL.walk_before (by decide) rfl; intro K hK; refine LooseP.turn_callP (f := 15) (args := fun a => #[a.eval (.tmp 34)]) (V := fun v => ∃ a cap, v = Th.tV a len1 cap a1S) (φ := Th.phi a1S len1 c1) (d := 35) hst (Nat.le_refl _) rfl rfl hun1 (by intro a' w'; go_simp; first | done | rfl | exact ⟨rfl, rfl⟩) ⟨_, none, 0, rfl⟩ ?_ ?_; (focus (intro a' w' _ hcl; go_simp; exact Th.to_phi HW1.out hcl.1 hbig1)); (intro v hv; obtain ⟨av1, capv1, rfl⟩ := hv; go_simp; refine hK _ ?_; clear hK K)) | (apply LooseL.walk_before (by decide) rfl; intro K hK; refine LooseP.turn_callP (f := 35) (args := fun a => #[a.eval (.tmp 33), a.eval (.tmp 35), a.eval (.tmp 36), a.eval (.tmp 37)]) (V := fun v => ∃ a cap, v = .tuple #[Th.tV a n3 cap s3, .bool A3]) (φ := Th.phiG w2.heap.size A3 s3 n3 f3) (d := 38) hst (Nat.le_refl _) rfl rfl hun2 (by intro a' w'; go_simp; first | done | rfl | exact ⟨rfl, rfl⟩) ⟨_, none, 0, rfl⟩ ?_ ?_; (focus (intro a' w' ha hcl; go_simp; obtain ⟨h1, h2⟩ := Th.two_phi hcl hm0 hm1 (Th.first4 ha).1 (Th.first4 ha).2; exact Th.call_phi (HS.out _ _ _ _ _ h1 h2) hcl.1)); (intro v hv; obtain ⟨avq, capvq, rfl⟩ := hv; go_simp; refine hK _ ?_; clear hK K)) | (apply LooseL.walk_before (by decide) rfl; intro K hK; refine LooseP.turn_moveP (V := fun v => ∃ a cap, v = .tuple #[Th.tV a n3 cap s3, .bool A3]) (φ := Th.phiG w2.heap.size A3 s3 n3 f3) (d := 31) (d0 := 38) rfl rfl hun3 hm2 ⟨_, none, 0, rfl⟩ rfl (by simp [Act.eval, undef]) Th.phiG_val ?_; (intro v hv; obtain ⟨avm, capvm, rfl⟩ := hv; go_simp; refine hK _ ?_; clear hK K)) | (apply LooseL.walk_before (by decide) rfl; intro K hK; refine LooseP.turn_extractP (V := fun v => ∃ a cap, v = Th.tV a n3 cap s3) (φ := Th.phiO w2.heap.size s3 n3 f3) (φ0 := Th.phiG w2.heap.size A3 s3 n3 f3) (d := 39) (d0 := 31) (i := 0) rfl rfl hun4 hm3 ⟨_, none, 0, rfl⟩ rfl (xs := #[Th.tV avm n3 capvm s3, .bool A3]) rfl rfl Th.phiG_part ?_; (intro v hv; obtain ⟨avx, capvx, rfl⟩ := hv; go_simp; refine hK _ ?_; clear hK K)) | (apply LooseL.walk_before (by decide) rfl; intro K hK; refine LooseP.turn_allocP (φ := Th.phiB w2.heap.size) (d := 10) (ob := .cells #[.slice none 0 0, .float .f32 0] 33) hst (Nat.le_refl _) rfl rfl hun5 (by intro w'; go_simp; first | done | rfl | exact ⟨rfl, rfl⟩) (fun w' hw' => ⟨_, rfl, hw', Th.new_block _ _⟩) ?_; (intro Ss hSs; go_simp; refine hK _ ?_; clear hK K)) | (apply LooseL.walk_value (by decide) rfl rfl rfl; (focus (intro w' hw'; obtain ⟨hc, hf⟩ := Fl.bcell hw'; go_simp; first | done | rfl | exact ⟨rfl, rfl⟩)); intro K hK; go_simp; refine hK _ ?_; clear hK K) | (apply LooseL.walk_mark (hks := rfl) (hwant := rfl) (hdst := rfl); (focus (intro a' w' hl hc; exact Th.store_phi hm5 hm4 (hl.2 (.tmp 10) (by simp [Op.operands])) (hl.2 (.tmp 39) (by simp [Op.operands])) hc (by intro w' c0 c1 f0 f1; go_simp; first | done | rfl | exact ⟨rfl, rfl⟩)))))
      refine LooseL.walk_nil ?_
      intro w3 hcls3
      have hb3 := hcls3.1
      have hz3 := hb3.size
      obtain ⟨S1, as1, cs1, L3, hS1, hSB3, hL3, hq3, ho3⟩ := hcls3.at (List.mem_cons_self ..) (v := .pointer (some ⟨Ss, 0, none⟩)) rfl (by simp [undef])
      obtain rfl : Ss = S1 := by simpa using hS1
      clear hcls3 hst hun0 hun1 hun2 hun3 hun4 hun5 hm0 hm1 hm2 hm3 hm4 hm5 HW0 HW1 hS1
      have qs := hq3
      clear hq3
      obtain ⟨avs, havs⟩ : ∃ x, x = as1 := ⟨_, rfl⟩
      obtain ⟨cvs, hcvs⟩ : ∃ x, x = cs1 := ⟨_, rfl⟩
      rw [← havs, ← hcvs] at qs ho3
      clear havs hcvs
      have qa0 := Th.keep_block hb3 Qa0.out
      have qa1 := Th.keep_block hb3 Qa1.out
      have hbw : Below w.heap.size w w3 := HBW.out.trans (hb3.mono (by omega))
      clear Qa0 Qa1 la0 la1 ea00 ea01 ea10 ea11 HBW
      clear hb3
      have ho3w := ho3.wider (Nat.le_refl _) hL3
      have hsls : Ss < w3.heap.size := Th.block_lt qs
      have Qa0 := Lib.hid qa0
      have la0 := Th.block_lt qa0
      have ea00 := (Th.cells_of (i := 0) qa0).trans (show _ = some (.slice a0 len0 cap0) from rfl)
      have ea01 := (Th.cells_of (i := 1) qa0).trans (show _ = some (.float .f32 a0S) from rfl)
      have Qa1 := Lib.hid qa1
      have la1 := Th.block_lt qa1
      have ea10 := (Th.cells_of (i := 0) qa1).trans (show _ = some (.slice a1 len1 cap1) from rfl)
      have ea11 := (Th.cells_of (i := 1) qa1).trans (show _ = some (.float .f32 a1S) from rfl)
      have Qs := Lib.hid qs
      have ls := Th.block_lt qs
      have es0 := (Th.cells_of (i := 0) qs).trans (show _ = some (.slice avs n3 cvs) from rfl)
      have es1 := (Th.cells_of (i := 1) qs).trans (show _ = some (.float .f32 s3) from rfl)
      clear qa0 qa1 qs
      have HBW := Lib.hid hbw
      clear hbw
      have RRs := Lib.hid ho3w
      clear ho3 ho3w
      go_wp2_with fail
      refine (HT0.out _ (HBW.out)).mono ?_
      rintro e w4 ⟨a4, cap4, rfl, ho4, hb4⟩
      have hz4 := hb4.size
      try simp only [World.size_alloc] at hz4
      have qa0 := Th.keep_block hb4 Qa0.out
      have qa1 := Th.keep_block hb4 Qa1.out
      have qs := Th.keep_block hb4 Qs.out
      have yRs := (RRs.out).later hb4
      have hbw : Below w.heap.size w w4 := Below.trans HBW.out (hb4.mono (by first | omega | (simp; omega) | simp))
      clear Qa0 Qa1 Qs la0 la1 ls ea00 ea01 ea10 ea11 es0 es1 RRs HBW
      clear hb4
      have Qa0 := Lib.hid qa0
      have la0 := Th.block_lt qa0
      have ea00 := (Th.cells_of (i := 0) qa0).trans (show _ = some (.slice a0 len0 cap0) from rfl)
      have ea01 := (Th.cells_of (i := 1) qa0).trans (show _ = some (.float .f32 a0S) from rfl)
      have Qa1 := Lib.hid qa1
      have la1 := Th.block_lt qa1
      have ea10 := (Th.cells_of (i := 0) qa1).trans (show _ = some (.slice a1 len1 cap1) from rfl)
      have ea11 := (Th.cells_of (i := 1) qa1).trans (show _ = some (.float .f32 a1S) from rfl)
      have Qs := Lib.hid qs
      have ls := Th.block_lt qs
      have es0 := (Th.cells_of (i := 0) qs).trans (show _ = some (.slice avs n3 cvs) from rfl)
      have es1 := (Th.cells_of (i := 1) qs).trans (show _ = some (.float .f32 s3) from rfl)
      clear qa0 qa1 qs
      have RRs := Lib.hid yRs
      clear yRs
      have HBW := Lib.hid hbw
      clear hbw
      have RX0 := Lib.hid (ho4.wider (show w3.heap.size ≤ _ by simp) (Nat.le_refl _))
      clear ho4
      go_wp2_with fail
      refine (HT1.out _ (HBW.out.alloc (by omega) _)).mono ?_
      rintro e w5 ⟨a5, cap5, rfl, ho5, hb5⟩
      have hz5 := hb5.size
      try simp only [World.size_alloc] at hz5
      have qa0 := Th.keep_block hb5 (Th.alloc_block Qa0.out)
      have qa1 := Th.keep_block hb5 (Th.alloc_block Qa1.out)
      have qs := Th.keep_block hb5 (Th.alloc_block Qs.out)
      have qx0 : w5.heap[w4.heap.size]? = some (.cells #[.slice a4 len0 cap4, .float .f32 a0S] 33) := Th.keep_block hb5 (Th.new_block _ _)
      have yRs := ((RRs.out.alloc _)).later hb5
      have yX0 := ((RX0.out.alloc _)).later hb5
      have hbw : Below w.heap.size w w5 := Below.trans (Below.alloc HBW.out (by first | exact Nat.le_refl _ | omega | (simp; omega) | simp) _) (hb5.mono (by first | omega | (simp; omega) | simp))
      clear Qa0 Qa1 Qs la0 la1 ls ea00 ea01 ea10 ea11 es0 es1 RRs RX0 HBW
      clear hb5
      have Qa0 := Lib.hid qa0
      have la0 := Th.block_lt qa0
      have ea00 := (Th.cells_of (i := 0) qa0).trans (show _ = some (.slice a0 len0 cap0) from rfl)
      have ea01 := (Th.cells_of (i := 1) qa0).trans (show _ = some (.float .f32 a0S) from rfl)
      have Qa1 := Lib.hid qa1
      have la1 := Th.block_lt qa1
      have ea10 := (Th.cells_of (i := 0) qa1).trans (show _ = some (.slice a1 len1 cap1) from rfl)
      have ea11 := (Th.cells_of (i := 1) qa1).trans (show _ = some (.float .f32 a1S) from rfl)
      have Qs := Lib.hid qs
      have ls := Th.block_lt qs
      have es0 := (Th.cells_of (i := 0) qs).trans (show _ = some (.slice avs n3 cvs) from rfl)
      have es1 := (Th.cells_of (i := 1) qs).trans (show _ = some (.float .f32 s3) from rfl)
      have Qx0 := Lib.hid qx0
      have lx0 := Th.block_lt qx0
      have ex00 := (Th.cells_of (i := 0) qx0).trans (show _ = some (.slice a4 len0 cap4) from rfl)
      have ex01 := (Th.cells_of (i := 1) qx0).trans (show _ = some (.float .f32 a0S) from rfl)
      clear qa0 qa1 qs qx0
      have RRs := Lib.hid yRs
      have RX0 := Lib.hid yX0
      clear yRs yX0
      have HBW := Lib.hid hbw
      clear hbw
      have RX1 := Lib.hid (ho5.wider (show w4.heap.size + 1 ≤ _ by simp) (Nat.le_refl _))
      clear ho5
      go_wp2_with fail
      refine (HI.out a4 cap4 a5 cap5 _ ((RX0.out.alloc _)).v ((RX1.out.alloc _)).v).mono ?_
      rintro e w6 ⟨a6, cap6, rfl, ho6, hb6⟩
      have hz6 := hb6.size
      try simp only [World.size_alloc] at hz6
      have qa0 := Th.keep_block hb6 (Th.alloc_block Qa0.out)
      have qa1 := Th.keep_block hb6 (Th.alloc_block Qa1.out)
      have qs := Th.keep_block hb6 (Th.alloc_block Qs.out)
      have qx0 := Th.keep_block hb6 (Th.alloc_block Qx0.out)
      have qx1 : w6.heap[w5.heap.size]? = some (.cells #[.slice a5 len1 cap5, .float .f32 a1S] 33) := Th.keep_block hb6 (Th.new_block _ _)
      have yRs := ((RRs.out.alloc _)).later hb6
      have yX0 := ((RX0.out.alloc _)).later hb6
      have yX1 := ((RX1.out.alloc _)).later hb6
      have hbw : Below w.heap.size w w6 := Below.trans (Below.alloc HBW.out (by first | exact Nat.le_refl _ | omega | (simp; omega) | simp) _) (hb6.mono (by first | omega | (simp; omega) | simp))
      clear Qa0 Qa1 Qs Qx0 la0 la1 ls lx0 ea00 ea01 ea10 ea11 es0 es1 ex00 ex01 RRs RX0 RX1 HBW
      clear hb6
      have Qa0 := Lib.hid qa0
      have la0 := Th.block_lt qa0
      have ea00 := (Th.cells_of (i := 0) qa0).trans (show _ = some (.slice a0 len0 cap0) from rfl)
      have ea01 := (Th.cells_of (i := 1) qa0).trans (show _ = some (.float .f32 a0S) from rfl)
      have Qa1 := Lib.hid qa1
      have la1 := Th.block_lt qa1
      have ea10 := (Th.cells_of (i := 0) qa1).trans (show _ = some (.slice a1 len1 cap1) from rfl)
      have ea11 := (Th.cells_of (i := 1) qa1).trans (show _ = some (.float .f32 a1S) from rfl)
      have Qs := Lib.hid qs
      have ls := Th.block_lt qs
      have es0 := (Th.cells_of (i := 0) qs).trans (show _ = some (.slice avs n3 cvs) from rfl)
      have es1 := (Th.cells_of (i := 1) qs).trans (show _ = some (.float .f32 s3) from rfl)
      have Qx0 := Lib.hid qx0
      have lx0 := Th.block_lt qx0
      have ex00 := (Th.cells_of (i := 0) qx0).trans (show _ = some (.slice a4 len0 cap4) from rfl)
      have ex01 := (Th.cells_of (i := 1) qx0).trans (show _ = some (.float .f32 a0S) from rfl)
      have Qx1 := Lib.hid qx1
      have lx1 := Th.block_lt qx1
      have ex10 := (Th.cells_of (i := 0) qx1).trans (show _ = some (.slice a5 len1 cap5) from rfl)
      have ex11 := (Th.cells_of (i := 1) qx1).trans (show _ = some (.float .f32 a1S) from rfl)
      clear qa0 qa1 qs qx0 qx1
      have RRs := Lib.hid yRs
      have RX0 := Lib.hid yX0
      have RX1 := Lib.hid yX1
      clear yRs yX0 yX1
      have HBW := Lib.hid hbw
      clear hbw
      have RG := Lib.hid (ho6.wider (show w5.heap.size + 1 ≤ _ by simp) (Nat.le_refl _))
      clear ho6
      go_wp2_with fail
      refine (Th.eq_thread a6 avs _ cap6 cvs _ _ _ f3 _ ((RG.out.alloc _)).v ((RRs.out.alloc _)).v h3s h3s).mono ?_
      rintro e w7 ⟨rfl, hb7⟩
      have hz7 := hb7.size
      try simp only [World.size_alloc] at hz7
      have qa0 := Th.keep_block hb7 (Th.alloc_block Qa0.out)
      have qa1 := Th.keep_block hb7 (Th.alloc_block Qa1.out)
      have qs := Th.keep_block hb7 (Th.alloc_block Qs.out)
      have qx0 := Th.keep_block hb7 (Th.alloc_block Qx0.out)
      have qx1 := Th.keep_block hb7 (Th.alloc_block Qx1.out)
      have qg : w7.heap[w6.heap.size]? = some (.cells #[.slice a6 n3 cap6, .float .f32 s3] 33) := Th.keep_block hb7 (Th.new_block _ _)
      have yRs := ((RRs.out.alloc _)).later hb7
      have yX0 := ((RX0.out.alloc _)).later hb7
      have yX1 := ((RX1.out.alloc _)).later hb7
      have yG := ((RG.out.alloc _)).later hb7
      have hbw : Below w.heap.size w w7 := Below.trans (Below.alloc HBW.out (by first | exact Nat.le_refl _ | omega | (simp; omega) | simp) _) (hb7.mono (by first | omega | (simp; omega) | simp))
      clear Qa0 Qa1 Qs Qx0 Qx1 la0 la1 ls lx0 lx1 ea00 ea01 ea10 ea11 es0 es1 ex00 ex01 ex10 ex11 RRs RX0 RX1 RG HBW
      clear hb7
      have Qa0 := Lib.hid qa0
      have la0 := Th.block_lt qa0
      have ea00 := (Th.cells_of (i := 0) qa0).trans (show _ = some (.slice a0 len0 cap0) from rfl)
      have ea01 := (Th.cells_of (i := 1) qa0).trans (show _ = some (.float .f32 a0S) from rfl)
      have Qa1 := Lib.hid qa1
      have la1 := Th.block_lt qa1
      have ea10 := (Th.cells_of (i := 0) qa1).trans (show _ = some (.slice a1 len1 cap1) from rfl)
      have ea11 := (Th.cells_of (i := 1) qa1).trans (show _ = some (.float .f32 a1S) from rfl)
      have Qs := Lib.hid qs
      have ls := Th.block_lt qs
      have es0 := (Th.cells_of (i := 0) qs).trans (show _ = some (.slice avs n3 cvs) from rfl)
      have es1 := (Th.cells_of (i := 1) qs).trans (show _ = some (.float .f32 s3) from rfl)
      have Qx0 := Lib.hid qx0
      have lx0 := Th.block_lt qx0
      have ex00 := (Th.cells_of (i := 0) qx0).trans (show _ = some (.slice a4 len0 cap4) from rfl)
      have ex01 := (Th.cells_of (i := 1) qx0).trans (show _ = some (.float .f32 a0S) from rfl)
      have Qx1 := Lib.hid qx1
      have lx1 := Th.block_lt qx1
      have ex10 := (Th.cells_of (i := 0) qx1).trans (show _ = some (.slice a5 len1 cap5) from rfl)
      have ex11 := (Th.cells_of (i := 1) qx1).trans (show _ = some (.float .f32 a1S) from rfl)
      have Qg := Lib.hid qg
      have lg := Th.block_lt qg
      have eg0 := (Th.cells_of (i := 0) qg).trans (show _ = some (.slice a6 n3 cap6) from rfl)
      have eg1 := (Th.cells_of (i := 1) qg).trans (show _ = some (.float .f32 s3) from rfl)
      clear qa0 qa1 qs qx0 qx1 qg
      have RRs := Lib.hid yRs
      have RX0 := Lib.hid yX0
      have RX1 := Lib.hid yX1
      have RG := Lib.hid yG
      clear yRs yX0 yX1 yG
      have HBW := Lib.hid hbw
      clear hbw
      have HX := Lib.hid RX0.out.v
      have HW := Lib.hid (HY0.out.later HBW.out)
      go_wp2_with fail
      refine LooseP.wp_region 4 [(64, Th.phi a0S len0 c0)] (by kernel_rfl) (by kernel_rfl) (by simp [undef]) ?_
      apply Exists.intro
      simp only [List.take_succ_cons, List.take_zero, List.drop_succ_cons, List.drop_zero]
      have hst : ∀ p ∈ [((64 : Nat), Th.phi a0S len0 c0)], LooseP.Stable p.2 := by intro p hp; rw [List.mem_singleton.1 hp]; exact Th.phi_stable _ _ _
      repeat (first | (apply Loose.walk_step; intro K hK; apply LooseP.turn_value (hwant := rfl) (hd := rfl); (focus (intro w' hw'; obtain ⟨hc, hf⟩ := Fl.bcell hw'; go_simp; first | done | rfl | exact ⟨rfl, rfl⟩)); go_simp; refine hK _ ?_; clear hK K) | (apply Loose.walk_step; intro K hK; refine LooseP.turn_callP (f := 15) (args := fun a => #[a.eval (.tmp 63)]) (V := fun v => ∃ a cap, v = Th.tV a len0 cap a0S) (φ := Th.phi a0S len0 c0) (d := 64) hst (Nat.le_refl _) rfl rfl (by intro p hp _; rw [List.mem_singleton.1 hp]) (by intro a' w'; go_simp; first | done | rfl | exact ⟨rfl, rfl⟩) ⟨_, none, 0, rfl⟩ ?_ ?_; (focus (intro a' w' _ hcl; go_simp; exact Th.to_phi HW.out hcl.1 hbig0)); (intro v hv; obtain ⟨av, capv, rfl⟩ := hv; go_simp; refine hK _ ?_; clear hK K)) | (apply Loose.walk_step; intro K hK; refine LooseP.turn_call (f := 18) (args := fun a => #[a.eval (.tmp 62), a.eval (.tmp 64)]) (V := fun v => v = .bool true) hst (Nat.le_refl _) rfl rfl (by intro a' w'; go_simp; first | done | rfl | exact ⟨rfl, rfl⟩) ⟨_, rfl⟩ ?_ ?_; (focus (intro a' w' ha hcl; go_simp; exact Th.eq_phi HX.out HF0.out HF0.out hcl (by simp) ha)); (intro v hv; obtain rfl := hv; go_simp; refine hK _ ?_; clear hK K)))
      refine Loose.walk_nil ?_
      intro w8 hcls8
      have hb8 := hcls8.1
      clear hcls8 hst
      clear HX HW
      have hz8 := hb8.size
      try simp only [World.size_alloc] at hz8
      have qa0 := Th.keep_block hb8 Qa0.out
      have qa1 := Th.keep_block hb8 Qa1.out
      have qs := Th.keep_block hb8 Qs.out
      have qx0 := Th.keep_block hb8 Qx0.out
      have qx1 := Th.keep_block hb8 Qx1.out
      have qg := Th.keep_block hb8 Qg.out
      have yRs := (RRs.out).later hb8
      have yX0 := (RX0.out).later hb8
      have yX1 := (RX1.out).later hb8
      have yG := (RG.out).later hb8
      have hbw : Below w.heap.size w w8 := Below.trans HBW.out (hb8.mono (by first | omega | (simp; omega) | simp))
      clear Qa0 Qa1 Qs Qx0 Qx1 Qg la0 la1 ls lx0 lx1 lg ea00 ea01 ea10 ea11 es0 es1 ex00 ex01 ex10 ex11 eg0 eg1 RRs RX0 RX1 RG HBW
      clear hb8
      have Qa0 := Lib.hid qa0
      have la0 := Th.block_lt qa0
      have ea00 := (Th.cells_of (i := 0) qa0).trans (show _ = some (.slice a0 len0 cap0) from rfl)
      have ea01 := (Th.cells_of (i := 1) qa0).trans (show _ = some (.float .f32 a0S) from rfl)
      have Qa1 := Lib.hid qa1
      have la1 := Th.block_lt qa1
      have ea10 := (Th.cells_of (i := 0) qa1).trans (show _ = some (.slice a1 len1 cap1) from rfl)
      have ea11 := (Th.cells_of (i := 1) qa1).trans (show _ = some (.float .f32 a1S) from rfl)
      have Qs := Lib.hid qs
      have ls := Th.block_lt qs
      have es0 := (Th.cells_of (i := 0) qs).trans (show _ = some (.slice avs n3 cvs) from rfl)
      have es1 := (Th.cells_of (i := 1) qs).trans (show _ = some (.float .f32 s3) from rfl)
      have Qx0 := Lib.hid qx0
      have lx0 := Th.block_lt qx0
      have ex00 := (Th.cells_of (i := 0) qx0).trans (show _ = some (.slice a4 len0 cap4) from rfl)
      have ex01 := (Th.cells_of (i := 1) qx0).trans (show _ = some (.float .f32 a0S) from rfl)
      have Qx1 := Lib.hid qx1
      have lx1 := Th.block_lt qx1
      have ex10 := (Th.cells_of (i := 0) qx1).trans (show _ = some (.slice a5 len1 cap5) from rfl)
      have ex11 := (Th.cells_of (i := 1) qx1).trans (show _ = some (.float .f32 a1S) from rfl)
      have Qg := Lib.hid qg
      have lg := Th.block_lt qg
      have eg0 := (Th.cells_of (i := 0) qg).trans (show _ = some (.slice a6 n3 cap6) from rfl)
      have eg1 := (Th.cells_of (i := 1) qg).trans (show _ = some (.float .f32 s3) from rfl)
      clear qa0 qa1 qs qx0 qx1 qg
      have RRs := Lib.hid yRs
      have RX0 := Lib.hid yX0
      have RX1 := Lib.hid yX1
      have RG := Lib.hid yG
      clear yRs yX0 yX1 yG
      have HBW := Lib.hid hbw
      clear hbw
      have HX := Lib.hid RX1.out.v
      have HW := Lib.hid (HY1.out.later HBW.out)
      go_wp2_with fail
      refine LooseP.wp_region 4 [(69, Th.phi a1S len1 c1)] (by kernel_rfl) (by kernel_rfl) (by simp [undef]) ?_
      apply Exists.intro
      simp only [List.take_succ_cons, List.take_zero, List.drop_succ_cons, List.drop_zero]
      have hst : ∀ p ∈ [((69 : Nat), Th.phi a1S len1 c1)], LooseP.Stable p.2 := by intro p hp; rw [List.mem_singleton.1 hp]; exact Th.phi_stable _ _ _
      repeat (first | (apply Loose.walk_step; intro K hK; apply LooseP.turn_value (hwant := rfl) (hd := rfl); (focus (intro w' hw'; obtain ⟨hc, hf⟩ := Fl.bcell hw'; go_simp; first | done | rfl | exact ⟨rfl, rfl⟩)); go_simp; refine hK _ ?_; clear hK K) | (apply Loose.walk_step; intro K hK; refine LooseP.turn_callP (f := 15) (args := fun a => #[a.eval (.tmp 68)]) (V := fun v => ∃ a cap, v = Th.tV a len1 cap a1S) (φ := Th.phi a1S len1 c1) (d := 69) hst (Nat.le_refl _) rfl rfl (by intro p hp _; rw [List.mem_singleton.1 hp]) (by intro a' w'; go_simp; first | done | rfl | exact ⟨rfl, rfl⟩) ⟨_, none, 0, rfl⟩ ?_ ?_; (focus (intro a' w' _ hcl; go_simp; exact Th.to_phi HW.out hcl.1 hbig1)); (intro v hv; obtain ⟨av, capv, rfl⟩ := hv; go_simp; refine hK _ ?_; clear hK K)) | (apply Loose.walk_step; intro K hK; refine LooseP.turn_call (f := 18) (args := fun a => #[a.eval (.tmp 67), a.eval (.tmp 69)]) (V := fun v => v = .bool true) hst (Nat.le_refl _) rfl rfl (by intro a' w'; go_simp; first | done | rfl | exact ⟨rfl, rfl⟩) ⟨_, rfl⟩ ?_ ?_; (focus (intro a' w' ha hcl; go_simp; exact Th.eq_phi HX.out HF1.out HF1.out hcl (by simp) ha)); (intro v hv; obtain rfl := hv; go_simp; refine hK _ ?_; clear hK K)))
      refine Loose.walk_nil ?_
      intro w9 hcls9
      have hb9 := hcls9.1
      clear hcls9 hst
      clear HX HW
      have hz9 := hb9.size
      try simp only [World.size_alloc] at hz9
      have qa0 := Th.keep_block hb9 Qa0.out
      have qa1 := Th.keep_block hb9 Qa1.out
      have qs := Th.keep_block hb9 Qs.out
      have qx0 := Th.keep_block hb9 Qx0.out
      have qx1 := Th.keep_block hb9 Qx1.out
      have qg := Th.keep_block hb9 Qg.out
      have yRs := (RRs.out).later hb9
      have yX0 := (RX0.out).later hb9
      have yX1 := (RX1.out).later hb9
      have yG := (RG.out).later hb9
      have hbw : Below w.heap.size w w9 := Below.trans HBW.out (hb9.mono (by first | omega | (simp; omega) | simp))
      clear Qa0 Qa1 Qs Qx0 Qx1 Qg la0 la1 ls lx0 lx1 lg ea00 ea01 ea10 ea11 es0 es1 ex00 ex01 ex10 ex11 eg0 eg1 RRs RX0 RX1 RG HBW
      clear hb9
      have Qa0 := Lib.hid qa0
      have la0 := Th.block_lt qa0
      have ea00 := (Th.cells_of (i := 0) qa0).trans (show _ = some (.slice a0 len0 cap0) from rfl)
      have ea01 := (Th.cells_of (i := 1) qa0).trans (show _ = some (.float .f32 a0S) from rfl)
      have Qa1 := Lib.hid qa1
      have la1 := Th.block_lt qa1
      have ea10 := (Th.cells_of (i := 0) qa1).trans (show _ = some (.slice a1 len1 cap1) from rfl)
      have ea11 := (Th.cells_of (i := 1) qa1).trans (show _ = some (.float .f32 a1S) from rfl)
      have Qs := Lib.hid qs
      have ls := Th.block_lt qs
      have es0 := (Th.cells_of (i := 0) qs).trans (show _ = some (.slice avs n3 cvs) from rfl)
      have es1 := (Th.cells_of (i := 1) qs).trans (show _ = some (.float .f32 s3) from rfl)
      have Qx0 := Lib.hid qx0
      have lx0 := Th.block_lt qx0
      have ex00 := (Th.cells_of (i := 0) qx0).trans (show _ = some (.slice a4 len0 cap4) from rfl)
      have ex01 := (Th.cells_of (i := 1) qx0).trans (show _ = some (.float .f32 a0S) from rfl)
      have Qx1 := Lib.hid qx1
      have lx1 := Th.block_lt qx1
      have ex10 := (Th.cells_of (i := 0) qx1).trans (show _ = some (.slice a5 len1 cap5) from rfl)
      have ex11 := (Th.cells_of (i := 1) qx1).trans (show _ = some (.float .f32 a1S) from rfl)
      have Qg := Lib.hid qg
      have lg := Th.block_lt qg
      have eg0 := (Th.cells_of (i := 0) qg).trans (show _ = some (.slice a6 n3 cap6) from rfl)
      have eg1 := (Th.cells_of (i := 1) qg).trans (show _ = some (.float .f32 s3) from rfl)
      clear qa0 qa1 qs qx0 qx1 qg
      have RRs := Lib.hid yRs
      have RX0 := Lib.hid yX0
      have RX1 := Lib.hid yX1
      have RG := Lib.hid yG
      clear yRs yX0 yX1 yG
      have HBW := Lib.hid hbw
      clear hbw
      go_wp2_with fail
      refine (Th.mark_thread (w3.heap.size) (w4.heap.size) a4 _ cap4 _ c0 1 (by omega) _ RX0.out hbig0 (by omega) (by omega)).mono ?_
      rintro e w10 ⟨rfl, hm10, hb10, hk10⟩
      rw [show (1 + (len0 : Int) * 3) = p0 from HP0.out.symm]
      have hz10 := hb10.size
      try simp only [World.size_alloc] at hz10
      have qa0 := (hk10 _ (by omega) la0).trans Qa0.out
      have qa1 := (hk10 _ (by omega) la1).trans Qa1.out
      have qs := (hk10 _ (by omega) ls).trans Qs.out
      have qx0 := (hk10 _ (by omega) lx0).trans Qx0.out
      have qx1 := (hk10 _ (by omega) lx1).trans Qx1.out
      have qg := (hk10 _ (by omega) lg).trans Qg.out
      have yRs := RRs.out.keep (fun g hg hgl hgs => hk10 g (by omega) hgs)
      have yX1 := RX1.out.keep (fun g hg hgl hgs => hk10 g (by omega) hgs)
      have yG := RG.out.keep (fun g hg hgl hgs => hk10 g (by omega) hgs)
      have hbw : Below w.heap.size w w10 := HBW.out.trans (hb10.mono (by omega))
      clear Qa0 Qa1 Qs Qx0 Qx1 Qg la0 la1 ls lx0 lx1 lg ea00 ea01 ea10 ea11 es0 es1 ex00 ex01 ex10 ex11 eg0 eg1 RRs RX0 RX1 RG HBW
      clear hb10 hk10
      have mX0 := hm10
      clear hm10
      have Qa0 := Lib.hid qa0
      have la0 := Th.block_lt qa0
      have ea00 := (Th.cells_of (i := 0) qa0).trans (show _ = some (.slice a0 len0 cap0) from rfl)
      have ea01 := (Th.cells_of (i := 1) qa0).trans (show _ = some (.float .f32 a0S) from rfl)
      have Qa1 := Lib.hid qa1
      have la1 := Th.block_lt qa1
      have ea10 := (Th.cells_of (i := 0) qa1).trans (show _ = some (.slice a1 len1 cap1) from rfl)
      have ea11 := (Th.cells_of (i := 1) qa1).trans (show _ = some (.float .f32 a1S) from rfl)
      have Qs := Lib.hid qs
      have ls := Th.block_lt qs
      have es0 := (Th.cells_of (i := 0) qs).trans (show _ = some (.slice avs n3 cvs) from rfl)
      have es1 := (Th.cells_of (i := 1) qs).trans (show _ = some (.float .f32 s3) from rfl)
      have Qx0 := Lib.hid qx0
      have lx0 := Th.block_lt qx0
      have ex00 := (Th.cells_of (i := 0) qx0).trans (show _ = some (.slice a4 len0 cap4) from rfl)
      have ex01 := (Th.cells_of (i := 1) qx0).trans (show _ = some (.float .f32 a0S) from rfl)
      have Qx1 := Lib.hid qx1
      have lx1 := Th.block_lt qx1
      have ex10 := (Th.cells_of (i := 0) qx1).trans (show _ = some (.slice a5 len1 cap5) from rfl)
      have ex11 := (Th.cells_of (i := 1) qx1).trans (show _ = some (.float .f32 a1S) from rfl)
      have Qg := Lib.hid qg
      have lg := Th.block_lt qg
      have eg0 := (Th.cells_of (i := 0) qg).trans (show _ = some (.slice a6 n3 cap6) from rfl)
      have eg1 := (Th.cells_of (i := 1) qg).trans (show _ = some (.float .f32 s3) from rfl)
      clear qa0 qa1 qs qx0 qx1 qg
      have RRs := Lib.hid yRs
      have RX1 := Lib.hid yX1
      have RG := Lib.hid yG
      have MX0 := Lib.hid mX0
      clear yRs yX1 yG mX0
      have HBW := Lib.hid hbw
      clear hbw
      go_wp2_with fail
      refine (Th.mark_thread (w4.heap.size + 1) (w5.heap.size) a5 _ cap5 _ c1 p0 (by omega) _ RX1.out hbig1 (by omega) (by omega)).mono ?_
      rintro e w11 ⟨rfl, hm11, hb11, hk11⟩
      rw [show (p0 + (len1 : Int) * 3) = p1 from HP1.out.symm]
      have hz11 := hb11.size
      try simp only [World.size_alloc] at hz11
      have qa0 := (hk11 _ (by omega) la0).trans Qa0.out
      have qa1 := (hk11 _ (by omega) la1).trans Qa1.out
      have qs := (hk11 _ (by omega) ls).trans Qs.out
      have qx0 := (hk11 _ (by omega) lx0).trans Qx0.out
      have qx1 := (hk11 _ (by omega) lx1).trans Qx1.out
      have qg := (hk11 _ (by omega) lg).trans Qg.out
      have yRs := RRs.out.keep (fun g hg hgl hgs => hk11 g (by omega) hgs)
      have yG := RG.out.keep (fun g hg hgl hgs => hk11 g (by omega) hgs)
      have mX0 := MX0.out.keep (fun g hg hgl hgs => hk11 g (by omega) hgs)
      have hbw : Below w.heap.size w w11 := HBW.out.trans (hb11.mono (by omega))
      clear Qa0 Qa1 Qs Qx0 Qx1 Qg la0 la1 ls lx0 lx1 lg ea00 ea01 ea10 ea11 es0 es1 ex00 ex01 ex10 ex11 eg0 eg1 RRs RX1 RG MX0 HBW
      clear hb11 hk11
      have mX1 := hm11
      clear hm11
      have Qa0 := Lib.hid qa0
      have la0 := Th.block_lt qa0
      have ea00 := (Th.cells_of (i := 0) qa0).trans (show _ = some (.slice a0 len0 cap0) from rfl)
      have ea01 := (Th.cells_of (i := 1) qa0).trans (show _ = some (.float .f32 a0S) from rfl)
      have Qa1 := Lib.hid qa1
      have la1 := Th.block_lt qa1
      have ea10 := (Th.cells_of (i := 0) qa1).trans (show _ = some (.slice a1 len1 cap1) from rfl)
      have ea11 := (Th.cells_of (i := 1) qa1).trans (show _ = some (.float .f32 a1S) from rfl)
      have Qs := Lib.hid qs
      have ls := Th.block_lt qs
      have es0 := (Th.cells_of (i := 0) qs).trans (show _ = some (.slice avs n3 cvs) from rfl)
      have es1 := (Th.cells_of (i := 1) qs).trans (show _ = some (.float .f32 s3) from rfl)
      have Qx0 := Lib.hid qx0
      have lx0 := Th.block_lt qx0
      have ex00 := (Th.cells_of (i := 0) qx0).trans (show _ = some (.slice a4 len0 cap4) from rfl)
      have ex01 := (Th.cells_of (i := 1) qx0).trans (show _ = some (.float .f32 a0S) from rfl)
      have Qx1 := Lib.hid qx1
      have lx1 := Th.block_lt qx1
      have ex10 := (Th.cells_of (i := 0) qx1).trans (show _ = some (.slice a5 len1 cap5) from rfl)
      have ex11 := (Th.cells_of (i := 1) qx1).trans (show _ = some (.float .f32 a1S) from rfl)
      have Qg := Lib.hid qg
      have lg := Th.block_lt qg
      have eg0 := (Th.cells_of (i := 0) qg).trans (show _ = some (.slice a6 n3 cap6) from rfl)
      have eg1 := (Th.cells_of (i := 1) qg).trans (show _ = some (.float .f32 s3) from rfl)
      clear qa0 qa1 qs qx0 qx1 qg
      have RRs := Lib.hid yRs
      have RG := Lib.hid yG
      have MX0 := Lib.hid mX0
      have MX1 := Lib.hid mX1
      clear yRs yG mX0 mX1
      have HBW := Lib.hid hbw
      clear hbw
      go_wp2_with fail
      refine (Th.eq_thread a6 avs _ cap6 cvs _ _ _ f3 _ (RG.out).v (RRs.out).v h3s h3s).mono ?_
      rintro e w12 ⟨rfl, hb12⟩
      have hz12 := hb12.size
      try simp only [World.size_alloc] at hz12
      have qa0 := Th.keep_block hb12 Qa0.out
      have qa1 := Th.keep_block hb12 Qa1.out
      have qs := Th.keep_block hb12 Qs.out
      have qx0 := Th.keep_block hb12 Qx0.out
      have qx1 := Th.keep_block hb12 Qx1.out
      have qg := Th.keep_block hb12 Qg.out
      have yRs := (RRs.out).later hb12
      have yG := (RG.out).later hb12
      have mX0 := (MX0.out).on hb12
      have mX1 := (MX1.out).on hb12
      have hbw : Below w.heap.size w w12 := Below.trans HBW.out (hb12.mono (by first | omega | (simp; omega) | simp))
      clear Qa0 Qa1 Qs Qx0 Qx1 Qg la0 la1 ls lx0 lx1 lg ea00 ea01 ea10 ea11 es0 es1 ex00 ex01 ex10 ex11 eg0 eg1 RRs RG MX0 MX1 HBW
      clear hb12
      have Qa0 := Lib.hid qa0
      have la0 := Th.block_lt qa0
      have ea00 := (Th.cells_of (i := 0) qa0).trans (show _ = some (.slice a0 len0 cap0) from rfl)
      have ea01 := (Th.cells_of (i := 1) qa0).trans (show _ = some (.float .f32 a0S) from rfl)
      have Qa1 := Lib.hid qa1
      have la1 := Th.block_lt qa1
      have ea10 := (Th.cells_of (i := 0) qa1).trans (show _ = some (.slice a1 len1 cap1) from rfl)
      have ea11 := (Th.cells_of (i := 1) qa1).trans (show _ = some (.float .f32 a1S) from rfl)
      have Qs := Lib.hid qs
      have ls := Th.block_lt qs
      have es0 := (Th.cells_of (i := 0) qs).trans (show _ = some (.slice avs n3 cvs) from rfl)
      have es1 := (Th.cells_of (i := 1) qs).trans (show _ = some (.float .f32 s3) from rfl)
      have Qx0 := Lib.hid qx0
      have lx0 := Th.block_lt qx0
      have ex00 := (Th.cells_of (i := 0) qx0).trans (show _ = some (.slice a4 len0 cap4) from rfl)
      have ex01 := (Th.cells_of (i := 1) qx0).trans (show _ = some (.float .f32 a0S) from rfl)
      have Qx1 := Lib.hid qx1
      have lx1 := Th.block_lt qx1
      have ex10 := (Th.cells_of (i := 0) qx1).trans (show _ = some (.slice a5 len1 cap5) from rfl)
      have ex11 := (Th.cells_of (i := 1) qx1).trans (show _ = some (.float .f32 a1S) from rfl)
      have Qg := Lib.hid qg
      have lg := Th.block_lt qg
      have eg0 := (Th.cells_of (i := 0) qg).trans (show _ = some (.slice a6 n3 cap6) from rfl)
      have eg1 := (Th.cells_of (i := 1) qg).trans (show _ = some (.float .f32 s3) from rfl)
      clear qa0 qa1 qs qx0 qx1 qg
      have RRs := Lib.hid yRs
      have RG := Lib.hid yG
      have MX0 := Lib.hid mX0
      have MX1 := Lib.hid mX1
      clear yRs yG mX0 mX1
      have HBW := Lib.hid hbw
      clear hbw
      go_wp2_with fail
      refine (Th.mark_thread (w5.heap.size + 1) (w6.heap.size) a6 _ cap6 _ f3 1 (by omega) _ RG.out (by omega) (by omega) (by omega)).mono ?_
      rintro e w13 ⟨rfl, hm13, hb13, hk13⟩
      rw [show (1 + (n3 : Int) * 3) = q from HQ.out.symm]
      have hz13 := hb13.size
      try simp only [World.size_alloc] at hz13
      have qa0 := (hk13 _ (by omega) la0).trans Qa0.out
      have qa1 := (hk13 _ (by omega) la1).trans Qa1.out
      have qs := (hk13 _ (by omega) ls).trans Qs.out
      have qx0 := (hk13 _ (by omega) lx0).trans Qx0.out
      have qx1 := (hk13 _ (by omega) lx1).trans Qx1.out
      have qg := (hk13 _ (by omega) lg).trans Qg.out
      have yRs := RRs.out.keep (fun g hg hgl hgs => hk13 g (by omega) hgs)
      have mX0 := MX0.out.keep (fun g hg hgl hgs => hk13 g (by omega) hgs)
      have mX1 := MX1.out.keep (fun g hg hgl hgs => hk13 g (by omega) hgs)
      have hbw : Below w.heap.size w w13 := HBW.out.trans (hb13.mono (by omega))
      clear Qa0 Qa1 Qs Qx0 Qx1 Qg la0 la1 ls lx0 lx1 lg ea00 ea01 ea10 ea11 es0 es1 ex00 ex01 ex10 ex11 eg0 eg1 RRs RG MX0 MX1 HBW
      clear hb13 hk13
      have mG := hm13
      clear hm13
      have Qa0 := Lib.hid qa0
      have la0 := Th.block_lt qa0
      have ea00 := (Th.cells_of (i := 0) qa0).trans (show _ = some (.slice a0 len0 cap0) from rfl)
      have ea01 := (Th.cells_of (i := 1) qa0).trans (show _ = some (.float .f32 a0S) from rfl)
      have Qa1 := Lib.hid qa1
      have la1 := Th.block_lt qa1
      have ea10 := (Th.cells_of (i := 0) qa1).trans (show _ = some (.slice a1 len1 cap1) from rfl)
      have ea11 := (Th.cells_of (i := 1) qa1).trans (show _ = some (.float .f32 a1S) from rfl)
      have Qs := Lib.hid qs
      have ls := Th.block_lt qs
      have es0 := (Th.cells_of (i := 0) qs).trans (show _ = some (.slice avs n3 cvs) from rfl)
      have es1 := (Th.cells_of (i := 1) qs).trans (show _ = some (.float .f32 s3) from rfl)
      have Qx0 := Lib.hid qx0
      have lx0 := Th.block_lt qx0
      have ex00 := (Th.cells_of (i := 0) qx0).trans (show _ = some (.slice a4 len0 cap4) from rfl)
      have ex01 := (Th.cells_of (i := 1) qx0).trans (show _ = some (.float .f32 a0S) from rfl)
      have Qx1 := Lib.hid qx1
      have lx1 := Th.block_lt qx1
      have ex10 := (Th.cells_of (i := 0) qx1).trans (show _ = some (.slice a5 len1 cap5) from rfl)
      have ex11 := (Th.cells_of (i := 1) qx1).trans (show _ = some (.float .f32 a1S) from rfl)
      have Qg := Lib.hid qg
      have lg := Th.block_lt qg
      have eg0 := (Th.cells_of (i := 0) qg).trans (show _ = some (.slice a6 n3 cap6) from rfl)
      have eg1 := (Th.cells_of (i := 1) qg).trans (show _ = some (.float .f32 s3) from rfl)
      clear qa0 qa1 qs qx0 qx1 qg
      have RRs := Lib.hid yRs
      have MX0 := Lib.hid mX0
      have MX1 := Lib.hid mX1
      have MG := Lib.hid mG
      clear yRs mX0 mX1 mG
      have HBW := Lib.hid hbw
      clear hbw
      go_wp2_with fail
      refine (Th.held_thread _ _ a6 _ cap6 _ 1 (by omega) _ MG.out).mono ?_
      rintro e w14 ⟨rfl, hb14⟩
      rw [show (1 + (n3 : Int) * 3) = q from HQ.out.symm]
      have hz14 := hb14.size
      try simp only [World.size_alloc] at hz14
      have qa0 := Th.keep_block hb14 Qa0.out
      have qa1 := Th.keep_block hb14 Qa1.out
      have qs := Th.keep_block hb14 Qs.out
      have qx0 := Th.keep_block hb14 Qx0.out
      have qx1 := Th.keep_block hb14 Qx1.out
      have qg := Th.keep_block hb14 Qg.out
      have yRs := (RRs.out).later hb14
      have mX0 := (MX0.out).on hb14
      have mX1 := (MX1.out).on hb14
      have mG := (MG.out).on hb14
      have hbw : Below w.heap.size w w14 := Below.trans HBW.out (hb14.mono (by first | omega | (simp; omega) | simp))
      clear Qa0 Qa1 Qs Qx0 Qx1 Qg la0 la1 ls lx0 lx1 lg ea00 ea01 ea10 ea11 es0 es1 ex00 ex01 ex10 ex11 eg0 eg1 RRs MX0 MX1 MG HBW
      clear hb14
      have Qa0 := Lib.hid qa0
      have la0 := Th.block_lt qa0
      have ea00 := (Th.cells_of (i := 0) qa0).trans (show _ = some (.slice a0 len0 cap0) from rfl)
      have ea01 := (Th.cells_of (i := 1) qa0).trans (show _ = some (.float .f32 a0S) from rfl)
      have Qa1 := Lib.hid qa1
      have la1 := Th.block_lt qa1
      have ea10 := (Th.cells_of (i := 0) qa1).trans (show _ = some (.slice a1 len1 cap1) from rfl)
      have ea11 := (Th.cells_of (i := 1) qa1).trans (show _ = some (.float .f32 a1S) from rfl)
      have Qs := Lib.hid qs
      have ls := Th.block_lt qs
      have es0 := (Th.cells_of (i := 0) qs).trans (show _ = some (.slice avs n3 cvs) from rfl)
      have es1 := (Th.cells_of (i := 1) qs).trans (show _ = some (.float .f32 s3) from rfl)
      have Qx0 := Lib.hid qx0
      have lx0 := Th.block_lt qx0
      have ex00 := (Th.cells_of (i := 0) qx0).trans (show _ = some (.slice a4 len0 cap4) from rfl)
      have ex01 := (Th.cells_of (i := 1) qx0).trans (show _ = some (.float .f32 a0S) from rfl)
      have Qx1 := Lib.hid qx1
      have lx1 := Th.block_lt qx1
      have ex10 := (Th.cells_of (i := 0) qx1).trans (show _ = some (.slice a5 len1 cap5) from rfl)
      have ex11 := (Th.cells_of (i := 1) qx1).trans (show _ = some (.float .f32 a1S) from rfl)
      have Qg := Lib.hid qg
      have lg := Th.block_lt qg
      have eg0 := (Th.cells_of (i := 0) qg).trans (show _ = some (.slice a6 n3 cap6) from rfl)
      have eg1 := (Th.cells_of (i := 1) qg).trans (show _ = some (.float .f32 s3) from rfl)
      clear qa0 qa1 qs qx0 qx1 qg
      have RRs := Lib.hid yRs
      have MX0 := Lib.hid mX0
      have MX1 := Lib.hid mX1
      have MG := Lib.hid mG
      clear yRs mX0 mX1 mG
      have HBW := Lib.hid hbw
      clear hbw
      have HW0 := Lib.hid (HY0.out.later HBW.out)
      have HW1 := Lib.hid (HY1.out.later HBW.out)
      go_wp2_with fail
      have hst : ∀ p ∈ [((104 : Nat), Th.phi a0S len0 c0), ((106 : Nat), Th.phi a1S len1 c1), ((109 : Nat), Th.phiG w14.heap.size A3 s3 n3 f3), ((102 : Nat), Th.phiG w14.heap.size A3 s3 n3 f3), ((110 : Nat), Th.phiO w14.heap.size s3 n3 f3), ((19 : Nat), Th.phiB w14.heap.size)], LooseP.Stable p.2 := Th.six_stable (Th.phi_stable _ _ _) (Th.phi_stable _ _ _) (Th.phiG_stable _ _ _ _ _) (Th.phiG_stable _ _ _ _ _) (Th.phiO_stable _ _ _ _) (Th.phiB_stable _)
      have hm0 : (104, Th.phi a0S len0 c0) ∈ [((104 : Nat), Th.phi a0S len0 c0), ((106 : Nat), Th.phi a1S len1 c1), ((109 : Nat), Th.phiG w14.heap.size A3 s3 n3 f3), ((102 : Nat), Th.phiG w14.heap.size A3 s3 n3 f3), ((110 : Nat), Th.phiO w14.heap.size s3 n3 f3), ((19 : Nat), Th.phiB w14.heap.size)] := (List.mem_cons_self ..)
      have hun0 : ∀ p ∈ [((104 : Nat), Th.phi a0S len0 c0), ((106 : Nat), Th.phi a1S len1 c1), ((109 : Nat), Th.phiG w14.heap.size A3 s3 n3 f3), ((102 : Nat), Th.phiG w14.heap.size A3 s3 n3 f3), ((110 : Nat), Th.phiO w14.heap.size s3 n3 f3), ((19 : Nat), Th.phiB w14.heap.size)], p.1 = 104 → p.2 = Th.phi a0S len0 c0 := Th.uni_of hm0 (by simp)
      have hm1 : (106, Th.phi a1S len1 c1) ∈ [((104 : Nat), Th.phi a0S len0 c0), ((106 : Nat), Th.phi a1S len1 c1), ((109 : Nat), Th.phiG w14.heap.size A3 s3 n3 f3), ((102 : Nat), Th.phiG w14.heap.size A3 s3 n3 f3), ((110 : Nat), Th.phiO w14.heap.size s3 n3 f3), ((19 : Nat), Th.phiB w14.heap.size)] := List.mem_cons_of_mem _ ((List.mem_cons_self ..))
      have hun1 : ∀ p ∈ [((104 : Nat), Th.phi a0S len0 c0), ((106 : Nat), Th.phi a1S len1 c1), ((109 : Nat), Th.phiG w14.heap.size A3 s3 n3 f3), ((102 : Nat), Th.phiG w14.heap.size A3 s3 n3 f3), ((110 : Nat), Th.phiO w14.heap.size s3 n3 f3), ((19 : Nat), Th.phiB w14.heap.size)], p.1 = 106 → p.2 = Th.phi a1S len1 c1 := Th.uni_of hm1 (by simp)
      have hm2 : (109, Th.phiG w14.heap.size A3 s3 n3 f3) ∈ [((104 : Nat), Th.phi a0S len0 c0), ((106 : Nat), Th.phi a1S len1 c1), ((109 : Nat), Th.phiG w14.heap.size A3 s3 n3 f3), ((102 : Nat), Th.phiG w14.heap.size A3 s3 n3 f3), ((110 : Nat), Th.phiO w14.heap.size s3 n3 f3), ((19 : Nat), Th.phiB w14.heap.size)] := List.mem_cons_of_mem _ (List.mem_cons_of_mem _ ((List.mem_cons_self ..)))
      have hun2 : ∀ p ∈ [((104 : Nat), Th.phi a0S len0 c0), ((106 : Nat), Th.phi a1S len1 c1), ((109 : Nat), Th.phiG w14.heap.size A3 s3 n3 f3), ((102 : Nat), Th.phiG w14.heap.size A3 s3 n3 f3), ((110 : Nat), Th.phiO w14.heap.size s3 n3 f3), ((19 : Nat), Th.phiB w14.heap.size)], p.1 = 109 → p.2 = Th.phiG w14.heap.size A3 s3 n3 f3 := Th.uni_of hm2 (by simp)
      have hm3 : (102, Th.phiG w14.heap.size A3 s3 n3 f3) ∈ [((104 : Nat), Th.phi a0S len0 c0), ((106 : Nat), Th.phi a1S len1 c1), ((109 : Nat), Th.phiG w14.heap.size A3 s3 n3 f3), ((102 : Nat), Th.phiG w14.heap.size A3 s3 n3 f3), ((110 : Nat), Th.phiO w14.heap.size s3 n3 f3), ((19 : Nat), Th.phiB w14.heap.size)] := List.mem_cons_of_mem _ (List.mem_cons_of_mem _ (List.mem_cons_of_mem _ ((List.mem_cons_self ..))))
      have hun3 : ∀ p ∈ [((104 : Nat), Th.phi a0S len0 c0), ((106 : Nat), Th.phi a1S len1 c1), ((109 : Nat), Th.phiG w14.heap.size A3 s3 n3 f3), ((102 : Nat), Th.phiG w14.heap.size A3 s3 n3 f3), ((110 : Nat), Th.phiO w14.heap.size s3 n3 f3), ((19 : Nat), Th.phiB w14.heap.size)], p.1 = 102 → p.2 = Th.phiG w14.heap.size A3 s3 n3 f3 := Th.uni_of hm3 (by simp)
      have hm4 : (110, Th.phiO w14.heap.size s3 n3 f3) ∈ [((104 : Nat), Th.phi a0S len0 c0), ((106 : Nat), Th.phi a1S len1 c1), ((109 : Nat), Th.phiG w14.heap.size A3 s3 n3 f3), ((102 : Nat), Th.phiG w14.heap.size A3 s3 n3 f3), ((110 : Nat), Th.phiO w14.heap.size s3 n3 f3), ((19 : Nat), Th.phiB w14.heap.size)] := List.mem_cons_of_mem _ (List.mem_cons_of_mem _ (List.mem_cons_of_mem _ (List.mem_cons_of_mem _ ((List.mem_cons_self ..)))))
      have hun4 : ∀ p ∈ [((104 : Nat), Th.phi a0S len0 c0), ((106 : Nat), Th.phi a1S len1 c1), ((109 : Nat), Th.phiG w14.heap.size A3 s3 n3 f3), ((102 : Nat), Th.phiG w14.heap.size A3 s3 n3 f3), ((110 : Nat), Th.phiO w14.heap.size s3 n3 f3), ((19 : Nat), Th.phiB w14.heap.size)], p.1 = 110 → p.2 = Th.phiO w14.heap.size s3 n3 f3 := Th.uni_of hm4 (by simp)
      have hm5 : (19, Th.phiB w14.heap.size) ∈ [((104 : Nat), Th.phi a0S len0 c0), ((106 : Nat), Th.phi a1S len1 c1), ((109 : Nat), Th.phiG w14.heap.size A3 s3 n3 f3), ((102 : Nat), Th.phiG w14.heap.size A3 s3 n3 f3), ((110 : Nat), Th.phiO w14.heap.size s3 n3 f3), ((19 : Nat), Th.phiB w14.heap.size)] := List.mem_cons_of_mem _ (List.mem_cons_of_mem _ (List.mem_cons_of_mem _ (List.mem_cons_of_mem _ (List.mem_cons_of_mem _ ((List.mem_cons_self ..))))))
      have hun5 : ∀ p ∈ [((104 : Nat), Th.phi a0S len0 c0), ((106 : Nat), Th.phi a1S len1 c1), ((109 : Nat), Th.phiG w14.heap.size A3 s3 n3 f3), ((102 : Nat), Th.phiG w14.heap.size A3 s3 n3 f3), ((110 : Nat), Th.phiO w14.heap.size s3 n3 f3), ((19 : Nat), Th.phiB w14.heap.size)], p.1 = 19 → p.2 = Th.phiB w14.heap.size := Th.uni_of hm5 (by simp)
      refine LooseL.wp_region 12 11 (fun i => decide (i < 9) || decide (i = 10)) [((104 : Nat), Th.phi a0S len0 c0), ((106 : Nat), Th.phi a1S len1 c1), ((109 : Nat), Th.phiG w14.heap.size A3 s3 n3 f3), ((102 : Nat), Th.phiG w14.heap.size A3 s3 n3 f3), ((110 : Nat), Th.phiO w14.heap.size s3 n3 f3), ((19 : Nat), Th.phiB w14.heap.size)] [((19 : Nat), Th.phiS w14.heap.size s3 n3 f3)] (by decide) (fun i hi => by simp; omega) (by kernel_rfl) (by kernel_rfl) (by kernel_rfl) (by simp [undef]) ?_
      apply Exists.intro
      simp only [List.take_succ_cons, List.take_zero, List.drop_succ_cons, List.drop_zero]
      repeat (first | (apply LooseL.walk_before (by decide) rfl; intro K hK; apply LooseP.turn_value (hwant := rfl) (hd := rfl); (focus (intro w' hw'; obtain ⟨hc, hf⟩ := Fl.bcell hw'; go_simp; first | done | rfl | exact ⟨rfl, rfl⟩)); go_simp; refine hK _ ?_; clear hK K) | (apply LooseL.walk_before (by decide) rfl; intro K hK; refine LooseP.turn_callP (f := 15) (args := fun a => #[a.eval (.tmp 103)]) (V := fun v => ∃ a cap, v = Th.tV a len0 cap a0S) (φ := Th.phi a0S len0 c0) (d := 104) hst (Nat.le_refl _) rfl rfl hun0 (by intro a' w'; go_simp; first | done | rfl | exact ⟨rfl, rfl⟩) ⟨_, none, 0, rfl⟩ ?_ ?_; (focus (intro a' w' _ hcl; go_simp; exact Th.to_phi HW0.out hcl.1 hbig0)); (intro v hv; obtain ⟨av0, capv0, rfl⟩ := hv; go_simp; refine hK _ ?_; clear hK K)) | (apply LooseL.walk_before (by decide) rfl; intro K hK; refine LooseP.turn_callP (f := 15) (args := fun a => #[a.eval (.tmp 105)]) (V := fun v => ∃ a cap, v = Th.tV a len1 cap a1S) (φ := Th.phi a1S len1 c1) (d := 106) hst (Nat.le_refl _) rfl rfl hun1 (by intro a' w'; go_simp; first | done | rfl | exact ⟨rfl, rfl⟩) ⟨_, none, 0, rfl⟩ ?_ ?_; (focus (intro a' w' _ hcl; go_simp; exact Th.to_phi HW1.out hcl.1 hbig1)); (intro v hv; obtain ⟨av1, capv1, rfl⟩ := hv; go_simp; refine hK _ ?_; clear hK K)) | (apply LooseL.walk_before (by decide) rfl; intro K hK; refine LooseP.turn_callP (f := 36) (args := fun a => #[a.eval (.tmp 104), a.eval (.tmp 106), a.eval (.tmp 107), a.eval (.tmp 108)]) (V := fun v => ∃ a cap, v = .tuple #[Th.tV a n3 cap s3, .bool A3]) (φ := Th.phiG w14.heap.size A3 s3 n3 f3) (d := 109) hst (Nat.le_refl _) rfl rfl hun2 (by intro a' w'; go_simp; first | done | rfl | exact ⟨rfl, rfl⟩) ⟨_, none, 0, rfl⟩ ?_ ?_; (focus (intro a' w' ha hcl; go_simp; obtain ⟨h1, h2⟩ := Th.two_phi hcl hm0 hm1 (Th.first4 ha).1 (Th.first4 ha).2; exact Th.call_phi (HI.out _ _ _ _ _ h1 h2) hcl.1)); (intro v hv; obtain ⟨avq, capvq, rfl⟩ := hv; go_simp; refine hK _ ?_; clear hK K)) | (apply LooseL.walk_before (by decide) rfl; intro K hK; refine LooseP.turn_moveP (V := fun v => ∃ a cap, v = .tuple #[Th.tV a n3 cap s3, .bool A3]) (φ := Th.phiG w14.heap.size A3 s3 n3 f3) (d := 102) (d0 := 109) rfl rfl hun3 hm2 ⟨_, none, 0, rfl⟩ rfl (by simp [Act.eval, undef]) Th.phiG_val ?_; (intro v hv; obtain ⟨avm, capvm, rfl⟩ := hv; go_simp; refine hK _ ?_; clear hK K)) | (apply LooseL.walk_before (by decide) rfl; intro K hK; refine LooseP.turn_extractP (V := fun v => ∃ a cap, v = Th.tV a n3 cap s3) (φ := Th.phiO w14.heap.size s3 n3 f3) (φ0 := Th.phiG w14.heap.size A3 s3 n3 f3) (d := 110) (d0 := 102) (i := 0) rfl rfl hun4 hm3 ⟨_, none, 0, rfl⟩ rfl (xs := #[Th.tV avm n3 capvm s3, .bool A3]) rfl rfl Th.phiG_part ?_; (intro v hv; obtain ⟨avx, capvx, rfl⟩ := hv; go_simp; refine hK _ ?_; clear hK K)) | (apply LooseL.walk_before (by decide) rfl; intro K hK; refine LooseP.turn_allocP (φ := Th.phiB w14.heap.size) (d := 19) (ob := .cells #[.slice none 0 0, .float .f32 0] 33) hst (Nat.le_refl _) rfl rfl hun5 (by intro w'; go_simp; first | done | rfl | exact ⟨rfl, rfl⟩) (fun w' hw' => ⟨_, rfl, hw', Th.new_block _ _⟩) ?_; (intro Sh hSh; go_simp; refine hK _ ?_; clear hK K)) | (apply LooseL.walk_value (by decide) rfl rfl rfl; (focus (intro w' hw'; obtain ⟨hc, hf⟩ := Fl.bcell hw'; go_simp; first | done | rfl | exact ⟨rfl, rfl⟩)); intro K hK; go_simp; refine hK _ ?_; clear hK K) | (apply LooseL.walk_mark (hks := rfl) (hwant := rfl) (hdst := rfl); (focus (intro a' w' hl hc; exact Th.store_phi hm5 hm4 (hl.2 (.tmp 19) (by simp [Op.operands])) (hl.2 (.tmp 110) (by simp [Op.operands])) hc (by intro w' c0 c1 f0 f1; go_simp; first | done | rfl | exact ⟨rfl, rfl⟩)))))
      refine LooseL.walk_nil ?_
      intro w15 hcls15
      have hb15 := hcls15.1
      have hz15 := hb15.size
      obtain ⟨S1, as1, cs1, L15, hS1, hSB15, hL15, hq15, ho15⟩ := hcls15.at (List.mem_cons_self ..) (v := .pointer (some ⟨Sh, 0, none⟩)) rfl (by simp [undef])
      obtain rfl : Sh = S1 := by simpa using hS1
      clear hcls15 hst hun0 hun1 hun2 hun3 hun4 hun5 hm0 hm1 hm2 hm3 hm4 hm5 HW0 HW1 hS1
      have qh := hq15
      clear hq15
      obtain ⟨avh, havh⟩ : ∃ x, x = as1 := ⟨_, rfl⟩
      obtain ⟨cvh, hcvh⟩ : ∃ x, x = cs1 := ⟨_, rfl⟩
      rw [← havh, ← hcvh] at qh ho15
      clear havh hcvh
      have qa0 := Th.keep_block hb15 Qa0.out
      have qa1 := Th.keep_block hb15 Qa1.out
      have qs := Th.keep_block hb15 Qs.out
      have qx0 := Th.keep_block hb15 Qx0.out
      have qx1 := Th.keep_block hb15 Qx1.out
      have qg := Th.keep_block hb15 Qg.out
      have yRs := RRs.out.later hb15
      have mX0 := MX0.out.on hb15
      have mX1 := MX1.out.on hb15
      have mG := MG.out.on hb15
      have hbw : Below w.heap.size w w15 := HBW.out.trans (hb15.mono (by omega))
      clear Qa0 Qa1 Qs Qx0 Qx1 Qg la0 la1 ls lx0 lx1 lg ea00 ea01 ea10 ea11 es0 es1 ex00 ex01 ex10 ex11 eg0 eg1 RRs MX0 MX1 MG HBW
      clear hb15
      have ho15w := ho15.wider (Nat.le_refl _) hL15
      have hslh : Sh < w15.heap.size := Th.block_lt qh
      have Qa0 := Lib.hid qa0
      have la0 := Th.block_lt qa0
      have ea00 := (Th.cells_of (i := 0) qa0).trans (show _ = some (.slice a0 len0 cap0) from rfl)
      have ea01 := (Th.cells_of (i := 1) qa0).trans (show _ = some (.float .f32 a0S) from rfl)
      have Qa1 := Lib.hid qa1
      have la1 := Th.block_lt qa1
      have ea10 := (Th.cells_of (i := 0) qa1).trans (show _ = some (.slice a1 len1 cap1) from rfl)
      have ea11 := (Th.cells_of (i := 1) qa1).trans (show _ = some (.float .f32 a1S) from rfl)
      have Qs := Lib.hid qs
      have ls := Th.block_lt qs
      have es0 := (Th.cells_of (i := 0) qs).trans (show _ = some (.slice avs n3 cvs) from rfl)
      have es1 := (Th.cells_of (i := 1) qs).trans (show _ = some (.float .f32 s3) from rfl)
      have Qx0 := Lib.hid qx0
      have lx0 := Th.block_lt qx0
      have ex00 := (Th.cells_of (i := 0) qx0).trans (show _ = some (.slice a4 len0 cap4) from rfl)
      have ex01 := (Th.cells_of (i := 1) qx0).trans (show _ = some (.float .f32 a0S) from rfl)
      have Qx1 := Lib.hid qx1
      have lx1 := Th.block_lt qx1
      have ex10 := (Th.cells_of (i := 0) qx1).trans (show _ = some (.slice a5 len1 cap5) from rfl)
      have ex11 := (Th.cells_of (i := 1) qx1).trans (show _ = some (.float .f32 a1S) from rfl)
      have Qg := Lib.hid qg
      have lg := Th.block_lt qg
      have eg0 := (Th.cells_of (i := 0) qg).trans (show _ = some (.slice a6 n3 cap6) from rfl)
      have eg1 := (Th.cells_of (i := 1) qg).trans (show _ = some (.float .f32 s3) from rfl)
      have Qh := Lib.hid qh
      have lh := Th.block_lt qh
      have eh0 := (Th.cells_of (i := 0) qh).trans (show _ = some (.slice avh n3 cvh) from rfl)
      have eh1 := (Th.cells_of (i := 1) qh).trans (show _ = some (.float .f32 s3) from rfl)
      clear qa0 qa1 qs qx0 qx1 qg qh
      have RRs := Lib.hid yRs
      have MX0 := Lib.hid mX0
      have MX1 := Lib.hid mX1
      have MG := Lib.hid mG
      clear yRs mX0 mX1 mG
      have HBW := Lib.hid hbw
      clear hbw
      have RRh := Lib.hid ho15w
      clear ho15 ho15w
      go_wp2_with fail
      refine (Th.eq_thread avh avs _ cvh cvs _ _ _ f3 _ (RRh.out).v (RRs.out).v h3s h3s).mono ?_
      rintro e w16 ⟨rfl, hb16⟩
      have hz16 := hb16.size
      try simp only [World.size_alloc] at hz16
      have qa0 := Th.keep_block hb16 Qa0.out
      have qa1 := Th.keep_block hb16 Qa1.out
      have qs := Th.keep_block hb16 Qs.out
      have qx0 := Th.keep_block hb16 Qx0.out
      have qx1 := Th.keep_block hb16 Qx1.out
      have qg := Th.keep_block hb16 Qg.out
      have qh := Th.keep_block hb16 Qh.out
      have yRs := (RRs.out).later hb16
      have yRh := (RRh.out).later hb16
      have mX0 := (MX0.out).on hb16
      have mX1 := (MX1.out).on hb16
      have mG := (MG.out).on hb16
      have hbw : Below w.heap.size w w16 := Below.trans HBW.out (hb16.mono (by first | omega | (simp; omega) | simp))
      clear Qa0 Qa1 Qs Qx0 Qx1 Qg Qh la0 la1 ls lx0 lx1 lg lh ea00 ea01 ea10 ea11 es0 es1 ex00 ex01 ex10 ex11 eg0 eg1 eh0 eh1 RRs RRh MX0 MX1 MG HBW
      clear hb16
      have Qa0 := Lib.hid qa0
      have la0 := Th.block_lt qa0
      have ea00 := (Th.cells_of (i := 0) qa0).trans (show _ = some (.slice a0 len0 cap0) from rfl)
      have ea01 := (Th.cells_of (i := 1) qa0).trans (show _ = some (.float .f32 a0S) from rfl)
      have Qa1 := Lib.hid qa1
      have la1 := Th.block_lt qa1
      have ea10 := (Th.cells_of (i := 0) qa1).trans (show _ = some (.slice a1 len1 cap1) from rfl)
      have ea11 := (Th.cells_of (i := 1) qa1).trans (show _ = some (.float .f32 a1S) from rfl)
      have Qs := Lib.hid qs
      have ls := Th.block_lt qs
      have es0 := (Th.cells_of (i := 0) qs).trans (show _ = some (.slice avs n3 cvs) from rfl)
      have es1 := (Th.cells_of (i := 1) qs).trans (show _ = some (.float .f32 s3) from rfl)
      have Qx0 := Lib.hid qx0
      have lx0 := Th.block_lt qx0
      have ex00 := (Th.cells_of (i := 0) qx0).trans (show _ = some (.slice a4 len0 cap4) from rfl)
      have ex01 := (Th.cells_of (i := 1) qx0).trans (show _ = some (.float .f32 a0S) from rfl)
      have Qx1 := Lib.hid qx1
      have lx1 := Th.block_lt qx1
      have ex10 := (Th.cells_of (i := 0) qx1).trans (show _ = some (.slice a5 len1 cap5) from rfl)
      have ex11 := (Th.cells_of (i := 1) qx1).trans (show _ = some (.float .f32 a1S) from rfl)
      have Qg := Lib.hid qg
      have lg := Th.block_lt qg
      have eg0 := (Th.cells_of (i := 0) qg).trans (show _ = some (.slice a6 n3 cap6) from rfl)
      have eg1 := (Th.cells_of (i := 1) qg).trans (show _ = some (.float .f32 s3) from rfl)
      have Qh := Lib.hid qh
      have lh := Th.block_lt qh
      have eh0 := (Th.cells_of (i := 0) qh).trans (show _ = some (.slice avh n3 cvh) from rfl)
      have eh1 := (Th.cells_of (i := 1) qh).trans (show _ = some (.float .f32 s3) from rfl)
      clear qa0 qa1 qs qx0 qx1 qg qh
      have RRs := Lib.hid yRs
      have RRh := Lib.hid yRh
      have MX0 := Lib.hid mX0
      have MX1 := Lib.hid mX1
      have MG := Lib.hid mG
      clear yRs yRh mX0 mX1 mG
      have HBW := Lib.hid hbw
      clear hbw
      go_wp2_with fail
      refine (Th.held_thread _ _ a6 _ cap6 _ 1 (by omega) _ MG.out).mono ?_
      rintro e w17 ⟨rfl, hb17⟩
      rw [show (1 + (n3 : Int) * 3) = q from HQ.out.symm]
      have hz17 := hb17.size
      try simp only [World.size_alloc] at hz17
      have qa0 := Th.keep_block hb17 Qa0.out
      have qa1 := Th.keep_block hb17 Qa1.out
      have qs := Th.keep_block hb17 Qs.out
      have qx0 := Th.keep_block hb17 Qx0.out
      have qx1 := Th.keep_block hb17 Qx1.out
      have qg := Th.keep_block hb17 Qg.out
      have qh := Th.keep_block hb17 Qh.out
      have yRs := (RRs.out).later hb17
      have yRh := (RRh.out).later hb17
      have mX0 := (MX0.out).on hb17
      have mX1 := (MX1.out).on hb17
      have mG := (MG.out).on hb17
      have hbw : Below w.heap.size w w17 := Below.trans HBW.out (hb17.mono (by first | omega | (simp; omega) | simp))
      clear Qa0 Qa1 Qs Qx0 Qx1 Qg Qh la0 la1 ls lx0 lx1 lg lh ea00 ea01 ea10 ea11 es0 es1 ex00 ex01 ex10 ex11 eg0 eg1 eh0 eh1 RRs RRh MX0 MX1 MG HBW
      clear hb17
      have Qa0 := Lib.hid qa0
      have la0 := Th.block_lt qa0
      have ea00 := (Th.cells_of (i := 0) qa0).trans (show _ = some (.slice a0 len0 cap0) from rfl)
      have ea01 := (Th.cells_of (i := 1) qa0).trans (show _ = some (.float .f32 a0S) from rfl)
      have Qa1 := Lib.hid qa1
      have la1 := Th.block_lt qa1
      have ea10 := (Th.cells_of (i := 0) qa1).trans (show _ = some (.slice a1 len1 cap1) from rfl)
      have ea11 := (Th.cells_of (i := 1) qa1).trans (show _ = some (.float .f32 a1S) from rfl)
      have Qs := Lib.hid qs
      have ls := Th.block_lt qs
      have es0 := (Th.cells_of (i := 0) qs).trans (show _ = some (.slice avs n3 cvs) from rfl)
      have es1 := (Th.cells_of (i := 1) qs).trans (show _ = some (.float .f32 s3) from rfl)
      have Qx0 := Lib.hid qx0
      have lx0 := Th.block_lt qx0
      have ex00 := (Th.cells_of (i := 0) qx0).trans (show _ = some (.slice a4 len0 cap4) from rfl)
      have ex01 := (Th.cells_of (i := 1) qx0).trans (show _ = some (.float .f32 a0S) from rfl)
      have Qx1 := Lib.hid qx1
      have lx1 := Th.block_lt qx1
      have ex10 := (Th.cells_of (i := 0) qx1).trans (show _ = some (.slice a5 len1 cap5) from rfl)
      have ex11 := (Th.cells_of (i := 1) qx1).trans (show _ = some (.float .f32 a1S) from rfl)
      have Qg := Lib.hid qg
      have lg := Th.block_lt qg
      have eg0 := (Th.cells_of (i := 0) qg).trans (show _ = some (.slice a6 n3 cap6) from rfl)
      have eg1 := (Th.cells_of (i := 1) qg).trans (show _ = some (.float .f32 s3) from rfl)
      have Qh := Lib.hid qh
      have lh := Th.block_lt qh
      have eh0 := (Th.cells_of (i := 0) qh).trans (show _ = some (.slice avh n3 cvh) from rfl)
      have eh1 := (Th.cells_of (i := 1) qh).trans (show _ = some (.float .f32 s3) from rfl)
      clear qa0 qa1 qs qx0 qx1 qg qh
      have RRs := Lib.hid yRs
      have RRh := Lib.hid yRh
      have MX0 := Lib.hid mX0
      have MX1 := Lib.hid mX1
      have MG := Lib.hid mG
      clear yRs yRh mX0 mX1 mG
      have HBW := Lib.hid hbw
      clear hbw
      go_wp2
      go_ret
      exact ⟨rfl, HBW.out⟩
    · go_enter Try.func9, Try.ntmps9
      go_wp2_with fail
      refine (Th.sz_thread _ _ _ _ 1048576 _ hmx0 (by omega) K0 HK0.out).mono ?_
      rintro e w1 ⟨rfl, hb1⟩
      have hz1 := hb1.size
      simp only [World.size_alloc] at hz1
      obtain ⟨hc1, hf1⟩ := Fl.bcell hb1
      have g1 : w.heap.size < w1.heap.size := by omega
      have g1' : w.heap.size + 1 < w1.heap.size := by omega
      go_wp2_with fail
      refine (Th.sz_thread _ _ _ _ K0 _ hmx1 (by omega) (-1) (by rw [if_neg (by omega)])).mono ?_
      rintro e w2 ⟨rfl, hb2⟩
      go_wp2
      go_ret
      exact ⟨rfl, by (repeat' first | exact Below.refl _ _ | (refine Below.setCell ?_ (by first | omega | (simp; omega) | simp) _) | (refine below_drewN ?_ _) | (refine Below.alloc ?_ (by first | omega | (simp; omega) | simp) _) | (refine Below.trans ?_ (Below.mono (by assumption) (by first | omega | (simp; omega) | simp))))⟩
  · have hk0 : Th.tV a0 len0 cap0 a0S = Th.tV a0 len0 cap0 a0S := rfl
    go_enter Try.func9, Try.ntmps9
    go_wp2_with fail
    refine (Th.sz_thread _ _ _ _ 1048576 _ hmx0 (by omega) (-1) (by rw [if_neg (by omega)])).mono ?_
    rintro e w1 ⟨rfl, hb1⟩
    go_wp2
    go_ret
    exact ⟨rfl, by (repeat' first | exact Below.refl _ _ | (refine Below.setCell ?_ (by first | omega | (simp; omega) | simp) _) | (refine below_drewN ?_ _) | (refine Below.alloc ?_ (by first | omega | (simp; omega) | simp) _) | (refine Below.trans ?_ (Below.mono (by assumption) (by first | omega | (simp; omega) | simp))))⟩

set_option maxRecDepth 100000 in
theorem lifted (os : Os) (started : os.Started) (H : Type) (enc : TypeId × Value → H) :
    ReturnsInHanded {} Try.checked os 9 .any (Rows.fnExactJoinThreadsSpec.pre6 enc Try.prog Try.f9 Rows.fnExactJoinThreadsRow.domain false) (Rows.fnExactJoinThreadsSpec.post enc Try.prog Try.f9 false true false false) := by
  refine returnsInHanded_of_change (C := Try.checked) own started (by kernel_rfl) Try.func9
    (ChangeSpec.witness6 (enc := enc) (C := Try.checked) false ⟨#[], #[.agg #[.slice none 0 0, .float .f32 0], .agg #[.slice none 0 0, .float .f32 0], .int .i64 0, .int .i64 0], []⟩ 8 (by kernel_rfl) (by kernel_rfl) (by kernel_rfl) (by kernel_rfl)) ?_
  intro W base args ds gs before hval0 hW hcnd _
  have hval : ∀ (j : Nat) t v, Try.f9.params[j]? = some t → args[j]? = some v → Value.okWide Try.prog W .any base t v := hval0
  have hW' := hW
  obtain ⟨p, q, hA0, hV, rfl, hfz, hnd⟩ := hW
  have hA : DataW.TrodAll enc Try.prog W 0 (fun _ => true) true Try.f9.params.toList args.toList ds p := hA0
  rw [Try.params9] at hA hval
  obtain ⟨v0, vs0, d0, ds0, p0, q0, hargs, rfl, rfl, h0, r0⟩ := trodAll_cons hA
  obtain ⟨v1, vs1, d1, ds1, p1, q1, rfl, rfl, rfl, h1, r1⟩ := trodAll_cons r0
  obtain ⟨v2, vs2, d2, ds2, p2, q2, rfl, rfl, rfl, h2, r2⟩ := trodAll_cons r1
  obtain ⟨v3, vs3, d3, ds3, p3, q3, rfl, rfl, rfl, h3, r3⟩ := trodAll_cons r2
  obtain ⟨rfl, rfl, rfl⟩ := trodAll_nil r3
  obtain rfl : args = #[v0, v1, v2, v3] := by cases args; simp_all
  obtain ⟨rfl, rfl⟩ := trodVars_none hV
  have k0 := h0
  have lt0 : ∀ x ∈ p0, x.block < W.heap.size := by obtain ⟨m, hm⟩ := k0; exact DataW.trod_lt m _ _ _ hm
  obtain ⟨a0S, a0, len0, cap0, c0, rfl, w0, w0S⟩ := Th.open_thread Try.underlying25 (by kernel_rfl) (by kernel_rfl) rfl rfl Try.underlying23 Try.underlying22 Try.underlying62 (by kernel_rfl) (by kernel_rfl) rfl rfl rfl (hval 0 25 v0 rfl rfl) h0
  have k1 := h1
  have lt1 : ∀ x ∈ p1, x.block < W.heap.size := by obtain ⟨m, hm⟩ := k1; exact DataW.trod_lt m _ _ _ hm
  obtain ⟨a1S, a1, len1, cap1, c1, rfl, w1, w1S⟩ := Th.open_thread Try.underlying25 (by kernel_rfl) (by kernel_rfl) rfl rfl Try.underlying23 Try.underlying22 Try.underlying62 (by kernel_rfl) (by kernel_rfl) rfl rfl rfl (hval 1 25 v1 rfl rfl) h1
  have k2 := h2
  have lt2 : ∀ x ∈ p2, x.block < W.heap.size := by obtain ⟨m, hm⟩ := k2; exact DataW.trod_lt m _ _ _ hm
  obtain ⟨a2, rfl, e2, _, w2⟩ := open_int Try.underlying2 (hval 2 2 v2 rfl rfl) h2
  have k3 := h3
  have lt3 : ∀ x ∈ p3, x.block < W.heap.size := by obtain ⟨m, hm⟩ := k3; exact DataW.trod_lt m _ _ _ hm
  obtain ⟨a3, rfl, e3, _, w3⟩ := open_int Try.underlying2 (hval 3 2 v3 rfl rfl) h3
  clear hA0 hval0
  refine (walk a0S a0 len0 cap0 c0 a1S a1 len1 cap1 c1 a2 a3 W w0 w0S w1 w1S w2 w3).mono fun e W' ⟨he, bel⟩ => ?_
  subst he
  exact ⟨_, rfl, _, _, _, [], _, [], hW', trodAll_mk1 (shut_bool Try.underlying4 _), (trodAll_cons_mk (Below.trod laidOut (by kernel_rfl) (of_decide_eq_true (by kernel_rfl)) k0 bel lt0) (trodAll_cons_mk (Below.trod laidOut (by kernel_rfl) (of_decide_eq_true (by kernel_rfl)) k1 bel lt1) (trodAll_cons_mk (Below.trod laidOut (by kernel_rfl) (of_decide_eq_true (by kernel_rfl)) k2 bel lt2) (trodAll_cons_mk (Below.trod laidOut (by kernel_rfl) (of_decide_eq_true (by kernel_rfl)) k3 bel lt3) trodAll_mk0)))), rfl, bel.frame _, fun h => by cases h⟩

theorem over : Rows.fnExactJoinThreadsRow.holds Try.pinned (OpenSpec.ofChange Rows.fnExactJoinThreadsSpec) :=
  OpenClaim.holds_of_wide 9 Try.f9 rfl rfl rfl rfl rfl rfl rfl ⟨rfl, rfl, rfl, rfl, rfl⟩ rfl rfl rfl rfl rfl (by kernel_rfl) Try.func9 (by kernel_rfl)
    (of_decide_eq_true (by kernel_rfl)) (by unfold Func.isWrapper; first | (rw [if_pos (by decide +kernel)]; kernel_rfl) | (rw [if_neg (by decide +kernel)]; exact ⟨rfl, rfl⟩))
    (fun os started H enc _ => lifted os started H enc)

/-- The statement. -/
theorem proved : Rows.FnExactJoinThreadsSaid := over
#print axioms proved
end Go.Proofs.Ytjkkefbfhapblaa.fnExactJoinThreads
