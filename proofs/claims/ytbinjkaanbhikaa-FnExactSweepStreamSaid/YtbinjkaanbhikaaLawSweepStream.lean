/- 'FnExactSweepStream' returns true at every input, and every argument reads afterwards as before. No conditions. -/
import Derived.Test.YtbinjkaanbhikaaRows
import Derived.WalkKit
import Derived.WalkLawsBesides
import Derived.ProofKit
import Derived.OpenShut
import Derived.ShutString
import Derived.ChangeOld
import Derived.Below
import Derived.Test.YtbinjkaanbhikaaFrame
import Derived.Test.YtbinjkaanbhikaaBaTC
import Derived.Test.YtbinjkaanbhikaaBaWs
import Derived.Test.YtbinjkaanbhikaaBaWq
namespace Go.Proofs.Ytbinjkaanbhikaa.fnExactSweepStream
open Go.ChangeShapes Go.WideShapes Go.ChangeAt Go.RowKit
open Go.ChangeMaps (open_string shut_string)
set_option linter.unusedVariables false
set_option linter.unusedSimpArgs false

theorem own : ownKnob Try.prog.godebug = none := by kernel_rfl
theorem laidOut : laidOutB Try.prog = true := by kernel_rfl

set_option maxHeartbeats 25600000 in
theorem walk (a0W a0H : Int) (a0 : Option Addr) (len0 cap0 : Nat) (z0 : List Nat) (a1W a1H : Int) (a1 : Option Addr) (len1 cap1 : Nat) (z1 : List Nat) (a2 : Int) (w : World) (w0 : Frame.IsNums .f32 w a0 len0 cap0 z0) (w1 : Frame.IsNums .f32 w a1 len1 cap1 z1) (w2 : (Lit.int .i64 a2).wf = true) :
    Calls Try.prog 12 #[.agg #[.int .i64 a0W, .int .i64 a0H, .slice a0 len0 cap0], .agg #[.int .i64 a1W, .int .i64 a1H, .slice a1 len1 cap1], .int .i64 a2] w fun e w' => e = .returned (.bool true) ∧ Below w.heap.size w w' := by
  have hY0 := Ba.isY_nums w0
  generalize Nums.numC z0 = c0 at hY0
  have HY0 := Lib.hid hY0
  have hmx0 : len0 ≤ maxLen := by have h1 := w0.2.1; have h2 := w0.2.2.1; omega
  have hmi0 : len0 ≤ 9223372036854775807 := by unfold maxLen at hmx0; omega
  clear hY0 w0
  have hY1 := Ba.isY_nums w1
  generalize Nums.numC z1 = c1 at hY1
  have HY1 := Lib.hid hY1
  have hmx1 : len1 ≤ maxLen := by have h1 := w1.2.1; have h2 := w1.2.2.1; omega
  have hmi1 : len1 ≤ 9223372036854775807 := by unfold maxLen at hmx1; omega
  clear hY1 w1
  by_cases hbig0 : len0 ≤ 1048576
  · obtain ⟨K0, hK0⟩ : ∃ K : Int, K = if (len0 : Int) ≤ 1048576 then 1048576 - (len0 : Int) else -1 := ⟨_, rfl⟩
    have hk0 : ¬ K0 < 0 := by rw [hK0, if_pos (by omega)]; omega
    have hk0b : K0 ≤ 1048576 := by rw [hK0, if_pos (by omega)]; omega
    have HK0 := Lib.hid hK0; clear hK0
    have HT0 := Lib.hid (fun w' (hb : Below w.heap.size w w') => Ba.to_basin a0W a0H a0 len0 cap0 c0 w' (HY0.out.later hb) hbig0)
    by_cases hbig1' : (len1 : Int) ≤ K0
    · have hbig1 : len1 ≤ 1048576 := by omega
      obtain ⟨K1, hK1⟩ : ∃ K : Int, K = if (len1 : Int) ≤ K0 then K0 - (len1 : Int) else -1 := ⟨_, rfl⟩
      have hk1 : ¬ K1 < 0 := by rw [hK1, if_pos hbig1']; omega
      have HK1 := Lib.hid hK1; clear hK1
      have HT1 := Lib.hid (fun w' (hb : Below w.heap.size w w') => Ba.to_basin a1W a1H a1 len1 cap1 c1 w' (HY1.out.later hb) hbig1)
      have HS := Lib.hid (fun a cap a' cap' w (h : Ba.IsY w a len0 cap c0) (h' : Ba.IsY w a' len1 cap' c1) => Ba.spec_SweepB a0W a0H a1W a1H a a' len0 len1 cap cap' c0 c1 w h h' _ _ rfl rfl a2)
      have HI := Lib.hid (fun a cap a' cap' w (h : Ba.IsY w a len0 cap c0) (h' : Ba.IsY w a' len1 cap' c1) => Ba.impl_SweepB a0W a0H a1W a1H a a' len0 len1 cap cap' c0 c1 w h h' _ _ rfl rfl a2)
      obtain ⟨f3, hf3⟩ : ∃ f3 : Nat → Option Nat, (Ba.swS a0W a0H (Ba.evC len0 c0) len0 c1 a2.toNat) = f3 := ⟨_, rfl⟩
      rw [hf3] at HS HI
      clear hf3
      obtain ⟨A3, hA3⟩ : ∃ A3, (Ba.sweB a0W a0H a1W a1H len0 c0 c1 (Ba.okB a0W a0H len0 c0) (Ba.okB a1W a1H len1 c1) a2) = A3 := ⟨_, rfl⟩
      rw [hA3] at HS HI
      unfold Ba.RetG at HS HI
      have hn3 : (if A3 then len0 else 0) ≤ 256 := by
        cases A3
        · simp
        · skip
          simp only [if_true]
          exact (Ba.okB_n (Ba.swe_ok hA3)).2
      generalize (if A3 then a0W else 0) = W3 at *
      generalize (if A3 then a0H else 0) = H3 at *
      generalize (if A3 then len0 else 0) = n3 at *
      clear hA3
      obtain ⟨p0, hp0⟩ : ∃ p : Int, p = 1 + (len0 : Int) := ⟨_, rfl⟩
      have hp00 : 0 ≤ p0 := by omega
      have hp0b : p0 ≤ 8388608 := by omega
      have HP0 := Lib.hid hp0
      obtain ⟨p1, hp1⟩ : ∃ p : Int, p = p0 + (len1 : Int) := ⟨_, rfl⟩
      have hp10 : 0 ≤ p1 := by omega
      have hp1b : p1 ≤ 8388608 := by omega
      have HP1 := Lib.hid hp1
      clear hp0 hp1
      obtain ⟨q, hq⟩ : ∃ q : Int, q = 1 + (n3 : Int) := ⟨_, rfl⟩
      have hq0 : 0 ≤ q := by omega
      have HQ := Lib.hid hq
      clear hq
      go_enter Try.func12, Try.ntmps12
      go_wp2_with fail
      refine (Ba.sz_basin _ _ _ _ _ 1048576 _ hmx0 (by omega) K0 HK0.out).mono ?_
      rintro e w1 ⟨rfl, hb1⟩
      have hz1 := hb1.size
      try simp only [World.size_alloc] at hz1
      have qa0 : w1.heap[w.heap.size]? = some (.cells #[.int .i64 a0W, .int .i64 a0H, .slice a0 len0 cap0] 38) := Ba.keep_block hb1 (Ba.alloc_block (Ba.new_block _ _))
      have qa1 : w1.heap[w.heap.size + 1]? = some (.cells #[.int .i64 a1W, .int .i64 a1H, .slice a1 len1 cap1] 38) := Ba.keep_block hb1 (by simpa using Ba.new_block ((w).alloc (.cells #[.int .i64 a0W, .int .i64 a0H, .slice a0 len0 cap0] 38)) (.cells #[.int .i64 a1W, .int .i64 a1H, .slice a1 len1 cap1] 38))
      have hbw : Below w.heap.size w w1 := Below.trans (Below.alloc (Below.alloc (Below.refl _ _) (by first | exact Nat.le_refl _ | omega | (simp; omega) | simp) _) (by first | exact Nat.le_refl _ | omega | (simp; omega) | simp) _) (hb1.mono (by first | omega | (simp; omega) | simp))
      clear hb1
      have Qa0 := Lib.hid qa0
      have la0 := Ba.block_lt qa0
      have ea00 := (Ba.cells_of (i := 0) qa0).trans (show _ = some (.int .i64 a0W) from rfl)
      have ea01 := (Ba.cells_of (i := 1) qa0).trans (show _ = some (.int .i64 a0H) from rfl)
      have ea02 := (Ba.cells_of (i := 2) qa0).trans (show _ = some (.slice a0 len0 cap0) from rfl)
      have Qa1 := Lib.hid qa1
      have la1 := Ba.block_lt qa1
      have ea10 := (Ba.cells_of (i := 0) qa1).trans (show _ = some (.int .i64 a1W) from rfl)
      have ea11 := (Ba.cells_of (i := 1) qa1).trans (show _ = some (.int .i64 a1H) from rfl)
      have ea12 := (Ba.cells_of (i := 2) qa1).trans (show _ = some (.slice a1 len1 cap1) from rfl)
      clear qa0 qa1
      have HBW := Lib.hid hbw
      clear hbw
      go_wp2_with fail
      refine (Ba.sz_basin _ _ _ _ _ K0 _ hmx1 (by omega) K1 HK1.out).mono ?_
      rintro e w2 ⟨rfl, hb2⟩
      have hz2 := hb2.size
      try simp only [World.size_alloc] at hz2
      have qa0 := Ba.keep_block hb2 Qa0.out
      have qa1 := Ba.keep_block hb2 Qa1.out
      have hbw : Below w.heap.size w w2 := Below.trans HBW.out (hb2.mono (by first | omega | (simp; omega) | simp))
      clear Qa0 Qa1 la0 la1 ea00 ea01 ea02 ea10 ea11 ea12 HBW
      clear hb2
      have Qa0 := Lib.hid qa0
      have la0 := Ba.block_lt qa0
      have ea00 := (Ba.cells_of (i := 0) qa0).trans (show _ = some (.int .i64 a0W) from rfl)
      have ea01 := (Ba.cells_of (i := 1) qa0).trans (show _ = some (.int .i64 a0H) from rfl)
      have ea02 := (Ba.cells_of (i := 2) qa0).trans (show _ = some (.slice a0 len0 cap0) from rfl)
      have Qa1 := Lib.hid qa1
      have la1 := Ba.block_lt qa1
      have ea10 := (Ba.cells_of (i := 0) qa1).trans (show _ = some (.int .i64 a1W) from rfl)
      have ea11 := (Ba.cells_of (i := 1) qa1).trans (show _ = some (.int .i64 a1H) from rfl)
      have ea12 := (Ba.cells_of (i := 2) qa1).trans (show _ = some (.slice a1 len1 cap1) from rfl)
      clear qa0 qa1
      have HBW := Lib.hid hbw
      clear hbw
      have HW0 := Lib.hid (HY0.out.later HBW.out)
      have HW1 := Lib.hid (HY1.out.later HBW.out)
      go_wp2_with fail
      have hst : ∀ p ∈ [((31 : Nat), Ba.phi a0W a0H len0 c0), ((33 : Nat), Ba.phi a1W a1H len1 c1), ((35 : Nat), Ba.phiG w2.heap.size A3 W3 H3 n3 f3), ((29 : Nat), Ba.phiG w2.heap.size A3 W3 H3 n3 f3), ((36 : Nat), Ba.phiO w2.heap.size W3 H3 n3 f3), ((8 : Nat), Ba.phiB w2.heap.size)], LooseP.Stable p.2 := Ba.six_stable (Ba.phi_stable _ _ _ _) (Ba.phi_stable _ _ _ _) (Ba.phiG_stable _ _ _ _ _ _) (Ba.phiG_stable _ _ _ _ _ _) (Ba.phiO_stable _ _ _ _ _) (Ba.phiB_stable _)
      have hm0 : (31, Ba.phi a0W a0H len0 c0) ∈ [((31 : Nat), Ba.phi a0W a0H len0 c0), ((33 : Nat), Ba.phi a1W a1H len1 c1), ((35 : Nat), Ba.phiG w2.heap.size A3 W3 H3 n3 f3), ((29 : Nat), Ba.phiG w2.heap.size A3 W3 H3 n3 f3), ((36 : Nat), Ba.phiO w2.heap.size W3 H3 n3 f3), ((8 : Nat), Ba.phiB w2.heap.size)] := (List.mem_cons_self ..)
      have hun0 : ∀ p ∈ [((31 : Nat), Ba.phi a0W a0H len0 c0), ((33 : Nat), Ba.phi a1W a1H len1 c1), ((35 : Nat), Ba.phiG w2.heap.size A3 W3 H3 n3 f3), ((29 : Nat), Ba.phiG w2.heap.size A3 W3 H3 n3 f3), ((36 : Nat), Ba.phiO w2.heap.size W3 H3 n3 f3), ((8 : Nat), Ba.phiB w2.heap.size)], p.1 = 31 → p.2 = Ba.phi a0W a0H len0 c0 := Ba.uni_of hm0 (by simp)
      have hm1 : (33, Ba.phi a1W a1H len1 c1) ∈ [((31 : Nat), Ba.phi a0W a0H len0 c0), ((33 : Nat), Ba.phi a1W a1H len1 c1), ((35 : Nat), Ba.phiG w2.heap.size A3 W3 H3 n3 f3), ((29 : Nat), Ba.phiG w2.heap.size A3 W3 H3 n3 f3), ((36 : Nat), Ba.phiO w2.heap.size W3 H3 n3 f3), ((8 : Nat), Ba.phiB w2.heap.size)] := List.mem_cons_of_mem _ ((List.mem_cons_self ..))
      have hun1 : ∀ p ∈ [((31 : Nat), Ba.phi a0W a0H len0 c0), ((33 : Nat), Ba.phi a1W a1H len1 c1), ((35 : Nat), Ba.phiG w2.heap.size A3 W3 H3 n3 f3), ((29 : Nat), Ba.phiG w2.heap.size A3 W3 H3 n3 f3), ((36 : Nat), Ba.phiO w2.heap.size W3 H3 n3 f3), ((8 : Nat), Ba.phiB w2.heap.size)], p.1 = 33 → p.2 = Ba.phi a1W a1H len1 c1 := Ba.uni_of hm1 (by simp)
      have hm2 : (35, Ba.phiG w2.heap.size A3 W3 H3 n3 f3) ∈ [((31 : Nat), Ba.phi a0W a0H len0 c0), ((33 : Nat), Ba.phi a1W a1H len1 c1), ((35 : Nat), Ba.phiG w2.heap.size A3 W3 H3 n3 f3), ((29 : Nat), Ba.phiG w2.heap.size A3 W3 H3 n3 f3), ((36 : Nat), Ba.phiO w2.heap.size W3 H3 n3 f3), ((8 : Nat), Ba.phiB w2.heap.size)] := List.mem_cons_of_mem _ (List.mem_cons_of_mem _ ((List.mem_cons_self ..)))
      have hun2 : ∀ p ∈ [((31 : Nat), Ba.phi a0W a0H len0 c0), ((33 : Nat), Ba.phi a1W a1H len1 c1), ((35 : Nat), Ba.phiG w2.heap.size A3 W3 H3 n3 f3), ((29 : Nat), Ba.phiG w2.heap.size A3 W3 H3 n3 f3), ((36 : Nat), Ba.phiO w2.heap.size W3 H3 n3 f3), ((8 : Nat), Ba.phiB w2.heap.size)], p.1 = 35 → p.2 = Ba.phiG w2.heap.size A3 W3 H3 n3 f3 := Ba.uni_of hm2 (by simp)
      have hm3 : (29, Ba.phiG w2.heap.size A3 W3 H3 n3 f3) ∈ [((31 : Nat), Ba.phi a0W a0H len0 c0), ((33 : Nat), Ba.phi a1W a1H len1 c1), ((35 : Nat), Ba.phiG w2.heap.size A3 W3 H3 n3 f3), ((29 : Nat), Ba.phiG w2.heap.size A3 W3 H3 n3 f3), ((36 : Nat), Ba.phiO w2.heap.size W3 H3 n3 f3), ((8 : Nat), Ba.phiB w2.heap.size)] := List.mem_cons_of_mem _ (List.mem_cons_of_mem _ (List.mem_cons_of_mem _ ((List.mem_cons_self ..))))
      have hun3 : ∀ p ∈ [((31 : Nat), Ba.phi a0W a0H len0 c0), ((33 : Nat), Ba.phi a1W a1H len1 c1), ((35 : Nat), Ba.phiG w2.heap.size A3 W3 H3 n3 f3), ((29 : Nat), Ba.phiG w2.heap.size A3 W3 H3 n3 f3), ((36 : Nat), Ba.phiO w2.heap.size W3 H3 n3 f3), ((8 : Nat), Ba.phiB w2.heap.size)], p.1 = 29 → p.2 = Ba.phiG w2.heap.size A3 W3 H3 n3 f3 := Ba.uni_of hm3 (by simp)
      have hm4 : (36, Ba.phiO w2.heap.size W3 H3 n3 f3) ∈ [((31 : Nat), Ba.phi a0W a0H len0 c0), ((33 : Nat), Ba.phi a1W a1H len1 c1), ((35 : Nat), Ba.phiG w2.heap.size A3 W3 H3 n3 f3), ((29 : Nat), Ba.phiG w2.heap.size A3 W3 H3 n3 f3), ((36 : Nat), Ba.phiO w2.heap.size W3 H3 n3 f3), ((8 : Nat), Ba.phiB w2.heap.size)] := List.mem_cons_of_mem _ (List.mem_cons_of_mem _ (List.mem_cons_of_mem _ (List.mem_cons_of_mem _ ((List.mem_cons_self ..)))))
      have hun4 : ∀ p ∈ [((31 : Nat), Ba.phi a0W a0H len0 c0), ((33 : Nat), Ba.phi a1W a1H len1 c1), ((35 : Nat), Ba.phiG w2.heap.size A3 W3 H3 n3 f3), ((29 : Nat), Ba.phiG w2.heap.size A3 W3 H3 n3 f3), ((36 : Nat), Ba.phiO w2.heap.size W3 H3 n3 f3), ((8 : Nat), Ba.phiB w2.heap.size)], p.1 = 36 → p.2 = Ba.phiO w2.heap.size W3 H3 n3 f3 := Ba.uni_of hm4 (by simp)
      have hm5 : (8, Ba.phiB w2.heap.size) ∈ [((31 : Nat), Ba.phi a0W a0H len0 c0), ((33 : Nat), Ba.phi a1W a1H len1 c1), ((35 : Nat), Ba.phiG w2.heap.size A3 W3 H3 n3 f3), ((29 : Nat), Ba.phiG w2.heap.size A3 W3 H3 n3 f3), ((36 : Nat), Ba.phiO w2.heap.size W3 H3 n3 f3), ((8 : Nat), Ba.phiB w2.heap.size)] := List.mem_cons_of_mem _ (List.mem_cons_of_mem _ (List.mem_cons_of_mem _ (List.mem_cons_of_mem _ (List.mem_cons_of_mem _ ((List.mem_cons_self ..))))))
      have hun5 : ∀ p ∈ [((31 : Nat), Ba.phi a0W a0H len0 c0), ((33 : Nat), Ba.phi a1W a1H len1 c1), ((35 : Nat), Ba.phiG w2.heap.size A3 W3 H3 n3 f3), ((29 : Nat), Ba.phiG w2.heap.size A3 W3 H3 n3 f3), ((36 : Nat), Ba.phiO w2.heap.size W3 H3 n3 f3), ((8 : Nat), Ba.phiB w2.heap.size)], p.1 = 8 → p.2 = Ba.phiB w2.heap.size := Ba.uni_of hm5 (by simp)
      refine LooseL.wp_region 11 10 (fun i => decide (i < 8) || decide (i = 9)) [((31 : Nat), Ba.phi a0W a0H len0 c0), ((33 : Nat), Ba.phi a1W a1H len1 c1), ((35 : Nat), Ba.phiG w2.heap.size A3 W3 H3 n3 f3), ((29 : Nat), Ba.phiG w2.heap.size A3 W3 H3 n3 f3), ((36 : Nat), Ba.phiO w2.heap.size W3 H3 n3 f3), ((8 : Nat), Ba.phiB w2.heap.size)] [((8 : Nat), Ba.phiS w2.heap.size W3 H3 n3 f3)] (by decide) (fun i hi => by simp; omega) (by kernel_rfl) (by kernel_rfl) (by kernel_rfl) (by simp [undef]) ?_
      apply Exists.intro
      simp only [List.take_succ_cons, List.take_zero, List.drop_succ_cons, List.drop_zero]
      repeat (first | (apply LooseL.walk_before (by decide) rfl; intro K hK; apply LooseP.turn_value (hwant := rfl) (hd := rfl); (focus (intro w' hw'; obtain ⟨hc, hf⟩ := Fl.bcell hw'; go_simp; first | done | rfl | exact ⟨rfl, rfl⟩)); go_simp; refine hK _ ?_; clear hK K) | (apply LooseL.walk_before (by decide) rfl; intro K hK; refine LooseP.turn_callP (f := 30) (args := fun a => #[a.eval (.tmp 30)]) (V := fun v => ∃ a cap, v = Ba.bV a0W a0H a len0 cap) (φ := Ba.phi a0W a0H len0 c0) (d := 31) hst (Nat.le_refl _) rfl rfl hun0 (by intro a' w'; go_simp; first | done | rfl | exact ⟨rfl, rfl⟩) ⟨_, none, 0, rfl⟩ ?_ ?_; (focus (intro a' w' _ hcl; go_simp; exact Ba.to_phi HW0.out hcl.1 hbig0)); (intro v hv; obtain ⟨av0, capv0, rfl⟩ := hv; go_simp; refine hK _ ?_; clear hK K)) | (apply LooseL.walk_before (by decide) rfl; intro K hK; refine LooseP.turn_callP (f := 30) (args := fun a => #[a.eval (.tmp 32)]) (V := fun v => ∃ a cap, v = Ba.bV a1W a1H a len1 cap) (φ := Ba.phi a1W a1H len1 c1) (d := 33) hst (Nat.le_refl _) rfl rfl hun1 (by intro a' w'; go_simp; first | done | rfl | exact ⟨rfl, rfl⟩) ⟨_, none, 0, rfl⟩ ?_ ?_; (focus (intro a' w' _ hcl; go_simp; exact Ba.to_phi HW1.out hcl.1 hbig1)); (intro v hv; obtain ⟨av1, capv1, rfl⟩ := hv; go_simp; refine hK _ ?_; clear hK K)) | (apply LooseL.walk_before (by decide) rfl; intro K hK; refine LooseP.turn_callP (f := 46) (args := fun a => #[a.eval (.tmp 31), a.eval (.tmp 33), a.eval (.tmp 34)]) (V := fun v => ∃ a cap, v = .tuple #[Ba.bV W3 H3 a n3 cap, .bool A3]) (φ := Ba.phiG w2.heap.size A3 W3 H3 n3 f3) (d := 35) hst (Nat.le_refl _) rfl rfl hun2 (by intro a' w'; go_simp; first | done | rfl | exact ⟨rfl, rfl⟩) ⟨_, none, 0, rfl⟩ ?_ ?_; (focus (intro a' w' ha hcl; go_simp; obtain ⟨h1, h2⟩ := Ba.two_phi hcl hm0 hm1 (Ba.cut3 ha); exact Ba.call_phi (HS.out _ _ _ _ _ h1 h2) hcl.1)); (intro v hv; obtain ⟨avg, capvg, rfl⟩ := hv; go_simp; refine hK _ ?_; clear hK K)) | (apply LooseL.walk_before (by decide) rfl; intro K hK; refine LooseP.turn_moveP (V := fun v => ∃ a cap, v = .tuple #[Ba.bV W3 H3 a n3 cap, .bool A3]) (φ := Ba.phiG w2.heap.size A3 W3 H3 n3 f3) (d := 29) (d0 := 35) rfl rfl hun3 hm2 ⟨_, none, 0, rfl⟩ rfl (by simp [Act.eval, undef]) Ba.phiG_val ?_; (intro v hv; obtain ⟨avm, capvm, rfl⟩ := hv; go_simp; refine hK _ ?_; clear hK K)) | (apply LooseL.walk_before (by decide) rfl; intro K hK; refine LooseP.turn_extractP (V := fun v => ∃ a cap, v = Ba.bV W3 H3 a n3 cap) (φ := Ba.phiO w2.heap.size W3 H3 n3 f3) (φ0 := Ba.phiG w2.heap.size A3 W3 H3 n3 f3) (d := 36) (d0 := 29) (i := 0) rfl rfl hun4 hm3 ⟨_, none, 0, rfl⟩ rfl (xs := #[Ba.bV W3 H3 avm n3 capvm, .bool A3]) rfl rfl Ba.phiG_part ?_; (intro v hv; obtain ⟨avx, capvx, rfl⟩ := hv; go_simp; refine hK _ ?_; clear hK K)) | (apply LooseL.walk_before (by decide) rfl; intro K hK; refine LooseP.turn_allocP (φ := Ba.phiB w2.heap.size) (d := 8) (ob := .cells #[.int .i64 0, .int .i64 0, .slice none 0 0] 40) hst (Nat.le_refl _) rfl rfl hun5 (by intro w'; go_simp; first | done | rfl | exact ⟨rfl, rfl⟩) (fun w' hw' => ⟨_, rfl, hw', Ba.new_block _ _⟩) ?_; (intro Ss hSs; go_simp; refine hK _ ?_; clear hK K)) | (apply LooseL.walk_value (by decide) rfl rfl rfl; (focus (intro w' hw'; obtain ⟨hc, hf⟩ := Fl.bcell hw'; go_simp; first | done | rfl | exact ⟨rfl, rfl⟩)); intro K hK; go_simp; refine hK _ ?_; clear hK K) | (apply LooseL.walk_mark (hks := rfl) (hwant := rfl) (hdst := rfl); (focus (intro a' w' hl hc; exact Ba.store_phi hm5 hm4 (hl.2 (.tmp 8) (by simp [Op.operands])) (hl.2 (.tmp 36) (by simp [Op.operands])) hc (by intro w' c0 c1 c2 f0 f1 f2; go_simp; first | done | rfl | exact ⟨rfl, rfl⟩)))))
      refine LooseL.walk_nil ?_
      intro w3 hcls3
      have hb3 := hcls3.1
      have hz3 := hb3.size
      obtain ⟨S1, as1, cs1, L3, hS1, hSB3, hL3, hq3, ho3⟩ := hcls3.at (List.mem_cons_self ..) (v := .pointer (some ⟨Ss, 0, none⟩)) rfl (by simp [undef])
      obtain rfl : Ss = S1 := by simpa using hS1
      clear hcls3 hst hun0 hun1 hun2 hun3 hun4 hun5 hm0 hm1 hm2 hm3 hm4 hm5 HW0 HW1 hS1
      have qs := hq3
      clear hq3
      obtain ⟨avs, havs⟩ : ∃ x, x = as1 := ⟨_, rfl⟩
      obtain ⟨cvs, hcvs⟩ : ∃ x, x = cs1 := ⟨_, rfl⟩
      rw [← havs, ← hcvs] at qs ho3
      clear havs hcvs
      have qa0 := Ba.keep_block hb3 Qa0.out
      have qa1 := Ba.keep_block hb3 Qa1.out
      have hbw : Below w.heap.size w w3 := HBW.out.trans (hb3.mono (by omega))
      clear hb3 Qa0 Qa1 la0 la1 ea00 ea01 ea02 ea10 ea11 ea12 HBW
      have ho3w := ho3.wider (Nat.le_refl _) hL3
      have hsls : Ss < w3.heap.size := Ba.block_lt qs
      have Qa0 := Lib.hid qa0
      have la0 := Ba.block_lt qa0
      have ea00 := (Ba.cells_of (i := 0) qa0).trans (show _ = some (.int .i64 a0W) from rfl)
      have ea01 := (Ba.cells_of (i := 1) qa0).trans (show _ = some (.int .i64 a0H) from rfl)
      have ea02 := (Ba.cells_of (i := 2) qa0).trans (show _ = some (.slice a0 len0 cap0) from rfl)
      have Qa1 := Lib.hid qa1
      have la1 := Ba.block_lt qa1
      have ea10 := (Ba.cells_of (i := 0) qa1).trans (show _ = some (.int .i64 a1W) from rfl)
      have ea11 := (Ba.cells_of (i := 1) qa1).trans (show _ = some (.int .i64 a1H) from rfl)
      have ea12 := (Ba.cells_of (i := 2) qa1).trans (show _ = some (.slice a1 len1 cap1) from rfl)
      have Qs := Lib.hid qs
      have ls := Ba.block_lt qs
      have es0 := (Ba.cells_of (i := 0) qs).trans (show _ = some (.int .i64 W3) from rfl)
      have es1 := (Ba.cells_of (i := 1) qs).trans (show _ = some (.int .i64 H3) from rfl)
      have es2 := (Ba.cells_of (i := 2) qs).trans (show _ = some (.slice avs n3 cvs) from rfl)
      clear qa0 qa1 qs
      have HBW := Lib.hid hbw
      clear hbw
      have RRs := Lib.hid ho3w
      clear ho3 ho3w
      go_wp2_with fail
      refine (HT0.out _ (HBW.out)).mono ?_
      rintro e w4 ⟨a4, cap4, rfl, ho4, hb4⟩
      have hz4 := hb4.size
      try simp only [World.size_alloc] at hz4
      have qa0 := Ba.keep_block hb4 Qa0.out
      have qa1 := Ba.keep_block hb4 Qa1.out
      have qs := Ba.keep_block hb4 Qs.out
      have yRs := (RRs.out).later hb4
      have hbw : Below w.heap.size w w4 := Below.trans HBW.out (hb4.mono (by first | omega | (simp; omega) | simp))
      clear Qa0 Qa1 Qs la0 la1 ls ea00 ea01 ea02 ea10 ea11 ea12 es0 es1 es2 RRs HBW
      clear hb4
      have Qa0 := Lib.hid qa0
      have la0 := Ba.block_lt qa0
      have ea00 := (Ba.cells_of (i := 0) qa0).trans (show _ = some (.int .i64 a0W) from rfl)
      have ea01 := (Ba.cells_of (i := 1) qa0).trans (show _ = some (.int .i64 a0H) from rfl)
      have ea02 := (Ba.cells_of (i := 2) qa0).trans (show _ = some (.slice a0 len0 cap0) from rfl)
      have Qa1 := Lib.hid qa1
      have la1 := Ba.block_lt qa1
      have ea10 := (Ba.cells_of (i := 0) qa1).trans (show _ = some (.int .i64 a1W) from rfl)
      have ea11 := (Ba.cells_of (i := 1) qa1).trans (show _ = some (.int .i64 a1H) from rfl)
      have ea12 := (Ba.cells_of (i := 2) qa1).trans (show _ = some (.slice a1 len1 cap1) from rfl)
      have Qs := Lib.hid qs
      have ls := Ba.block_lt qs
      have es0 := (Ba.cells_of (i := 0) qs).trans (show _ = some (.int .i64 W3) from rfl)
      have es1 := (Ba.cells_of (i := 1) qs).trans (show _ = some (.int .i64 H3) from rfl)
      have es2 := (Ba.cells_of (i := 2) qs).trans (show _ = some (.slice avs n3 cvs) from rfl)
      clear qa0 qa1 qs
      have RRs := Lib.hid yRs
      clear yRs
      have HBW := Lib.hid hbw
      clear hbw
      have RX0 := Lib.hid (ho4.wider (show w3.heap.size ≤ _ by simp) (Nat.le_refl _))
      clear ho4
      go_wp2_with fail
      refine (HT1.out _ (HBW.out.alloc (by omega) _)).mono ?_
      rintro e w5 ⟨a5, cap5, rfl, ho5, hb5⟩
      have hz5 := hb5.size
      try simp only [World.size_alloc] at hz5
      have qa0 := Ba.keep_block hb5 (Ba.alloc_block Qa0.out)
      have qa1 := Ba.keep_block hb5 (Ba.alloc_block Qa1.out)
      have qs := Ba.keep_block hb5 (Ba.alloc_block Qs.out)
      have qx0 : w5.heap[w4.heap.size]? = some (.cells #[.int .i64 a0W, .int .i64 a0H, .slice a4 len0 cap4] 40) := Ba.keep_block hb5 (Ba.new_block _ _)
      have yRs := ((RRs.out.alloc _)).later hb5
      have yX0 := ((RX0.out.alloc _)).later hb5
      have hbw : Below w.heap.size w w5 := Below.trans (Below.alloc HBW.out (by first | exact Nat.le_refl _ | omega | (simp; omega) | simp) _) (hb5.mono (by first | omega | (simp; omega) | simp))
      clear Qa0 Qa1 Qs la0 la1 ls ea00 ea01 ea02 ea10 ea11 ea12 es0 es1 es2 RRs RX0 HBW
      clear hb5
      have Qa0 := Lib.hid qa0
      have la0 := Ba.block_lt qa0
      have ea00 := (Ba.cells_of (i := 0) qa0).trans (show _ = some (.int .i64 a0W) from rfl)
      have ea01 := (Ba.cells_of (i := 1) qa0).trans (show _ = some (.int .i64 a0H) from rfl)
      have ea02 := (Ba.cells_of (i := 2) qa0).trans (show _ = some (.slice a0 len0 cap0) from rfl)
      have Qa1 := Lib.hid qa1
      have la1 := Ba.block_lt qa1
      have ea10 := (Ba.cells_of (i := 0) qa1).trans (show _ = some (.int .i64 a1W) from rfl)
      have ea11 := (Ba.cells_of (i := 1) qa1).trans (show _ = some (.int .i64 a1H) from rfl)
      have ea12 := (Ba.cells_of (i := 2) qa1).trans (show _ = some (.slice a1 len1 cap1) from rfl)
      have Qs := Lib.hid qs
      have ls := Ba.block_lt qs
      have es0 := (Ba.cells_of (i := 0) qs).trans (show _ = some (.int .i64 W3) from rfl)
      have es1 := (Ba.cells_of (i := 1) qs).trans (show _ = some (.int .i64 H3) from rfl)
      have es2 := (Ba.cells_of (i := 2) qs).trans (show _ = some (.slice avs n3 cvs) from rfl)
      have Qx0 := Lib.hid qx0
      have lx0 := Ba.block_lt qx0
      have ex00 := (Ba.cells_of (i := 0) qx0).trans (show _ = some (.int .i64 a0W) from rfl)
      have ex01 := (Ba.cells_of (i := 1) qx0).trans (show _ = some (.int .i64 a0H) from rfl)
      have ex02 := (Ba.cells_of (i := 2) qx0).trans (show _ = some (.slice a4 len0 cap4) from rfl)
      clear qa0 qa1 qs qx0
      have RRs := Lib.hid yRs
      have RX0 := Lib.hid yX0
      clear yRs yX0
      have HBW := Lib.hid hbw
      clear hbw
      have RX1 := Lib.hid (ho5.wider (show w4.heap.size + 1 ≤ _ by simp) (Nat.le_refl _))
      clear ho5
      go_wp2_with fail
      refine (HI.out a4 cap4 a5 cap5 _ ((RX0.out.alloc _)).y ((RX1.out.alloc _)).y).mono ?_
      rintro e w6 ⟨a6, cap6, rfl, ho6, hb6⟩
      have hz6 := hb6.size
      try simp only [World.size_alloc] at hz6
      have qa0 := Ba.keep_block hb6 (Ba.alloc_block Qa0.out)
      have qa1 := Ba.keep_block hb6 (Ba.alloc_block Qa1.out)
      have qs := Ba.keep_block hb6 (Ba.alloc_block Qs.out)
      have qx0 := Ba.keep_block hb6 (Ba.alloc_block Qx0.out)
      have qx1 : w6.heap[w5.heap.size]? = some (.cells #[.int .i64 a1W, .int .i64 a1H, .slice a5 len1 cap5] 40) := Ba.keep_block hb6 (Ba.new_block _ _)
      have yRs := ((RRs.out.alloc _)).later hb6
      have yX0 := ((RX0.out.alloc _)).later hb6
      have yX1 := ((RX1.out.alloc _)).later hb6
      have hbw : Below w.heap.size w w6 := Below.trans (Below.alloc HBW.out (by first | exact Nat.le_refl _ | omega | (simp; omega) | simp) _) (hb6.mono (by first | omega | (simp; omega) | simp))
      clear Qa0 Qa1 Qs Qx0 la0 la1 ls lx0 ea00 ea01 ea02 ea10 ea11 ea12 es0 es1 es2 ex00 ex01 ex02 RRs RX0 RX1 HBW
      clear hb6
      have Qa0 := Lib.hid qa0
      have la0 := Ba.block_lt qa0
      have ea00 := (Ba.cells_of (i := 0) qa0).trans (show _ = some (.int .i64 a0W) from rfl)
      have ea01 := (Ba.cells_of (i := 1) qa0).trans (show _ = some (.int .i64 a0H) from rfl)
      have ea02 := (Ba.cells_of (i := 2) qa0).trans (show _ = some (.slice a0 len0 cap0) from rfl)
      have Qa1 := Lib.hid qa1
      have la1 := Ba.block_lt qa1
      have ea10 := (Ba.cells_of (i := 0) qa1).trans (show _ = some (.int .i64 a1W) from rfl)
      have ea11 := (Ba.cells_of (i := 1) qa1).trans (show _ = some (.int .i64 a1H) from rfl)
      have ea12 := (Ba.cells_of (i := 2) qa1).trans (show _ = some (.slice a1 len1 cap1) from rfl)
      have Qs := Lib.hid qs
      have ls := Ba.block_lt qs
      have es0 := (Ba.cells_of (i := 0) qs).trans (show _ = some (.int .i64 W3) from rfl)
      have es1 := (Ba.cells_of (i := 1) qs).trans (show _ = some (.int .i64 H3) from rfl)
      have es2 := (Ba.cells_of (i := 2) qs).trans (show _ = some (.slice avs n3 cvs) from rfl)
      have Qx0 := Lib.hid qx0
      have lx0 := Ba.block_lt qx0
      have ex00 := (Ba.cells_of (i := 0) qx0).trans (show _ = some (.int .i64 a0W) from rfl)
      have ex01 := (Ba.cells_of (i := 1) qx0).trans (show _ = some (.int .i64 a0H) from rfl)
      have ex02 := (Ba.cells_of (i := 2) qx0).trans (show _ = some (.slice a4 len0 cap4) from rfl)
      have Qx1 := Lib.hid qx1
      have lx1 := Ba.block_lt qx1
      have ex10 := (Ba.cells_of (i := 0) qx1).trans (show _ = some (.int .i64 a1W) from rfl)
      have ex11 := (Ba.cells_of (i := 1) qx1).trans (show _ = some (.int .i64 a1H) from rfl)
      have ex12 := (Ba.cells_of (i := 2) qx1).trans (show _ = some (.slice a5 len1 cap5) from rfl)
      clear qa0 qa1 qs qx0 qx1
      have RRs := Lib.hid yRs
      have RX0 := Lib.hid yX0
      have RX1 := Lib.hid yX1
      clear yRs yX0 yX1
      have HBW := Lib.hid hbw
      clear hbw
      have RG := Lib.hid (ho6.wider (show w5.heap.size + 1 ≤ _ by simp) (Nat.le_refl _))
      clear ho6
      go_wp2_with fail
      refine (Ba.eq_basin _ _ a6 avs _ cap6 cvs f3 _ ((RG.out.alloc _)).y ((RRs.out.alloc _)).y).mono ?_
      rintro e w7 ⟨rfl, hb7⟩
      have hz7 := hb7.size
      try simp only [World.size_alloc] at hz7
      have qa0 := Ba.keep_block hb7 (Ba.alloc_block Qa0.out)
      have qa1 := Ba.keep_block hb7 (Ba.alloc_block Qa1.out)
      have qs := Ba.keep_block hb7 (Ba.alloc_block Qs.out)
      have qx0 := Ba.keep_block hb7 (Ba.alloc_block Qx0.out)
      have qx1 := Ba.keep_block hb7 (Ba.alloc_block Qx1.out)
      have qg : w7.heap[w6.heap.size]? = some (.cells #[.int .i64 W3, .int .i64 H3, .slice a6 n3 cap6] 40) := Ba.keep_block hb7 (Ba.new_block _ _)
      have yRs := ((RRs.out.alloc _)).later hb7
      have yX0 := ((RX0.out.alloc _)).later hb7
      have yX1 := ((RX1.out.alloc _)).later hb7
      have yG := ((RG.out.alloc _)).later hb7
      have hbw : Below w.heap.size w w7 := Below.trans (Below.alloc HBW.out (by first | exact Nat.le_refl _ | omega | (simp; omega) | simp) _) (hb7.mono (by first | omega | (simp; omega) | simp))
      clear Qa0 Qa1 Qs Qx0 Qx1 la0 la1 ls lx0 lx1 ea00 ea01 ea02 ea10 ea11 ea12 es0 es1 es2 ex00 ex01 ex02 ex10 ex11 ex12 RRs RX0 RX1 RG HBW
      clear hb7
      have Qa0 := Lib.hid qa0
      have la0 := Ba.block_lt qa0
      have ea00 := (Ba.cells_of (i := 0) qa0).trans (show _ = some (.int .i64 a0W) from rfl)
      have ea01 := (Ba.cells_of (i := 1) qa0).trans (show _ = some (.int .i64 a0H) from rfl)
      have ea02 := (Ba.cells_of (i := 2) qa0).trans (show _ = some (.slice a0 len0 cap0) from rfl)
      have Qa1 := Lib.hid qa1
      have la1 := Ba.block_lt qa1
      have ea10 := (Ba.cells_of (i := 0) qa1).trans (show _ = some (.int .i64 a1W) from rfl)
      have ea11 := (Ba.cells_of (i := 1) qa1).trans (show _ = some (.int .i64 a1H) from rfl)
      have ea12 := (Ba.cells_of (i := 2) qa1).trans (show _ = some (.slice a1 len1 cap1) from rfl)
      have Qs := Lib.hid qs
      have ls := Ba.block_lt qs
      have es0 := (Ba.cells_of (i := 0) qs).trans (show _ = some (.int .i64 W3) from rfl)
      have es1 := (Ba.cells_of (i := 1) qs).trans (show _ = some (.int .i64 H3) from rfl)
      have es2 := (Ba.cells_of (i := 2) qs).trans (show _ = some (.slice avs n3 cvs) from rfl)
      have Qx0 := Lib.hid qx0
      have lx0 := Ba.block_lt qx0
      have ex00 := (Ba.cells_of (i := 0) qx0).trans (show _ = some (.int .i64 a0W) from rfl)
      have ex01 := (Ba.cells_of (i := 1) qx0).trans (show _ = some (.int .i64 a0H) from rfl)
      have ex02 := (Ba.cells_of (i := 2) qx0).trans (show _ = some (.slice a4 len0 cap4) from rfl)
      have Qx1 := Lib.hid qx1
      have lx1 := Ba.block_lt qx1
      have ex10 := (Ba.cells_of (i := 0) qx1).trans (show _ = some (.int .i64 a1W) from rfl)
      have ex11 := (Ba.cells_of (i := 1) qx1).trans (show _ = some (.int .i64 a1H) from rfl)
      have ex12 := (Ba.cells_of (i := 2) qx1).trans (show _ = some (.slice a5 len1 cap5) from rfl)
      have Qg := Lib.hid qg
      have lg := Ba.block_lt qg
      have eg0 := (Ba.cells_of (i := 0) qg).trans (show _ = some (.int .i64 W3) from rfl)
      have eg1 := (Ba.cells_of (i := 1) qg).trans (show _ = some (.int .i64 H3) from rfl)
      have eg2 := (Ba.cells_of (i := 2) qg).trans (show _ = some (.slice a6 n3 cap6) from rfl)
      clear qa0 qa1 qs qx0 qx1 qg
      have RRs := Lib.hid yRs
      have RX0 := Lib.hid yX0
      have RX1 := Lib.hid yX1
      have RG := Lib.hid yG
      clear yRs yX0 yX1 yG
      have HBW := Lib.hid hbw
      clear hbw
      have HX := Lib.hid RX0.out.y
      have HW := Lib.hid (HY0.out.later HBW.out)
      go_wp2_with fail
      refine LooseP.wp_region 4 [(60, Ba.phi a0W a0H len0 c0)] (by kernel_rfl) (by kernel_rfl) (by simp [undef]) ?_
      apply Exists.intro
      simp only [List.take_succ_cons, List.take_zero, List.drop_succ_cons, List.drop_zero]
      have hst : ∀ p ∈ [((60 : Nat), Ba.phi a0W a0H len0 c0)], LooseP.Stable p.2 := by intro p hp; rw [List.mem_singleton.1 hp]; exact Ba.phi_stable _ _ _ _
      repeat (first | (apply Loose.walk_step; intro K hK; apply LooseP.turn_value (hwant := rfl) (hd := rfl); (focus (intro w' hw'; obtain ⟨hc, hf⟩ := Fl.bcell hw'; go_simp; first | done | rfl | exact ⟨rfl, rfl⟩)); go_simp; refine hK _ ?_; clear hK K) | (apply Loose.walk_step; intro K hK; refine LooseP.turn_callP (f := 30) (args := fun a => #[a.eval (.tmp 59)]) (V := fun v => ∃ a cap, v = Ba.bV a0W a0H a len0 cap) (φ := Ba.phi a0W a0H len0 c0) (d := 60) hst (Nat.le_refl _) rfl rfl (by intro p hp _; rw [List.mem_singleton.1 hp]) (by intro a' w'; go_simp; first | done | rfl | exact ⟨rfl, rfl⟩) ⟨_, none, 0, rfl⟩ ?_ ?_; (focus (intro a' w' _ hcl; go_simp; exact Ba.to_phi HW.out hcl.1 hbig0)); (intro v hv; obtain ⟨av, capv, rfl⟩ := hv; go_simp; refine hK _ ?_; clear hK K)) | (apply Loose.walk_step; intro K hK; refine LooseP.turn_call (f := 32) (args := fun a => #[a.eval (.tmp 58), a.eval (.tmp 60)]) (V := fun v => v = .bool true) hst (Nat.le_refl _) rfl rfl (by intro a' w'; go_simp; first | done | rfl | exact ⟨rfl, rfl⟩) ⟨_, rfl⟩ ?_ ?_; (focus (intro a' w' ha hcl; go_simp; exact Ba.eq_phi HX.out hcl (by simp) ha)); (intro v hv; obtain rfl := hv; go_simp; refine hK _ ?_; clear hK K)))
      refine Loose.walk_nil ?_
      intro w8 hcls8
      have hb8 := hcls8.1
      clear hcls8 hst
      clear HX HW
      have hz8 := hb8.size
      try simp only [World.size_alloc] at hz8
      have qa0 := Ba.keep_block hb8 Qa0.out
      have qa1 := Ba.keep_block hb8 Qa1.out
      have qs := Ba.keep_block hb8 Qs.out
      have qx0 := Ba.keep_block hb8 Qx0.out
      have qx1 := Ba.keep_block hb8 Qx1.out
      have qg := Ba.keep_block hb8 Qg.out
      have yRs := (RRs.out).later hb8
      have yX0 := (RX0.out).later hb8
      have yX1 := (RX1.out).later hb8
      have yG := (RG.out).later hb8
      have hbw : Below w.heap.size w w8 := Below.trans HBW.out (hb8.mono (by first | omega | (simp; omega) | simp))
      clear Qa0 Qa1 Qs Qx0 Qx1 Qg la0 la1 ls lx0 lx1 lg ea00 ea01 ea02 ea10 ea11 ea12 es0 es1 es2 ex00 ex01 ex02 ex10 ex11 ex12 eg0 eg1 eg2 RRs RX0 RX1 RG HBW
      clear hb8
      have Qa0 := Lib.hid qa0
      have la0 := Ba.block_lt qa0
      have ea00 := (Ba.cells_of (i := 0) qa0).trans (show _ = some (.int .i64 a0W) from rfl)
      have ea01 := (Ba.cells_of (i := 1) qa0).trans (show _ = some (.int .i64 a0H) from rfl)
      have ea02 := (Ba.cells_of (i := 2) qa0).trans (show _ = some (.slice a0 len0 cap0) from rfl)
      have Qa1 := Lib.hid qa1
      have la1 := Ba.block_lt qa1
      have ea10 := (Ba.cells_of (i := 0) qa1).trans (show _ = some (.int .i64 a1W) from rfl)
      have ea11 := (Ba.cells_of (i := 1) qa1).trans (show _ = some (.int .i64 a1H) from rfl)
      have ea12 := (Ba.cells_of (i := 2) qa1).trans (show _ = some (.slice a1 len1 cap1) from rfl)
      have Qs := Lib.hid qs
      have ls := Ba.block_lt qs
      have es0 := (Ba.cells_of (i := 0) qs).trans (show _ = some (.int .i64 W3) from rfl)
      have es1 := (Ba.cells_of (i := 1) qs).trans (show _ = some (.int .i64 H3) from rfl)
      have es2 := (Ba.cells_of (i := 2) qs).trans (show _ = some (.slice avs n3 cvs) from rfl)
      have Qx0 := Lib.hid qx0
      have lx0 := Ba.block_lt qx0
      have ex00 := (Ba.cells_of (i := 0) qx0).trans (show _ = some (.int .i64 a0W) from rfl)
      have ex01 := (Ba.cells_of (i := 1) qx0).trans (show _ = some (.int .i64 a0H) from rfl)
      have ex02 := (Ba.cells_of (i := 2) qx0).trans (show _ = some (.slice a4 len0 cap4) from rfl)
      have Qx1 := Lib.hid qx1
      have lx1 := Ba.block_lt qx1
      have ex10 := (Ba.cells_of (i := 0) qx1).trans (show _ = some (.int .i64 a1W) from rfl)
      have ex11 := (Ba.cells_of (i := 1) qx1).trans (show _ = some (.int .i64 a1H) from rfl)
      have ex12 := (Ba.cells_of (i := 2) qx1).trans (show _ = some (.slice a5 len1 cap5) from rfl)
      have Qg := Lib.hid qg
      have lg := Ba.block_lt qg
      have eg0 := (Ba.cells_of (i := 0) qg).trans (show _ = some (.int .i64 W3) from rfl)
      have eg1 := (Ba.cells_of (i := 1) qg).trans (show _ = some (.int .i64 H3) from rfl)
      have eg2 := (Ba.cells_of (i := 2) qg).trans (show _ = some (.slice a6 n3 cap6) from rfl)
      clear qa0 qa1 qs qx0 qx1 qg
      have RRs := Lib.hid yRs
      have RX0 := Lib.hid yX0
      have RX1 := Lib.hid yX1
      have RG := Lib.hid yG
      clear yRs yX0 yX1 yG
      have HBW := Lib.hid hbw
      clear hbw
      have HX := Lib.hid RX1.out.y
      have HW := Lib.hid (HY1.out.later HBW.out)
      go_wp2_with fail
      refine LooseP.wp_region 4 [(65, Ba.phi a1W a1H len1 c1)] (by kernel_rfl) (by kernel_rfl) (by simp [undef]) ?_
      apply Exists.intro
      simp only [List.take_succ_cons, List.take_zero, List.drop_succ_cons, List.drop_zero]
      have hst : ∀ p ∈ [((65 : Nat), Ba.phi a1W a1H len1 c1)], LooseP.Stable p.2 := by intro p hp; rw [List.mem_singleton.1 hp]; exact Ba.phi_stable _ _ _ _
      repeat (first | (apply Loose.walk_step; intro K hK; apply LooseP.turn_value (hwant := rfl) (hd := rfl); (focus (intro w' hw'; obtain ⟨hc, hf⟩ := Fl.bcell hw'; go_simp; first | done | rfl | exact ⟨rfl, rfl⟩)); go_simp; refine hK _ ?_; clear hK K) | (apply Loose.walk_step; intro K hK; refine LooseP.turn_callP (f := 30) (args := fun a => #[a.eval (.tmp 64)]) (V := fun v => ∃ a cap, v = Ba.bV a1W a1H a len1 cap) (φ := Ba.phi a1W a1H len1 c1) (d := 65) hst (Nat.le_refl _) rfl rfl (by intro p hp _; rw [List.mem_singleton.1 hp]) (by intro a' w'; go_simp; first | done | rfl | exact ⟨rfl, rfl⟩) ⟨_, none, 0, rfl⟩ ?_ ?_; (focus (intro a' w' _ hcl; go_simp; exact Ba.to_phi HW.out hcl.1 hbig1)); (intro v hv; obtain ⟨av, capv, rfl⟩ := hv; go_simp; refine hK _ ?_; clear hK K)) | (apply Loose.walk_step; intro K hK; refine LooseP.turn_call (f := 32) (args := fun a => #[a.eval (.tmp 63), a.eval (.tmp 65)]) (V := fun v => v = .bool true) hst (Nat.le_refl _) rfl rfl (by intro a' w'; go_simp; first | done | rfl | exact ⟨rfl, rfl⟩) ⟨_, rfl⟩ ?_ ?_; (focus (intro a' w' ha hcl; go_simp; exact Ba.eq_phi HX.out hcl (by simp) ha)); (intro v hv; obtain rfl := hv; go_simp; refine hK _ ?_; clear hK K)))
      refine Loose.walk_nil ?_
      intro w9 hcls9
      have hb9 := hcls9.1
      clear hcls9 hst
      clear HX HW
      have hz9 := hb9.size
      try simp only [World.size_alloc] at hz9
      have qa0 := Ba.keep_block hb9 Qa0.out
      have qa1 := Ba.keep_block hb9 Qa1.out
      have qs := Ba.keep_block hb9 Qs.out
      have qx0 := Ba.keep_block hb9 Qx0.out
      have qx1 := Ba.keep_block hb9 Qx1.out
      have qg := Ba.keep_block hb9 Qg.out
      have yRs := (RRs.out).later hb9
      have yX0 := (RX0.out).later hb9
      have yX1 := (RX1.out).later hb9
      have yG := (RG.out).later hb9
      have hbw : Below w.heap.size w w9 := Below.trans HBW.out (hb9.mono (by first | omega | (simp; omega) | simp))
      clear Qa0 Qa1 Qs Qx0 Qx1 Qg la0 la1 ls lx0 lx1 lg ea00 ea01 ea02 ea10 ea11 ea12 es0 es1 es2 ex00 ex01 ex02 ex10 ex11 ex12 eg0 eg1 eg2 RRs RX0 RX1 RG HBW
      clear hb9
      have Qa0 := Lib.hid qa0
      have la0 := Ba.block_lt qa0
      have ea00 := (Ba.cells_of (i := 0) qa0).trans (show _ = some (.int .i64 a0W) from rfl)
      have ea01 := (Ba.cells_of (i := 1) qa0).trans (show _ = some (.int .i64 a0H) from rfl)
      have ea02 := (Ba.cells_of (i := 2) qa0).trans (show _ = some (.slice a0 len0 cap0) from rfl)
      have Qa1 := Lib.hid qa1
      have la1 := Ba.block_lt qa1
      have ea10 := (Ba.cells_of (i := 0) qa1).trans (show _ = some (.int .i64 a1W) from rfl)
      have ea11 := (Ba.cells_of (i := 1) qa1).trans (show _ = some (.int .i64 a1H) from rfl)
      have ea12 := (Ba.cells_of (i := 2) qa1).trans (show _ = some (.slice a1 len1 cap1) from rfl)
      have Qs := Lib.hid qs
      have ls := Ba.block_lt qs
      have es0 := (Ba.cells_of (i := 0) qs).trans (show _ = some (.int .i64 W3) from rfl)
      have es1 := (Ba.cells_of (i := 1) qs).trans (show _ = some (.int .i64 H3) from rfl)
      have es2 := (Ba.cells_of (i := 2) qs).trans (show _ = some (.slice avs n3 cvs) from rfl)
      have Qx0 := Lib.hid qx0
      have lx0 := Ba.block_lt qx0
      have ex00 := (Ba.cells_of (i := 0) qx0).trans (show _ = some (.int .i64 a0W) from rfl)
      have ex01 := (Ba.cells_of (i := 1) qx0).trans (show _ = some (.int .i64 a0H) from rfl)
      have ex02 := (Ba.cells_of (i := 2) qx0).trans (show _ = some (.slice a4 len0 cap4) from rfl)
      have Qx1 := Lib.hid qx1
      have lx1 := Ba.block_lt qx1
      have ex10 := (Ba.cells_of (i := 0) qx1).trans (show _ = some (.int .i64 a1W) from rfl)
      have ex11 := (Ba.cells_of (i := 1) qx1).trans (show _ = some (.int .i64 a1H) from rfl)
      have ex12 := (Ba.cells_of (i := 2) qx1).trans (show _ = some (.slice a5 len1 cap5) from rfl)
      have Qg := Lib.hid qg
      have lg := Ba.block_lt qg
      have eg0 := (Ba.cells_of (i := 0) qg).trans (show _ = some (.int .i64 W3) from rfl)
      have eg1 := (Ba.cells_of (i := 1) qg).trans (show _ = some (.int .i64 H3) from rfl)
      have eg2 := (Ba.cells_of (i := 2) qg).trans (show _ = some (.slice a6 n3 cap6) from rfl)
      clear qa0 qa1 qs qx0 qx1 qg
      have RRs := Lib.hid yRs
      have RX0 := Lib.hid yX0
      have RX1 := Lib.hid yX1
      have RG := Lib.hid yG
      clear yRs yX0 yX1 yG
      have HBW := Lib.hid hbw
      clear hbw
      go_wp2_with fail
      refine (Ba.mark_basin (w3.heap.size) (w4.heap.size) _ _ a4 _ cap4 c0 1 (by omega) _ RX0.out hbig0 (by omega) (by omega)).mono ?_
      rintro e w10 ⟨rfl, hm10, hb10, hk10⟩
      rw [show (1 + (len0 : Int)) = p0 from HP0.out.symm]
      have hz10 := hb10.size
      try simp only [World.size_alloc] at hz10
      have qa0 := (hk10 _ (by omega) la0).trans Qa0.out
      have qa1 := (hk10 _ (by omega) la1).trans Qa1.out
      have qs := (hk10 _ (by omega) ls).trans Qs.out
      have qx0 := (hk10 _ (by omega) lx0).trans Qx0.out
      have qx1 := (hk10 _ (by omega) lx1).trans Qx1.out
      have qg := (hk10 _ (by omega) lg).trans Qg.out
      have yRs := RRs.out.keep (fun g hg hgl hgs => hk10 g (by omega) hgs)
      have yX1 := RX1.out.keep (fun g hg hgl hgs => hk10 g (by omega) hgs)
      have yG := RG.out.keep (fun g hg hgl hgs => hk10 g (by omega) hgs)
      have hbw : Below w.heap.size w w10 := HBW.out.trans (hb10.mono (by omega))
      clear Qa0 Qa1 Qs Qx0 Qx1 Qg la0 la1 ls lx0 lx1 lg ea00 ea01 ea02 ea10 ea11 ea12 es0 es1 es2 ex00 ex01 ex02 ex10 ex11 ex12 eg0 eg1 eg2 RRs RX0 RX1 RG HBW
      clear hb10 hk10
      have mX0 := hm10
      clear hm10
      have Qa0 := Lib.hid qa0
      have la0 := Ba.block_lt qa0
      have ea00 := (Ba.cells_of (i := 0) qa0).trans (show _ = some (.int .i64 a0W) from rfl)
      have ea01 := (Ba.cells_of (i := 1) qa0).trans (show _ = some (.int .i64 a0H) from rfl)
      have ea02 := (Ba.cells_of (i := 2) qa0).trans (show _ = some (.slice a0 len0 cap0) from rfl)
      have Qa1 := Lib.hid qa1
      have la1 := Ba.block_lt qa1
      have ea10 := (Ba.cells_of (i := 0) qa1).trans (show _ = some (.int .i64 a1W) from rfl)
      have ea11 := (Ba.cells_of (i := 1) qa1).trans (show _ = some (.int .i64 a1H) from rfl)
      have ea12 := (Ba.cells_of (i := 2) qa1).trans (show _ = some (.slice a1 len1 cap1) from rfl)
      have Qs := Lib.hid qs
      have ls := Ba.block_lt qs
      have es0 := (Ba.cells_of (i := 0) qs).trans (show _ = some (.int .i64 W3) from rfl)
      have es1 := (Ba.cells_of (i := 1) qs).trans (show _ = some (.int .i64 H3) from rfl)
      have es2 := (Ba.cells_of (i := 2) qs).trans (show _ = some (.slice avs n3 cvs) from rfl)
      have Qx0 := Lib.hid qx0
      have lx0 := Ba.block_lt qx0
      have ex00 := (Ba.cells_of (i := 0) qx0).trans (show _ = some (.int .i64 a0W) from rfl)
      have ex01 := (Ba.cells_of (i := 1) qx0).trans (show _ = some (.int .i64 a0H) from rfl)
      have ex02 := (Ba.cells_of (i := 2) qx0).trans (show _ = some (.slice a4 len0 cap4) from rfl)
      have Qx1 := Lib.hid qx1
      have lx1 := Ba.block_lt qx1
      have ex10 := (Ba.cells_of (i := 0) qx1).trans (show _ = some (.int .i64 a1W) from rfl)
      have ex11 := (Ba.cells_of (i := 1) qx1).trans (show _ = some (.int .i64 a1H) from rfl)
      have ex12 := (Ba.cells_of (i := 2) qx1).trans (show _ = some (.slice a5 len1 cap5) from rfl)
      have Qg := Lib.hid qg
      have lg := Ba.block_lt qg
      have eg0 := (Ba.cells_of (i := 0) qg).trans (show _ = some (.int .i64 W3) from rfl)
      have eg1 := (Ba.cells_of (i := 1) qg).trans (show _ = some (.int .i64 H3) from rfl)
      have eg2 := (Ba.cells_of (i := 2) qg).trans (show _ = some (.slice a6 n3 cap6) from rfl)
      clear qa0 qa1 qs qx0 qx1 qg
      have RRs := Lib.hid yRs
      have RX1 := Lib.hid yX1
      have RG := Lib.hid yG
      have MX0 := Lib.hid mX0
      clear yRs yX1 yG mX0
      have HBW := Lib.hid hbw
      clear hbw
      go_wp2_with fail
      refine (Ba.mark_basin (w4.heap.size + 1) (w5.heap.size) _ _ a5 _ cap5 c1 p0 (by omega) _ RX1.out hbig1 (by omega) (by omega)).mono ?_
      rintro e w11 ⟨rfl, hm11, hb11, hk11⟩
      rw [show (p0 + (len1 : Int)) = p1 from HP1.out.symm]
      have hz11 := hb11.size
      try simp only [World.size_alloc] at hz11
      have qa0 := (hk11 _ (by omega) la0).trans Qa0.out
      have qa1 := (hk11 _ (by omega) la1).trans Qa1.out
      have qs := (hk11 _ (by omega) ls).trans Qs.out
      have qx0 := (hk11 _ (by omega) lx0).trans Qx0.out
      have qx1 := (hk11 _ (by omega) lx1).trans Qx1.out
      have qg := (hk11 _ (by omega) lg).trans Qg.out
      have yRs := RRs.out.keep (fun g hg hgl hgs => hk11 g (by omega) hgs)
      have yG := RG.out.keep (fun g hg hgl hgs => hk11 g (by omega) hgs)
      have mX0 := MX0.out.keep (fun g hg hgl hgs => hk11 g (by omega) hgs)
      have hbw : Below w.heap.size w w11 := HBW.out.trans (hb11.mono (by omega))
      clear Qa0 Qa1 Qs Qx0 Qx1 Qg la0 la1 ls lx0 lx1 lg ea00 ea01 ea02 ea10 ea11 ea12 es0 es1 es2 ex00 ex01 ex02 ex10 ex11 ex12 eg0 eg1 eg2 RRs RX1 RG MX0 HBW
      clear hb11 hk11
      have mX1 := hm11
      clear hm11
      have Qa0 := Lib.hid qa0
      have la0 := Ba.block_lt qa0
      have ea00 := (Ba.cells_of (i := 0) qa0).trans (show _ = some (.int .i64 a0W) from rfl)
      have ea01 := (Ba.cells_of (i := 1) qa0).trans (show _ = some (.int .i64 a0H) from rfl)
      have ea02 := (Ba.cells_of (i := 2) qa0).trans (show _ = some (.slice a0 len0 cap0) from rfl)
      have Qa1 := Lib.hid qa1
      have la1 := Ba.block_lt qa1
      have ea10 := (Ba.cells_of (i := 0) qa1).trans (show _ = some (.int .i64 a1W) from rfl)
      have ea11 := (Ba.cells_of (i := 1) qa1).trans (show _ = some (.int .i64 a1H) from rfl)
      have ea12 := (Ba.cells_of (i := 2) qa1).trans (show _ = some (.slice a1 len1 cap1) from rfl)
      have Qs := Lib.hid qs
      have ls := Ba.block_lt qs
      have es0 := (Ba.cells_of (i := 0) qs).trans (show _ = some (.int .i64 W3) from rfl)
      have es1 := (Ba.cells_of (i := 1) qs).trans (show _ = some (.int .i64 H3) from rfl)
      have es2 := (Ba.cells_of (i := 2) qs).trans (show _ = some (.slice avs n3 cvs) from rfl)
      have Qx0 := Lib.hid qx0
      have lx0 := Ba.block_lt qx0
      have ex00 := (Ba.cells_of (i := 0) qx0).trans (show _ = some (.int .i64 a0W) from rfl)
      have ex01 := (Ba.cells_of (i := 1) qx0).trans (show _ = some (.int .i64 a0H) from rfl)
      have ex02 := (Ba.cells_of (i := 2) qx0).trans (show _ = some (.slice a4 len0 cap4) from rfl)
      have Qx1 := Lib.hid qx1
      have lx1 := Ba.block_lt qx1
      have ex10 := (Ba.cells_of (i := 0) qx1).trans (show _ = some (.int .i64 a1W) from rfl)
      have ex11 := (Ba.cells_of (i := 1) qx1).trans (show _ = some (.int .i64 a1H) from rfl)
      have ex12 := (Ba.cells_of (i := 2) qx1).trans (show _ = some (.slice a5 len1 cap5) from rfl)
      have Qg := Lib.hid qg
      have lg := Ba.block_lt qg
      have eg0 := (Ba.cells_of (i := 0) qg).trans (show _ = some (.int .i64 W3) from rfl)
      have eg1 := (Ba.cells_of (i := 1) qg).trans (show _ = some (.int .i64 H3) from rfl)
      have eg2 := (Ba.cells_of (i := 2) qg).trans (show _ = some (.slice a6 n3 cap6) from rfl)
      clear qa0 qa1 qs qx0 qx1 qg
      have RRs := Lib.hid yRs
      have RG := Lib.hid yG
      have MX0 := Lib.hid mX0
      have MX1 := Lib.hid mX1
      clear yRs yG mX0 mX1
      have HBW := Lib.hid hbw
      clear hbw
      go_wp2_with fail
      refine (Ba.eq_basin _ _ a6 avs _ cap6 cvs f3 _ (RG.out).y (RRs.out).y).mono ?_
      rintro e w12 ⟨rfl, hb12⟩
      have hz12 := hb12.size
      try simp only [World.size_alloc] at hz12
      have qa0 := Ba.keep_block hb12 Qa0.out
      have qa1 := Ba.keep_block hb12 Qa1.out
      have qs := Ba.keep_block hb12 Qs.out
      have qx0 := Ba.keep_block hb12 Qx0.out
      have qx1 := Ba.keep_block hb12 Qx1.out
      have qg := Ba.keep_block hb12 Qg.out
      have yRs := (RRs.out).later hb12
      have yG := (RG.out).later hb12
      have mX0 := (MX0.out).on hb12
      have mX1 := (MX1.out).on hb12
      have hbw : Below w.heap.size w w12 := Below.trans HBW.out (hb12.mono (by first | omega | (simp; omega) | simp))
      clear Qa0 Qa1 Qs Qx0 Qx1 Qg la0 la1 ls lx0 lx1 lg ea00 ea01 ea02 ea10 ea11 ea12 es0 es1 es2 ex00 ex01 ex02 ex10 ex11 ex12 eg0 eg1 eg2 RRs RG MX0 MX1 HBW
      clear hb12
      have Qa0 := Lib.hid qa0
      have la0 := Ba.block_lt qa0
      have ea00 := (Ba.cells_of (i := 0) qa0).trans (show _ = some (.int .i64 a0W) from rfl)
      have ea01 := (Ba.cells_of (i := 1) qa0).trans (show _ = some (.int .i64 a0H) from rfl)
      have ea02 := (Ba.cells_of (i := 2) qa0).trans (show _ = some (.slice a0 len0 cap0) from rfl)
      have Qa1 := Lib.hid qa1
      have la1 := Ba.block_lt qa1
      have ea10 := (Ba.cells_of (i := 0) qa1).trans (show _ = some (.int .i64 a1W) from rfl)
      have ea11 := (Ba.cells_of (i := 1) qa1).trans (show _ = some (.int .i64 a1H) from rfl)
      have ea12 := (Ba.cells_of (i := 2) qa1).trans (show _ = some (.slice a1 len1 cap1) from rfl)
      have Qs := Lib.hid qs
      have ls := Ba.block_lt qs
      have es0 := (Ba.cells_of (i := 0) qs).trans (show _ = some (.int .i64 W3) from rfl)
      have es1 := (Ba.cells_of (i := 1) qs).trans (show _ = some (.int .i64 H3) from rfl)
      have es2 := (Ba.cells_of (i := 2) qs).trans (show _ = some (.slice avs n3 cvs) from rfl)
      have Qx0 := Lib.hid qx0
      have lx0 := Ba.block_lt qx0
      have ex00 := (Ba.cells_of (i := 0) qx0).trans (show _ = some (.int .i64 a0W) from rfl)
      have ex01 := (Ba.cells_of (i := 1) qx0).trans (show _ = some (.int .i64 a0H) from rfl)
      have ex02 := (Ba.cells_of (i := 2) qx0).trans (show _ = some (.slice a4 len0 cap4) from rfl)
      have Qx1 := Lib.hid qx1
      have lx1 := Ba.block_lt qx1
      have ex10 := (Ba.cells_of (i := 0) qx1).trans (show _ = some (.int .i64 a1W) from rfl)
      have ex11 := (Ba.cells_of (i := 1) qx1).trans (show _ = some (.int .i64 a1H) from rfl)
      have ex12 := (Ba.cells_of (i := 2) qx1).trans (show _ = some (.slice a5 len1 cap5) from rfl)
      have Qg := Lib.hid qg
      have lg := Ba.block_lt qg
      have eg0 := (Ba.cells_of (i := 0) qg).trans (show _ = some (.int .i64 W3) from rfl)
      have eg1 := (Ba.cells_of (i := 1) qg).trans (show _ = some (.int .i64 H3) from rfl)
      have eg2 := (Ba.cells_of (i := 2) qg).trans (show _ = some (.slice a6 n3 cap6) from rfl)
      clear qa0 qa1 qs qx0 qx1 qg
      have RRs := Lib.hid yRs
      have RG := Lib.hid yG
      have MX0 := Lib.hid mX0
      have MX1 := Lib.hid mX1
      clear yRs yG mX0 mX1
      have HBW := Lib.hid hbw
      clear hbw
      go_wp2_with fail
      refine (Ba.mark_basin (w5.heap.size + 1) (w6.heap.size) _ _ a6 _ cap6 f3 1 (by omega) _ RG.out (by omega) (by omega) (by omega)).mono ?_
      rintro e w13 ⟨rfl, hm13, hb13, hk13⟩
      rw [show (1 + (n3 : Int)) = q from HQ.out.symm]
      have hz13 := hb13.size
      try simp only [World.size_alloc] at hz13
      have qa0 := (hk13 _ (by omega) la0).trans Qa0.out
      have qa1 := (hk13 _ (by omega) la1).trans Qa1.out
      have qs := (hk13 _ (by omega) ls).trans Qs.out
      have qx0 := (hk13 _ (by omega) lx0).trans Qx0.out
      have qx1 := (hk13 _ (by omega) lx1).trans Qx1.out
      have qg := (hk13 _ (by omega) lg).trans Qg.out
      have yRs := RRs.out.keep (fun g hg hgl hgs => hk13 g (by omega) hgs)
      have mX0 := MX0.out.keep (fun g hg hgl hgs => hk13 g (by omega) hgs)
      have mX1 := MX1.out.keep (fun g hg hgl hgs => hk13 g (by omega) hgs)
      have hbw : Below w.heap.size w w13 := HBW.out.trans (hb13.mono (by omega))
      clear Qa0 Qa1 Qs Qx0 Qx1 Qg la0 la1 ls lx0 lx1 lg ea00 ea01 ea02 ea10 ea11 ea12 es0 es1 es2 ex00 ex01 ex02 ex10 ex11 ex12 eg0 eg1 eg2 RRs RG MX0 MX1 HBW
      clear hb13 hk13
      have mG := hm13
      clear hm13
      have Qa0 := Lib.hid qa0
      have la0 := Ba.block_lt qa0
      have ea00 := (Ba.cells_of (i := 0) qa0).trans (show _ = some (.int .i64 a0W) from rfl)
      have ea01 := (Ba.cells_of (i := 1) qa0).trans (show _ = some (.int .i64 a0H) from rfl)
      have ea02 := (Ba.cells_of (i := 2) qa0).trans (show _ = some (.slice a0 len0 cap0) from rfl)
      have Qa1 := Lib.hid qa1
      have la1 := Ba.block_lt qa1
      have ea10 := (Ba.cells_of (i := 0) qa1).trans (show _ = some (.int .i64 a1W) from rfl)
      have ea11 := (Ba.cells_of (i := 1) qa1).trans (show _ = some (.int .i64 a1H) from rfl)
      have ea12 := (Ba.cells_of (i := 2) qa1).trans (show _ = some (.slice a1 len1 cap1) from rfl)
      have Qs := Lib.hid qs
      have ls := Ba.block_lt qs
      have es0 := (Ba.cells_of (i := 0) qs).trans (show _ = some (.int .i64 W3) from rfl)
      have es1 := (Ba.cells_of (i := 1) qs).trans (show _ = some (.int .i64 H3) from rfl)
      have es2 := (Ba.cells_of (i := 2) qs).trans (show _ = some (.slice avs n3 cvs) from rfl)
      have Qx0 := Lib.hid qx0
      have lx0 := Ba.block_lt qx0
      have ex00 := (Ba.cells_of (i := 0) qx0).trans (show _ = some (.int .i64 a0W) from rfl)
      have ex01 := (Ba.cells_of (i := 1) qx0).trans (show _ = some (.int .i64 a0H) from rfl)
      have ex02 := (Ba.cells_of (i := 2) qx0).trans (show _ = some (.slice a4 len0 cap4) from rfl)
      have Qx1 := Lib.hid qx1
      have lx1 := Ba.block_lt qx1
      have ex10 := (Ba.cells_of (i := 0) qx1).trans (show _ = some (.int .i64 a1W) from rfl)
      have ex11 := (Ba.cells_of (i := 1) qx1).trans (show _ = some (.int .i64 a1H) from rfl)
      have ex12 := (Ba.cells_of (i := 2) qx1).trans (show _ = some (.slice a5 len1 cap5) from rfl)
      have Qg := Lib.hid qg
      have lg := Ba.block_lt qg
      have eg0 := (Ba.cells_of (i := 0) qg).trans (show _ = some (.int .i64 W3) from rfl)
      have eg1 := (Ba.cells_of (i := 1) qg).trans (show _ = some (.int .i64 H3) from rfl)
      have eg2 := (Ba.cells_of (i := 2) qg).trans (show _ = some (.slice a6 n3 cap6) from rfl)
      clear qa0 qa1 qs qx0 qx1 qg
      have RRs := Lib.hid yRs
      have MX0 := Lib.hid mX0
      have MX1 := Lib.hid mX1
      have MG := Lib.hid mG
      clear yRs mX0 mX1 mG
      have HBW := Lib.hid hbw
      clear hbw
      go_wp2_with fail
      refine (Ba.held_basin _ _ _ _ a6 _ cap6 1 (by omega) _ MG.out).mono ?_
      rintro e w14 ⟨rfl, hb14⟩
      rw [show (1 + (n3 : Int)) = q from HQ.out.symm]
      have hz14 := hb14.size
      try simp only [World.size_alloc] at hz14
      have qa0 := Ba.keep_block hb14 Qa0.out
      have qa1 := Ba.keep_block hb14 Qa1.out
      have qs := Ba.keep_block hb14 Qs.out
      have qx0 := Ba.keep_block hb14 Qx0.out
      have qx1 := Ba.keep_block hb14 Qx1.out
      have qg := Ba.keep_block hb14 Qg.out
      have yRs := (RRs.out).later hb14
      have mX0 := (MX0.out).on hb14
      have mX1 := (MX1.out).on hb14
      have mG := (MG.out).on hb14
      have hbw : Below w.heap.size w w14 := Below.trans HBW.out (hb14.mono (by first | omega | (simp; omega) | simp))
      clear Qa0 Qa1 Qs Qx0 Qx1 Qg la0 la1 ls lx0 lx1 lg ea00 ea01 ea02 ea10 ea11 ea12 es0 es1 es2 ex00 ex01 ex02 ex10 ex11 ex12 eg0 eg1 eg2 RRs MX0 MX1 MG HBW
      clear hb14
      have Qa0 := Lib.hid qa0
      have la0 := Ba.block_lt qa0
      have ea00 := (Ba.cells_of (i := 0) qa0).trans (show _ = some (.int .i64 a0W) from rfl)
      have ea01 := (Ba.cells_of (i := 1) qa0).trans (show _ = some (.int .i64 a0H) from rfl)
      have ea02 := (Ba.cells_of (i := 2) qa0).trans (show _ = some (.slice a0 len0 cap0) from rfl)
      have Qa1 := Lib.hid qa1
      have la1 := Ba.block_lt qa1
      have ea10 := (Ba.cells_of (i := 0) qa1).trans (show _ = some (.int .i64 a1W) from rfl)
      have ea11 := (Ba.cells_of (i := 1) qa1).trans (show _ = some (.int .i64 a1H) from rfl)
      have ea12 := (Ba.cells_of (i := 2) qa1).trans (show _ = some (.slice a1 len1 cap1) from rfl)
      have Qs := Lib.hid qs
      have ls := Ba.block_lt qs
      have es0 := (Ba.cells_of (i := 0) qs).trans (show _ = some (.int .i64 W3) from rfl)
      have es1 := (Ba.cells_of (i := 1) qs).trans (show _ = some (.int .i64 H3) from rfl)
      have es2 := (Ba.cells_of (i := 2) qs).trans (show _ = some (.slice avs n3 cvs) from rfl)
      have Qx0 := Lib.hid qx0
      have lx0 := Ba.block_lt qx0
      have ex00 := (Ba.cells_of (i := 0) qx0).trans (show _ = some (.int .i64 a0W) from rfl)
      have ex01 := (Ba.cells_of (i := 1) qx0).trans (show _ = some (.int .i64 a0H) from rfl)
      have ex02 := (Ba.cells_of (i := 2) qx0).trans (show _ = some (.slice a4 len0 cap4) from rfl)
      have Qx1 := Lib.hid qx1
      have lx1 := Ba.block_lt qx1
      have ex10 := (Ba.cells_of (i := 0) qx1).trans (show _ = some (.int .i64 a1W) from rfl)
      have ex11 := (Ba.cells_of (i := 1) qx1).trans (show _ = some (.int .i64 a1H) from rfl)
      have ex12 := (Ba.cells_of (i := 2) qx1).trans (show _ = some (.slice a5 len1 cap5) from rfl)
      have Qg := Lib.hid qg
      have lg := Ba.block_lt qg
      have eg0 := (Ba.cells_of (i := 0) qg).trans (show _ = some (.int .i64 W3) from rfl)
      have eg1 := (Ba.cells_of (i := 1) qg).trans (show _ = some (.int .i64 H3) from rfl)
      have eg2 := (Ba.cells_of (i := 2) qg).trans (show _ = some (.slice a6 n3 cap6) from rfl)
      clear qa0 qa1 qs qx0 qx1 qg
      have RRs := Lib.hid yRs
      have MX0 := Lib.hid mX0
      have MX1 := Lib.hid mX1
      have MG := Lib.hid mG
      clear yRs mX0 mX1 mG
      have HBW := Lib.hid hbw
      clear hbw
      have HW0 := Lib.hid (HY0.out.later HBW.out)
      have HW1 := Lib.hid (HY1.out.later HBW.out)
      go_wp2_with fail
      have hst : ∀ p ∈ [((100 : Nat), Ba.phi a0W a0H len0 c0), ((102 : Nat), Ba.phi a1W a1H len1 c1), ((104 : Nat), Ba.phiG w14.heap.size A3 W3 H3 n3 f3), ((98 : Nat), Ba.phiG w14.heap.size A3 W3 H3 n3 f3), ((105 : Nat), Ba.phiO w14.heap.size W3 H3 n3 f3), ((17 : Nat), Ba.phiB w14.heap.size)], LooseP.Stable p.2 := Ba.six_stable (Ba.phi_stable _ _ _ _) (Ba.phi_stable _ _ _ _) (Ba.phiG_stable _ _ _ _ _ _) (Ba.phiG_stable _ _ _ _ _ _) (Ba.phiO_stable _ _ _ _ _) (Ba.phiB_stable _)
      have hm0 : (100, Ba.phi a0W a0H len0 c0) ∈ [((100 : Nat), Ba.phi a0W a0H len0 c0), ((102 : Nat), Ba.phi a1W a1H len1 c1), ((104 : Nat), Ba.phiG w14.heap.size A3 W3 H3 n3 f3), ((98 : Nat), Ba.phiG w14.heap.size A3 W3 H3 n3 f3), ((105 : Nat), Ba.phiO w14.heap.size W3 H3 n3 f3), ((17 : Nat), Ba.phiB w14.heap.size)] := (List.mem_cons_self ..)
      have hun0 : ∀ p ∈ [((100 : Nat), Ba.phi a0W a0H len0 c0), ((102 : Nat), Ba.phi a1W a1H len1 c1), ((104 : Nat), Ba.phiG w14.heap.size A3 W3 H3 n3 f3), ((98 : Nat), Ba.phiG w14.heap.size A3 W3 H3 n3 f3), ((105 : Nat), Ba.phiO w14.heap.size W3 H3 n3 f3), ((17 : Nat), Ba.phiB w14.heap.size)], p.1 = 100 → p.2 = Ba.phi a0W a0H len0 c0 := Ba.uni_of hm0 (by simp)
      have hm1 : (102, Ba.phi a1W a1H len1 c1) ∈ [((100 : Nat), Ba.phi a0W a0H len0 c0), ((102 : Nat), Ba.phi a1W a1H len1 c1), ((104 : Nat), Ba.phiG w14.heap.size A3 W3 H3 n3 f3), ((98 : Nat), Ba.phiG w14.heap.size A3 W3 H3 n3 f3), ((105 : Nat), Ba.phiO w14.heap.size W3 H3 n3 f3), ((17 : Nat), Ba.phiB w14.heap.size)] := List.mem_cons_of_mem _ ((List.mem_cons_self ..))
      have hun1 : ∀ p ∈ [((100 : Nat), Ba.phi a0W a0H len0 c0), ((102 : Nat), Ba.phi a1W a1H len1 c1), ((104 : Nat), Ba.phiG w14.heap.size A3 W3 H3 n3 f3), ((98 : Nat), Ba.phiG w14.heap.size A3 W3 H3 n3 f3), ((105 : Nat), Ba.phiO w14.heap.size W3 H3 n3 f3), ((17 : Nat), Ba.phiB w14.heap.size)], p.1 = 102 → p.2 = Ba.phi a1W a1H len1 c1 := Ba.uni_of hm1 (by simp)
      have hm2 : (104, Ba.phiG w14.heap.size A3 W3 H3 n3 f3) ∈ [((100 : Nat), Ba.phi a0W a0H len0 c0), ((102 : Nat), Ba.phi a1W a1H len1 c1), ((104 : Nat), Ba.phiG w14.heap.size A3 W3 H3 n3 f3), ((98 : Nat), Ba.phiG w14.heap.size A3 W3 H3 n3 f3), ((105 : Nat), Ba.phiO w14.heap.size W3 H3 n3 f3), ((17 : Nat), Ba.phiB w14.heap.size)] := List.mem_cons_of_mem _ (List.mem_cons_of_mem _ ((List.mem_cons_self ..)))
      have hun2 : ∀ p ∈ [((100 : Nat), Ba.phi a0W a0H len0 c0), ((102 : Nat), Ba.phi a1W a1H len1 c1), ((104 : Nat), Ba.phiG w14.heap.size A3 W3 H3 n3 f3), ((98 : Nat), Ba.phiG w14.heap.size A3 W3 H3 n3 f3), ((105 : Nat), Ba.phiO w14.heap.size W3 H3 n3 f3), ((17 : Nat), Ba.phiB w14.heap.size)], p.1 = 104 → p.2 = Ba.phiG w14.heap.size A3 W3 H3 n3 f3 := Ba.uni_of hm2 (by simp)
      have hm3 : (98, Ba.phiG w14.heap.size A3 W3 H3 n3 f3) ∈ [((100 : Nat), Ba.phi a0W a0H len0 c0), ((102 : Nat), Ba.phi a1W a1H len1 c1), ((104 : Nat), Ba.phiG w14.heap.size A3 W3 H3 n3 f3), ((98 : Nat), Ba.phiG w14.heap.size A3 W3 H3 n3 f3), ((105 : Nat), Ba.phiO w14.heap.size W3 H3 n3 f3), ((17 : Nat), Ba.phiB w14.heap.size)] := List.mem_cons_of_mem _ (List.mem_cons_of_mem _ (List.mem_cons_of_mem _ ((List.mem_cons_self ..))))
      have hun3 : ∀ p ∈ [((100 : Nat), Ba.phi a0W a0H len0 c0), ((102 : Nat), Ba.phi a1W a1H len1 c1), ((104 : Nat), Ba.phiG w14.heap.size A3 W3 H3 n3 f3), ((98 : Nat), Ba.phiG w14.heap.size A3 W3 H3 n3 f3), ((105 : Nat), Ba.phiO w14.heap.size W3 H3 n3 f3), ((17 : Nat), Ba.phiB w14.heap.size)], p.1 = 98 → p.2 = Ba.phiG w14.heap.size A3 W3 H3 n3 f3 := Ba.uni_of hm3 (by simp)
      have hm4 : (105, Ba.phiO w14.heap.size W3 H3 n3 f3) ∈ [((100 : Nat), Ba.phi a0W a0H len0 c0), ((102 : Nat), Ba.phi a1W a1H len1 c1), ((104 : Nat), Ba.phiG w14.heap.size A3 W3 H3 n3 f3), ((98 : Nat), Ba.phiG w14.heap.size A3 W3 H3 n3 f3), ((105 : Nat), Ba.phiO w14.heap.size W3 H3 n3 f3), ((17 : Nat), Ba.phiB w14.heap.size)] := List.mem_cons_of_mem _ (List.mem_cons_of_mem _ (List.mem_cons_of_mem _ (List.mem_cons_of_mem _ ((List.mem_cons_self ..)))))
      have hun4 : ∀ p ∈ [((100 : Nat), Ba.phi a0W a0H len0 c0), ((102 : Nat), Ba.phi a1W a1H len1 c1), ((104 : Nat), Ba.phiG w14.heap.size A3 W3 H3 n3 f3), ((98 : Nat), Ba.phiG w14.heap.size A3 W3 H3 n3 f3), ((105 : Nat), Ba.phiO w14.heap.size W3 H3 n3 f3), ((17 : Nat), Ba.phiB w14.heap.size)], p.1 = 105 → p.2 = Ba.phiO w14.heap.size W3 H3 n3 f3 := Ba.uni_of hm4 (by simp)
      have hm5 : (17, Ba.phiB w14.heap.size) ∈ [((100 : Nat), Ba.phi a0W a0H len0 c0), ((102 : Nat), Ba.phi a1W a1H len1 c1), ((104 : Nat), Ba.phiG w14.heap.size A3 W3 H3 n3 f3), ((98 : Nat), Ba.phiG w14.heap.size A3 W3 H3 n3 f3), ((105 : Nat), Ba.phiO w14.heap.size W3 H3 n3 f3), ((17 : Nat), Ba.phiB w14.heap.size)] := List.mem_cons_of_mem _ (List.mem_cons_of_mem _ (List.mem_cons_of_mem _ (List.mem_cons_of_mem _ (List.mem_cons_of_mem _ ((List.mem_cons_self ..))))))
      have hun5 : ∀ p ∈ [((100 : Nat), Ba.phi a0W a0H len0 c0), ((102 : Nat), Ba.phi a1W a1H len1 c1), ((104 : Nat), Ba.phiG w14.heap.size A3 W3 H3 n3 f3), ((98 : Nat), Ba.phiG w14.heap.size A3 W3 H3 n3 f3), ((105 : Nat), Ba.phiO w14.heap.size W3 H3 n3 f3), ((17 : Nat), Ba.phiB w14.heap.size)], p.1 = 17 → p.2 = Ba.phiB w14.heap.size := Ba.uni_of hm5 (by simp)
      refine LooseL.wp_region 11 10 (fun i => decide (i < 8) || decide (i = 9)) [((100 : Nat), Ba.phi a0W a0H len0 c0), ((102 : Nat), Ba.phi a1W a1H len1 c1), ((104 : Nat), Ba.phiG w14.heap.size A3 W3 H3 n3 f3), ((98 : Nat), Ba.phiG w14.heap.size A3 W3 H3 n3 f3), ((105 : Nat), Ba.phiO w14.heap.size W3 H3 n3 f3), ((17 : Nat), Ba.phiB w14.heap.size)] [((17 : Nat), Ba.phiS w14.heap.size W3 H3 n3 f3)] (by decide) (fun i hi => by simp; omega) (by kernel_rfl) (by kernel_rfl) (by kernel_rfl) (by simp [undef]) ?_
      apply Exists.intro
      simp only [List.take_succ_cons, List.take_zero, List.drop_succ_cons, List.drop_zero]
      repeat (first | (apply LooseL.walk_before (by decide) rfl; intro K hK; apply LooseP.turn_value (hwant := rfl) (hd := rfl); (focus (intro w' hw'; obtain ⟨hc, hf⟩ := Fl.bcell hw'; go_simp; first | done | rfl | exact ⟨rfl, rfl⟩)); go_simp; refine hK _ ?_; clear hK K) | (apply LooseL.walk_before (by decide) rfl; intro K hK; refine LooseP.turn_callP (f := 30) (args := fun a => #[a.eval (.tmp 99)]) (V := fun v => ∃ a cap, v = Ba.bV a0W a0H a len0 cap) (φ := Ba.phi a0W a0H len0 c0) (d := 100) hst (Nat.le_refl _) rfl rfl hun0 (by intro a' w'; go_simp; first | done | rfl | exact ⟨rfl, rfl⟩) ⟨_, none, 0, rfl⟩ ?_ ?_; (focus (intro a' w' _ hcl; go_simp; exact Ba.to_phi HW0.out hcl.1 hbig0)); (intro v hv; obtain ⟨av0, capv0, rfl⟩ := hv; go_simp; refine hK _ ?_; clear hK K)) | (apply LooseL.walk_before (by decide) rfl; intro K hK; refine LooseP.turn_callP (f := 30) (args := fun a => #[a.eval (.tmp 101)]) (V := fun v => ∃ a cap, v = Ba.bV a1W a1H a len1 cap) (φ := Ba.phi a1W a1H len1 c1) (d := 102) hst (Nat.le_refl _) rfl rfl hun1 (by intro a' w'; go_simp; first | done | rfl | exact ⟨rfl, rfl⟩) ⟨_, none, 0, rfl⟩ ?_ ?_; (focus (intro a' w' _ hcl; go_simp; exact Ba.to_phi HW1.out hcl.1 hbig1)); (intro v hv; obtain ⟨av1, capv1, rfl⟩ := hv; go_simp; refine hK _ ?_; clear hK K)) | (apply LooseL.walk_before (by decide) rfl; intro K hK; refine LooseP.turn_callP (f := 47) (args := fun a => #[a.eval (.tmp 100), a.eval (.tmp 102), a.eval (.tmp 103)]) (V := fun v => ∃ a cap, v = .tuple #[Ba.bV W3 H3 a n3 cap, .bool A3]) (φ := Ba.phiG w14.heap.size A3 W3 H3 n3 f3) (d := 104) hst (Nat.le_refl _) rfl rfl hun2 (by intro a' w'; go_simp; first | done | rfl | exact ⟨rfl, rfl⟩) ⟨_, none, 0, rfl⟩ ?_ ?_; (focus (intro a' w' ha hcl; go_simp; obtain ⟨h1, h2⟩ := Ba.two_phi hcl hm0 hm1 (Ba.cut3 ha); exact Ba.call_phi (HI.out _ _ _ _ _ h1 h2) hcl.1)); (intro v hv; obtain ⟨avg, capvg, rfl⟩ := hv; go_simp; refine hK _ ?_; clear hK K)) | (apply LooseL.walk_before (by decide) rfl; intro K hK; refine LooseP.turn_moveP (V := fun v => ∃ a cap, v = .tuple #[Ba.bV W3 H3 a n3 cap, .bool A3]) (φ := Ba.phiG w14.heap.size A3 W3 H3 n3 f3) (d := 98) (d0 := 104) rfl rfl hun3 hm2 ⟨_, none, 0, rfl⟩ rfl (by simp [Act.eval, undef]) Ba.phiG_val ?_; (intro v hv; obtain ⟨avm, capvm, rfl⟩ := hv; go_simp; refine hK _ ?_; clear hK K)) | (apply LooseL.walk_before (by decide) rfl; intro K hK; refine LooseP.turn_extractP (V := fun v => ∃ a cap, v = Ba.bV W3 H3 a n3 cap) (φ := Ba.phiO w14.heap.size W3 H3 n3 f3) (φ0 := Ba.phiG w14.heap.size A3 W3 H3 n3 f3) (d := 105) (d0 := 98) (i := 0) rfl rfl hun4 hm3 ⟨_, none, 0, rfl⟩ rfl (xs := #[Ba.bV W3 H3 avm n3 capvm, .bool A3]) rfl rfl Ba.phiG_part ?_; (intro v hv; obtain ⟨avx, capvx, rfl⟩ := hv; go_simp; refine hK _ ?_; clear hK K)) | (apply LooseL.walk_before (by decide) rfl; intro K hK; refine LooseP.turn_allocP (φ := Ba.phiB w14.heap.size) (d := 17) (ob := .cells #[.int .i64 0, .int .i64 0, .slice none 0 0] 40) hst (Nat.le_refl _) rfl rfl hun5 (by intro w'; go_simp; first | done | rfl | exact ⟨rfl, rfl⟩) (fun w' hw' => ⟨_, rfl, hw', Ba.new_block _ _⟩) ?_; (intro Sh hSh; go_simp; refine hK _ ?_; clear hK K)) | (apply LooseL.walk_value (by decide) rfl rfl rfl; (focus (intro w' hw'; obtain ⟨hc, hf⟩ := Fl.bcell hw'; go_simp; first | done | rfl | exact ⟨rfl, rfl⟩)); intro K hK; go_simp; refine hK _ ?_; clear hK K) | (apply LooseL.walk_mark (hks := rfl) (hwant := rfl) (hdst := rfl); (focus (intro a' w' hl hc; exact Ba.store_phi hm5 hm4 (hl.2 (.tmp 17) (by simp [Op.operands])) (hl.2 (.tmp 105) (by simp [Op.operands])) hc (by intro w' c0 c1 c2 f0 f1 f2; go_simp; first | done | rfl | exact ⟨rfl, rfl⟩)))))
      refine LooseL.walk_nil ?_
      intro w15 hcls15
      have hb15 := hcls15.1
      have hz15 := hb15.size
      obtain ⟨S1, as1, cs1, L15, hS1, hSB15, hL15, hq15, ho15⟩ := hcls15.at (List.mem_cons_self ..) (v := .pointer (some ⟨Sh, 0, none⟩)) rfl (by simp [undef])
      obtain rfl : Sh = S1 := by simpa using hS1
      clear hcls15 hst hun0 hun1 hun2 hun3 hun4 hun5 hm0 hm1 hm2 hm3 hm4 hm5 HW0 HW1 hS1
      have qh := hq15
      clear hq15
      obtain ⟨avh, havh⟩ : ∃ x, x = as1 := ⟨_, rfl⟩
      obtain ⟨cvh, hcvh⟩ : ∃ x, x = cs1 := ⟨_, rfl⟩
      rw [← havh, ← hcvh] at qh ho15
      clear havh hcvh
      have qa0 := Ba.keep_block hb15 Qa0.out
      have qa1 := Ba.keep_block hb15 Qa1.out
      have qs := Ba.keep_block hb15 Qs.out
      have qx0 := Ba.keep_block hb15 Qx0.out
      have qx1 := Ba.keep_block hb15 Qx1.out
      have qg := Ba.keep_block hb15 Qg.out
      have yRs := RRs.out.later hb15
      have mX0 := MX0.out.on hb15
      have mX1 := MX1.out.on hb15
      have mG := MG.out.on hb15
      have hbw : Below w.heap.size w w15 := HBW.out.trans (hb15.mono (by omega))
      clear hb15 Qa0 Qa1 Qs Qx0 Qx1 Qg la0 la1 ls lx0 lx1 lg ea00 ea01 ea02 ea10 ea11 ea12 es0 es1 es2 ex00 ex01 ex02 ex10 ex11 ex12 eg0 eg1 eg2 RRs MX0 MX1 MG HBW
      have ho15w := ho15.wider (Nat.le_refl _) hL15
      have hslh : Sh < w15.heap.size := Ba.block_lt qh
      have Qa0 := Lib.hid qa0
      have la0 := Ba.block_lt qa0
      have ea00 := (Ba.cells_of (i := 0) qa0).trans (show _ = some (.int .i64 a0W) from rfl)
      have ea01 := (Ba.cells_of (i := 1) qa0).trans (show _ = some (.int .i64 a0H) from rfl)
      have ea02 := (Ba.cells_of (i := 2) qa0).trans (show _ = some (.slice a0 len0 cap0) from rfl)
      have Qa1 := Lib.hid qa1
      have la1 := Ba.block_lt qa1
      have ea10 := (Ba.cells_of (i := 0) qa1).trans (show _ = some (.int .i64 a1W) from rfl)
      have ea11 := (Ba.cells_of (i := 1) qa1).trans (show _ = some (.int .i64 a1H) from rfl)
      have ea12 := (Ba.cells_of (i := 2) qa1).trans (show _ = some (.slice a1 len1 cap1) from rfl)
      have Qs := Lib.hid qs
      have ls := Ba.block_lt qs
      have es0 := (Ba.cells_of (i := 0) qs).trans (show _ = some (.int .i64 W3) from rfl)
      have es1 := (Ba.cells_of (i := 1) qs).trans (show _ = some (.int .i64 H3) from rfl)
      have es2 := (Ba.cells_of (i := 2) qs).trans (show _ = some (.slice avs n3 cvs) from rfl)
      have Qx0 := Lib.hid qx0
      have lx0 := Ba.block_lt qx0
      have ex00 := (Ba.cells_of (i := 0) qx0).trans (show _ = some (.int .i64 a0W) from rfl)
      have ex01 := (Ba.cells_of (i := 1) qx0).trans (show _ = some (.int .i64 a0H) from rfl)
      have ex02 := (Ba.cells_of (i := 2) qx0).trans (show _ = some (.slice a4 len0 cap4) from rfl)
      have Qx1 := Lib.hid qx1
      have lx1 := Ba.block_lt qx1
      have ex10 := (Ba.cells_of (i := 0) qx1).trans (show _ = some (.int .i64 a1W) from rfl)
      have ex11 := (Ba.cells_of (i := 1) qx1).trans (show _ = some (.int .i64 a1H) from rfl)
      have ex12 := (Ba.cells_of (i := 2) qx1).trans (show _ = some (.slice a5 len1 cap5) from rfl)
      have Qg := Lib.hid qg
      have lg := Ba.block_lt qg
      have eg0 := (Ba.cells_of (i := 0) qg).trans (show _ = some (.int .i64 W3) from rfl)
      have eg1 := (Ba.cells_of (i := 1) qg).trans (show _ = some (.int .i64 H3) from rfl)
      have eg2 := (Ba.cells_of (i := 2) qg).trans (show _ = some (.slice a6 n3 cap6) from rfl)
      have Qh := Lib.hid qh
      have lh := Ba.block_lt qh
      have eh0 := (Ba.cells_of (i := 0) qh).trans (show _ = some (.int .i64 W3) from rfl)
      have eh1 := (Ba.cells_of (i := 1) qh).trans (show _ = some (.int .i64 H3) from rfl)
      have eh2 := (Ba.cells_of (i := 2) qh).trans (show _ = some (.slice avh n3 cvh) from rfl)
      clear qa0 qa1 qs qx0 qx1 qg qh
      have RRs := Lib.hid yRs
      have MX0 := Lib.hid mX0
      have MX1 := Lib.hid mX1
      have MG := Lib.hid mG
      clear yRs mX0 mX1 mG
      have HBW := Lib.hid hbw
      clear hbw
      have RRh := Lib.hid ho15w
      clear ho15 ho15w
      go_wp2_with fail
      refine (Ba.eq_basin _ _ avh avs _ cvh cvs f3 _ RRh.out.y RRs.out.y).mono ?_
      rintro e w16 ⟨rfl, hb16⟩
      have hz16 := hb16.size
      try simp only [World.size_alloc] at hz16
      have qa0 := Ba.keep_block hb16 Qa0.out
      have qa1 := Ba.keep_block hb16 Qa1.out
      have qs := Ba.keep_block hb16 Qs.out
      have qx0 := Ba.keep_block hb16 Qx0.out
      have qx1 := Ba.keep_block hb16 Qx1.out
      have qg := Ba.keep_block hb16 Qg.out
      have qh := Ba.keep_block hb16 Qh.out
      have yRs := (RRs.out).later hb16
      have yRh := (RRh.out).later hb16
      have mX0 := (MX0.out).on hb16
      have mX1 := (MX1.out).on hb16
      have mG := (MG.out).on hb16
      have hbw : Below w.heap.size w w16 := Below.trans HBW.out (hb16.mono (by first | omega | (simp; omega) | simp))
      clear Qa0 Qa1 Qs Qx0 Qx1 Qg Qh la0 la1 ls lx0 lx1 lg lh ea00 ea01 ea02 ea10 ea11 ea12 es0 es1 es2 ex00 ex01 ex02 ex10 ex11 ex12 eg0 eg1 eg2 eh0 eh1 eh2 RRs RRh MX0 MX1 MG HBW
      clear hb16
      have Qa0 := Lib.hid qa0
      have la0 := Ba.block_lt qa0
      have ea00 := (Ba.cells_of (i := 0) qa0).trans (show _ = some (.int .i64 a0W) from rfl)
      have ea01 := (Ba.cells_of (i := 1) qa0).trans (show _ = some (.int .i64 a0H) from rfl)
      have ea02 := (Ba.cells_of (i := 2) qa0).trans (show _ = some (.slice a0 len0 cap0) from rfl)
      have Qa1 := Lib.hid qa1
      have la1 := Ba.block_lt qa1
      have ea10 := (Ba.cells_of (i := 0) qa1).trans (show _ = some (.int .i64 a1W) from rfl)
      have ea11 := (Ba.cells_of (i := 1) qa1).trans (show _ = some (.int .i64 a1H) from rfl)
      have ea12 := (Ba.cells_of (i := 2) qa1).trans (show _ = some (.slice a1 len1 cap1) from rfl)
      have Qs := Lib.hid qs
      have ls := Ba.block_lt qs
      have es0 := (Ba.cells_of (i := 0) qs).trans (show _ = some (.int .i64 W3) from rfl)
      have es1 := (Ba.cells_of (i := 1) qs).trans (show _ = some (.int .i64 H3) from rfl)
      have es2 := (Ba.cells_of (i := 2) qs).trans (show _ = some (.slice avs n3 cvs) from rfl)
      have Qx0 := Lib.hid qx0
      have lx0 := Ba.block_lt qx0
      have ex00 := (Ba.cells_of (i := 0) qx0).trans (show _ = some (.int .i64 a0W) from rfl)
      have ex01 := (Ba.cells_of (i := 1) qx0).trans (show _ = some (.int .i64 a0H) from rfl)
      have ex02 := (Ba.cells_of (i := 2) qx0).trans (show _ = some (.slice a4 len0 cap4) from rfl)
      have Qx1 := Lib.hid qx1
      have lx1 := Ba.block_lt qx1
      have ex10 := (Ba.cells_of (i := 0) qx1).trans (show _ = some (.int .i64 a1W) from rfl)
      have ex11 := (Ba.cells_of (i := 1) qx1).trans (show _ = some (.int .i64 a1H) from rfl)
      have ex12 := (Ba.cells_of (i := 2) qx1).trans (show _ = some (.slice a5 len1 cap5) from rfl)
      have Qg := Lib.hid qg
      have lg := Ba.block_lt qg
      have eg0 := (Ba.cells_of (i := 0) qg).trans (show _ = some (.int .i64 W3) from rfl)
      have eg1 := (Ba.cells_of (i := 1) qg).trans (show _ = some (.int .i64 H3) from rfl)
      have eg2 := (Ba.cells_of (i := 2) qg).trans (show _ = some (.slice a6 n3 cap6) from rfl)
      have Qh := Lib.hid qh
      have lh := Ba.block_lt qh
      have eh0 := (Ba.cells_of (i := 0) qh).trans (show _ = some (.int .i64 W3) from rfl)
      have eh1 := (Ba.cells_of (i := 1) qh).trans (show _ = some (.int .i64 H3) from rfl)
      have eh2 := (Ba.cells_of (i := 2) qh).trans (show _ = some (.slice avh n3 cvh) from rfl)
      clear qa0 qa1 qs qx0 qx1 qg qh
      have RRs := Lib.hid yRs
      have RRh := Lib.hid yRh
      have MX0 := Lib.hid mX0
      have MX1 := Lib.hid mX1
      have MG := Lib.hid mG
      clear yRs yRh mX0 mX1 mG
      have HBW := Lib.hid hbw
      clear hbw
      go_wp2_with fail
      refine (Ba.held_basin _ _ _ _ a6 _ cap6 1 (by omega) _ MG.out).mono ?_
      rintro e w17 ⟨rfl, hb17⟩
      rw [show (1 + (n3 : Int)) = q from HQ.out.symm]
      have hz17 := hb17.size
      try simp only [World.size_alloc] at hz17
      have qa0 := Ba.keep_block hb17 Qa0.out
      have qa1 := Ba.keep_block hb17 Qa1.out
      have qs := Ba.keep_block hb17 Qs.out
      have qx0 := Ba.keep_block hb17 Qx0.out
      have qx1 := Ba.keep_block hb17 Qx1.out
      have qg := Ba.keep_block hb17 Qg.out
      have qh := Ba.keep_block hb17 Qh.out
      have yRs := (RRs.out).later hb17
      have yRh := (RRh.out).later hb17
      have mX0 := (MX0.out).on hb17
      have mX1 := (MX1.out).on hb17
      have mG := (MG.out).on hb17
      have hbw : Below w.heap.size w w17 := Below.trans HBW.out (hb17.mono (by first | omega | (simp; omega) | simp))
      clear Qa0 Qa1 Qs Qx0 Qx1 Qg Qh la0 la1 ls lx0 lx1 lg lh ea00 ea01 ea02 ea10 ea11 ea12 es0 es1 es2 ex00 ex01 ex02 ex10 ex11 ex12 eg0 eg1 eg2 eh0 eh1 eh2 RRs RRh MX0 MX1 MG HBW
      clear hb17
      have Qa0 := Lib.hid qa0
      have la0 := Ba.block_lt qa0
      have ea00 := (Ba.cells_of (i := 0) qa0).trans (show _ = some (.int .i64 a0W) from rfl)
      have ea01 := (Ba.cells_of (i := 1) qa0).trans (show _ = some (.int .i64 a0H) from rfl)
      have ea02 := (Ba.cells_of (i := 2) qa0).trans (show _ = some (.slice a0 len0 cap0) from rfl)
      have Qa1 := Lib.hid qa1
      have la1 := Ba.block_lt qa1
      have ea10 := (Ba.cells_of (i := 0) qa1).trans (show _ = some (.int .i64 a1W) from rfl)
      have ea11 := (Ba.cells_of (i := 1) qa1).trans (show _ = some (.int .i64 a1H) from rfl)
      have ea12 := (Ba.cells_of (i := 2) qa1).trans (show _ = some (.slice a1 len1 cap1) from rfl)
      have Qs := Lib.hid qs
      have ls := Ba.block_lt qs
      have es0 := (Ba.cells_of (i := 0) qs).trans (show _ = some (.int .i64 W3) from rfl)
      have es1 := (Ba.cells_of (i := 1) qs).trans (show _ = some (.int .i64 H3) from rfl)
      have es2 := (Ba.cells_of (i := 2) qs).trans (show _ = some (.slice avs n3 cvs) from rfl)
      have Qx0 := Lib.hid qx0
      have lx0 := Ba.block_lt qx0
      have ex00 := (Ba.cells_of (i := 0) qx0).trans (show _ = some (.int .i64 a0W) from rfl)
      have ex01 := (Ba.cells_of (i := 1) qx0).trans (show _ = some (.int .i64 a0H) from rfl)
      have ex02 := (Ba.cells_of (i := 2) qx0).trans (show _ = some (.slice a4 len0 cap4) from rfl)
      have Qx1 := Lib.hid qx1
      have lx1 := Ba.block_lt qx1
      have ex10 := (Ba.cells_of (i := 0) qx1).trans (show _ = some (.int .i64 a1W) from rfl)
      have ex11 := (Ba.cells_of (i := 1) qx1).trans (show _ = some (.int .i64 a1H) from rfl)
      have ex12 := (Ba.cells_of (i := 2) qx1).trans (show _ = some (.slice a5 len1 cap5) from rfl)
      have Qg := Lib.hid qg
      have lg := Ba.block_lt qg
      have eg0 := (Ba.cells_of (i := 0) qg).trans (show _ = some (.int .i64 W3) from rfl)
      have eg1 := (Ba.cells_of (i := 1) qg).trans (show _ = some (.int .i64 H3) from rfl)
      have eg2 := (Ba.cells_of (i := 2) qg).trans (show _ = some (.slice a6 n3 cap6) from rfl)
      have Qh := Lib.hid qh
      have lh := Ba.block_lt qh
      have eh0 := (Ba.cells_of (i := 0) qh).trans (show _ = some (.int .i64 W3) from rfl)
      have eh1 := (Ba.cells_of (i := 1) qh).trans (show _ = some (.int .i64 H3) from rfl)
      have eh2 := (Ba.cells_of (i := 2) qh).trans (show _ = some (.slice avh n3 cvh) from rfl)
      clear qa0 qa1 qs qx0 qx1 qg qh
      have RRs := Lib.hid yRs
      have RRh := Lib.hid yRh
      have MX0 := Lib.hid mX0
      have MX1 := Lib.hid mX1
      have MG := Lib.hid mG
      clear yRs yRh mX0 mX1 mG
      have HBW := Lib.hid hbw
      clear hbw
      go_wp2
      go_ret
      exact ⟨rfl, HBW.out⟩
    · go_enter Try.func12, Try.ntmps12
      go_wp2_with fail
      refine (Ba.sz_basin _ _ _ _ _ 1048576 _ hmx0 (by omega) K0 HK0.out).mono ?_
      rintro e w1 ⟨rfl, hb1⟩
      have hz1 := hb1.size
      try simp only [World.size_alloc, World.size_setCell, World.heap_drewN, World.size_drew] at hz1
      obtain ⟨hc1, hf1⟩ := Fl.bcell hb1
      try simp only [World.heap_drewN, World.cell?_drewN, World.frozen?_drewN] at hc1 hf1
      have g1_0 : w.heap.size < w1.heap.size := by omega
      have g1_1 : w.heap.size + 1 < w1.heap.size := by omega
      go_wp2_with fail
      refine (Ba.sz_basin _ _ _ _ _ K0 _ hmx1 (by omega) (-1) (by rw [if_neg (by omega)])).mono ?_
      rintro e w2 ⟨rfl, hb2⟩
      go_wp2
      go_ret
      exact ⟨rfl, by (repeat' first | exact Below.refl _ _ | (refine Below.setCell ?_ (by first | omega | (simp; omega) | simp) _) | (refine below_drewN ?_ _) | (refine Below.alloc ?_ (by first | omega | (simp; omega) | simp) _) | (refine Below.trans ?_ (Below.mono (by assumption) (by first | omega | (simp; omega) | simp))))⟩
  · go_enter Try.func12, Try.ntmps12
    go_wp2_with fail
    refine (Ba.sz_basin _ _ _ _ _ 1048576 _ hmx0 (by omega) (-1) (by rw [if_neg (by omega)])).mono ?_
    rintro e w1 ⟨rfl, hb1⟩
    go_wp2
    go_ret
    exact ⟨rfl, by (repeat' first | exact Below.refl _ _ | (refine Below.setCell ?_ (by first | omega | (simp; omega) | simp) _) | (refine below_drewN ?_ _) | (refine Below.alloc ?_ (by first | omega | (simp; omega) | simp) _) | (refine Below.trans ?_ (Below.mono (by assumption) (by first | omega | (simp; omega) | simp))))⟩

set_option maxRecDepth 100000 in
theorem lifted (os : Os) (started : os.Started) (H : Type) (enc : TypeId × Value → H) :
    ReturnsInHanded {} Try.checked os 12 .any (Rows.fnExactSweepStreamSpec.pre6 enc Try.prog Try.f12 Rows.fnExactSweepStreamRow.domain false) (Rows.fnExactSweepStreamSpec.post enc Try.prog Try.f12 false true false false) := by
  refine returnsInHanded_of_change (C := Try.checked) own started (by kernel_rfl) Try.func12
    (ChangeSpec.witness6 (enc := enc) (C := Try.checked) false ⟨#[], #[.agg #[.int .i64 0, .int .i64 0, .slice none 0 0], .agg #[.int .i64 0, .int .i64 0, .slice none 0 0], .int .i64 0], []⟩ 8 (by kernel_rfl) (by kernel_rfl) (by kernel_rfl) (by kernel_rfl)) ?_
  intro W base args ds gs before hval0 hW hcnd _
  have hval : ∀ (j : Nat) t v, Try.f12.params[j]? = some t → args[j]? = some v → Value.okWide Try.prog W .any base t v := hval0
  have hW' := hW
  obtain ⟨p, q, hA0, hV, rfl, hfz, hnd⟩ := hW
  have hA : DataW.TrodAll enc Try.prog W 0 (fun _ => true) true Try.f12.params.toList args.toList ds p := hA0
  rw [Try.params12] at hA hval
  obtain ⟨v0, vs0, d0, ds0, p0, q0, hargs, rfl, rfl, h0, r0⟩ := trodAll_cons hA
  obtain ⟨v1, vs1, d1, ds1, p1, q1, rfl, rfl, rfl, h1, r1⟩ := trodAll_cons r0
  obtain ⟨v2, vs2, d2, ds2, p2, q2, rfl, rfl, rfl, h2, r2⟩ := trodAll_cons r1
  obtain ⟨rfl, rfl, rfl⟩ := trodAll_nil r2
  obtain rfl : args = #[v0, v1, v2] := by cases args; simp_all
  obtain ⟨rfl, rfl⟩ := trodVars_none hV
  have k0 := h0
  have lt0 : ∀ x ∈ p0, x.block < W.heap.size := by obtain ⟨m, hm⟩ := k0; exact DataW.trod_lt m _ _ _ hm
  obtain ⟨a0W, a0H, a0, len0, cap0, z0, rfl, w0⟩ := Ba.open_basin Try.underlying38 (by kernel_rfl) (by kernel_rfl) rfl rfl rfl Try.underlying2 Try.underlying22 Try.underlying28 (by kernel_rfl) (hval 0 38 v0 rfl rfl) h0
  have k1 := h1
  have lt1 : ∀ x ∈ p1, x.block < W.heap.size := by obtain ⟨m, hm⟩ := k1; exact DataW.trod_lt m _ _ _ hm
  obtain ⟨a1W, a1H, a1, len1, cap1, z1, rfl, w1⟩ := Ba.open_basin Try.underlying38 (by kernel_rfl) (by kernel_rfl) rfl rfl rfl Try.underlying2 Try.underlying22 Try.underlying28 (by kernel_rfl) (hval 1 38 v1 rfl rfl) h1
  have k2 := h2
  have lt2 : ∀ x ∈ p2, x.block < W.heap.size := by obtain ⟨m, hm⟩ := k2; exact DataW.trod_lt m _ _ _ hm
  obtain ⟨a2, rfl, e2, _, w2⟩ := open_int Try.underlying2 (hval 2 2 v2 rfl rfl) h2
  clear hA0 hval0
  refine (walk a0W a0H a0 len0 cap0 z0 a1W a1H a1 len1 cap1 z1 a2 W w0 w1 w2).mono fun e W' ⟨he, bel⟩ => ?_
  subst he
  exact ⟨_, rfl, _, _, _, [], _, [], hW', trodAll_mk1 (shut_bool Try.underlying4 _), (trodAll_cons_mk (Below.trod laidOut (by kernel_rfl) (of_decide_eq_true (by kernel_rfl)) k0 bel lt0) (trodAll_cons_mk (Below.trod laidOut (by kernel_rfl) (of_decide_eq_true (by kernel_rfl)) k1 bel lt1) (trodAll_cons_mk (Below.trod laidOut (by kernel_rfl) (of_decide_eq_true (by kernel_rfl)) k2 bel lt2) trodAll_mk0))), rfl, bel.frame _, fun h => by cases h⟩

theorem over : Rows.fnExactSweepStreamRow.holds Try.pinned (OpenSpec.ofChange Rows.fnExactSweepStreamSpec) :=
  OpenClaim.holds_of_wide 12 Try.f12 rfl rfl rfl rfl rfl rfl rfl ⟨rfl, rfl, rfl, rfl, rfl⟩ rfl rfl rfl rfl rfl (by kernel_rfl) Try.func12 (by kernel_rfl)
    (of_decide_eq_true (by kernel_rfl)) (by unfold Func.isWrapper; first | (rw [if_pos (by decide +kernel)]; kernel_rfl) | (rw [if_neg (by decide +kernel)]; exact ⟨rfl, rfl⟩))
    (fun os started H enc _ => lifted os started H enc)

/-- The statement. -/
theorem proved : Rows.FnExactSweepStreamSaid := over
#print axioms proved
end Go.Proofs.Ytbinjkaanbhikaa.fnExactSweepStream
