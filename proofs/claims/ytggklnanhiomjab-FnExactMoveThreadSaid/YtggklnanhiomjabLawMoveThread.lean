/- 'FnExactMoveThread' returns true at every input, and every argument reads afterwards as before. No conditions. -/
import Derived.Test.YtggklnanhiomjabRows
import Derived.WalkKit
import Derived.WalkLawsBesides
import Derived.ProofKit
import Derived.OpenShut
import Derived.ShutString
import Derived.ChangeOld
import Derived.Below
import Derived.Test.YtggklnanhiomjabFrame
import Derived.Test.YtggklnanhiomjabThL
import Derived.Test.YtggklnanhiomjabThW
import Derived.Test.YtggklnanhiomjabThX
namespace Go.Proofs.Ytggklnanhiomjab.fnExactMoveThread
open Go.ChangeShapes Go.WideShapes Go.ChangeAt Go.RowKit
open Go.ChangeMaps (open_string shut_string)
set_option linter.unusedVariables false
set_option linter.unusedSimpArgs false

theorem own : ownKnob Try.prog.godebug = none := by kernel_rfl
theorem laidOut : laidOutB Try.prog = true := by kernel_rfl

set_option maxHeartbeats 25600000 in
theorem walk (a0S : Nat) (a0 : Option Addr) (len0 cap0 : Nat) (c0 : Nat → Option Nat) (a1x a1y a1z : Nat) (w : World) (w0 : Th.IsV w a0 len0 cap0 c0) (w0S : (Lit.float .f32 a0S).wf = true) (w1x : (Lit.float .f32 a1x).wf = true) (w1y : (Lit.float .f32 a1y).wf = true) (w1z : (Lit.float .f32 a1z).wf = true) :
    Calls Try.prog 8 #[.agg #[.slice a0 len0 cap0, .float .f32 a0S], .agg #[.float .f32 a1x, .float .f32 a1y, .float .f32 a1z]] w fun e w' => e = .returned (.bool true) ∧ Below w.heap.size w w' := by
  have hY0 := w0
  have HY0 := Lib.hid hY0
  have hmx0 : len0 ≤ maxLen := by have h1 := w0.1; have h2 := w0.2.1; omega
  have hmi0 : len0 ≤ 9223372036854775807 := by unfold maxLen at hmx0; omega
  have HF0 := Lib.hid (show Fl.Fr .f32 a0S (Fl.cl .f32 a0S) from ⟨rfl, Fl.lt32 w0S⟩)
  clear hY0 w0 w0S
  by_cases hbig0 : len0 ≤ 1048576
  · obtain ⟨K0, hK0⟩ : ∃ K : Int, K = if (len0 : Int) ≤ 1048576 then 1048576 - (len0 : Int) else -1 := ⟨_, rfl⟩
    have hk0 : ¬ K0 < 0 := by rw [hK0, if_pos (by omega)]; omega
    have HK0 := Lib.hid hK0; clear hK0
    have HT0 := Lib.hid (fun w' (hb : Below w.heap.size w w') => Th.to_thread a0 len0 cap0 a0S c0 w' (HY0.out.later hb) hbig0)
    obtain ⟨d0, hd0⟩ : ∃ d, Fl.cl .f32 a1x = d := ⟨_, rfl⟩
    have fd0 : Fl.Fr .f32 a1x d0 := ⟨hd0, Fl.lt32 w1x⟩
    clear hd0 w1x
    obtain ⟨d1, hd1⟩ : ∃ d, Fl.cl .f32 a1y = d := ⟨_, rfl⟩
    have fd1 : Fl.Fr .f32 a1y d1 := ⟨hd1, Fl.lt32 w1y⟩
    clear hd1 w1y
    obtain ⟨d2, hd2⟩ : ∃ d, Fl.cl .f32 a1z = d := ⟨_, rfl⟩
    have fd2 : Fl.Fr .f32 a1z d2 := ⟨hd2, Fl.lt32 w1z⟩
    clear hd2 w1z
    have HS := Lib.hid (fun a cap w (h : Th.IsV w a len0 cap c0) x y z (fx : Fl.Fr .f32 x d0) (fy : Fl.Fr .f32 y d1) (fz : Fl.Fr .f32 z d2) => Th.spec_MoveT a len0 cap a0S _ c0 w h HF0.out x y z d0 d1 d2 fx fy fz _ rfl)
    have HI := Lib.hid (fun a cap w (h : Th.IsV w a len0 cap c0) x y z (fx : Fl.Fr .f32 x d0) (fy : Fl.Fr .f32 y d1) (fz : Fl.Fr .f32 z d2) => Th.impl_MoveT a len0 cap a0S _ c0 w h HF0.out x y z d0 d1 d2 fx fy fz _ rfl)
    obtain ⟨A3, hA3⟩ : ∃ A3, ((Th.okT len0 (Fl.cl .f32 a0S) c0 && (Rate.finC d0 && Rate.finC d1 && Rate.finC d2)) && Th.allV (Th.moveC c0 d0 d1 d2) len0) = A3 := ⟨_, rfl⟩
    rw [hA3] at HS HI
    unfold Th.RetG at HS HI
    have hn3 : (if A3 then len0 else 0) ≤ 32 := by
      cases A3
      · simp
      · simp only [Bool.and_eq_true] at hA3
        simp only [if_true]
        exact (Th.okT_of hA3.1.1).2.1
    have h3s : Fl.Fr .f32 (if A3 then a0S else 0) (Fl.cl .f32 (if A3 then a0S else 0)) := ⟨rfl, by
      cases A3
      · exact (by decide : 0 < 2 ^ FloatKind.f32.format.width)
      · exact HF0.out.2⟩
    generalize (if A3 then len0 else 0) = n3 at *
    generalize (if A3 then a0S else 0) = s3 at *
    obtain ⟨f3, hf3⟩ : ∃ f3, Th.moveC c0 d0 d1 d2 = f3 := ⟨_, rfl⟩
    rw [hf3] at HS HI
    clear hA3 hf3
    obtain ⟨p0, hp0⟩ : ∃ p : Int, p = 1 + (len0 : Int) * 3 := ⟨_, rfl⟩
    have hp00 : 0 ≤ p0 := by omega
    have hp0b : p0 ≤ 8388608 := by omega
    have HP0 := Lib.hid hp0
    clear hp0
    obtain ⟨q, hq⟩ : ∃ q : Int, q = 1 + (n3 : Int) * 3 := ⟨_, rfl⟩
    have hq0 : 0 ≤ q := by omega
    have HQ := Lib.hid hq
    clear hq
    go_enter Try.func8, Try.ntmps8
    go_wp2_with fail
    refine (Th.sz_thread _ _ _ _ 1048576 _ hmx0 (by omega) K0 HK0.out).mono ?_
    rintro e w1 ⟨rfl, hb1⟩
    have hz1 := hb1.size
    try simp only [World.size_alloc] at hz1
    have qa0 : w1.heap[w.heap.size]? = some (.cells #[.slice a0 len0 cap0, .float .f32 a0S] 40) := Th.keep_block hb1 (Th.alloc_block (Th.new_block _ _))
    have qv1 : w1.heap[w.heap.size + 1]? = some (.cells #[.float .f32 a1x, .float .f32 a1y, .float .f32 a1z] 47) := Th.keep_block hb1 (by simpa using Th.new_block ((w).alloc (.cells #[.slice a0 len0 cap0, .float .f32 a0S] 40)) (.cells #[.float .f32 a1x, .float .f32 a1y, .float .f32 a1z] 47))
    have hbw : Below w.heap.size w w1 := Below.trans (Below.alloc (Below.alloc (Below.refl _ _) (by first | exact Nat.le_refl _ | omega | (simp; omega) | simp) _) (by first | exact Nat.le_refl _ | omega | (simp; omega) | simp) _) (hb1.mono (by first | omega | (simp; omega) | simp))
    clear hb1
    have Qa0 := Lib.hid qa0
    have la0 := Th.block_lt qa0
    have ea00 := (Th.cells_of (i := 0) qa0).trans (show _ = some (.slice a0 len0 cap0) from rfl)
    have ea01 := (Th.cells_of (i := 1) qa0).trans (show _ = some (.float .f32 a0S) from rfl)
    have Qv1 := Lib.hid qv1
    have lv1 := Th.block_lt qv1
    have ev10 := (Th.cells_of (i := 0) qv1).trans (show _ = some (.float .f32 a1x) from rfl)
    have ev11 := (Th.cells_of (i := 1) qv1).trans (show _ = some (.float .f32 a1y) from rfl)
    have ev12 := (Th.cells_of (i := 2) qv1).trans (show _ = some (.float .f32 a1z) from rfl)
    clear qa0 qv1
    have HBW := Lib.hid hbw
    clear hbw
    have HW0 := Lib.hid (HY0.out.later HBW.out)
    go_wp2_with fail
    have hst : ∀ p ∈ [((23 : Nat), Th.phi a0S len0 c0), ((26 : Nat), Th.phiG w1.heap.size A3 s3 n3 f3), ((21 : Nat), Th.phiG w1.heap.size A3 s3 n3 f3), ((27 : Nat), Th.phiO w1.heap.size s3 n3 f3), ((6 : Nat), Th.phiB w1.heap.size)], LooseP.Stable p.2 := Th.five_stable (Th.phi_stable _ _ _) (Th.phiG_stable _ _ _ _ _) (Th.phiG_stable _ _ _ _ _) (Th.phiO_stable _ _ _ _) (Th.phiB_stable _)
    have hm0 : (23, Th.phi a0S len0 c0) ∈ [((23 : Nat), Th.phi a0S len0 c0), ((26 : Nat), Th.phiG w1.heap.size A3 s3 n3 f3), ((21 : Nat), Th.phiG w1.heap.size A3 s3 n3 f3), ((27 : Nat), Th.phiO w1.heap.size s3 n3 f3), ((6 : Nat), Th.phiB w1.heap.size)] := (List.mem_cons_self ..)
    have hun0 : ∀ p ∈ [((23 : Nat), Th.phi a0S len0 c0), ((26 : Nat), Th.phiG w1.heap.size A3 s3 n3 f3), ((21 : Nat), Th.phiG w1.heap.size A3 s3 n3 f3), ((27 : Nat), Th.phiO w1.heap.size s3 n3 f3), ((6 : Nat), Th.phiB w1.heap.size)], p.1 = 23 → p.2 = Th.phi a0S len0 c0 := Th.uni_of hm0 (by simp)
    have hm1 : (26, Th.phiG w1.heap.size A3 s3 n3 f3) ∈ [((23 : Nat), Th.phi a0S len0 c0), ((26 : Nat), Th.phiG w1.heap.size A3 s3 n3 f3), ((21 : Nat), Th.phiG w1.heap.size A3 s3 n3 f3), ((27 : Nat), Th.phiO w1.heap.size s3 n3 f3), ((6 : Nat), Th.phiB w1.heap.size)] := List.mem_cons_of_mem _ ((List.mem_cons_self ..))
    have hun1 : ∀ p ∈ [((23 : Nat), Th.phi a0S len0 c0), ((26 : Nat), Th.phiG w1.heap.size A3 s3 n3 f3), ((21 : Nat), Th.phiG w1.heap.size A3 s3 n3 f3), ((27 : Nat), Th.phiO w1.heap.size s3 n3 f3), ((6 : Nat), Th.phiB w1.heap.size)], p.1 = 26 → p.2 = Th.phiG w1.heap.size A3 s3 n3 f3 := Th.uni_of hm1 (by simp)
    have hm2 : (21, Th.phiG w1.heap.size A3 s3 n3 f3) ∈ [((23 : Nat), Th.phi a0S len0 c0), ((26 : Nat), Th.phiG w1.heap.size A3 s3 n3 f3), ((21 : Nat), Th.phiG w1.heap.size A3 s3 n3 f3), ((27 : Nat), Th.phiO w1.heap.size s3 n3 f3), ((6 : Nat), Th.phiB w1.heap.size)] := List.mem_cons_of_mem _ (List.mem_cons_of_mem _ ((List.mem_cons_self ..)))
    have hun2 : ∀ p ∈ [((23 : Nat), Th.phi a0S len0 c0), ((26 : Nat), Th.phiG w1.heap.size A3 s3 n3 f3), ((21 : Nat), Th.phiG w1.heap.size A3 s3 n3 f3), ((27 : Nat), Th.phiO w1.heap.size s3 n3 f3), ((6 : Nat), Th.phiB w1.heap.size)], p.1 = 21 → p.2 = Th.phiG w1.heap.size A3 s3 n3 f3 := Th.uni_of hm2 (by simp)
    have hm3 : (27, Th.phiO w1.heap.size s3 n3 f3) ∈ [((23 : Nat), Th.phi a0S len0 c0), ((26 : Nat), Th.phiG w1.heap.size A3 s3 n3 f3), ((21 : Nat), Th.phiG w1.heap.size A3 s3 n3 f3), ((27 : Nat), Th.phiO w1.heap.size s3 n3 f3), ((6 : Nat), Th.phiB w1.heap.size)] := List.mem_cons_of_mem _ (List.mem_cons_of_mem _ (List.mem_cons_of_mem _ ((List.mem_cons_self ..))))
    have hun3 : ∀ p ∈ [((23 : Nat), Th.phi a0S len0 c0), ((26 : Nat), Th.phiG w1.heap.size A3 s3 n3 f3), ((21 : Nat), Th.phiG w1.heap.size A3 s3 n3 f3), ((27 : Nat), Th.phiO w1.heap.size s3 n3 f3), ((6 : Nat), Th.phiB w1.heap.size)], p.1 = 27 → p.2 = Th.phiO w1.heap.size s3 n3 f3 := Th.uni_of hm3 (by simp)
    have hm4 : (6, Th.phiB w1.heap.size) ∈ [((23 : Nat), Th.phi a0S len0 c0), ((26 : Nat), Th.phiG w1.heap.size A3 s3 n3 f3), ((21 : Nat), Th.phiG w1.heap.size A3 s3 n3 f3), ((27 : Nat), Th.phiO w1.heap.size s3 n3 f3), ((6 : Nat), Th.phiB w1.heap.size)] := List.mem_cons_of_mem _ (List.mem_cons_of_mem _ (List.mem_cons_of_mem _ (List.mem_cons_of_mem _ ((List.mem_cons_self ..)))))
    have hun4 : ∀ p ∈ [((23 : Nat), Th.phi a0S len0 c0), ((26 : Nat), Th.phiG w1.heap.size A3 s3 n3 f3), ((21 : Nat), Th.phiG w1.heap.size A3 s3 n3 f3), ((27 : Nat), Th.phiO w1.heap.size s3 n3 f3), ((6 : Nat), Th.phiB w1.heap.size)], p.1 = 6 → p.2 = Th.phiB w1.heap.size := Th.uni_of hm4 (by simp)
    refine LooseL.wp_region 10 9 (fun i => decide (i < 7) || decide (i = 8)) [((23 : Nat), Th.phi a0S len0 c0), ((26 : Nat), Th.phiG w1.heap.size A3 s3 n3 f3), ((21 : Nat), Th.phiG w1.heap.size A3 s3 n3 f3), ((27 : Nat), Th.phiO w1.heap.size s3 n3 f3), ((6 : Nat), Th.phiB w1.heap.size)] [((6 : Nat), Th.phiS w1.heap.size s3 n3 f3)] (by decide) (fun i hi => by simp; omega) (by kernel_rfl) (by kernel_rfl) (by kernel_rfl) (by simp [undef]) ?_
    apply Exists.intro
    simp only [List.take_succ_cons, List.take_zero, List.drop_succ_cons, List.drop_zero]
    repeat (first | (apply LooseL.walk_before (by decide) rfl; intro K hK; apply LooseP.turn_value (hwant := rfl) (hd := rfl); (focus (intro w' hw'; obtain ⟨hc, hf⟩ := Fl.bcell hw'; go_simp; first | done | rfl | exact ⟨rfl, rfl⟩)); go_simp; refine hK _ ?_; clear hK K) | (apply LooseL.walk_before (by decide) rfl; intro K hK; refine LooseP.turn_callP (f := 27) (args := fun a => #[a.eval (.tmp 22)]) (V := fun v => ∃ a cap, v = Th.tV a len0 cap a0S) (φ := Th.phi a0S len0 c0) (d := 23) hst (Nat.le_refl _) rfl rfl hun0 (by intro a' w'; go_simp; first | done | rfl | exact ⟨rfl, rfl⟩) ⟨_, none, 0, rfl⟩ ?_ ?_; (focus (intro a' w' _ hcl; go_simp; exact Th.to_phi HW0.out hcl.1 hbig0)); (intro v hv; obtain ⟨av0, capv0, rfl⟩ := hv; go_simp; refine hK _ ?_; clear hK K)) | (apply LooseL.walk_before (by decide) rfl; intro K hK; refine LooseP.turn_call (f := 32) (args := fun a => #[a.eval (.tmp 24)]) (V := fun v => ∃ x y z, v = .agg #[.float .f32 x, .float .f32 y, .float .f32 z] ∧ Fl.Fr .f32 x d0 ∧ Fl.Fr .f32 y d1 ∧ Fl.Fr .f32 z d2) hst (Nat.le_refl _) rfl rfl (by intro a' w'; go_simp; first | done | rfl | exact ⟨rfl, rfl⟩) ⟨_, a1x, a1y, a1z, rfl, fd0, fd1, fd2⟩ ?_ ?_; (focus (intro a' w' _ hcl; go_simp; exact Th.vec_call _ _ _ _ _ _ _ fd0 fd1 fd2)); (intro v hv; obtain ⟨vx, vy, vz, rfl, fvx, fvy, fvz⟩ := hv; go_simp; refine hK _ ?_; clear hK K)) | (apply LooseL.walk_before (by decide) rfl; intro K hK; refine LooseP.turn_callP (f := 31) (args := fun a => #[a.eval (.tmp 23), a.eval (.tmp 25)]) (V := fun v => ∃ a cap, v = .tuple #[Th.tV a n3 cap s3, .bool A3]) (φ := Th.phiG w1.heap.size A3 s3 n3 f3) (d := 26) hst (Nat.le_refl _) rfl rfl hun1 (by intro a' w'; go_simp; first | done | rfl | exact ⟨rfl, rfl⟩) ⟨_, none, 0, rfl⟩ ?_ ?_; (focus (intro a' w' ha hcl; go_simp; have h1 := Th.one_phi hcl hm0 ha; exact Th.call_phi (HS.out _ _ _ h1 _ _ _ fvx fvy fvz) hcl.1)); (intro v hv; obtain ⟨avq, capvq, rfl⟩ := hv; go_simp; refine hK _ ?_; clear hK K)) | (apply LooseL.walk_before (by decide) rfl; intro K hK; refine LooseP.turn_moveP (V := fun v => ∃ a cap, v = .tuple #[Th.tV a n3 cap s3, .bool A3]) (φ := Th.phiG w1.heap.size A3 s3 n3 f3) (d := 21) (d0 := 26) rfl rfl hun2 hm1 ⟨_, none, 0, rfl⟩ rfl (by simp [Act.eval, undef]) Th.phiG_val ?_; (intro v hv; obtain ⟨avm, capvm, rfl⟩ := hv; go_simp; refine hK _ ?_; clear hK K)) | (apply LooseL.walk_before (by decide) rfl; intro K hK; refine LooseP.turn_extractP (V := fun v => ∃ a cap, v = Th.tV a n3 cap s3) (φ := Th.phiO w1.heap.size s3 n3 f3) (φ0 := Th.phiG w1.heap.size A3 s3 n3 f3) (d := 27) (d0 := 21) (i := 0) rfl rfl hun3 hm2 ⟨_, none, 0, rfl⟩ rfl (xs := #[Th.tV avm n3 capvm s3, .bool A3]) rfl rfl Th.phiG_part ?_; (intro v hv; obtain ⟨avx, capvx, rfl⟩ := hv; go_simp; refine hK _ ?_; clear hK K)) | (apply LooseL.walk_before (by decide) rfl; intro K hK; refine LooseP.turn_allocP (φ := Th.phiB w1.heap.size) (d := 6) (ob := .cells #[.slice none 0 0, .float .f32 0] 25) hst (Nat.le_refl _) rfl rfl hun4 (by intro w'; go_simp; first | done | rfl | exact ⟨rfl, rfl⟩) (fun w' hw' => ⟨_, rfl, hw', Th.new_block _ _⟩) ?_; (intro Ss hSs; go_simp; refine hK _ ?_; clear hK K)) | (apply LooseL.walk_value (by decide) rfl rfl rfl; (focus (intro w' hw'; obtain ⟨hc, hf⟩ := Fl.bcell hw'; go_simp; first | done | rfl | exact ⟨rfl, rfl⟩)); intro K hK; go_simp; refine hK _ ?_; clear hK K) | (apply LooseL.walk_mark (hks := rfl) (hwant := rfl) (hdst := rfl); (focus (intro a' w' hl hc; exact Th.store_phi hm4 hm3 (hl.2 (.tmp 6) (by simp [Op.operands])) (hl.2 (.tmp 27) (by simp [Op.operands])) hc (by intro w' c0 c1 f0 f1; go_simp; first | done | rfl | exact ⟨rfl, rfl⟩)))))
    refine LooseL.walk_nil ?_
    intro w2 hcls2
    have hb2 := hcls2.1
    have hz2 := hb2.size
    obtain ⟨S1, as1, cs1, L2, hS1, hSB2, hL2, hq2, ho2⟩ := hcls2.at (List.mem_cons_self ..) (v := .pointer (some ⟨Ss, 0, none⟩)) rfl (by simp [undef])
    obtain rfl : Ss = S1 := by simpa using hS1
    clear hcls2 hst hun0 hun1 hun2 hun3 hun4 hm0 hm1 hm2 hm3 hm4 HW0 hS1
    have qs := hq2
    clear hq2
    obtain ⟨avs, havs⟩ : ∃ x, x = as1 := ⟨_, rfl⟩
    obtain ⟨cvs, hcvs⟩ : ∃ x, x = cs1 := ⟨_, rfl⟩
    rw [← havs, ← hcvs] at qs ho2
    clear havs hcvs
    have qa0 := Th.keep_block hb2 Qa0.out
    have qv1 := Th.keep_block hb2 Qv1.out
    have hbw : Below w.heap.size w w2 := HBW.out.trans (hb2.mono (by omega))
    clear Qa0 Qv1 la0 lv1 ea00 ea01 ev10 ev11 ev12 HBW
    clear hb2
    have ho2w := ho2.wider (Nat.le_refl _) hL2
    have hsls : Ss < w2.heap.size := Th.block_lt qs
    have Qa0 := Lib.hid qa0
    have la0 := Th.block_lt qa0
    have ea00 := (Th.cells_of (i := 0) qa0).trans (show _ = some (.slice a0 len0 cap0) from rfl)
    have ea01 := (Th.cells_of (i := 1) qa0).trans (show _ = some (.float .f32 a0S) from rfl)
    have Qv1 := Lib.hid qv1
    have lv1 := Th.block_lt qv1
    have ev10 := (Th.cells_of (i := 0) qv1).trans (show _ = some (.float .f32 a1x) from rfl)
    have ev11 := (Th.cells_of (i := 1) qv1).trans (show _ = some (.float .f32 a1y) from rfl)
    have ev12 := (Th.cells_of (i := 2) qv1).trans (show _ = some (.float .f32 a1z) from rfl)
    have Qs := Lib.hid qs
    have ls := Th.block_lt qs
    have es0 := (Th.cells_of (i := 0) qs).trans (show _ = some (.slice avs n3 cvs) from rfl)
    have es1 := (Th.cells_of (i := 1) qs).trans (show _ = some (.float .f32 s3) from rfl)
    clear qa0 qv1 qs
    have HBW := Lib.hid hbw
    clear hbw
    have RRs := Lib.hid ho2w
    clear ho2 ho2w
    go_wp2_with fail
    refine (HT0.out _ HBW.out).mono ?_
    rintro e w3 ⟨a3, cap3, rfl, ho3, hb3⟩
    have hz3 := hb3.size
    try simp only [World.size_alloc] at hz3
    have qa0 := Th.keep_block hb3 Qa0.out
    have qv1 := Th.keep_block hb3 Qv1.out
    have qs := Th.keep_block hb3 Qs.out
    have yRs := (RRs.out).later hb3
    have hbw : Below w.heap.size w w3 := Below.trans HBW.out (hb3.mono (by first | omega | (simp; omega) | simp))
    clear Qa0 Qv1 Qs la0 lv1 ls ea00 ea01 ev10 ev11 ev12 es0 es1 RRs HBW
    clear hb3
    have Qa0 := Lib.hid qa0
    have la0 := Th.block_lt qa0
    have ea00 := (Th.cells_of (i := 0) qa0).trans (show _ = some (.slice a0 len0 cap0) from rfl)
    have ea01 := (Th.cells_of (i := 1) qa0).trans (show _ = some (.float .f32 a0S) from rfl)
    have Qv1 := Lib.hid qv1
    have lv1 := Th.block_lt qv1
    have ev10 := (Th.cells_of (i := 0) qv1).trans (show _ = some (.float .f32 a1x) from rfl)
    have ev11 := (Th.cells_of (i := 1) qv1).trans (show _ = some (.float .f32 a1y) from rfl)
    have ev12 := (Th.cells_of (i := 2) qv1).trans (show _ = some (.float .f32 a1z) from rfl)
    have Qs := Lib.hid qs
    have ls := Th.block_lt qs
    have es0 := (Th.cells_of (i := 0) qs).trans (show _ = some (.slice avs n3 cvs) from rfl)
    have es1 := (Th.cells_of (i := 1) qs).trans (show _ = some (.float .f32 s3) from rfl)
    clear qa0 qv1 qs
    have RRs := Lib.hid yRs
    clear yRs
    have HBW := Lib.hid hbw
    clear hbw
    have RX0 := Lib.hid (ho3.wider (show w2.heap.size ≤ _ by simp) (Nat.le_refl _))
    clear ho3
    go_wp2_with fail
    obtain ⟨w4, hw4⟩ : ∃ u, u = (w3).alloc (.cells #[.slice a3 len0 cap3, .float .f32 a0S] 25) := ⟨_, rfl⟩
    rw [← hw4]
    have hb4 : Below ((w3).alloc (.cells #[.slice a3 len0 cap3, .float .f32 a0S] 25)).heap.size ((w3).alloc (.cells #[.slice a3 len0 cap3, .float .f32 a0S] 25)) w4 := by rw [hw4]; exact Below.refl _ _
    clear hw4
    have hz4 := hb4.size
    try simp only [World.size_alloc] at hz4
    have qa0 := Th.keep_block hb4 (Th.alloc_block Qa0.out)
    have qv1 := Th.keep_block hb4 (Th.alloc_block Qv1.out)
    have qs := Th.keep_block hb4 (Th.alloc_block Qs.out)
    have qx0 : w4.heap[w3.heap.size]? = some (.cells #[.slice a3 len0 cap3, .float .f32 a0S] 25) := Th.keep_block hb4 (Th.new_block _ _)
    have yRs := ((RRs.out.alloc _)).later hb4
    have yX0 := ((RX0.out.alloc _)).later hb4
    have hbw : Below w.heap.size w w4 := Below.trans (Below.alloc HBW.out (by first | exact Nat.le_refl _ | omega | (simp; omega) | simp) _) (hb4.mono (by first | omega | (simp; omega) | simp))
    clear Qa0 Qv1 Qs la0 lv1 ls ea00 ea01 ev10 ev11 ev12 es0 es1 RRs RX0 HBW
    clear hb4
    have Qa0 := Lib.hid qa0
    have la0 := Th.block_lt qa0
    have ea00 := (Th.cells_of (i := 0) qa0).trans (show _ = some (.slice a0 len0 cap0) from rfl)
    have ea01 := (Th.cells_of (i := 1) qa0).trans (show _ = some (.float .f32 a0S) from rfl)
    have Qv1 := Lib.hid qv1
    have lv1 := Th.block_lt qv1
    have ev10 := (Th.cells_of (i := 0) qv1).trans (show _ = some (.float .f32 a1x) from rfl)
    have ev11 := (Th.cells_of (i := 1) qv1).trans (show _ = some (.float .f32 a1y) from rfl)
    have ev12 := (Th.cells_of (i := 2) qv1).trans (show _ = some (.float .f32 a1z) from rfl)
    have Qs := Lib.hid qs
    have ls := Th.block_lt qs
    have es0 := (Th.cells_of (i := 0) qs).trans (show _ = some (.slice avs n3 cvs) from rfl)
    have es1 := (Th.cells_of (i := 1) qs).trans (show _ = some (.float .f32 s3) from rfl)
    have Qx0 := Lib.hid qx0
    have lx0 := Th.block_lt qx0
    have ex00 := (Th.cells_of (i := 0) qx0).trans (show _ = some (.slice a3 len0 cap3) from rfl)
    have ex01 := (Th.cells_of (i := 1) qx0).trans (show _ = some (.float .f32 a0S) from rfl)
    clear qa0 qv1 qs qx0
    have RRs := Lib.hid yRs
    have RX0 := Lib.hid yX0
    clear yRs yX0
    have HBW := Lib.hid hbw
    clear hbw
    have HW0 := Lib.hid (HY0.out.later HBW.out)
    have HX0 := Lib.hid RX0.out.v
    have hst : ∀ p ∈ [((35 : Nat), Th.phiG w4.heap.size A3 s3 n3 f3), ((31 : Nat), Th.phiG w4.heap.size A3 s3 n3 f3), ((36 : Nat), Th.phiO w4.heap.size s3 n3 f3), ((9 : Nat), Th.phiB w4.heap.size)], LooseP.Stable p.2 := Th.fours_stable (Th.phiG_stable _ _ _ _ _) (Th.phiG_stable _ _ _ _ _) (Th.phiO_stable _ _ _ _) (Th.phiB_stable _)
    have hm0 : (35, Th.phiG w4.heap.size A3 s3 n3 f3) ∈ [((35 : Nat), Th.phiG w4.heap.size A3 s3 n3 f3), ((31 : Nat), Th.phiG w4.heap.size A3 s3 n3 f3), ((36 : Nat), Th.phiO w4.heap.size s3 n3 f3), ((9 : Nat), Th.phiB w4.heap.size)] := (List.mem_cons_self ..)
    have hun0 : ∀ p ∈ [((35 : Nat), Th.phiG w4.heap.size A3 s3 n3 f3), ((31 : Nat), Th.phiG w4.heap.size A3 s3 n3 f3), ((36 : Nat), Th.phiO w4.heap.size s3 n3 f3), ((9 : Nat), Th.phiB w4.heap.size)], p.1 = 35 → p.2 = Th.phiG w4.heap.size A3 s3 n3 f3 := Th.uni_of hm0 (by simp)
    have hm1 : (31, Th.phiG w4.heap.size A3 s3 n3 f3) ∈ [((35 : Nat), Th.phiG w4.heap.size A3 s3 n3 f3), ((31 : Nat), Th.phiG w4.heap.size A3 s3 n3 f3), ((36 : Nat), Th.phiO w4.heap.size s3 n3 f3), ((9 : Nat), Th.phiB w4.heap.size)] := List.mem_cons_of_mem _ ((List.mem_cons_self ..))
    have hun1 : ∀ p ∈ [((35 : Nat), Th.phiG w4.heap.size A3 s3 n3 f3), ((31 : Nat), Th.phiG w4.heap.size A3 s3 n3 f3), ((36 : Nat), Th.phiO w4.heap.size s3 n3 f3), ((9 : Nat), Th.phiB w4.heap.size)], p.1 = 31 → p.2 = Th.phiG w4.heap.size A3 s3 n3 f3 := Th.uni_of hm1 (by simp)
    have hm2 : (36, Th.phiO w4.heap.size s3 n3 f3) ∈ [((35 : Nat), Th.phiG w4.heap.size A3 s3 n3 f3), ((31 : Nat), Th.phiG w4.heap.size A3 s3 n3 f3), ((36 : Nat), Th.phiO w4.heap.size s3 n3 f3), ((9 : Nat), Th.phiB w4.heap.size)] := List.mem_cons_of_mem _ (List.mem_cons_of_mem _ ((List.mem_cons_self ..)))
    have hun2 : ∀ p ∈ [((35 : Nat), Th.phiG w4.heap.size A3 s3 n3 f3), ((31 : Nat), Th.phiG w4.heap.size A3 s3 n3 f3), ((36 : Nat), Th.phiO w4.heap.size s3 n3 f3), ((9 : Nat), Th.phiB w4.heap.size)], p.1 = 36 → p.2 = Th.phiO w4.heap.size s3 n3 f3 := Th.uni_of hm2 (by simp)
    have hm3 : (9, Th.phiB w4.heap.size) ∈ [((35 : Nat), Th.phiG w4.heap.size A3 s3 n3 f3), ((31 : Nat), Th.phiG w4.heap.size A3 s3 n3 f3), ((36 : Nat), Th.phiO w4.heap.size s3 n3 f3), ((9 : Nat), Th.phiB w4.heap.size)] := List.mem_cons_of_mem _ (List.mem_cons_of_mem _ (List.mem_cons_of_mem _ ((List.mem_cons_self ..))))
    have hun3 : ∀ p ∈ [((35 : Nat), Th.phiG w4.heap.size A3 s3 n3 f3), ((31 : Nat), Th.phiG w4.heap.size A3 s3 n3 f3), ((36 : Nat), Th.phiO w4.heap.size s3 n3 f3), ((9 : Nat), Th.phiB w4.heap.size)], p.1 = 9 → p.2 = Th.phiB w4.heap.size := Th.uni_of hm3 (by simp)
    refine LooseL.wp_region 9 8 (fun i => decide (i < 6) || decide (i = 7)) [((35 : Nat), Th.phiG w4.heap.size A3 s3 n3 f3), ((31 : Nat), Th.phiG w4.heap.size A3 s3 n3 f3), ((36 : Nat), Th.phiO w4.heap.size s3 n3 f3), ((9 : Nat), Th.phiB w4.heap.size)] [((9 : Nat), Th.phiS w4.heap.size s3 n3 f3)] (by decide) (fun i hi => by simp; omega) (by kernel_rfl) (by kernel_rfl) (by kernel_rfl) (by simp [undef]) ?_
    apply Exists.intro
    simp only [List.take_succ_cons, List.take_zero, List.drop_succ_cons, List.drop_zero]
    repeat (first | (apply LooseL.walk_before (by decide) rfl; intro K hK; apply LooseP.turn_value (hwant := rfl) (hd := rfl); (focus (intro w' hw'; obtain ⟨hc, hf⟩ := Fl.bcell hw'; go_simp; first | done | rfl | exact ⟨rfl, rfl⟩)); go_simp; refine hK _ ?_; clear hK K) | (apply LooseL.walk_before (by decide) rfl; intro K hK; refine LooseP.turn_call (f := 32) (args := fun a => #[a.eval (.tmp 33)]) (V := fun v => ∃ x y z, v = .agg #[.float .f32 x, .float .f32 y, .float .f32 z] ∧ Fl.Fr .f32 x d0 ∧ Fl.Fr .f32 y d1 ∧ Fl.Fr .f32 z d2) hst (Nat.le_refl _) rfl rfl (by intro a' w'; go_simp; first | done | rfl | exact ⟨rfl, rfl⟩) ⟨_, a1x, a1y, a1z, rfl, fd0, fd1, fd2⟩ ?_ ?_; (focus (intro a' w' _ hcl; go_simp; exact Th.vec_call _ _ _ _ _ _ _ fd0 fd1 fd2)); (intro v hv; obtain ⟨vx, vy, vz, rfl, fvx, fvy, fvz⟩ := hv; go_simp; refine hK _ ?_; clear hK K)) | (apply LooseL.walk_before (by decide) rfl; intro K hK; refine LooseP.turn_callP (f := 33) (args := fun a => #[a.eval (.tmp 32), a.eval (.tmp 34)]) (V := fun v => ∃ a cap, v = .tuple #[Th.tV a n3 cap s3, .bool A3]) (φ := Th.phiG w4.heap.size A3 s3 n3 f3) (d := 35) hst (Nat.le_refl _) rfl rfl hun0 (by intro a' w'; go_simp; first | done | rfl | exact ⟨rfl, rfl⟩) ⟨_, none, 0, rfl⟩ ?_ ?_; (focus (intro a' w' ha hcl; go_simp; exact Th.call_phi (HI.out _ _ _ (HX0.out.later hcl.1) _ _ _ fvx fvy fvz) hcl.1)); (intro v hv; obtain ⟨avq, capvq, rfl⟩ := hv; go_simp; refine hK _ ?_; clear hK K)) | (apply LooseL.walk_before (by decide) rfl; intro K hK; refine LooseP.turn_moveP (V := fun v => ∃ a cap, v = .tuple #[Th.tV a n3 cap s3, .bool A3]) (φ := Th.phiG w4.heap.size A3 s3 n3 f3) (d := 31) (d0 := 35) rfl rfl hun1 hm0 ⟨_, none, 0, rfl⟩ rfl (by simp [Act.eval, undef]) Th.phiG_val ?_; (intro v hv; obtain ⟨avm, capvm, rfl⟩ := hv; go_simp; refine hK _ ?_; clear hK K)) | (apply LooseL.walk_before (by decide) rfl; intro K hK; refine LooseP.turn_extractP (V := fun v => ∃ a cap, v = Th.tV a n3 cap s3) (φ := Th.phiO w4.heap.size s3 n3 f3) (φ0 := Th.phiG w4.heap.size A3 s3 n3 f3) (d := 36) (d0 := 31) (i := 0) rfl rfl hun2 hm1 ⟨_, none, 0, rfl⟩ rfl (xs := #[Th.tV avm n3 capvm s3, .bool A3]) rfl rfl Th.phiG_part ?_; (intro v hv; obtain ⟨avx, capvx, rfl⟩ := hv; go_simp; refine hK _ ?_; clear hK K)) | (apply LooseL.walk_before (by decide) rfl; intro K hK; refine LooseP.turn_allocP (φ := Th.phiB w4.heap.size) (d := 9) (ob := .cells #[.slice none 0 0, .float .f32 0] 25) hst (Nat.le_refl _) rfl rfl hun3 (by intro w'; go_simp; first | done | rfl | exact ⟨rfl, rfl⟩) (fun w' hw' => ⟨_, rfl, hw', Th.new_block _ _⟩) ?_; (intro Sg hSg; go_simp; refine hK _ ?_; clear hK K)) | (apply LooseL.walk_value (by decide) rfl rfl rfl; (focus (intro w' hw'; obtain ⟨hc, hf⟩ := Fl.bcell hw'; go_simp; first | done | rfl | exact ⟨rfl, rfl⟩)); intro K hK; go_simp; refine hK _ ?_; clear hK K) | (apply LooseL.walk_mark (hks := rfl) (hwant := rfl) (hdst := rfl); (focus (intro a' w' hl hc; exact Th.store_phi hm3 hm2 (hl.2 (.tmp 9) (by simp [Op.operands])) (hl.2 (.tmp 36) (by simp [Op.operands])) hc (by intro w' c0 c1 f0 f1; go_simp; first | done | rfl | exact ⟨rfl, rfl⟩)))))
    refine LooseL.walk_nil ?_
    intro w5 hcls5
    have hb5 := hcls5.1
    have hz5 := hb5.size
    obtain ⟨S1, as1, cs1, L5, hS1, hSB5, hL5, hq5, ho5⟩ := hcls5.at (List.mem_cons_self ..) (v := .pointer (some ⟨Sg, 0, none⟩)) rfl (by simp [undef])
    obtain rfl : Sg = S1 := by simpa using hS1
    clear hcls5 hst hun0 hun1 hun2 hun3 hm0 hm1 hm2 hm3 HW0 hS1 HX0
    have qg := hq5
    clear hq5
    obtain ⟨avg, havg⟩ : ∃ x, x = as1 := ⟨_, rfl⟩
    obtain ⟨cvg, hcvg⟩ : ∃ x, x = cs1 := ⟨_, rfl⟩
    rw [← havg, ← hcvg] at qg ho5
    clear havg hcvg
    have qa0 := Th.keep_block hb5 Qa0.out
    have qv1 := Th.keep_block hb5 Qv1.out
    have qs := Th.keep_block hb5 Qs.out
    have qx0 := Th.keep_block hb5 Qx0.out
    have yRs := RRs.out.later hb5
    have yX0 := RX0.out.later hb5
    have hbw : Below w.heap.size w w5 := HBW.out.trans (hb5.mono (by omega))
    clear Qa0 Qv1 Qs Qx0 la0 lv1 ls lx0 ea00 ea01 ev10 ev11 ev12 es0 es1 ex00 ex01 RRs RX0 HBW
    clear hb5
    have ho5w := ho5.wider (Nat.le_refl _) hL5
    have hslg : Sg < w5.heap.size := Th.block_lt qg
    have Qa0 := Lib.hid qa0
    have la0 := Th.block_lt qa0
    have ea00 := (Th.cells_of (i := 0) qa0).trans (show _ = some (.slice a0 len0 cap0) from rfl)
    have ea01 := (Th.cells_of (i := 1) qa0).trans (show _ = some (.float .f32 a0S) from rfl)
    have Qv1 := Lib.hid qv1
    have lv1 := Th.block_lt qv1
    have ev10 := (Th.cells_of (i := 0) qv1).trans (show _ = some (.float .f32 a1x) from rfl)
    have ev11 := (Th.cells_of (i := 1) qv1).trans (show _ = some (.float .f32 a1y) from rfl)
    have ev12 := (Th.cells_of (i := 2) qv1).trans (show _ = some (.float .f32 a1z) from rfl)
    have Qs := Lib.hid qs
    have ls := Th.block_lt qs
    have es0 := (Th.cells_of (i := 0) qs).trans (show _ = some (.slice avs n3 cvs) from rfl)
    have es1 := (Th.cells_of (i := 1) qs).trans (show _ = some (.float .f32 s3) from rfl)
    have Qx0 := Lib.hid qx0
    have lx0 := Th.block_lt qx0
    have ex00 := (Th.cells_of (i := 0) qx0).trans (show _ = some (.slice a3 len0 cap3) from rfl)
    have ex01 := (Th.cells_of (i := 1) qx0).trans (show _ = some (.float .f32 a0S) from rfl)
    have Qg := Lib.hid qg
    have lg := Th.block_lt qg
    have eg0 := (Th.cells_of (i := 0) qg).trans (show _ = some (.slice avg n3 cvg) from rfl)
    have eg1 := (Th.cells_of (i := 1) qg).trans (show _ = some (.float .f32 s3) from rfl)
    clear qa0 qv1 qs qx0 qg
    have RRs := Lib.hid yRs
    have RX0 := Lib.hid yX0
    clear yRs yX0
    have HBW := Lib.hid hbw
    clear hbw
    have RRg := Lib.hid ho5w
    clear ho5 ho5w
    obtain ⟨BG, LG, hBG1, hBG2, hBG3, hBG4, hnar⟩ := Th.isR_narrow RRg.out Qg.out (by decide) (by omega)
    clear RRg
    have RRg := Lib.hid hnar
    clear hnar
    go_wp2_with fail
    refine (Th.eq_thread avg avs _ cvg cvs _ _ _ f3 _ (RRg.out).v (RRs.out).v h3s h3s).mono ?_
    rintro e w6 ⟨rfl, hb6⟩
    have hz6 := hb6.size
    try simp only [World.size_alloc] at hz6
    have qa0 := Th.keep_block hb6 Qa0.out
    have qv1 := Th.keep_block hb6 Qv1.out
    have qs := Th.keep_block hb6 Qs.out
    have qx0 := Th.keep_block hb6 Qx0.out
    have qg := Th.keep_block hb6 Qg.out
    have yRs := (RRs.out).later hb6
    have yX0 := (RX0.out).later hb6
    have yRg := (RRg.out).later hb6
    have hbw : Below w.heap.size w w6 := Below.trans HBW.out (hb6.mono (by first | omega | (simp; omega) | simp))
    clear Qa0 Qv1 Qs Qx0 Qg la0 lv1 ls lx0 lg ea00 ea01 ev10 ev11 ev12 es0 es1 ex00 ex01 eg0 eg1 RRs RX0 RRg HBW
    clear hb6
    have Qa0 := Lib.hid qa0
    have la0 := Th.block_lt qa0
    have ea00 := (Th.cells_of (i := 0) qa0).trans (show _ = some (.slice a0 len0 cap0) from rfl)
    have ea01 := (Th.cells_of (i := 1) qa0).trans (show _ = some (.float .f32 a0S) from rfl)
    have Qv1 := Lib.hid qv1
    have lv1 := Th.block_lt qv1
    have ev10 := (Th.cells_of (i := 0) qv1).trans (show _ = some (.float .f32 a1x) from rfl)
    have ev11 := (Th.cells_of (i := 1) qv1).trans (show _ = some (.float .f32 a1y) from rfl)
    have ev12 := (Th.cells_of (i := 2) qv1).trans (show _ = some (.float .f32 a1z) from rfl)
    have Qs := Lib.hid qs
    have ls := Th.block_lt qs
    have es0 := (Th.cells_of (i := 0) qs).trans (show _ = some (.slice avs n3 cvs) from rfl)
    have es1 := (Th.cells_of (i := 1) qs).trans (show _ = some (.float .f32 s3) from rfl)
    have Qx0 := Lib.hid qx0
    have lx0 := Th.block_lt qx0
    have ex00 := (Th.cells_of (i := 0) qx0).trans (show _ = some (.slice a3 len0 cap3) from rfl)
    have ex01 := (Th.cells_of (i := 1) qx0).trans (show _ = some (.float .f32 a0S) from rfl)
    have Qg := Lib.hid qg
    have lg := Th.block_lt qg
    have eg0 := (Th.cells_of (i := 0) qg).trans (show _ = some (.slice avg n3 cvg) from rfl)
    have eg1 := (Th.cells_of (i := 1) qg).trans (show _ = some (.float .f32 s3) from rfl)
    clear qa0 qv1 qs qx0 qg
    have RRs := Lib.hid yRs
    have RX0 := Lib.hid yX0
    have RRg := Lib.hid yRg
    clear yRs yX0 yRg
    have HBW := Lib.hid hbw
    clear hbw
    have HX := Lib.hid RX0.out.v
    have HW := Lib.hid (HY0.out.later HBW.out)
    go_wp2_with fail
    refine LooseP.wp_region 4 [(49, Th.phi a0S len0 c0)] (by kernel_rfl) (by kernel_rfl) (by simp [undef]) ?_
    apply Exists.intro
    simp only [List.take_succ_cons, List.take_zero, List.drop_succ_cons, List.drop_zero]
    have hst : ∀ p ∈ [((49 : Nat), Th.phi a0S len0 c0)], LooseP.Stable p.2 := by intro p hp; rw [List.mem_singleton.1 hp]; exact Th.phi_stable _ _ _
    repeat (first | (apply Loose.walk_step; intro K hK; apply LooseP.turn_value (hwant := rfl) (hd := rfl); (focus (intro w' hw'; obtain ⟨hc, hf⟩ := Fl.bcell hw'; go_simp; first | done | rfl | exact ⟨rfl, rfl⟩)); go_simp; refine hK _ ?_; clear hK K) | (apply Loose.walk_step; intro K hK; refine LooseP.turn_callP (f := 27) (args := fun a => #[a.eval (.tmp 48)]) (V := fun v => ∃ a cap, v = Th.tV a len0 cap a0S) (φ := Th.phi a0S len0 c0) (d := 49) hst (Nat.le_refl _) rfl rfl (by intro p hp _; rw [List.mem_singleton.1 hp]) (by intro a' w'; go_simp; first | done | rfl | exact ⟨rfl, rfl⟩) ⟨_, none, 0, rfl⟩ ?_ ?_; (focus (intro a' w' _ hcl; go_simp; exact Th.to_phi HW.out hcl.1 hbig0)); (intro v hv; obtain ⟨av, capv, rfl⟩ := hv; go_simp; refine hK _ ?_; clear hK K)) | (apply Loose.walk_step; intro K hK; refine LooseP.turn_call (f := 17) (args := fun a => #[a.eval (.tmp 47), a.eval (.tmp 49)]) (V := fun v => v = .bool true) hst (Nat.le_refl _) rfl rfl (by intro a' w'; go_simp; first | done | rfl | exact ⟨rfl, rfl⟩) ⟨_, rfl⟩ ?_ ?_; (focus (intro a' w' ha hcl; go_simp; exact Th.eq_phi HX.out HF0.out HF0.out hcl (by simp) ha)); (intro v hv; obtain rfl := hv; go_simp; refine hK _ ?_; clear hK K)))
    refine Loose.walk_nil ?_
    intro w7 hcls7
    have hb7 := hcls7.1
    clear hcls7 hst
    clear HX HW
    have hz7 := hb7.size
    try simp only [World.size_alloc] at hz7
    have qa0 := Th.keep_block hb7 Qa0.out
    have qv1 := Th.keep_block hb7 Qv1.out
    have qs := Th.keep_block hb7 Qs.out
    have qx0 := Th.keep_block hb7 Qx0.out
    have qg := Th.keep_block hb7 Qg.out
    have yRs := (RRs.out).later hb7
    have yX0 := (RX0.out).later hb7
    have yRg := (RRg.out).later hb7
    have hbw : Below w.heap.size w w7 := Below.trans HBW.out (hb7.mono (by first | omega | (simp; omega) | simp))
    clear Qa0 Qv1 Qs Qx0 Qg la0 lv1 ls lx0 lg ea00 ea01 ev10 ev11 ev12 es0 es1 ex00 ex01 eg0 eg1 RRs RX0 RRg HBW
    clear hb7
    have Qa0 := Lib.hid qa0
    have la0 := Th.block_lt qa0
    have ea00 := (Th.cells_of (i := 0) qa0).trans (show _ = some (.slice a0 len0 cap0) from rfl)
    have ea01 := (Th.cells_of (i := 1) qa0).trans (show _ = some (.float .f32 a0S) from rfl)
    have Qv1 := Lib.hid qv1
    have lv1 := Th.block_lt qv1
    have ev10 := (Th.cells_of (i := 0) qv1).trans (show _ = some (.float .f32 a1x) from rfl)
    have ev11 := (Th.cells_of (i := 1) qv1).trans (show _ = some (.float .f32 a1y) from rfl)
    have ev12 := (Th.cells_of (i := 2) qv1).trans (show _ = some (.float .f32 a1z) from rfl)
    have Qs := Lib.hid qs
    have ls := Th.block_lt qs
    have es0 := (Th.cells_of (i := 0) qs).trans (show _ = some (.slice avs n3 cvs) from rfl)
    have es1 := (Th.cells_of (i := 1) qs).trans (show _ = some (.float .f32 s3) from rfl)
    have Qx0 := Lib.hid qx0
    have lx0 := Th.block_lt qx0
    have ex00 := (Th.cells_of (i := 0) qx0).trans (show _ = some (.slice a3 len0 cap3) from rfl)
    have ex01 := (Th.cells_of (i := 1) qx0).trans (show _ = some (.float .f32 a0S) from rfl)
    have Qg := Lib.hid qg
    have lg := Th.block_lt qg
    have eg0 := (Th.cells_of (i := 0) qg).trans (show _ = some (.slice avg n3 cvg) from rfl)
    have eg1 := (Th.cells_of (i := 1) qg).trans (show _ = some (.float .f32 s3) from rfl)
    clear qa0 qv1 qs qx0 qg
    have RRs := Lib.hid yRs
    have RX0 := Lib.hid yX0
    have RRg := Lib.hid yRg
    clear yRs yX0 yRg
    have HBW := Lib.hid hbw
    clear hbw
    go_wp2_with fail
    refine (Th.mark_thread (w2.heap.size) (w3.heap.size) a3 _ cap3 _ c0 1 (by omega) _ RX0.out hbig0 (by omega) (by omega)).mono ?_
    rintro e w8 ⟨rfl, hm8, hb8, hk8⟩
    rw [show (1 + (len0 : Int) * 3) = p0 from HP0.out.symm]
    have hz8 := hb8.size
    try simp only [World.size_alloc] at hz8
    have qa0 := (hk8 _ (by omega) la0).trans Qa0.out
    have qv1 := (hk8 _ (by omega) lv1).trans Qv1.out
    have qs := (hk8 _ (by omega) ls).trans Qs.out
    have qx0 := (hk8 _ (by omega) lx0).trans Qx0.out
    have qg := (hk8 _ (by omega) lg).trans Qg.out
    have yRs := RRs.out.keep (fun g hg hgl hgs => hk8 g (by omega) hgs)
    have yRg := RRg.out.keep (fun g hg hgl hgs => hk8 g (by omega) hgs)
    have hbw : Below w.heap.size w w8 := HBW.out.trans (hb8.mono (by omega))
    clear Qa0 Qv1 Qs Qx0 Qg la0 lv1 ls lx0 lg ea00 ea01 ev10 ev11 ev12 es0 es1 ex00 ex01 eg0 eg1 RRs RX0 RRg HBW
    clear hb8 hk8
    have mX0 := hm8
    clear hm8
    have Qa0 := Lib.hid qa0
    have la0 := Th.block_lt qa0
    have ea00 := (Th.cells_of (i := 0) qa0).trans (show _ = some (.slice a0 len0 cap0) from rfl)
    have ea01 := (Th.cells_of (i := 1) qa0).trans (show _ = some (.float .f32 a0S) from rfl)
    have Qv1 := Lib.hid qv1
    have lv1 := Th.block_lt qv1
    have ev10 := (Th.cells_of (i := 0) qv1).trans (show _ = some (.float .f32 a1x) from rfl)
    have ev11 := (Th.cells_of (i := 1) qv1).trans (show _ = some (.float .f32 a1y) from rfl)
    have ev12 := (Th.cells_of (i := 2) qv1).trans (show _ = some (.float .f32 a1z) from rfl)
    have Qs := Lib.hid qs
    have ls := Th.block_lt qs
    have es0 := (Th.cells_of (i := 0) qs).trans (show _ = some (.slice avs n3 cvs) from rfl)
    have es1 := (Th.cells_of (i := 1) qs).trans (show _ = some (.float .f32 s3) from rfl)
    have Qx0 := Lib.hid qx0
    have lx0 := Th.block_lt qx0
    have ex00 := (Th.cells_of (i := 0) qx0).trans (show _ = some (.slice a3 len0 cap3) from rfl)
    have ex01 := (Th.cells_of (i := 1) qx0).trans (show _ = some (.float .f32 a0S) from rfl)
    have Qg := Lib.hid qg
    have lg := Th.block_lt qg
    have eg0 := (Th.cells_of (i := 0) qg).trans (show _ = some (.slice avg n3 cvg) from rfl)
    have eg1 := (Th.cells_of (i := 1) qg).trans (show _ = some (.float .f32 s3) from rfl)
    clear qa0 qv1 qs qx0 qg
    have RRs := Lib.hid yRs
    have RRg := Lib.hid yRg
    have MX0 := Lib.hid mX0
    clear yRs yRg mX0
    have HBW := Lib.hid hbw
    clear hbw
    go_wp2_with fail
    refine (Th.eq_thread avg avs _ cvg cvs _ _ _ f3 _ (RRg.out).v (RRs.out).v h3s h3s).mono ?_
    rintro e w9 ⟨rfl, hb9⟩
    have hz9 := hb9.size
    try simp only [World.size_alloc] at hz9
    have qa0 := Th.keep_block hb9 Qa0.out
    have qv1 := Th.keep_block hb9 Qv1.out
    have qs := Th.keep_block hb9 Qs.out
    have qx0 := Th.keep_block hb9 Qx0.out
    have qg := Th.keep_block hb9 Qg.out
    have yRs := (RRs.out).later hb9
    have yRg := (RRg.out).later hb9
    have mX0 := (MX0.out).on hb9
    have hbw : Below w.heap.size w w9 := Below.trans HBW.out (hb9.mono (by first | omega | (simp; omega) | simp))
    clear Qa0 Qv1 Qs Qx0 Qg la0 lv1 ls lx0 lg ea00 ea01 ev10 ev11 ev12 es0 es1 ex00 ex01 eg0 eg1 RRs RRg MX0 HBW
    clear hb9
    have Qa0 := Lib.hid qa0
    have la0 := Th.block_lt qa0
    have ea00 := (Th.cells_of (i := 0) qa0).trans (show _ = some (.slice a0 len0 cap0) from rfl)
    have ea01 := (Th.cells_of (i := 1) qa0).trans (show _ = some (.float .f32 a0S) from rfl)
    have Qv1 := Lib.hid qv1
    have lv1 := Th.block_lt qv1
    have ev10 := (Th.cells_of (i := 0) qv1).trans (show _ = some (.float .f32 a1x) from rfl)
    have ev11 := (Th.cells_of (i := 1) qv1).trans (show _ = some (.float .f32 a1y) from rfl)
    have ev12 := (Th.cells_of (i := 2) qv1).trans (show _ = some (.float .f32 a1z) from rfl)
    have Qs := Lib.hid qs
    have ls := Th.block_lt qs
    have es0 := (Th.cells_of (i := 0) qs).trans (show _ = some (.slice avs n3 cvs) from rfl)
    have es1 := (Th.cells_of (i := 1) qs).trans (show _ = some (.float .f32 s3) from rfl)
    have Qx0 := Lib.hid qx0
    have lx0 := Th.block_lt qx0
    have ex00 := (Th.cells_of (i := 0) qx0).trans (show _ = some (.slice a3 len0 cap3) from rfl)
    have ex01 := (Th.cells_of (i := 1) qx0).trans (show _ = some (.float .f32 a0S) from rfl)
    have Qg := Lib.hid qg
    have lg := Th.block_lt qg
    have eg0 := (Th.cells_of (i := 0) qg).trans (show _ = some (.slice avg n3 cvg) from rfl)
    have eg1 := (Th.cells_of (i := 1) qg).trans (show _ = some (.float .f32 s3) from rfl)
    clear qa0 qv1 qs qx0 qg
    have RRs := Lib.hid yRs
    have RRg := Lib.hid yRg
    have MX0 := Lib.hid mX0
    clear yRs yRg mX0
    have HBW := Lib.hid hbw
    clear hbw
    go_wp2_with fail
    refine (Th.mark_thread BG LG avg _ cvg _ f3 1 (by omega) _ RRg.out (by omega) (by omega) (by omega)).mono ?_
    rintro e w10 ⟨rfl, hm10, hb10, hk10⟩
    rw [show (1 + (n3 : Int) * 3) = q from HQ.out.symm]
    have hz10 := hb10.size
    try simp only [World.size_alloc] at hz10
    have qa0 := (hk10 _ (by omega) la0).trans Qa0.out
    have qv1 := (hk10 _ (by omega) lv1).trans Qv1.out
    have qs := (hk10 _ (by omega) ls).trans Qs.out
    have qx0 := (hk10 _ (by omega) lx0).trans Qx0.out
    have qg := (hk10 _ (by omega) lg).trans Qg.out
    have yRs := RRs.out.keep (fun g hg hgl hgs => hk10 g (by omega) hgs)
    have mX0 := MX0.out.keep (fun g hg hgl hgs => hk10 g (by omega) hgs)
    have hbw : Below w.heap.size w w10 := HBW.out.trans (hb10.mono (by omega))
    clear Qa0 Qv1 Qs Qx0 Qg la0 lv1 ls lx0 lg ea00 ea01 ev10 ev11 ev12 es0 es1 ex00 ex01 eg0 eg1 RRs RRg MX0 HBW
    clear hb10 hk10
    have mRg := hm10
    clear hm10
    have Qa0 := Lib.hid qa0
    have la0 := Th.block_lt qa0
    have ea00 := (Th.cells_of (i := 0) qa0).trans (show _ = some (.slice a0 len0 cap0) from rfl)
    have ea01 := (Th.cells_of (i := 1) qa0).trans (show _ = some (.float .f32 a0S) from rfl)
    have Qv1 := Lib.hid qv1
    have lv1 := Th.block_lt qv1
    have ev10 := (Th.cells_of (i := 0) qv1).trans (show _ = some (.float .f32 a1x) from rfl)
    have ev11 := (Th.cells_of (i := 1) qv1).trans (show _ = some (.float .f32 a1y) from rfl)
    have ev12 := (Th.cells_of (i := 2) qv1).trans (show _ = some (.float .f32 a1z) from rfl)
    have Qs := Lib.hid qs
    have ls := Th.block_lt qs
    have es0 := (Th.cells_of (i := 0) qs).trans (show _ = some (.slice avs n3 cvs) from rfl)
    have es1 := (Th.cells_of (i := 1) qs).trans (show _ = some (.float .f32 s3) from rfl)
    have Qx0 := Lib.hid qx0
    have lx0 := Th.block_lt qx0
    have ex00 := (Th.cells_of (i := 0) qx0).trans (show _ = some (.slice a3 len0 cap3) from rfl)
    have ex01 := (Th.cells_of (i := 1) qx0).trans (show _ = some (.float .f32 a0S) from rfl)
    have Qg := Lib.hid qg
    have lg := Th.block_lt qg
    have eg0 := (Th.cells_of (i := 0) qg).trans (show _ = some (.slice avg n3 cvg) from rfl)
    have eg1 := (Th.cells_of (i := 1) qg).trans (show _ = some (.float .f32 s3) from rfl)
    clear qa0 qv1 qs qx0 qg
    have RRs := Lib.hid yRs
    have MX0 := Lib.hid mX0
    have MRg := Lib.hid mRg
    clear yRs mX0 mRg
    have HBW := Lib.hid hbw
    clear hbw
    go_wp2_with fail
    refine (Th.held_thread _ _ avg _ cvg _ 1 (by omega) _ MRg.out).mono ?_
    rintro e w11 ⟨rfl, hb11⟩
    rw [show (1 + (n3 : Int) * 3) = q from HQ.out.symm]
    have hz11 := hb11.size
    try simp only [World.size_alloc] at hz11
    have qa0 := Th.keep_block hb11 Qa0.out
    have qv1 := Th.keep_block hb11 Qv1.out
    have qs := Th.keep_block hb11 Qs.out
    have qx0 := Th.keep_block hb11 Qx0.out
    have qg := Th.keep_block hb11 Qg.out
    have yRs := (RRs.out).later hb11
    have mX0 := (MX0.out).on hb11
    have mRg := (MRg.out).on hb11
    have hbw : Below w.heap.size w w11 := Below.trans HBW.out (hb11.mono (by first | omega | (simp; omega) | simp))
    clear Qa0 Qv1 Qs Qx0 Qg la0 lv1 ls lx0 lg ea00 ea01 ev10 ev11 ev12 es0 es1 ex00 ex01 eg0 eg1 RRs MX0 MRg HBW
    clear hb11
    have Qa0 := Lib.hid qa0
    have la0 := Th.block_lt qa0
    have ea00 := (Th.cells_of (i := 0) qa0).trans (show _ = some (.slice a0 len0 cap0) from rfl)
    have ea01 := (Th.cells_of (i := 1) qa0).trans (show _ = some (.float .f32 a0S) from rfl)
    have Qv1 := Lib.hid qv1
    have lv1 := Th.block_lt qv1
    have ev10 := (Th.cells_of (i := 0) qv1).trans (show _ = some (.float .f32 a1x) from rfl)
    have ev11 := (Th.cells_of (i := 1) qv1).trans (show _ = some (.float .f32 a1y) from rfl)
    have ev12 := (Th.cells_of (i := 2) qv1).trans (show _ = some (.float .f32 a1z) from rfl)
    have Qs := Lib.hid qs
    have ls := Th.block_lt qs
    have es0 := (Th.cells_of (i := 0) qs).trans (show _ = some (.slice avs n3 cvs) from rfl)
    have es1 := (Th.cells_of (i := 1) qs).trans (show _ = some (.float .f32 s3) from rfl)
    have Qx0 := Lib.hid qx0
    have lx0 := Th.block_lt qx0
    have ex00 := (Th.cells_of (i := 0) qx0).trans (show _ = some (.slice a3 len0 cap3) from rfl)
    have ex01 := (Th.cells_of (i := 1) qx0).trans (show _ = some (.float .f32 a0S) from rfl)
    have Qg := Lib.hid qg
    have lg := Th.block_lt qg
    have eg0 := (Th.cells_of (i := 0) qg).trans (show _ = some (.slice avg n3 cvg) from rfl)
    have eg1 := (Th.cells_of (i := 1) qg).trans (show _ = some (.float .f32 s3) from rfl)
    clear qa0 qv1 qs qx0 qg
    have RRs := Lib.hid yRs
    have MX0 := Lib.hid mX0
    have MRg := Lib.hid mRg
    clear yRs mX0 mRg
    have HBW := Lib.hid hbw
    clear hbw
    have HW0 := Lib.hid (HY0.out.later HBW.out)
    go_wp2_with fail
    have hst : ∀ p ∈ [((81 : Nat), Th.phi a0S len0 c0), ((84 : Nat), Th.phiG w11.heap.size A3 s3 n3 f3), ((79 : Nat), Th.phiG w11.heap.size A3 s3 n3 f3), ((85 : Nat), Th.phiO w11.heap.size s3 n3 f3), ((14 : Nat), Th.phiB w11.heap.size)], LooseP.Stable p.2 := Th.five_stable (Th.phi_stable _ _ _) (Th.phiG_stable _ _ _ _ _) (Th.phiG_stable _ _ _ _ _) (Th.phiO_stable _ _ _ _) (Th.phiB_stable _)
    have hm0 : (81, Th.phi a0S len0 c0) ∈ [((81 : Nat), Th.phi a0S len0 c0), ((84 : Nat), Th.phiG w11.heap.size A3 s3 n3 f3), ((79 : Nat), Th.phiG w11.heap.size A3 s3 n3 f3), ((85 : Nat), Th.phiO w11.heap.size s3 n3 f3), ((14 : Nat), Th.phiB w11.heap.size)] := (List.mem_cons_self ..)
    have hun0 : ∀ p ∈ [((81 : Nat), Th.phi a0S len0 c0), ((84 : Nat), Th.phiG w11.heap.size A3 s3 n3 f3), ((79 : Nat), Th.phiG w11.heap.size A3 s3 n3 f3), ((85 : Nat), Th.phiO w11.heap.size s3 n3 f3), ((14 : Nat), Th.phiB w11.heap.size)], p.1 = 81 → p.2 = Th.phi a0S len0 c0 := Th.uni_of hm0 (by simp)
    have hm1 : (84, Th.phiG w11.heap.size A3 s3 n3 f3) ∈ [((81 : Nat), Th.phi a0S len0 c0), ((84 : Nat), Th.phiG w11.heap.size A3 s3 n3 f3), ((79 : Nat), Th.phiG w11.heap.size A3 s3 n3 f3), ((85 : Nat), Th.phiO w11.heap.size s3 n3 f3), ((14 : Nat), Th.phiB w11.heap.size)] := List.mem_cons_of_mem _ ((List.mem_cons_self ..))
    have hun1 : ∀ p ∈ [((81 : Nat), Th.phi a0S len0 c0), ((84 : Nat), Th.phiG w11.heap.size A3 s3 n3 f3), ((79 : Nat), Th.phiG w11.heap.size A3 s3 n3 f3), ((85 : Nat), Th.phiO w11.heap.size s3 n3 f3), ((14 : Nat), Th.phiB w11.heap.size)], p.1 = 84 → p.2 = Th.phiG w11.heap.size A3 s3 n3 f3 := Th.uni_of hm1 (by simp)
    have hm2 : (79, Th.phiG w11.heap.size A3 s3 n3 f3) ∈ [((81 : Nat), Th.phi a0S len0 c0), ((84 : Nat), Th.phiG w11.heap.size A3 s3 n3 f3), ((79 : Nat), Th.phiG w11.heap.size A3 s3 n3 f3), ((85 : Nat), Th.phiO w11.heap.size s3 n3 f3), ((14 : Nat), Th.phiB w11.heap.size)] := List.mem_cons_of_mem _ (List.mem_cons_of_mem _ ((List.mem_cons_self ..)))
    have hun2 : ∀ p ∈ [((81 : Nat), Th.phi a0S len0 c0), ((84 : Nat), Th.phiG w11.heap.size A3 s3 n3 f3), ((79 : Nat), Th.phiG w11.heap.size A3 s3 n3 f3), ((85 : Nat), Th.phiO w11.heap.size s3 n3 f3), ((14 : Nat), Th.phiB w11.heap.size)], p.1 = 79 → p.2 = Th.phiG w11.heap.size A3 s3 n3 f3 := Th.uni_of hm2 (by simp)
    have hm3 : (85, Th.phiO w11.heap.size s3 n3 f3) ∈ [((81 : Nat), Th.phi a0S len0 c0), ((84 : Nat), Th.phiG w11.heap.size A3 s3 n3 f3), ((79 : Nat), Th.phiG w11.heap.size A3 s3 n3 f3), ((85 : Nat), Th.phiO w11.heap.size s3 n3 f3), ((14 : Nat), Th.phiB w11.heap.size)] := List.mem_cons_of_mem _ (List.mem_cons_of_mem _ (List.mem_cons_of_mem _ ((List.mem_cons_self ..))))
    have hun3 : ∀ p ∈ [((81 : Nat), Th.phi a0S len0 c0), ((84 : Nat), Th.phiG w11.heap.size A3 s3 n3 f3), ((79 : Nat), Th.phiG w11.heap.size A3 s3 n3 f3), ((85 : Nat), Th.phiO w11.heap.size s3 n3 f3), ((14 : Nat), Th.phiB w11.heap.size)], p.1 = 85 → p.2 = Th.phiO w11.heap.size s3 n3 f3 := Th.uni_of hm3 (by simp)
    have hm4 : (14, Th.phiB w11.heap.size) ∈ [((81 : Nat), Th.phi a0S len0 c0), ((84 : Nat), Th.phiG w11.heap.size A3 s3 n3 f3), ((79 : Nat), Th.phiG w11.heap.size A3 s3 n3 f3), ((85 : Nat), Th.phiO w11.heap.size s3 n3 f3), ((14 : Nat), Th.phiB w11.heap.size)] := List.mem_cons_of_mem _ (List.mem_cons_of_mem _ (List.mem_cons_of_mem _ (List.mem_cons_of_mem _ ((List.mem_cons_self ..)))))
    have hun4 : ∀ p ∈ [((81 : Nat), Th.phi a0S len0 c0), ((84 : Nat), Th.phiG w11.heap.size A3 s3 n3 f3), ((79 : Nat), Th.phiG w11.heap.size A3 s3 n3 f3), ((85 : Nat), Th.phiO w11.heap.size s3 n3 f3), ((14 : Nat), Th.phiB w11.heap.size)], p.1 = 14 → p.2 = Th.phiB w11.heap.size := Th.uni_of hm4 (by simp)
    refine LooseL.wp_region 10 9 (fun i => decide (i < 7) || decide (i = 8)) [((81 : Nat), Th.phi a0S len0 c0), ((84 : Nat), Th.phiG w11.heap.size A3 s3 n3 f3), ((79 : Nat), Th.phiG w11.heap.size A3 s3 n3 f3), ((85 : Nat), Th.phiO w11.heap.size s3 n3 f3), ((14 : Nat), Th.phiB w11.heap.size)] [((14 : Nat), Th.phiS w11.heap.size s3 n3 f3)] (by decide) (fun i hi => by simp; omega) (by kernel_rfl) (by kernel_rfl) (by kernel_rfl) (by simp [undef]) ?_
    apply Exists.intro
    simp only [List.take_succ_cons, List.take_zero, List.drop_succ_cons, List.drop_zero]
    repeat (first | (apply LooseL.walk_before (by decide) rfl; intro K hK; apply LooseP.turn_value (hwant := rfl) (hd := rfl); (focus (intro w' hw'; obtain ⟨hc, hf⟩ := Fl.bcell hw'; go_simp; first | done | rfl | exact ⟨rfl, rfl⟩)); go_simp; refine hK _ ?_; clear hK K) | (apply LooseL.walk_before (by decide) rfl; intro K hK; refine LooseP.turn_callP (f := 27) (args := fun a => #[a.eval (.tmp 80)]) (V := fun v => ∃ a cap, v = Th.tV a len0 cap a0S) (φ := Th.phi a0S len0 c0) (d := 81) hst (Nat.le_refl _) rfl rfl hun0 (by intro a' w'; go_simp; first | done | rfl | exact ⟨rfl, rfl⟩) ⟨_, none, 0, rfl⟩ ?_ ?_; (focus (intro a' w' _ hcl; go_simp; exact Th.to_phi HW0.out hcl.1 hbig0)); (intro v hv; obtain ⟨av0, capv0, rfl⟩ := hv; go_simp; refine hK _ ?_; clear hK K)) | (apply LooseL.walk_before (by decide) rfl; intro K hK; refine LooseP.turn_call (f := 32) (args := fun a => #[a.eval (.tmp 82)]) (V := fun v => ∃ x y z, v = .agg #[.float .f32 x, .float .f32 y, .float .f32 z] ∧ Fl.Fr .f32 x d0 ∧ Fl.Fr .f32 y d1 ∧ Fl.Fr .f32 z d2) hst (Nat.le_refl _) rfl rfl (by intro a' w'; go_simp; first | done | rfl | exact ⟨rfl, rfl⟩) ⟨_, a1x, a1y, a1z, rfl, fd0, fd1, fd2⟩ ?_ ?_; (focus (intro a' w' _ hcl; go_simp; exact Th.vec_call _ _ _ _ _ _ _ fd0 fd1 fd2)); (intro v hv; obtain ⟨vx, vy, vz, rfl, fvx, fvy, fvz⟩ := hv; go_simp; refine hK _ ?_; clear hK K)) | (apply LooseL.walk_before (by decide) rfl; intro K hK; refine LooseP.turn_callP (f := 33) (args := fun a => #[a.eval (.tmp 81), a.eval (.tmp 83)]) (V := fun v => ∃ a cap, v = .tuple #[Th.tV a n3 cap s3, .bool A3]) (φ := Th.phiG w11.heap.size A3 s3 n3 f3) (d := 84) hst (Nat.le_refl _) rfl rfl hun1 (by intro a' w'; go_simp; first | done | rfl | exact ⟨rfl, rfl⟩) ⟨_, none, 0, rfl⟩ ?_ ?_; (focus (intro a' w' ha hcl; go_simp; have h1 := Th.one_phi hcl hm0 ha; exact Th.call_phi (HI.out _ _ _ h1 _ _ _ fvx fvy fvz) hcl.1)); (intro v hv; obtain ⟨avq, capvq, rfl⟩ := hv; go_simp; refine hK _ ?_; clear hK K)) | (apply LooseL.walk_before (by decide) rfl; intro K hK; refine LooseP.turn_moveP (V := fun v => ∃ a cap, v = .tuple #[Th.tV a n3 cap s3, .bool A3]) (φ := Th.phiG w11.heap.size A3 s3 n3 f3) (d := 79) (d0 := 84) rfl rfl hun2 hm1 ⟨_, none, 0, rfl⟩ rfl (by simp [Act.eval, undef]) Th.phiG_val ?_; (intro v hv; obtain ⟨avm, capvm, rfl⟩ := hv; go_simp; refine hK _ ?_; clear hK K)) | (apply LooseL.walk_before (by decide) rfl; intro K hK; refine LooseP.turn_extractP (V := fun v => ∃ a cap, v = Th.tV a n3 cap s3) (φ := Th.phiO w11.heap.size s3 n3 f3) (φ0 := Th.phiG w11.heap.size A3 s3 n3 f3) (d := 85) (d0 := 79) (i := 0) rfl rfl hun3 hm2 ⟨_, none, 0, rfl⟩ rfl (xs := #[Th.tV avm n3 capvm s3, .bool A3]) rfl rfl Th.phiG_part ?_; (intro v hv; obtain ⟨avx, capvx, rfl⟩ := hv; go_simp; refine hK _ ?_; clear hK K)) | (apply LooseL.walk_before (by decide) rfl; intro K hK; refine LooseP.turn_allocP (φ := Th.phiB w11.heap.size) (d := 14) (ob := .cells #[.slice none 0 0, .float .f32 0] 25) hst (Nat.le_refl _) rfl rfl hun4 (by intro w'; go_simp; first | done | rfl | exact ⟨rfl, rfl⟩) (fun w' hw' => ⟨_, rfl, hw', Th.new_block _ _⟩) ?_; (intro Sh hSh; go_simp; refine hK _ ?_; clear hK K)) | (apply LooseL.walk_value (by decide) rfl rfl rfl; (focus (intro w' hw'; obtain ⟨hc, hf⟩ := Fl.bcell hw'; go_simp; first | done | rfl | exact ⟨rfl, rfl⟩)); intro K hK; go_simp; refine hK _ ?_; clear hK K) | (apply LooseL.walk_mark (hks := rfl) (hwant := rfl) (hdst := rfl); (focus (intro a' w' hl hc; exact Th.store_phi hm4 hm3 (hl.2 (.tmp 14) (by simp [Op.operands])) (hl.2 (.tmp 85) (by simp [Op.operands])) hc (by intro w' c0 c1 f0 f1; go_simp; first | done | rfl | exact ⟨rfl, rfl⟩)))))
    refine LooseL.walk_nil ?_
    intro w12 hcls12
    have hb12 := hcls12.1
    have hz12 := hb12.size
    obtain ⟨S1, as1, cs1, L12, hS1, hSB12, hL12, hq12, ho12⟩ := hcls12.at (List.mem_cons_self ..) (v := .pointer (some ⟨Sh, 0, none⟩)) rfl (by simp [undef])
    obtain rfl : Sh = S1 := by simpa using hS1
    clear hcls12 hst hun0 hun1 hun2 hun3 hun4 hm0 hm1 hm2 hm3 hm4 HW0 hS1
    have qh := hq12
    clear hq12
    obtain ⟨avh, havh⟩ : ∃ x, x = as1 := ⟨_, rfl⟩
    obtain ⟨cvh, hcvh⟩ : ∃ x, x = cs1 := ⟨_, rfl⟩
    rw [← havh, ← hcvh] at qh ho12
    clear havh hcvh
    have qa0 := Th.keep_block hb12 Qa0.out
    have qv1 := Th.keep_block hb12 Qv1.out
    have qs := Th.keep_block hb12 Qs.out
    have qx0 := Th.keep_block hb12 Qx0.out
    have qg := Th.keep_block hb12 Qg.out
    have yRs := RRs.out.later hb12
    have mX0 := MX0.out.on hb12
    have mRg := MRg.out.on hb12
    have hbw : Below w.heap.size w w12 := HBW.out.trans (hb12.mono (by omega))
    clear Qa0 Qv1 Qs Qx0 Qg la0 lv1 ls lx0 lg ea00 ea01 ev10 ev11 ev12 es0 es1 ex00 ex01 eg0 eg1 RRs MX0 MRg HBW
    clear hb12
    have ho12w := ho12.wider (Nat.le_refl _) hL12
    have hslh : Sh < w12.heap.size := Th.block_lt qh
    have Qa0 := Lib.hid qa0
    have la0 := Th.block_lt qa0
    have ea00 := (Th.cells_of (i := 0) qa0).trans (show _ = some (.slice a0 len0 cap0) from rfl)
    have ea01 := (Th.cells_of (i := 1) qa0).trans (show _ = some (.float .f32 a0S) from rfl)
    have Qv1 := Lib.hid qv1
    have lv1 := Th.block_lt qv1
    have ev10 := (Th.cells_of (i := 0) qv1).trans (show _ = some (.float .f32 a1x) from rfl)
    have ev11 := (Th.cells_of (i := 1) qv1).trans (show _ = some (.float .f32 a1y) from rfl)
    have ev12 := (Th.cells_of (i := 2) qv1).trans (show _ = some (.float .f32 a1z) from rfl)
    have Qs := Lib.hid qs
    have ls := Th.block_lt qs
    have es0 := (Th.cells_of (i := 0) qs).trans (show _ = some (.slice avs n3 cvs) from rfl)
    have es1 := (Th.cells_of (i := 1) qs).trans (show _ = some (.float .f32 s3) from rfl)
    have Qx0 := Lib.hid qx0
    have lx0 := Th.block_lt qx0
    have ex00 := (Th.cells_of (i := 0) qx0).trans (show _ = some (.slice a3 len0 cap3) from rfl)
    have ex01 := (Th.cells_of (i := 1) qx0).trans (show _ = some (.float .f32 a0S) from rfl)
    have Qg := Lib.hid qg
    have lg := Th.block_lt qg
    have eg0 := (Th.cells_of (i := 0) qg).trans (show _ = some (.slice avg n3 cvg) from rfl)
    have eg1 := (Th.cells_of (i := 1) qg).trans (show _ = some (.float .f32 s3) from rfl)
    have Qh := Lib.hid qh
    have lh := Th.block_lt qh
    have eh0 := (Th.cells_of (i := 0) qh).trans (show _ = some (.slice avh n3 cvh) from rfl)
    have eh1 := (Th.cells_of (i := 1) qh).trans (show _ = some (.float .f32 s3) from rfl)
    clear qa0 qv1 qs qx0 qg qh
    have RRs := Lib.hid yRs
    have MX0 := Lib.hid mX0
    have MRg := Lib.hid mRg
    clear yRs mX0 mRg
    have HBW := Lib.hid hbw
    clear hbw
    have RRh := Lib.hid ho12w
    clear ho12 ho12w
    go_wp2_with fail
    refine (Th.eq_thread avh avs _ cvh cvs _ _ _ f3 _ (RRh.out).v (RRs.out).v h3s h3s).mono ?_
    rintro e w13 ⟨rfl, hb13⟩
    have hz13 := hb13.size
    try simp only [World.size_alloc] at hz13
    have qa0 := Th.keep_block hb13 Qa0.out
    have qv1 := Th.keep_block hb13 Qv1.out
    have qs := Th.keep_block hb13 Qs.out
    have qx0 := Th.keep_block hb13 Qx0.out
    have qg := Th.keep_block hb13 Qg.out
    have qh := Th.keep_block hb13 Qh.out
    have yRs := (RRs.out).later hb13
    have yRh := (RRh.out).later hb13
    have mX0 := (MX0.out).on hb13
    have mRg := (MRg.out).on hb13
    have hbw : Below w.heap.size w w13 := Below.trans HBW.out (hb13.mono (by first | omega | (simp; omega) | simp))
    clear Qa0 Qv1 Qs Qx0 Qg Qh la0 lv1 ls lx0 lg lh ea00 ea01 ev10 ev11 ev12 es0 es1 ex00 ex01 eg0 eg1 eh0 eh1 RRs RRh MX0 MRg HBW
    clear hb13
    have Qa0 := Lib.hid qa0
    have la0 := Th.block_lt qa0
    have ea00 := (Th.cells_of (i := 0) qa0).trans (show _ = some (.slice a0 len0 cap0) from rfl)
    have ea01 := (Th.cells_of (i := 1) qa0).trans (show _ = some (.float .f32 a0S) from rfl)
    have Qv1 := Lib.hid qv1
    have lv1 := Th.block_lt qv1
    have ev10 := (Th.cells_of (i := 0) qv1).trans (show _ = some (.float .f32 a1x) from rfl)
    have ev11 := (Th.cells_of (i := 1) qv1).trans (show _ = some (.float .f32 a1y) from rfl)
    have ev12 := (Th.cells_of (i := 2) qv1).trans (show _ = some (.float .f32 a1z) from rfl)
    have Qs := Lib.hid qs
    have ls := Th.block_lt qs
    have es0 := (Th.cells_of (i := 0) qs).trans (show _ = some (.slice avs n3 cvs) from rfl)
    have es1 := (Th.cells_of (i := 1) qs).trans (show _ = some (.float .f32 s3) from rfl)
    have Qx0 := Lib.hid qx0
    have lx0 := Th.block_lt qx0
    have ex00 := (Th.cells_of (i := 0) qx0).trans (show _ = some (.slice a3 len0 cap3) from rfl)
    have ex01 := (Th.cells_of (i := 1) qx0).trans (show _ = some (.float .f32 a0S) from rfl)
    have Qg := Lib.hid qg
    have lg := Th.block_lt qg
    have eg0 := (Th.cells_of (i := 0) qg).trans (show _ = some (.slice avg n3 cvg) from rfl)
    have eg1 := (Th.cells_of (i := 1) qg).trans (show _ = some (.float .f32 s3) from rfl)
    have Qh := Lib.hid qh
    have lh := Th.block_lt qh
    have eh0 := (Th.cells_of (i := 0) qh).trans (show _ = some (.slice avh n3 cvh) from rfl)
    have eh1 := (Th.cells_of (i := 1) qh).trans (show _ = some (.float .f32 s3) from rfl)
    clear qa0 qv1 qs qx0 qg qh
    have RRs := Lib.hid yRs
    have RRh := Lib.hid yRh
    have MX0 := Lib.hid mX0
    have MRg := Lib.hid mRg
    clear yRs yRh mX0 mRg
    have HBW := Lib.hid hbw
    clear hbw
    go_wp2_with fail
    refine (Th.held_thread _ _ avg _ cvg _ 1 (by omega) _ MRg.out).mono ?_
    rintro e w14 ⟨rfl, hb14⟩
    rw [show (1 + (n3 : Int) * 3) = q from HQ.out.symm]
    have hz14 := hb14.size
    try simp only [World.size_alloc] at hz14
    have qa0 := Th.keep_block hb14 Qa0.out
    have qv1 := Th.keep_block hb14 Qv1.out
    have qs := Th.keep_block hb14 Qs.out
    have qx0 := Th.keep_block hb14 Qx0.out
    have qg := Th.keep_block hb14 Qg.out
    have qh := Th.keep_block hb14 Qh.out
    have yRs := (RRs.out).later hb14
    have yRh := (RRh.out).later hb14
    have mX0 := (MX0.out).on hb14
    have mRg := (MRg.out).on hb14
    have hbw : Below w.heap.size w w14 := Below.trans HBW.out (hb14.mono (by first | omega | (simp; omega) | simp))
    clear Qa0 Qv1 Qs Qx0 Qg Qh la0 lv1 ls lx0 lg lh ea00 ea01 ev10 ev11 ev12 es0 es1 ex00 ex01 eg0 eg1 eh0 eh1 RRs RRh MX0 MRg HBW
    clear hb14
    have Qa0 := Lib.hid qa0
    have la0 := Th.block_lt qa0
    have ea00 := (Th.cells_of (i := 0) qa0).trans (show _ = some (.slice a0 len0 cap0) from rfl)
    have ea01 := (Th.cells_of (i := 1) qa0).trans (show _ = some (.float .f32 a0S) from rfl)
    have Qv1 := Lib.hid qv1
    have lv1 := Th.block_lt qv1
    have ev10 := (Th.cells_of (i := 0) qv1).trans (show _ = some (.float .f32 a1x) from rfl)
    have ev11 := (Th.cells_of (i := 1) qv1).trans (show _ = some (.float .f32 a1y) from rfl)
    have ev12 := (Th.cells_of (i := 2) qv1).trans (show _ = some (.float .f32 a1z) from rfl)
    have Qs := Lib.hid qs
    have ls := Th.block_lt qs
    have es0 := (Th.cells_of (i := 0) qs).trans (show _ = some (.slice avs n3 cvs) from rfl)
    have es1 := (Th.cells_of (i := 1) qs).trans (show _ = some (.float .f32 s3) from rfl)
    have Qx0 := Lib.hid qx0
    have lx0 := Th.block_lt qx0
    have ex00 := (Th.cells_of (i := 0) qx0).trans (show _ = some (.slice a3 len0 cap3) from rfl)
    have ex01 := (Th.cells_of (i := 1) qx0).trans (show _ = some (.float .f32 a0S) from rfl)
    have Qg := Lib.hid qg
    have lg := Th.block_lt qg
    have eg0 := (Th.cells_of (i := 0) qg).trans (show _ = some (.slice avg n3 cvg) from rfl)
    have eg1 := (Th.cells_of (i := 1) qg).trans (show _ = some (.float .f32 s3) from rfl)
    have Qh := Lib.hid qh
    have lh := Th.block_lt qh
    have eh0 := (Th.cells_of (i := 0) qh).trans (show _ = some (.slice avh n3 cvh) from rfl)
    have eh1 := (Th.cells_of (i := 1) qh).trans (show _ = some (.float .f32 s3) from rfl)
    clear qa0 qv1 qs qx0 qg qh
    have RRs := Lib.hid yRs
    have RRh := Lib.hid yRh
    have MX0 := Lib.hid mX0
    have MRg := Lib.hid mRg
    clear yRs yRh mX0 mRg
    have HBW := Lib.hid hbw
    clear hbw
    go_wp2
    go_ret
    exact ⟨rfl, HBW.out⟩
  · have hk0 : Th.tV a0 len0 cap0 a0S = Th.tV a0 len0 cap0 a0S := rfl
    go_enter Try.func8, Try.ntmps8
    go_wp2_with fail
    refine (Th.sz_thread _ _ _ _ 1048576 _ hmx0 (by omega) (-1) (by rw [if_neg (by omega)])).mono ?_
    rintro e w1 ⟨rfl, hb1⟩
    go_wp2
    go_ret
    exact ⟨rfl, by (repeat' first | exact Below.refl _ _ | (refine Below.setCell ?_ (by first | omega | (simp; omega) | simp) _) | (refine below_drewN ?_ _) | (refine Below.alloc ?_ (by first | omega | (simp; omega) | simp) _) | (refine Below.trans ?_ (Below.mono (by assumption) (by first | omega | (simp; omega) | simp))))⟩

set_option maxRecDepth 100000 in
theorem lifted (os : Os) (started : os.Started) (H : Type) (enc : TypeId × Value → H) :
    ReturnsInHanded {} Try.checked os 8 .any (Rows.fnExactMoveThreadSpec.pre6 enc Try.prog Try.f8 Rows.fnExactMoveThreadRow.domain false) (Rows.fnExactMoveThreadSpec.post enc Try.prog Try.f8 false true false false) := by
  refine returnsInHanded_of_change (C := Try.checked) own started (by kernel_rfl) Try.func8
    (ChangeSpec.witness6 (enc := enc) (C := Try.checked) false ⟨#[], #[.agg #[.slice none 0 0, .float .f32 0], .agg #[.float .f32 0, .float .f32 0, .float .f32 0]], []⟩ 8 (by kernel_rfl) (by kernel_rfl) (by kernel_rfl) (by kernel_rfl)) ?_
  intro W base args ds gs before hval0 hW hcnd _
  have hval : ∀ (j : Nat) t v, Try.f8.params[j]? = some t → args[j]? = some v → Value.okWide Try.prog W .any base t v := hval0
  have hW' := hW
  obtain ⟨p, q, hA0, hV, rfl, hfz, hnd⟩ := hW
  have hA : DataW.TrodAll enc Try.prog W 0 (fun _ => true) true Try.f8.params.toList args.toList ds p := hA0
  rw [Try.params8] at hA hval
  obtain ⟨v0, vs0, d0, ds0, p0, q0, hargs, rfl, rfl, h0, r0⟩ := trodAll_cons hA
  obtain ⟨v1, vs1, d1, ds1, p1, q1, rfl, rfl, rfl, h1, r1⟩ := trodAll_cons r0
  obtain ⟨rfl, rfl, rfl⟩ := trodAll_nil r1
  obtain rfl : args = #[v0, v1] := by cases args; simp_all
  obtain ⟨rfl, rfl⟩ := trodVars_none hV
  have k0 := h0
  have lt0 : ∀ x ∈ p0, x.block < W.heap.size := by obtain ⟨m, hm⟩ := k0; exact DataW.trod_lt m _ _ _ hm
  obtain ⟨a0S, a0, len0, cap0, c0, rfl, w0, w0S⟩ := Th.open_thread Try.underlying40 (by kernel_rfl) (by kernel_rfl) rfl rfl Try.underlying22 Try.underlying38 Try.underlying47 (by kernel_rfl) (by kernel_rfl) rfl rfl rfl (hval 0 40 v0 rfl rfl) h0
  have k1 := h1
  have lt1 : ∀ x ∈ p1, x.block < W.heap.size := by obtain ⟨m, hm⟩ := k1; exact DataW.trod_lt m _ _ _ hm
  obtain ⟨a1x, a1y, a1z, rfl, w1x, w1y, w1z⟩ := Frame.open_vec Try.underlying47 (by kernel_rfl) (by kernel_rfl) rfl rfl rfl Try.underlying22 (hval 1 47 v1 rfl rfl) h1
  clear hA0 hval0
  refine (walk a0S a0 len0 cap0 c0 a1x a1y a1z W w0 w0S w1x w1y w1z).mono fun e W' ⟨he, bel⟩ => ?_
  subst he
  exact ⟨_, rfl, _, _, _, [], _, [], hW', trodAll_mk1 (shut_bool Try.underlying4 _), (trodAll_cons_mk (Below.trod laidOut (by kernel_rfl) (of_decide_eq_true (by kernel_rfl)) k0 bel lt0) (trodAll_cons_mk (Below.trod laidOut (by kernel_rfl) (of_decide_eq_true (by kernel_rfl)) k1 bel lt1) trodAll_mk0)), rfl, bel.frame _, fun h => by cases h⟩

theorem over : Rows.fnExactMoveThreadRow.holds Try.pinned (OpenSpec.ofChange Rows.fnExactMoveThreadSpec) :=
  OpenClaim.holds_of_wide 8 Try.f8 rfl rfl rfl rfl rfl rfl rfl ⟨rfl, rfl, rfl, rfl, rfl⟩ rfl rfl rfl rfl rfl (by kernel_rfl) Try.func8 (by kernel_rfl)
    (of_decide_eq_true (by kernel_rfl)) (by unfold Func.isWrapper; first | (rw [if_pos (by decide +kernel)]; kernel_rfl) | (rw [if_neg (by decide +kernel)]; exact ⟨rfl, rfl⟩))
    (fun os started H enc _ => lifted os started H enc)

/-- The statement. -/
theorem proved : Rows.FnExactMoveThreadSaid := over
#print axioms proved
end Go.Proofs.Ytggklnanhiomjab.fnExactMoveThread
