/- 'FnExactRespaceThread' returns true at every input, and every argument reads afterwards as before. No conditions. -/
import Derived.Test.YtjkkefbfhapblaaRows
import Derived.WalkKit
import Derived.WalkLawsBesides
import Derived.ProofKit
import Derived.OpenShut
import Derived.ShutString
import Derived.ChangeOld
import Derived.Below
import Derived.Test.YtjkkefbfhapblaaFrame
import Derived.Test.YtjkkefbfhapblaaThL
import Derived.Test.YtjkkefbfhapblaaThRq
namespace Go.Proofs.Ytjkkefbfhapblaa.fnExactRespaceThread
open Go.ChangeShapes Go.WideShapes Go.ChangeAt Go.RowKit
open Go.ChangeMaps (open_string shut_string)
set_option linter.unusedVariables false
set_option linter.unusedSimpArgs false

theorem own : ownKnob Try.prog.godebug = none := by kernel_rfl
theorem laidOut : laidOutB Try.prog = true := by kernel_rfl

set_option maxHeartbeats 12800000 in
theorem walk (a0S : Nat) (a0 : Option Addr) (len0 cap0 : Nat) (c0 : Nat → Option Nat) (a1 : Int) (w : World) (w0 : Th.IsV w a0 len0 cap0 c0) (w0S : (Lit.float .f32 a0S).wf = true) (w1 : (Lit.int .i64 a1).wf = true) :
    Calls Try.prog 11 #[.agg #[.slice a0 len0 cap0, .float .f32 a0S], .int .i64 a1] w fun e w' => e = .returned (.bool true) ∧ Below w.heap.size w w' := by
  have hY0 := w0
  have HY0 := Lib.hid hY0
  have hmx0 : len0 ≤ maxLen := by have h1 := w0.1; have h2 := w0.2.1; omega
  have hmi0 : len0 ≤ 9223372036854775807 := by unfold maxLen at hmx0; omega
  have HF0 := Lib.hid (show Fl.Fr .f32 a0S (Fl.cl .f32 a0S) from ⟨rfl, Fl.lt32 w0S⟩)
  clear hY0 w0 w0S
  by_cases hbig0 : len0 ≤ 1048576
  · obtain ⟨K0, hK0⟩ : ∃ K : Int, K = if (len0 : Int) ≤ 1048576 then 1048576 - (len0 : Int) else -1 := ⟨_, rfl⟩
    have hk0 : ¬ K0 < 0 := by rw [hK0, if_pos (by omega)]; omega
    have HK0 := Lib.hid hK0; clear hK0
    have HT0 := Lib.hid (fun w' (hb : Below w.heap.size w w') => Th.to_thread a0 len0 cap0 a0S c0 w' (HY0.out.later hb) hbig0)
    have HS := Lib.hid (fun a cap w (h : Th.IsV w a len0 cap c0) => Th.spec_RespT a len0 cap a0S _ c0 w h HF0.out a1 _ rfl _ rfl)
    have HI := Lib.hid (fun a cap w (h : Th.IsV w a len0 cap c0) => Th.impl_RespT a len0 cap a0S _ c0 w h HF0.out a1 _ rfl _ rfl)
    obtain ⟨A3, hA3⟩ : ∃ A3, (((Th.okT len0 (Fl.cl .f32 a0S) c0 && Rate.finC (Th.lenC c0 len0 len0)) && Th.cnB a1) && Th.allV (Th.evenC c0 len0 a1.toNat) a1.toNat) = A3 := ⟨_, rfl⟩
    rw [hA3] at HS HI
    unfold Th.RetG at HS HI
    have hn3 : (if A3 then a1.toNat else 0) ≤ 32 := by
      cases A3
      · simp
      · simp only [Bool.and_eq_true] at hA3
        simp only [if_true]
        have h9 := hA3.1.2
        unfold Th.cnB at h9
        simp only [Bool.and_eq_true, decide_eq_true_eq] at h9
        omega
    have h3s : Fl.Fr .f32 (if A3 then a0S else 0) (Fl.cl .f32 (if A3 then a0S else 0)) := ⟨rfl, by
      cases A3
      · exact (by decide : 0 < 2 ^ FloatKind.f32.format.width)
      · exact HF0.out.2⟩
    generalize (if A3 then a1.toNat else 0) = n3 at *
    generalize (if A3 then a0S else 0) = s3 at *
    obtain ⟨f3, hf3⟩ : ∃ f3, Th.evenC c0 len0 a1.toNat = f3 := ⟨_, rfl⟩
    rw [hf3] at HS HI
    clear hA3 hf3
    obtain ⟨p0, hp0⟩ : ∃ p : Int, p = 1 + (len0 : Int) * 3 := ⟨_, rfl⟩
    have hp00 : 0 ≤ p0 := by omega
    have hp0b : p0 ≤ 8388608 := by omega
    have HP0 := Lib.hid hp0
    clear hp0
    obtain ⟨q, hq⟩ : ∃ q : Int, q = 1 + (n3 : Int) * 3 := ⟨_, rfl⟩
    have hq0 : 0 ≤ q := by omega
    have HQ := Lib.hid hq
    clear hq
    go_enter Try.func11, Try.ntmps11
    go_wp2_with fail
    refine (Th.sz_thread _ _ _ _ 1048576 _ hmx0 (by omega) K0 HK0.out).mono ?_
    rintro e w1 ⟨rfl, hb1⟩
    have hz1 := hb1.size
    try simp only [World.size_alloc] at hz1
    have qa0 : w1.heap[w.heap.size]? = some (.cells #[.slice a0 len0 cap0, .float .f32 a0S] 25) := Th.keep_block hb1 (Th.new_block _ _)
    have hbw : Below w.heap.size w w1 := Below.trans (Below.alloc (Below.refl _ _) (by first | exact Nat.le_refl _ | omega | (simp; omega) | simp) _) (hb1.mono (by first | omega | (simp; omega) | simp))
    clear hb1
    have Qa0 := Lib.hid qa0
    have la0 := Th.block_lt qa0
    have ea00 := (Th.cells_of (i := 0) qa0).trans (show _ = some (.slice a0 len0 cap0) from rfl)
    have ea01 := (Th.cells_of (i := 1) qa0).trans (show _ = some (.float .f32 a0S) from rfl)
    clear qa0
    have HBW := Lib.hid hbw
    clear hbw
    go_wp2_with fail
    refine (HT0.out _ HBW.out).mono ?_
    rintro e w2 ⟨a2, cap2, rfl, ho2, hb2⟩
    have hz2 := hb2.size
    try simp only [World.size_alloc] at hz2
    have qa0 := Th.keep_block hb2 Qa0.out
    have hbw : Below w.heap.size w w2 := Below.trans HBW.out (hb2.mono (by first | omega | (simp; omega) | simp))
    clear Qa0 la0 ea00 ea01 HBW
    clear hb2
    have Qa0 := Lib.hid qa0
    have la0 := Th.block_lt qa0
    have ea00 := (Th.cells_of (i := 0) qa0).trans (show _ = some (.slice a0 len0 cap0) from rfl)
    have ea01 := (Th.cells_of (i := 1) qa0).trans (show _ = some (.float .f32 a0S) from rfl)
    clear qa0
    have HBW := Lib.hid hbw
    clear hbw
    have RC := Lib.hid ho2
    clear ho2
    go_wp2_with fail
    refine (HS.out a2 cap2 _ RC.out.v).mono ?_
    rintro e w3 ⟨a3, cap3, rfl, ho3, hb3⟩
    have hz3 := hb3.size
    try simp only [World.size_alloc] at hz3
    have qa0 := Th.keep_block hb3 Qa0.out
    have yC := (RC.out).later hb3
    have hbw : Below w.heap.size w w3 := Below.trans HBW.out (hb3.mono (by first | omega | (simp; omega) | simp))
    clear Qa0 la0 ea00 ea01 RC HBW
    clear hb3
    have Qa0 := Lib.hid qa0
    have la0 := Th.block_lt qa0
    have ea00 := (Th.cells_of (i := 0) qa0).trans (show _ = some (.slice a0 len0 cap0) from rfl)
    have ea01 := (Th.cells_of (i := 1) qa0).trans (show _ = some (.float .f32 a0S) from rfl)
    clear qa0
    have RC := Lib.hid yC
    clear yC
    have HBW := Lib.hid hbw
    clear hbw
    clear RC
    have RS := Lib.hid ho3
    clear ho3
    go_wp2_with fail
    refine (HT0.out _ (HBW.out.alloc (by omega) _)).mono ?_
    rintro e w4 ⟨a4, cap4, rfl, ho4, hb4⟩
    have hz4 := hb4.size
    try simp only [World.size_alloc] at hz4
    have qa0 := Th.keep_block hb4 (Th.alloc_block Qa0.out)
    have qs : w4.heap[w3.heap.size]? = some (.cells #[.slice a3 n3 cap3, .float .f32 s3] 33) := Th.keep_block hb4 (Th.new_block _ _)
    have yS := ((RS.out.alloc _)).later hb4
    have hbw : Below w.heap.size w w4 := Below.trans (Below.alloc HBW.out (by first | exact Nat.le_refl _ | omega | (simp; omega) | simp) _) (hb4.mono (by first | omega | (simp; omega) | simp))
    clear Qa0 la0 ea00 ea01 RS HBW
    clear hb4
    have Qa0 := Lib.hid qa0
    have la0 := Th.block_lt qa0
    have ea00 := (Th.cells_of (i := 0) qa0).trans (show _ = some (.slice a0 len0 cap0) from rfl)
    have ea01 := (Th.cells_of (i := 1) qa0).trans (show _ = some (.float .f32 a0S) from rfl)
    have Qs := Lib.hid qs
    have ls := Th.block_lt qs
    have es0 := (Th.cells_of (i := 0) qs).trans (show _ = some (.slice a3 n3 cap3) from rfl)
    have es1 := (Th.cells_of (i := 1) qs).trans (show _ = some (.float .f32 s3) from rfl)
    clear qa0 qs
    have RS := Lib.hid yS
    clear yS
    have HBW := Lib.hid hbw
    clear hbw
    have RX0 := Lib.hid (ho4.wider (show w3.heap.size + 1 ≤ _ by simp) (Nat.le_refl _))
    clear ho4
    go_wp2_with fail
    refine (HI.out a4 cap4 _ ((RX0.out.alloc _)).v).mono ?_
    rintro e w5 ⟨a5, cap5, rfl, ho5, hb5⟩
    have hz5 := hb5.size
    try simp only [World.size_alloc] at hz5
    have qa0 := Th.keep_block hb5 (Th.alloc_block Qa0.out)
    have qs := Th.keep_block hb5 (Th.alloc_block Qs.out)
    have qx0 : w5.heap[w4.heap.size]? = some (.cells #[.slice a4 len0 cap4, .float .f32 a0S] 33) := Th.keep_block hb5 (Th.new_block _ _)
    have yS := ((RS.out.alloc _)).later hb5
    have yX0 := ((RX0.out.alloc _)).later hb5
    have hbw : Below w.heap.size w w5 := Below.trans (Below.alloc HBW.out (by first | exact Nat.le_refl _ | omega | (simp; omega) | simp) _) (hb5.mono (by first | omega | (simp; omega) | simp))
    clear Qa0 Qs la0 ls ea00 ea01 es0 es1 RS RX0 HBW
    clear hb5
    have Qa0 := Lib.hid qa0
    have la0 := Th.block_lt qa0
    have ea00 := (Th.cells_of (i := 0) qa0).trans (show _ = some (.slice a0 len0 cap0) from rfl)
    have ea01 := (Th.cells_of (i := 1) qa0).trans (show _ = some (.float .f32 a0S) from rfl)
    have Qs := Lib.hid qs
    have ls := Th.block_lt qs
    have es0 := (Th.cells_of (i := 0) qs).trans (show _ = some (.slice a3 n3 cap3) from rfl)
    have es1 := (Th.cells_of (i := 1) qs).trans (show _ = some (.float .f32 s3) from rfl)
    have Qx0 := Lib.hid qx0
    have lx0 := Th.block_lt qx0
    have ex00 := (Th.cells_of (i := 0) qx0).trans (show _ = some (.slice a4 len0 cap4) from rfl)
    have ex01 := (Th.cells_of (i := 1) qx0).trans (show _ = some (.float .f32 a0S) from rfl)
    clear qa0 qs qx0
    have RS := Lib.hid yS
    have RX0 := Lib.hid yX0
    clear yS yX0
    have HBW := Lib.hid hbw
    clear hbw
    have RG := Lib.hid (ho5.wider (show w4.heap.size + 1 ≤ _ by simp) (Nat.le_refl _))
    clear ho5
    go_wp2_with fail
    refine (Th.eq_thread a5 a3 _ cap5 cap3 _ _ _ f3 _ ((RG.out.alloc _)).v ((RS.out.alloc _)).v h3s h3s).mono ?_
    rintro e w6 ⟨rfl, hb6⟩
    have hz6 := hb6.size
    try simp only [World.size_alloc] at hz6
    have qa0 := Th.keep_block hb6 (Th.alloc_block Qa0.out)
    have qs := Th.keep_block hb6 (Th.alloc_block Qs.out)
    have qx0 := Th.keep_block hb6 (Th.alloc_block Qx0.out)
    have qg : w6.heap[w5.heap.size]? = some (.cells #[.slice a5 n3 cap5, .float .f32 s3] 33) := Th.keep_block hb6 (Th.new_block _ _)
    have yS := ((RS.out.alloc _)).later hb6
    have yX0 := ((RX0.out.alloc _)).later hb6
    have yG := ((RG.out.alloc _)).later hb6
    have hbw : Below w.heap.size w w6 := Below.trans (Below.alloc HBW.out (by first | exact Nat.le_refl _ | omega | (simp; omega) | simp) _) (hb6.mono (by first | omega | (simp; omega) | simp))
    clear Qa0 Qs Qx0 la0 ls lx0 ea00 ea01 es0 es1 ex00 ex01 RS RX0 RG HBW
    clear hb6
    have Qa0 := Lib.hid qa0
    have la0 := Th.block_lt qa0
    have ea00 := (Th.cells_of (i := 0) qa0).trans (show _ = some (.slice a0 len0 cap0) from rfl)
    have ea01 := (Th.cells_of (i := 1) qa0).trans (show _ = some (.float .f32 a0S) from rfl)
    have Qs := Lib.hid qs
    have ls := Th.block_lt qs
    have es0 := (Th.cells_of (i := 0) qs).trans (show _ = some (.slice a3 n3 cap3) from rfl)
    have es1 := (Th.cells_of (i := 1) qs).trans (show _ = some (.float .f32 s3) from rfl)
    have Qx0 := Lib.hid qx0
    have lx0 := Th.block_lt qx0
    have ex00 := (Th.cells_of (i := 0) qx0).trans (show _ = some (.slice a4 len0 cap4) from rfl)
    have ex01 := (Th.cells_of (i := 1) qx0).trans (show _ = some (.float .f32 a0S) from rfl)
    have Qg := Lib.hid qg
    have lg := Th.block_lt qg
    have eg0 := (Th.cells_of (i := 0) qg).trans (show _ = some (.slice a5 n3 cap5) from rfl)
    have eg1 := (Th.cells_of (i := 1) qg).trans (show _ = some (.float .f32 s3) from rfl)
    clear qa0 qs qx0 qg
    have RS := Lib.hid yS
    have RX0 := Lib.hid yX0
    have RG := Lib.hid yG
    clear yS yX0 yG
    have HBW := Lib.hid hbw
    clear hbw
    have HX := Lib.hid RX0.out.v
    have HW := Lib.hid (HY0.out.later HBW.out)
    go_wp2_with fail
    refine LooseP.wp_region 4 [(47, Th.phi a0S len0 c0)] (by kernel_rfl) (by kernel_rfl) (by simp [undef]) ?_
    apply Exists.intro
    simp only [List.take_succ_cons, List.take_zero, List.drop_succ_cons, List.drop_zero]
    have hst : ∀ p ∈ [((47 : Nat), Th.phi a0S len0 c0)], LooseP.Stable p.2 := by intro p hp; rw [List.mem_singleton.1 hp]; exact Th.phi_stable _ _ _
    repeat (first | (apply Loose.walk_step; intro K hK; apply LooseP.turn_value (hwant := rfl) (hd := rfl); (focus (intro w' hw'; obtain ⟨hc, hf⟩ := Fl.bcell hw'; go_simp; first | done | rfl | exact ⟨rfl, rfl⟩)); go_simp; refine hK _ ?_; clear hK K) | (apply Loose.walk_step; intro K hK; refine LooseP.turn_callP (f := 15) (args := fun a => #[a.eval (.tmp 46)]) (V := fun v => ∃ a cap, v = Th.tV a len0 cap a0S) (φ := Th.phi a0S len0 c0) (d := 47) hst (Nat.le_refl _) rfl rfl (by intro p hp _; rw [List.mem_singleton.1 hp]) (by intro a' w'; go_simp; first | done | rfl | exact ⟨rfl, rfl⟩) ⟨_, none, 0, rfl⟩ ?_ ?_; (focus (intro a' w' _ hcl; go_simp; exact Th.to_phi HW.out hcl.1 hbig0)); (intro v hv; obtain ⟨av, capv, rfl⟩ := hv; go_simp; refine hK _ ?_; clear hK K)) | (apply Loose.walk_step; intro K hK; refine LooseP.turn_call (f := 18) (args := fun a => #[a.eval (.tmp 45), a.eval (.tmp 47)]) (V := fun v => v = .bool true) hst (Nat.le_refl _) rfl rfl (by intro a' w'; go_simp; first | done | rfl | exact ⟨rfl, rfl⟩) ⟨_, rfl⟩ ?_ ?_; (focus (intro a' w' ha hcl; go_simp; exact Th.eq_phi HX.out HF0.out HF0.out hcl (by simp) ha)); (intro v hv; obtain rfl := hv; go_simp; refine hK _ ?_; clear hK K)))
    refine Loose.walk_nil ?_
    intro w7 hcls7
    have hb7 := hcls7.1
    clear hcls7 hst
    clear HX HW
    have hz7 := hb7.size
    try simp only [World.size_alloc] at hz7
    have qa0 := Th.keep_block hb7 Qa0.out
    have qs := Th.keep_block hb7 Qs.out
    have qx0 := Th.keep_block hb7 Qx0.out
    have qg := Th.keep_block hb7 Qg.out
    have yS := (RS.out).later hb7
    have yX0 := (RX0.out).later hb7
    have yG := (RG.out).later hb7
    have hbw : Below w.heap.size w w7 := Below.trans HBW.out (hb7.mono (by first | omega | (simp; omega) | simp))
    clear Qa0 Qs Qx0 Qg la0 ls lx0 lg ea00 ea01 es0 es1 ex00 ex01 eg0 eg1 RS RX0 RG HBW
    clear hb7
    have Qa0 := Lib.hid qa0
    have la0 := Th.block_lt qa0
    have ea00 := (Th.cells_of (i := 0) qa0).trans (show _ = some (.slice a0 len0 cap0) from rfl)
    have ea01 := (Th.cells_of (i := 1) qa0).trans (show _ = some (.float .f32 a0S) from rfl)
    have Qs := Lib.hid qs
    have ls := Th.block_lt qs
    have es0 := (Th.cells_of (i := 0) qs).trans (show _ = some (.slice a3 n3 cap3) from rfl)
    have es1 := (Th.cells_of (i := 1) qs).trans (show _ = some (.float .f32 s3) from rfl)
    have Qx0 := Lib.hid qx0
    have lx0 := Th.block_lt qx0
    have ex00 := (Th.cells_of (i := 0) qx0).trans (show _ = some (.slice a4 len0 cap4) from rfl)
    have ex01 := (Th.cells_of (i := 1) qx0).trans (show _ = some (.float .f32 a0S) from rfl)
    have Qg := Lib.hid qg
    have lg := Th.block_lt qg
    have eg0 := (Th.cells_of (i := 0) qg).trans (show _ = some (.slice a5 n3 cap5) from rfl)
    have eg1 := (Th.cells_of (i := 1) qg).trans (show _ = some (.float .f32 s3) from rfl)
    clear qa0 qs qx0 qg
    have RS := Lib.hid yS
    have RX0 := Lib.hid yX0
    have RG := Lib.hid yG
    clear yS yX0 yG
    have HBW := Lib.hid hbw
    clear hbw
    go_wp2_with fail
    refine (Th.mark_thread (w3.heap.size + 1) (w4.heap.size) a4 _ cap4 _ c0 1 (by omega) _ RX0.out hbig0 (by omega) (by omega)).mono ?_
    rintro e w8 ⟨rfl, hm8, hb8, hk8⟩
    rw [show (1 + (len0 : Int) * 3) = p0 from HP0.out.symm]
    have hz8 := hb8.size
    try simp only [World.size_alloc] at hz8
    have qa0 := (hk8 _ (by omega) la0).trans Qa0.out
    have qs := (hk8 _ (by omega) ls).trans Qs.out
    have qx0 := (hk8 _ (by omega) lx0).trans Qx0.out
    have qg := (hk8 _ (by omega) lg).trans Qg.out
    have yS := RS.out.keep (fun g hg hgl hgs => hk8 g (by omega) hgs)
    have yG := RG.out.keep (fun g hg hgl hgs => hk8 g (by omega) hgs)
    have hbw : Below w.heap.size w w8 := HBW.out.trans (hb8.mono (by omega))
    clear Qa0 Qs Qx0 Qg la0 ls lx0 lg ea00 ea01 es0 es1 ex00 ex01 eg0 eg1 RS RX0 RG HBW
    clear hb8 hk8
    have mX0 := hm8
    clear hm8
    have Qa0 := Lib.hid qa0
    have la0 := Th.block_lt qa0
    have ea00 := (Th.cells_of (i := 0) qa0).trans (show _ = some (.slice a0 len0 cap0) from rfl)
    have ea01 := (Th.cells_of (i := 1) qa0).trans (show _ = some (.float .f32 a0S) from rfl)
    have Qs := Lib.hid qs
    have ls := Th.block_lt qs
    have es0 := (Th.cells_of (i := 0) qs).trans (show _ = some (.slice a3 n3 cap3) from rfl)
    have es1 := (Th.cells_of (i := 1) qs).trans (show _ = some (.float .f32 s3) from rfl)
    have Qx0 := Lib.hid qx0
    have lx0 := Th.block_lt qx0
    have ex00 := (Th.cells_of (i := 0) qx0).trans (show _ = some (.slice a4 len0 cap4) from rfl)
    have ex01 := (Th.cells_of (i := 1) qx0).trans (show _ = some (.float .f32 a0S) from rfl)
    have Qg := Lib.hid qg
    have lg := Th.block_lt qg
    have eg0 := (Th.cells_of (i := 0) qg).trans (show _ = some (.slice a5 n3 cap5) from rfl)
    have eg1 := (Th.cells_of (i := 1) qg).trans (show _ = some (.float .f32 s3) from rfl)
    clear qa0 qs qx0 qg
    have RS := Lib.hid yS
    have RG := Lib.hid yG
    have MX0 := Lib.hid mX0
    clear yS yG mX0
    have HBW := Lib.hid hbw
    clear hbw
    go_wp2_with fail
    refine (Th.eq_thread a5 a3 _ cap5 cap3 _ _ _ f3 _ (RG.out).v (RS.out).v h3s h3s).mono ?_
    rintro e w9 ⟨rfl, hb9⟩
    have hz9 := hb9.size
    try simp only [World.size_alloc] at hz9
    have qa0 := Th.keep_block hb9 Qa0.out
    have qs := Th.keep_block hb9 Qs.out
    have qx0 := Th.keep_block hb9 Qx0.out
    have qg := Th.keep_block hb9 Qg.out
    have yS := (RS.out).later hb9
    have yG := (RG.out).later hb9
    have mX0 := (MX0.out).on hb9
    have hbw : Below w.heap.size w w9 := Below.trans HBW.out (hb9.mono (by first | omega | (simp; omega) | simp))
    clear Qa0 Qs Qx0 Qg la0 ls lx0 lg ea00 ea01 es0 es1 ex00 ex01 eg0 eg1 RS RG MX0 HBW
    clear hb9
    have Qa0 := Lib.hid qa0
    have la0 := Th.block_lt qa0
    have ea00 := (Th.cells_of (i := 0) qa0).trans (show _ = some (.slice a0 len0 cap0) from rfl)
    have ea01 := (Th.cells_of (i := 1) qa0).trans (show _ = some (.float .f32 a0S) from rfl)
    have Qs := Lib.hid qs
    have ls := Th.block_lt qs
    have es0 := (Th.cells_of (i := 0) qs).trans (show _ = some (.slice a3 n3 cap3) from rfl)
    have es1 := (Th.cells_of (i := 1) qs).trans (show _ = some (.float .f32 s3) from rfl)
    have Qx0 := Lib.hid qx0
    have lx0 := Th.block_lt qx0
    have ex00 := (Th.cells_of (i := 0) qx0).trans (show _ = some (.slice a4 len0 cap4) from rfl)
    have ex01 := (Th.cells_of (i := 1) qx0).trans (show _ = some (.float .f32 a0S) from rfl)
    have Qg := Lib.hid qg
    have lg := Th.block_lt qg
    have eg0 := (Th.cells_of (i := 0) qg).trans (show _ = some (.slice a5 n3 cap5) from rfl)
    have eg1 := (Th.cells_of (i := 1) qg).trans (show _ = some (.float .f32 s3) from rfl)
    clear qa0 qs qx0 qg
    have RS := Lib.hid yS
    have RG := Lib.hid yG
    have MX0 := Lib.hid mX0
    clear yS yG mX0
    have HBW := Lib.hid hbw
    clear hbw
    go_wp2_with fail
    refine (Th.mark_thread (w4.heap.size + 1) (w5.heap.size) a5 _ cap5 _ f3 1 (by omega) _ RG.out (by omega) (by omega) (by omega)).mono ?_
    rintro e w10 ⟨rfl, hm10, hb10, hk10⟩
    rw [show (1 + (n3 : Int) * 3) = q from HQ.out.symm]
    have hz10 := hb10.size
    try simp only [World.size_alloc] at hz10
    have qa0 := (hk10 _ (by omega) la0).trans Qa0.out
    have qs := (hk10 _ (by omega) ls).trans Qs.out
    have qx0 := (hk10 _ (by omega) lx0).trans Qx0.out
    have qg := (hk10 _ (by omega) lg).trans Qg.out
    have yS := RS.out.keep (fun g hg hgl hgs => hk10 g (by omega) hgs)
    have mX0 := MX0.out.keep (fun g hg hgl hgs => hk10 g (by omega) hgs)
    have hbw : Below w.heap.size w w10 := HBW.out.trans (hb10.mono (by omega))
    clear Qa0 Qs Qx0 Qg la0 ls lx0 lg ea00 ea01 es0 es1 ex00 ex01 eg0 eg1 RS RG MX0 HBW
    clear hb10 hk10
    have mG := hm10
    clear hm10
    have Qa0 := Lib.hid qa0
    have la0 := Th.block_lt qa0
    have ea00 := (Th.cells_of (i := 0) qa0).trans (show _ = some (.slice a0 len0 cap0) from rfl)
    have ea01 := (Th.cells_of (i := 1) qa0).trans (show _ = some (.float .f32 a0S) from rfl)
    have Qs := Lib.hid qs
    have ls := Th.block_lt qs
    have es0 := (Th.cells_of (i := 0) qs).trans (show _ = some (.slice a3 n3 cap3) from rfl)
    have es1 := (Th.cells_of (i := 1) qs).trans (show _ = some (.float .f32 s3) from rfl)
    have Qx0 := Lib.hid qx0
    have lx0 := Th.block_lt qx0
    have ex00 := (Th.cells_of (i := 0) qx0).trans (show _ = some (.slice a4 len0 cap4) from rfl)
    have ex01 := (Th.cells_of (i := 1) qx0).trans (show _ = some (.float .f32 a0S) from rfl)
    have Qg := Lib.hid qg
    have lg := Th.block_lt qg
    have eg0 := (Th.cells_of (i := 0) qg).trans (show _ = some (.slice a5 n3 cap5) from rfl)
    have eg1 := (Th.cells_of (i := 1) qg).trans (show _ = some (.float .f32 s3) from rfl)
    clear qa0 qs qx0 qg
    have RS := Lib.hid yS
    have MX0 := Lib.hid mX0
    have MG := Lib.hid mG
    clear yS mX0 mG
    have HBW := Lib.hid hbw
    clear hbw
    go_wp2_with fail
    refine (Th.held_thread _ _ a5 _ cap5 _ 1 (by omega) _ MG.out).mono ?_
    rintro e w11 ⟨rfl, hb11⟩
    rw [show (1 + (n3 : Int) * 3) = q from HQ.out.symm]
    have hz11 := hb11.size
    try simp only [World.size_alloc] at hz11
    have qa0 := Th.keep_block hb11 Qa0.out
    have qs := Th.keep_block hb11 Qs.out
    have qx0 := Th.keep_block hb11 Qx0.out
    have qg := Th.keep_block hb11 Qg.out
    have yS := (RS.out).later hb11
    have mX0 := (MX0.out).on hb11
    have mG := (MG.out).on hb11
    have hbw : Below w.heap.size w w11 := Below.trans HBW.out (hb11.mono (by first | omega | (simp; omega) | simp))
    clear Qa0 Qs Qx0 Qg la0 ls lx0 lg ea00 ea01 es0 es1 ex00 ex01 eg0 eg1 RS MX0 MG HBW
    clear hb11
    have Qa0 := Lib.hid qa0
    have la0 := Th.block_lt qa0
    have ea00 := (Th.cells_of (i := 0) qa0).trans (show _ = some (.slice a0 len0 cap0) from rfl)
    have ea01 := (Th.cells_of (i := 1) qa0).trans (show _ = some (.float .f32 a0S) from rfl)
    have Qs := Lib.hid qs
    have ls := Th.block_lt qs
    have es0 := (Th.cells_of (i := 0) qs).trans (show _ = some (.slice a3 n3 cap3) from rfl)
    have es1 := (Th.cells_of (i := 1) qs).trans (show _ = some (.float .f32 s3) from rfl)
    have Qx0 := Lib.hid qx0
    have lx0 := Th.block_lt qx0
    have ex00 := (Th.cells_of (i := 0) qx0).trans (show _ = some (.slice a4 len0 cap4) from rfl)
    have ex01 := (Th.cells_of (i := 1) qx0).trans (show _ = some (.float .f32 a0S) from rfl)
    have Qg := Lib.hid qg
    have lg := Th.block_lt qg
    have eg0 := (Th.cells_of (i := 0) qg).trans (show _ = some (.slice a5 n3 cap5) from rfl)
    have eg1 := (Th.cells_of (i := 1) qg).trans (show _ = some (.float .f32 s3) from rfl)
    clear qa0 qs qx0 qg
    have RS := Lib.hid yS
    have MX0 := Lib.hid mX0
    have MG := Lib.hid mG
    clear yS mX0 mG
    have HBW := Lib.hid hbw
    clear hbw
    go_wp2_with fail
    refine (HT0.out _ HBW.out).mono ?_
    rintro e w12 ⟨a12, cap12, rfl, ho12, hb12⟩
    have hz12 := hb12.size
    try simp only [World.size_alloc] at hz12
    have qa0 := Th.keep_block hb12 Qa0.out
    have qs := Th.keep_block hb12 Qs.out
    have qx0 := Th.keep_block hb12 Qx0.out
    have qg := Th.keep_block hb12 Qg.out
    have yS := (RS.out).later hb12
    have mX0 := (MX0.out).on hb12
    have mG := (MG.out).on hb12
    have hbw : Below w.heap.size w w12 := Below.trans HBW.out (hb12.mono (by first | omega | (simp; omega) | simp))
    clear Qa0 Qs Qx0 Qg la0 ls lx0 lg ea00 ea01 es0 es1 ex00 ex01 eg0 eg1 RS MX0 MG HBW
    clear hb12
    have Qa0 := Lib.hid qa0
    have la0 := Th.block_lt qa0
    have ea00 := (Th.cells_of (i := 0) qa0).trans (show _ = some (.slice a0 len0 cap0) from rfl)
    have ea01 := (Th.cells_of (i := 1) qa0).trans (show _ = some (.float .f32 a0S) from rfl)
    have Qs := Lib.hid qs
    have ls := Th.block_lt qs
    have es0 := (Th.cells_of (i := 0) qs).trans (show _ = some (.slice a3 n3 cap3) from rfl)
    have es1 := (Th.cells_of (i := 1) qs).trans (show _ = some (.float .f32 s3) from rfl)
    have Qx0 := Lib.hid qx0
    have lx0 := Th.block_lt qx0
    have ex00 := (Th.cells_of (i := 0) qx0).trans (show _ = some (.slice a4 len0 cap4) from rfl)
    have ex01 := (Th.cells_of (i := 1) qx0).trans (show _ = some (.float .f32 a0S) from rfl)
    have Qg := Lib.hid qg
    have lg := Th.block_lt qg
    have eg0 := (Th.cells_of (i := 0) qg).trans (show _ = some (.slice a5 n3 cap5) from rfl)
    have eg1 := (Th.cells_of (i := 1) qg).trans (show _ = some (.float .f32 s3) from rfl)
    clear qa0 qs qx0 qg
    have RS := Lib.hid yS
    have MX0 := Lib.hid mX0
    have MG := Lib.hid mG
    clear yS mX0 mG
    have HBW := Lib.hid hbw
    clear hbw
    have RC := Lib.hid ho12
    clear ho12
    go_wp2_with fail
    refine (HI.out a12 cap12 _ RC.out.v).mono ?_
    rintro e w13 ⟨a13, cap13, rfl, ho13, hb13⟩
    have hz13 := hb13.size
    try simp only [World.size_alloc] at hz13
    have qa0 := Th.keep_block hb13 Qa0.out
    have qs := Th.keep_block hb13 Qs.out
    have qx0 := Th.keep_block hb13 Qx0.out
    have qg := Th.keep_block hb13 Qg.out
    have yS := (RS.out).later hb13
    have yC := (RC.out).later hb13
    have mX0 := (MX0.out).on hb13
    have mG := (MG.out).on hb13
    have hbw : Below w.heap.size w w13 := Below.trans HBW.out (hb13.mono (by first | omega | (simp; omega) | simp))
    clear Qa0 Qs Qx0 Qg la0 ls lx0 lg ea00 ea01 es0 es1 ex00 ex01 eg0 eg1 RS RC MX0 MG HBW
    clear hb13
    have Qa0 := Lib.hid qa0
    have la0 := Th.block_lt qa0
    have ea00 := (Th.cells_of (i := 0) qa0).trans (show _ = some (.slice a0 len0 cap0) from rfl)
    have ea01 := (Th.cells_of (i := 1) qa0).trans (show _ = some (.float .f32 a0S) from rfl)
    have Qs := Lib.hid qs
    have ls := Th.block_lt qs
    have es0 := (Th.cells_of (i := 0) qs).trans (show _ = some (.slice a3 n3 cap3) from rfl)
    have es1 := (Th.cells_of (i := 1) qs).trans (show _ = some (.float .f32 s3) from rfl)
    have Qx0 := Lib.hid qx0
    have lx0 := Th.block_lt qx0
    have ex00 := (Th.cells_of (i := 0) qx0).trans (show _ = some (.slice a4 len0 cap4) from rfl)
    have ex01 := (Th.cells_of (i := 1) qx0).trans (show _ = some (.float .f32 a0S) from rfl)
    have Qg := Lib.hid qg
    have lg := Th.block_lt qg
    have eg0 := (Th.cells_of (i := 0) qg).trans (show _ = some (.slice a5 n3 cap5) from rfl)
    have eg1 := (Th.cells_of (i := 1) qg).trans (show _ = some (.float .f32 s3) from rfl)
    clear qa0 qs qx0 qg
    have RS := Lib.hid yS
    have RC := Lib.hid yC
    have MX0 := Lib.hid mX0
    have MG := Lib.hid mG
    clear yS yC mX0 mG
    have HBW := Lib.hid hbw
    clear hbw
    clear RC
    have RH := Lib.hid ho13
    clear ho13
    go_wp2_with fail
    refine (Th.eq_thread a13 a3 _ cap13 cap3 _ _ _ f3 _ ((RH.out.alloc _)).v ((RS.out.alloc _)).v h3s h3s).mono ?_
    rintro e w14 ⟨rfl, hb14⟩
    have hz14 := hb14.size
    try simp only [World.size_alloc] at hz14
    have qa0 := Th.keep_block hb14 (Th.alloc_block Qa0.out)
    have qs := Th.keep_block hb14 (Th.alloc_block Qs.out)
    have qx0 := Th.keep_block hb14 (Th.alloc_block Qx0.out)
    have qg := Th.keep_block hb14 (Th.alloc_block Qg.out)
    have qh : w14.heap[w13.heap.size]? = some (.cells #[.slice a13 n3 cap13, .float .f32 s3] 33) := Th.keep_block hb14 (Th.new_block _ _)
    have yS := ((RS.out.alloc _)).later hb14
    have yH := ((RH.out.alloc _)).later hb14
    have mX0 := ((MX0.out.alloc _)).on hb14
    have mG := ((MG.out.alloc _)).on hb14
    have hbw : Below w.heap.size w w14 := Below.trans (Below.alloc HBW.out (by first | exact Nat.le_refl _ | omega | (simp; omega) | simp) _) (hb14.mono (by first | omega | (simp; omega) | simp))
    clear Qa0 Qs Qx0 Qg la0 ls lx0 lg ea00 ea01 es0 es1 ex00 ex01 eg0 eg1 RS RH MX0 MG HBW
    clear hb14
    have Qa0 := Lib.hid qa0
    have la0 := Th.block_lt qa0
    have ea00 := (Th.cells_of (i := 0) qa0).trans (show _ = some (.slice a0 len0 cap0) from rfl)
    have ea01 := (Th.cells_of (i := 1) qa0).trans (show _ = some (.float .f32 a0S) from rfl)
    have Qs := Lib.hid qs
    have ls := Th.block_lt qs
    have es0 := (Th.cells_of (i := 0) qs).trans (show _ = some (.slice a3 n3 cap3) from rfl)
    have es1 := (Th.cells_of (i := 1) qs).trans (show _ = some (.float .f32 s3) from rfl)
    have Qx0 := Lib.hid qx0
    have lx0 := Th.block_lt qx0
    have ex00 := (Th.cells_of (i := 0) qx0).trans (show _ = some (.slice a4 len0 cap4) from rfl)
    have ex01 := (Th.cells_of (i := 1) qx0).trans (show _ = some (.float .f32 a0S) from rfl)
    have Qg := Lib.hid qg
    have lg := Th.block_lt qg
    have eg0 := (Th.cells_of (i := 0) qg).trans (show _ = some (.slice a5 n3 cap5) from rfl)
    have eg1 := (Th.cells_of (i := 1) qg).trans (show _ = some (.float .f32 s3) from rfl)
    have Qh := Lib.hid qh
    have lh := Th.block_lt qh
    have eh0 := (Th.cells_of (i := 0) qh).trans (show _ = some (.slice a13 n3 cap13) from rfl)
    have eh1 := (Th.cells_of (i := 1) qh).trans (show _ = some (.float .f32 s3) from rfl)
    clear qa0 qs qx0 qg qh
    have RS := Lib.hid yS
    have RH := Lib.hid yH
    have MX0 := Lib.hid mX0
    have MG := Lib.hid mG
    clear yS yH mX0 mG
    have HBW := Lib.hid hbw
    clear hbw
    go_wp2_with fail
    refine (Th.held_thread _ _ a5 _ cap5 _ 1 (by omega) _ MG.out).mono ?_
    rintro e w15 ⟨rfl, hb15⟩
    rw [show (1 + (n3 : Int) * 3) = q from HQ.out.symm]
    have hz15 := hb15.size
    try simp only [World.size_alloc] at hz15
    have qa0 := Th.keep_block hb15 Qa0.out
    have qs := Th.keep_block hb15 Qs.out
    have qx0 := Th.keep_block hb15 Qx0.out
    have qg := Th.keep_block hb15 Qg.out
    have qh := Th.keep_block hb15 Qh.out
    have yS := (RS.out).later hb15
    have yH := (RH.out).later hb15
    have mX0 := (MX0.out).on hb15
    have mG := (MG.out).on hb15
    have hbw : Below w.heap.size w w15 := Below.trans HBW.out (hb15.mono (by first | omega | (simp; omega) | simp))
    clear Qa0 Qs Qx0 Qg Qh la0 ls lx0 lg lh ea00 ea01 es0 es1 ex00 ex01 eg0 eg1 eh0 eh1 RS RH MX0 MG HBW
    clear hb15
    have Qa0 := Lib.hid qa0
    have la0 := Th.block_lt qa0
    have ea00 := (Th.cells_of (i := 0) qa0).trans (show _ = some (.slice a0 len0 cap0) from rfl)
    have ea01 := (Th.cells_of (i := 1) qa0).trans (show _ = some (.float .f32 a0S) from rfl)
    have Qs := Lib.hid qs
    have ls := Th.block_lt qs
    have es0 := (Th.cells_of (i := 0) qs).trans (show _ = some (.slice a3 n3 cap3) from rfl)
    have es1 := (Th.cells_of (i := 1) qs).trans (show _ = some (.float .f32 s3) from rfl)
    have Qx0 := Lib.hid qx0
    have lx0 := Th.block_lt qx0
    have ex00 := (Th.cells_of (i := 0) qx0).trans (show _ = some (.slice a4 len0 cap4) from rfl)
    have ex01 := (Th.cells_of (i := 1) qx0).trans (show _ = some (.float .f32 a0S) from rfl)
    have Qg := Lib.hid qg
    have lg := Th.block_lt qg
    have eg0 := (Th.cells_of (i := 0) qg).trans (show _ = some (.slice a5 n3 cap5) from rfl)
    have eg1 := (Th.cells_of (i := 1) qg).trans (show _ = some (.float .f32 s3) from rfl)
    have Qh := Lib.hid qh
    have lh := Th.block_lt qh
    have eh0 := (Th.cells_of (i := 0) qh).trans (show _ = some (.slice a13 n3 cap13) from rfl)
    have eh1 := (Th.cells_of (i := 1) qh).trans (show _ = some (.float .f32 s3) from rfl)
    clear qa0 qs qx0 qg qh
    have RS := Lib.hid yS
    have RH := Lib.hid yH
    have MX0 := Lib.hid mX0
    have MG := Lib.hid mG
    clear yS yH mX0 mG
    have HBW := Lib.hid hbw
    clear hbw
    go_wp2
    go_ret
    exact ⟨rfl, HBW.out⟩
  · have hk0 : Th.tV a0 len0 cap0 a0S = Th.tV a0 len0 cap0 a0S := rfl
    go_enter Try.func11, Try.ntmps11
    go_wp2_with fail
    refine (Th.sz_thread _ _ _ _ 1048576 _ hmx0 (by omega) (-1) (by rw [if_neg (by omega)])).mono ?_
    rintro e w1 ⟨rfl, hb1⟩
    go_wp2
    go_ret
    exact ⟨rfl, by (repeat' first | exact Below.refl _ _ | (refine Below.setCell ?_ (by first | omega | (simp; omega) | simp) _) | (refine below_drewN ?_ _) | (refine Below.alloc ?_ (by first | omega | (simp; omega) | simp) _) | (refine Below.trans ?_ (Below.mono (by assumption) (by first | omega | (simp; omega) | simp))))⟩

set_option maxRecDepth 100000 in
theorem lifted (os : Os) (started : os.Started) (H : Type) (enc : TypeId × Value → H) :
    ReturnsInHanded {} Try.checked os 11 .any (Rows.fnExactRespaceThreadSpec.pre6 enc Try.prog Try.f11 Rows.fnExactRespaceThreadRow.domain false) (Rows.fnExactRespaceThreadSpec.post enc Try.prog Try.f11 false true false false) := by
  refine returnsInHanded_of_change (C := Try.checked) own started (by kernel_rfl) Try.func11
    (ChangeSpec.witness6 (enc := enc) (C := Try.checked) false ⟨#[], #[.agg #[.slice none 0 0, .float .f32 0], .int .i64 0], []⟩ 8 (by kernel_rfl) (by kernel_rfl) (by kernel_rfl) (by kernel_rfl)) ?_
  intro W base args ds gs before hval0 hW hcnd _
  have hval : ∀ (j : Nat) t v, Try.f11.params[j]? = some t → args[j]? = some v → Value.okWide Try.prog W .any base t v := hval0
  have hW' := hW
  obtain ⟨p, q, hA0, hV, rfl, hfz, hnd⟩ := hW
  have hA : DataW.TrodAll enc Try.prog W 0 (fun _ => true) true Try.f11.params.toList args.toList ds p := hA0
  rw [Try.params11] at hA hval
  obtain ⟨v0, vs0, d0, ds0, p0, q0, hargs, rfl, rfl, h0, r0⟩ := trodAll_cons hA
  obtain ⟨v1, vs1, d1, ds1, p1, q1, rfl, rfl, rfl, h1, r1⟩ := trodAll_cons r0
  obtain ⟨rfl, rfl, rfl⟩ := trodAll_nil r1
  obtain rfl : args = #[v0, v1] := by cases args; simp_all
  obtain ⟨rfl, rfl⟩ := trodVars_none hV
  have k0 := h0
  have lt0 : ∀ x ∈ p0, x.block < W.heap.size := by obtain ⟨m, hm⟩ := k0; exact DataW.trod_lt m _ _ _ hm
  obtain ⟨a0S, a0, len0, cap0, c0, rfl, w0, w0S⟩ := Th.open_thread Try.underlying25 (by kernel_rfl) (by kernel_rfl) rfl rfl Try.underlying23 Try.underlying22 Try.underlying62 (by kernel_rfl) (by kernel_rfl) rfl rfl rfl (hval 0 25 v0 rfl rfl) h0
  have k1 := h1
  have lt1 : ∀ x ∈ p1, x.block < W.heap.size := by obtain ⟨m, hm⟩ := k1; exact DataW.trod_lt m _ _ _ hm
  obtain ⟨a1, rfl, e1, _, w1⟩ := open_int Try.underlying2 (hval 1 2 v1 rfl rfl) h1
  clear hA0 hval0
  refine (walk a0S a0 len0 cap0 c0 a1 W w0 w0S w1).mono fun e W' ⟨he, bel⟩ => ?_
  subst he
  exact ⟨_, rfl, _, _, _, [], _, [], hW', trodAll_mk1 (shut_bool Try.underlying4 _), (trodAll_cons_mk (Below.trod laidOut (by kernel_rfl) (of_decide_eq_true (by kernel_rfl)) k0 bel lt0) (trodAll_cons_mk (Below.trod laidOut (by kernel_rfl) (of_decide_eq_true (by kernel_rfl)) k1 bel lt1) trodAll_mk0)), rfl, bel.frame _, fun h => by cases h⟩

theorem over : Rows.fnExactRespaceThreadRow.holds Try.pinned (OpenSpec.ofChange Rows.fnExactRespaceThreadSpec) :=
  OpenClaim.holds_of_wide 11 Try.f11 rfl rfl rfl rfl rfl rfl rfl ⟨rfl, rfl, rfl, rfl, rfl⟩ rfl rfl rfl rfl rfl (by kernel_rfl) Try.func11 (by kernel_rfl)
    (of_decide_eq_true (by kernel_rfl)) (by unfold Func.isWrapper; first | (rw [if_pos (by decide +kernel)]; kernel_rfl) | (rw [if_neg (by decide +kernel)]; exact ⟨rfl, rfl⟩))
    (fun os started H enc _ => lifted os started H enc)

/-- The statement. -/
theorem proved : Rows.FnExactRespaceThreadSaid := over
#print axioms proved
end Go.Proofs.Ytjkkefbfhapblaa.fnExactRespaceThread
