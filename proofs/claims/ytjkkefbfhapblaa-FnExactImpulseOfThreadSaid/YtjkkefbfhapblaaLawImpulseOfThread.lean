/- 'FnExactImpulseOfThread' returns true at every input, and every argument reads afterwards as before. No conditions. -/
import Derived.Test.YtjkkefbfhapblaaRows
import Derived.WalkKit
import Derived.WalkLawsBesides
import Derived.ProofKit
import Derived.OpenShut
import Derived.ShutString
import Derived.ChangeOld
import Derived.Below
import Derived.Test.YtjkkefbfhapblaaFrame
import Derived.Test.YtjkkefbfhapblaaThL
import Derived.Test.YtjkkefbfhapblaaThJ
namespace Go.Proofs.Ytjkkefbfhapblaa.fnExactImpulseOfThread
open Go.ChangeShapes Go.WideShapes Go.ChangeAt Go.RowKit
open Go.ChangeMaps (open_string shut_string)
set_option linter.unusedVariables false
set_option linter.unusedSimpArgs false

theorem own : ownKnob Try.prog.godebug = none := by kernel_rfl
theorem laidOut : laidOutB Try.prog = true := by kernel_rfl

set_option maxHeartbeats 6400000 in
theorem walk (a0S : Nat) (a0 : Option Addr) (len0 cap0 : Nat) (c0 : Nat → Option Nat) (w : World) (w0 : Th.IsV w a0 len0 cap0 c0) (w0S : (Lit.float .f32 a0S).wf = true) :
    Calls Try.prog 3 #[.agg #[.slice a0 len0 cap0, .float .f32 a0S]] w fun e w' => e = .returned (.bool true) ∧ Below w.heap.size w w' := by
  have hY0 := w0
  have HY0 := Lib.hid hY0
  have hmx0 : len0 ≤ maxLen := by have h1 := w0.1; have h2 := w0.2.1; omega
  have hmi0 : len0 ≤ 9223372036854775807 := by unfold maxLen at hmx0; omega
  have HF0 := Lib.hid (show Fl.Fr .f32 a0S (Fl.cl .f32 a0S) from ⟨rfl, Fl.lt32 w0S⟩)
  clear hY0 w0 w0S
  by_cases hbig0 : len0 ≤ 1048576
  · obtain ⟨K0, hK0⟩ : ∃ K : Int, K = if (len0 : Int) ≤ 1048576 then 1048576 - (len0 : Int) else -1 := ⟨_, rfl⟩
    have hk0 : ¬ K0 < 0 := by rw [hK0, if_pos (by omega)]; omega
    have HK0 := Lib.hid hK0; clear hK0
    have HT0 := Lib.hid (fun w' (hb : Below w.heap.size w w') => Th.to_thread a0 len0 cap0 a0S c0 w' (HY0.out.later hb) hbig0)
    obtain ⟨A, hA⟩ : ∃ A, Th.okT len0 (Fl.cl .f32 a0S) c0 = A := ⟨_, rfl⟩
    obtain ⟨F, hF⟩ : ∃ F, (A && Th.fin3 (Th.areaC c0 len0 0) (Th.areaC c0 len0 1) (Th.areaC c0 len0 2)) = F := ⟨_, rfl⟩
    obtain ⟨F2, hF2⟩ : ∃ F2, (F && Th.fin3 (Th.impC c0 len0 (Fl.cl .f32 a0S) 0) (Th.impC c0 len0 (Fl.cl .f32 a0S) 1) (Th.impC c0 len0 (Fl.cl .f32 a0S) 2)) = F2 := ⟨_, rfl⟩
    have HS := Lib.hid (fun a cap w (h : Th.IsV w a len0 cap c0) => Th.spec_ImpT a len0 cap a0S _ c0 w h HF0.out A hA F hF F2 hF2)
    have HI := Lib.hid (fun a cap w (h : Th.IsV w a len0 cap c0) => Th.impl_ImpT a len0 cap a0S _ c0 w h HF0.out A hA F hF F2 hF2)
    unfold Th.RetVF at HS HI
    generalize (if F2 then Th.impC c0 len0 (Fl.cl .f32 a0S) 0 else some 0) = d0 at *
    generalize (if F2 then Th.impC c0 len0 (Fl.cl .f32 a0S) 1 else some 0) = d1 at *
    generalize (if F2 then Th.impC c0 len0 (Fl.cl .f32 a0S) 2 else some 0) = d2 at *
    clear hA hF hF2
    go_enter Try.func3, Try.ntmps3
    go_wp2_with fail
    refine (Th.sz_thread _ _ _ _ 1048576 _ hmx0 (by omega) K0 HK0.out).mono ?_
    rintro e w1 ⟨rfl, hb1⟩
    have hz1 := hb1.size
    try simp only [World.size_alloc] at hz1
    have qa0 : w1.heap[w.heap.size]? = some (.cells #[.slice a0 len0 cap0, .float .f32 a0S] 25) := Th.keep_block hb1 (Th.new_block _ _)
    have hbw : Below w.heap.size w w1 := Below.trans (Below.alloc (Below.refl _ _) (by first | exact Nat.le_refl _ | omega | (simp; omega) | simp) _) (hb1.mono (by first | omega | (simp; omega) | simp))
    clear hb1
    have Qa0 := Lib.hid qa0
    have la0 := Th.block_lt qa0
    have ea00 := (Th.cells_of (i := 0) qa0).trans (show _ = some (.slice a0 len0 cap0) from rfl)
    have ea01 := (Th.cells_of (i := 1) qa0).trans (show _ = some (.float .f32 a0S) from rfl)
    clear qa0
    have HBW := Lib.hid hbw
    clear hbw
    go_wp2_with fail
    refine (HT0.out _ HBW.out).mono ?_
    rintro e w2 ⟨a2, cap2, rfl, ho2, hb2⟩
    have hz2 := hb2.size
    try simp only [World.size_alloc] at hz2
    have qa0 := Th.keep_block hb2 Qa0.out
    have hbw : Below w.heap.size w w2 := Below.trans HBW.out (hb2.mono (by first | omega | (simp; omega) | simp))
    clear Qa0 la0 ea00 ea01 HBW
    clear hb2
    have Qa0 := Lib.hid qa0
    have la0 := Th.block_lt qa0
    have ea00 := (Th.cells_of (i := 0) qa0).trans (show _ = some (.slice a0 len0 cap0) from rfl)
    have ea01 := (Th.cells_of (i := 1) qa0).trans (show _ = some (.float .f32 a0S) from rfl)
    clear qa0
    have HBW := Lib.hid hbw
    clear hbw
    have RC := Lib.hid ho2
    clear ho2
    go_wp2_with fail
    refine (HS.out a2 cap2 _ RC.out.v).mono ?_
    rintro e w3 ⟨x3, y3, z3, rfl, fx3, fy3, fz3, hb3⟩
    have hz3 := hb3.size
    try simp only [World.size_alloc] at hz3
    have qa0 := Th.keep_block hb3 Qa0.out
    have yC := (RC.out).later hb3
    have hbw : Below w.heap.size w w3 := Below.trans HBW.out (hb3.mono (by first | omega | (simp; omega) | simp))
    clear Qa0 la0 ea00 ea01 RC HBW
    clear hb3
    have Qa0 := Lib.hid qa0
    have la0 := Th.block_lt qa0
    have ea00 := (Th.cells_of (i := 0) qa0).trans (show _ = some (.slice a0 len0 cap0) from rfl)
    have ea01 := (Th.cells_of (i := 1) qa0).trans (show _ = some (.float .f32 a0S) from rfl)
    clear qa0
    have RC := Lib.hid yC
    clear yC
    have HBW := Lib.hid hbw
    clear hbw
    clear RC
    go_wp2_with fail
    refine (HT0.out _ (HBW.out.alloc (by omega) _)).mono ?_
    rintro e w4 ⟨a4, cap4, rfl, ho4, hb4⟩
    have hz4 := hb4.size
    try simp only [World.size_alloc] at hz4
    have qa0 := Th.keep_block hb4 (Th.alloc_block Qa0.out)
    have qrs : w4.heap[w3.heap.size]? = some (.cells #[.float .f32 x3, .float .f32 y3, .float .f32 z3] 28) := Th.keep_block hb4 (Th.new_block _ _)
    have hbw : Below w.heap.size w w4 := Below.trans (Below.alloc HBW.out (by first | exact Nat.le_refl _ | omega | (simp; omega) | simp) _) (hb4.mono (by first | omega | (simp; omega) | simp))
    clear Qa0 la0 ea00 ea01 HBW
    clear hb4
    have Qa0 := Lib.hid qa0
    have la0 := Th.block_lt qa0
    have ea00 := (Th.cells_of (i := 0) qa0).trans (show _ = some (.slice a0 len0 cap0) from rfl)
    have ea01 := (Th.cells_of (i := 1) qa0).trans (show _ = some (.float .f32 a0S) from rfl)
    have Qrs := Lib.hid qrs
    have lrs := Th.block_lt qrs
    have ers0 := (Th.cells_of (i := 0) qrs).trans (show _ = some (.float .f32 x3) from rfl)
    have ers1 := (Th.cells_of (i := 1) qrs).trans (show _ = some (.float .f32 y3) from rfl)
    have ers2 := (Th.cells_of (i := 2) qrs).trans (show _ = some (.float .f32 z3) from rfl)
    clear qa0 qrs
    have HBW := Lib.hid hbw
    clear hbw
    have RX0 := Lib.hid (ho4.wider (show w3.heap.size + 1 ≤ _ by simp) (Nat.le_refl _))
    clear ho4
    go_wp2_with fail
    refine (HI.out a4 cap4 _ ((RX0.out.alloc _)).v).mono ?_
    rintro e w5 ⟨x5, y5, z5, rfl, fx5, fy5, fz5, hb5⟩
    have hz5 := hb5.size
    try simp only [World.size_alloc] at hz5
    have qa0 := Th.keep_block hb5 (Th.alloc_block Qa0.out)
    have qrs := Th.keep_block hb5 (Th.alloc_block Qrs.out)
    have qx0 : w5.heap[w4.heap.size]? = some (.cells #[.slice a4 len0 cap4, .float .f32 a0S] 33) := Th.keep_block hb5 (Th.new_block _ _)
    have yX0 := ((RX0.out.alloc _)).later hb5
    have hbw : Below w.heap.size w w5 := Below.trans (Below.alloc HBW.out (by first | exact Nat.le_refl _ | omega | (simp; omega) | simp) _) (hb5.mono (by first | omega | (simp; omega) | simp))
    clear Qa0 Qrs la0 lrs ea00 ea01 ers0 ers1 ers2 RX0 HBW
    clear hb5
    have Qa0 := Lib.hid qa0
    have la0 := Th.block_lt qa0
    have ea00 := (Th.cells_of (i := 0) qa0).trans (show _ = some (.slice a0 len0 cap0) from rfl)
    have ea01 := (Th.cells_of (i := 1) qa0).trans (show _ = some (.float .f32 a0S) from rfl)
    have Qrs := Lib.hid qrs
    have lrs := Th.block_lt qrs
    have ers0 := (Th.cells_of (i := 0) qrs).trans (show _ = some (.float .f32 x3) from rfl)
    have ers1 := (Th.cells_of (i := 1) qrs).trans (show _ = some (.float .f32 y3) from rfl)
    have ers2 := (Th.cells_of (i := 2) qrs).trans (show _ = some (.float .f32 z3) from rfl)
    have Qx0 := Lib.hid qx0
    have lx0 := Th.block_lt qx0
    have ex00 := (Th.cells_of (i := 0) qx0).trans (show _ = some (.slice a4 len0 cap4) from rfl)
    have ex01 := (Th.cells_of (i := 1) qx0).trans (show _ = some (.float .f32 a0S) from rfl)
    clear qa0 qrs qx0
    have RX0 := Lib.hid yX0
    clear yX0
    have HBW := Lib.hid hbw
    clear hbw
    go_wp2_with fail
    refine (Th.eq_ret _ _ _ _ _ _ _ _ _ _ fx5 fy5 fz5 fx3 fy3 fz3).mono ?_
    rintro e w6 ⟨rfl, hb6⟩
    have hz6 := hb6.size
    try simp only [World.size_alloc] at hz6
    have qa0 := Th.keep_block hb6 (Th.alloc_block Qa0.out)
    have qrs := Th.keep_block hb6 (Th.alloc_block Qrs.out)
    have qx0 := Th.keep_block hb6 (Th.alloc_block Qx0.out)
    have qrg : w6.heap[w5.heap.size]? = some (.cells #[.float .f32 x5, .float .f32 y5, .float .f32 z5] 28) := Th.keep_block hb6 (Th.new_block _ _)
    have yX0 := ((RX0.out.alloc _)).later hb6
    have hbw : Below w.heap.size w w6 := Below.trans (Below.alloc HBW.out (by first | exact Nat.le_refl _ | omega | (simp; omega) | simp) _) (hb6.mono (by first | omega | (simp; omega) | simp))
    clear Qa0 Qrs Qx0 la0 lrs lx0 ea00 ea01 ers0 ers1 ers2 ex00 ex01 RX0 HBW
    clear hb6
    have Qa0 := Lib.hid qa0
    have la0 := Th.block_lt qa0
    have ea00 := (Th.cells_of (i := 0) qa0).trans (show _ = some (.slice a0 len0 cap0) from rfl)
    have ea01 := (Th.cells_of (i := 1) qa0).trans (show _ = some (.float .f32 a0S) from rfl)
    have Qrs := Lib.hid qrs
    have lrs := Th.block_lt qrs
    have ers0 := (Th.cells_of (i := 0) qrs).trans (show _ = some (.float .f32 x3) from rfl)
    have ers1 := (Th.cells_of (i := 1) qrs).trans (show _ = some (.float .f32 y3) from rfl)
    have ers2 := (Th.cells_of (i := 2) qrs).trans (show _ = some (.float .f32 z3) from rfl)
    have Qx0 := Lib.hid qx0
    have lx0 := Th.block_lt qx0
    have ex00 := (Th.cells_of (i := 0) qx0).trans (show _ = some (.slice a4 len0 cap4) from rfl)
    have ex01 := (Th.cells_of (i := 1) qx0).trans (show _ = some (.float .f32 a0S) from rfl)
    have Qrg := Lib.hid qrg
    have lrg := Th.block_lt qrg
    have erg0 := (Th.cells_of (i := 0) qrg).trans (show _ = some (.float .f32 x5) from rfl)
    have erg1 := (Th.cells_of (i := 1) qrg).trans (show _ = some (.float .f32 y5) from rfl)
    have erg2 := (Th.cells_of (i := 2) qrg).trans (show _ = some (.float .f32 z5) from rfl)
    clear qa0 qrs qx0 qrg
    have RX0 := Lib.hid yX0
    clear yX0
    have HBW := Lib.hid hbw
    clear hbw
    have HX := Lib.hid RX0.out.v
    have HW := Lib.hid (HY0.out.later HBW.out)
    go_wp2_with fail
    refine LooseP.wp_region 4 [(38, Th.phi a0S len0 c0)] (by kernel_rfl) (by kernel_rfl) (by simp [undef]) ?_
    apply Exists.intro
    simp only [List.take_succ_cons, List.take_zero, List.drop_succ_cons, List.drop_zero]
    have hst : ∀ p ∈ [((38 : Nat), Th.phi a0S len0 c0)], LooseP.Stable p.2 := by intro p hp; rw [List.mem_singleton.1 hp]; exact Th.phi_stable _ _ _
    repeat (first | (apply Loose.walk_step; intro K hK; apply LooseP.turn_value (hwant := rfl) (hd := rfl); (focus (intro w' hw'; obtain ⟨hc, hf⟩ := Fl.bcell hw'; go_simp; first | done | rfl | exact ⟨rfl, rfl⟩)); go_simp; refine hK _ ?_; clear hK K) | (apply Loose.walk_step; intro K hK; refine LooseP.turn_callP (f := 15) (args := fun a => #[a.eval (.tmp 37)]) (V := fun v => ∃ a cap, v = Th.tV a len0 cap a0S) (φ := Th.phi a0S len0 c0) (d := 38) hst (Nat.le_refl _) rfl rfl (by intro p hp _; rw [List.mem_singleton.1 hp]) (by intro a' w'; go_simp; first | done | rfl | exact ⟨rfl, rfl⟩) ⟨_, none, 0, rfl⟩ ?_ ?_; (focus (intro a' w' _ hcl; go_simp; exact Th.to_phi HW.out hcl.1 hbig0)); (intro v hv; obtain ⟨av, capv, rfl⟩ := hv; go_simp; refine hK _ ?_; clear hK K)) | (apply Loose.walk_step; intro K hK; refine LooseP.turn_call (f := 18) (args := fun a => #[a.eval (.tmp 36), a.eval (.tmp 38)]) (V := fun v => v = .bool true) hst (Nat.le_refl _) rfl rfl (by intro a' w'; go_simp; first | done | rfl | exact ⟨rfl, rfl⟩) ⟨_, rfl⟩ ?_ ?_; (focus (intro a' w' ha hcl; go_simp; exact Th.eq_phi HX.out HF0.out HF0.out hcl (by simp) ha)); (intro v hv; obtain rfl := hv; go_simp; refine hK _ ?_; clear hK K)))
    refine Loose.walk_nil ?_
    intro w7 hcls7
    have hb7 := hcls7.1
    clear hcls7 hst
    clear HX HW
    have hz7 := hb7.size
    try simp only [World.size_alloc] at hz7
    have qa0 := Th.keep_block hb7 Qa0.out
    have qrs := Th.keep_block hb7 Qrs.out
    have qx0 := Th.keep_block hb7 Qx0.out
    have qrg := Th.keep_block hb7 Qrg.out
    have yX0 := (RX0.out).later hb7
    have hbw : Below w.heap.size w w7 := Below.trans HBW.out (hb7.mono (by first | omega | (simp; omega) | simp))
    clear Qa0 Qrs Qx0 Qrg la0 lrs lx0 lrg ea00 ea01 ers0 ers1 ers2 ex00 ex01 erg0 erg1 erg2 RX0 HBW
    clear hb7
    have Qa0 := Lib.hid qa0
    have la0 := Th.block_lt qa0
    have ea00 := (Th.cells_of (i := 0) qa0).trans (show _ = some (.slice a0 len0 cap0) from rfl)
    have ea01 := (Th.cells_of (i := 1) qa0).trans (show _ = some (.float .f32 a0S) from rfl)
    have Qrs := Lib.hid qrs
    have lrs := Th.block_lt qrs
    have ers0 := (Th.cells_of (i := 0) qrs).trans (show _ = some (.float .f32 x3) from rfl)
    have ers1 := (Th.cells_of (i := 1) qrs).trans (show _ = some (.float .f32 y3) from rfl)
    have ers2 := (Th.cells_of (i := 2) qrs).trans (show _ = some (.float .f32 z3) from rfl)
    have Qx0 := Lib.hid qx0
    have lx0 := Th.block_lt qx0
    have ex00 := (Th.cells_of (i := 0) qx0).trans (show _ = some (.slice a4 len0 cap4) from rfl)
    have ex01 := (Th.cells_of (i := 1) qx0).trans (show _ = some (.float .f32 a0S) from rfl)
    have Qrg := Lib.hid qrg
    have lrg := Th.block_lt qrg
    have erg0 := (Th.cells_of (i := 0) qrg).trans (show _ = some (.float .f32 x5) from rfl)
    have erg1 := (Th.cells_of (i := 1) qrg).trans (show _ = some (.float .f32 y5) from rfl)
    have erg2 := (Th.cells_of (i := 2) qrg).trans (show _ = some (.float .f32 z5) from rfl)
    clear qa0 qrs qx0 qrg
    have RX0 := Lib.hid yX0
    clear yX0
    have HBW := Lib.hid hbw
    clear hbw
    go_wp2
    go_ret
    exact ⟨rfl, HBW.out⟩
  · have hk0 : Th.tV a0 len0 cap0 a0S = Th.tV a0 len0 cap0 a0S := rfl
    go_enter Try.func3, Try.ntmps3
    go_wp2_with fail
    refine (Th.sz_thread _ _ _ _ 1048576 _ hmx0 (by omega) (-1) (by rw [if_neg (by omega)])).mono ?_
    rintro e w1 ⟨rfl, hb1⟩
    go_wp2
    go_ret
    exact ⟨rfl, by (repeat' first | exact Below.refl _ _ | (refine Below.setCell ?_ (by first | omega | (simp; omega) | simp) _) | (refine below_drewN ?_ _) | (refine Below.alloc ?_ (by first | omega | (simp; omega) | simp) _) | (refine Below.trans ?_ (Below.mono (by assumption) (by first | omega | (simp; omega) | simp))))⟩

set_option maxRecDepth 100000 in
theorem lifted (os : Os) (started : os.Started) (H : Type) (enc : TypeId × Value → H) :
    ReturnsInHanded {} Try.checked os 3 .any (Rows.fnExactImpulseOfThreadSpec.pre6 enc Try.prog Try.f3 Rows.fnExactImpulseOfThreadRow.domain false) (Rows.fnExactImpulseOfThreadSpec.post enc Try.prog Try.f3 false true false false) := by
  refine returnsInHanded_of_change (C := Try.checked) own started (by kernel_rfl) Try.func3
    (ChangeSpec.witness6 (enc := enc) (C := Try.checked) false ⟨#[], #[.agg #[.slice none 0 0, .float .f32 0]], []⟩ 8 (by kernel_rfl) (by kernel_rfl) (by kernel_rfl) (by kernel_rfl)) ?_
  intro W base args ds gs before hval0 hW hcnd _
  have hval : ∀ (j : Nat) t v, Try.f3.params[j]? = some t → args[j]? = some v → Value.okWide Try.prog W .any base t v := hval0
  have hW' := hW
  obtain ⟨p, q, hA0, hV, rfl, hfz, hnd⟩ := hW
  have hA : DataW.TrodAll enc Try.prog W 0 (fun _ => true) true Try.f3.params.toList args.toList ds p := hA0
  rw [Try.params3] at hA hval
  obtain ⟨v0, vs0, d0, ds0, p0, q0, hargs, rfl, rfl, h0, r0⟩ := trodAll_cons hA
  obtain ⟨rfl, rfl, rfl⟩ := trodAll_nil r0
  obtain rfl : args = #[v0] := by cases args; simp_all
  obtain ⟨rfl, rfl⟩ := trodVars_none hV
  have k0 := h0
  have lt0 : ∀ x ∈ p0, x.block < W.heap.size := by obtain ⟨m, hm⟩ := k0; exact DataW.trod_lt m _ _ _ hm
  obtain ⟨a0S, a0, len0, cap0, c0, rfl, w0, w0S⟩ := Th.open_thread Try.underlying25 (by kernel_rfl) (by kernel_rfl) rfl rfl Try.underlying23 Try.underlying22 Try.underlying62 (by kernel_rfl) (by kernel_rfl) rfl rfl rfl (hval 0 25 v0 rfl rfl) h0
  clear hA0 hval0
  refine (walk a0S a0 len0 cap0 c0 W w0 w0S).mono fun e W' ⟨he, bel⟩ => ?_
  subst he
  exact ⟨_, rfl, _, _, _, [], _, [], hW', trodAll_mk1 (shut_bool Try.underlying4 _), (trodAll_cons_mk (Below.trod laidOut (by kernel_rfl) (of_decide_eq_true (by kernel_rfl)) k0 bel lt0) trodAll_mk0), rfl, bel.frame _, fun h => by cases h⟩

theorem over : Rows.fnExactImpulseOfThreadRow.holds Try.pinned (OpenSpec.ofChange Rows.fnExactImpulseOfThreadSpec) :=
  OpenClaim.holds_of_wide 3 Try.f3 rfl rfl rfl rfl rfl rfl rfl ⟨rfl, rfl, rfl, rfl, rfl⟩ rfl rfl rfl rfl rfl (by kernel_rfl) Try.func3 (by kernel_rfl)
    (of_decide_eq_true (by kernel_rfl)) (by unfold Func.isWrapper; first | (rw [if_pos (by decide +kernel)]; kernel_rfl) | (rw [if_neg (by decide +kernel)]; exact ⟨rfl, rfl⟩))
    (fun os started H enc _ => lifted os started H enc)

/-- The statement. -/
theorem proved : Rows.FnExactImpulseOfThreadSaid := over
#print axioms proved
end Go.Proofs.Ytjkkefbfhapblaa.fnExactImpulseOfThread
