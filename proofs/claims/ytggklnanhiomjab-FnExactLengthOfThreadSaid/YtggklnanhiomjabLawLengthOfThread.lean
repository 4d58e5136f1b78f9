/- 'FnExactLengthOfThread' returns true at every input, and every argument reads afterwards as before. No conditions. -/
import Derived.Test.YtggklnanhiomjabRows
import Derived.WalkKit
import Derived.WalkLawsBesides
import Derived.ProofKit
import Derived.OpenShut
import Derived.ShutString
import Derived.ChangeOld
import Derived.Below
import Derived.Test.YtggklnanhiomjabFrame
import Derived.Test.YtggklnanhiomjabThL
import Derived.Test.YtggklnanhiomjabThN
namespace Go.Proofs.Ytggklnanhiomjab.fnExactLengthOfThread
open Go.ChangeShapes Go.WideShapes Go.ChangeAt Go.RowKit
open Go.ChangeMaps (open_string shut_string)
set_option linter.unusedVariables false
set_option linter.unusedSimpArgs false

theorem own : ownKnob Try.prog.godebug = none := by kernel_rfl
theorem laidOut : laidOutB Try.prog = true := by kernel_rfl

set_option maxHeartbeats 6400000 in
theorem walk (a0S : Nat) (a0 : Option Addr) (len0 cap0 : Nat) (c0 : Nat → Option Nat) (w : World) (w0 : Th.IsV w a0 len0 cap0 c0) (w0S : (Lit.float .f32 a0S).wf = true) :
    Calls Try.prog 13 #[.agg #[.slice a0 len0 cap0, .float .f32 a0S]] w fun e w' => e = .returned (.bool true) ∧ Below w.heap.size w w' := by
  have hY0 := w0
  have HY0 := Lib.hid hY0
  have hmx0 : len0 ≤ maxLen := by have h1 := w0.1; have h2 := w0.2.1; omega
  have hmi0 : len0 ≤ 9223372036854775807 := by unfold maxLen at hmx0; omega
  have HF0 := Lib.hid (show Fl.Fr .f32 a0S (Fl.cl .f32 a0S) from ⟨rfl, Fl.lt32 w0S⟩)
  clear hY0 w0 w0S
  by_cases hbig0 : len0 ≤ 1048576
  · obtain ⟨K, hK⟩ : ∃ K : Int, K = if (len0 : Int) ≤ 1048576 then 1048576 - (len0 : Int) else -1 := ⟨_, rfl⟩
    have hk0 : ¬ K < 0 := by rw [hK, if_pos (by omega)]; omega
    have HK := Lib.hid hK; clear hK
    have HT0 := Lib.hid (fun w' (hb : Below w.heap.size w w') => Th.to_thread a0 len0 cap0 a0S c0 w' (HY0.out.later hb) hbig0)
    obtain ⟨A, hA⟩ : ∃ A, Th.okT len0 (Fl.cl .f32 a0S) c0 = A := ⟨_, rfl⟩
    have HS := Lib.hid (fun a cap w (h : Th.IsV w a len0 cap c0) => Th.spec_LenT a len0 cap a0S _ c0 w h HF0.out A hA)
    have HI := Lib.hid (fun a cap w (h : Th.IsV w a len0 cap c0) => Th.impl_LenT a len0 cap a0S _ c0 w h HF0.out A hA)
    unfold Th.RetN Rate.RetFB at HS HI
    generalize Th.lenC c0 len0 len0 = d at *
    generalize (A && Rate.finC d) = B at *
    generalize (if B then d else some 0) = d2 at *
    clear hA
    go_enter Try.func13, Try.ntmps13
    go_wp2_with fail
    refine (Th.sz_thread _ _ _ _ 1048576 _ hmx0 (by omega) K HK.out).mono ?_
    rintro e w1 ⟨rfl, hb1⟩
    have hz1 := hb1.size
    try simp only [World.size_alloc, World.size_setCell, World.heap_drewN, World.size_drew] at hz1
    obtain ⟨hc1, hf1⟩ := Fl.bcell hb1
    try simp only [World.heap_drewN, World.cell?_drewN, World.frozen?_drewN] at hc1 hf1
    have g1_0 : w.heap.size < w1.heap.size := by omega
    go_wp2_with fail
    refine (HT0.out _ (by (repeat' first | exact Below.refl _ _ | (refine Below.setCell ?_ (by first | omega | (simp; omega) | simp) _) | (refine below_drewN ?_ _) | (refine Below.alloc ?_ (by first | omega | (simp; omega) | simp) _) | (refine Below.trans ?_ (Below.mono (by assumption) (by first | omega | (simp; omega) | simp)))))).mono ?_
    rintro e w2 ⟨a2, cap2, rfl, ho2, hb2⟩
    have hz2 := hb2.size
    try simp only [World.size_alloc, World.size_setCell, World.heap_drewN, World.size_drew] at hz2
    obtain ⟨hc2, hf2⟩ := Fl.bcell hb2
    try simp only [World.heap_drewN, World.cell?_drewN, World.frozen?_drewN] at hc2 hf2
    have g2_0 : w.heap.size < w2.heap.size := by omega
    have HO2 := Lib.hid ho2; clear ho2
    go_wp2_with fail
    refine (HS.out _ _ _ HO2.out.v).mono ?_
    rintro e w3 ⟨r30, rfl, f30, hb3⟩
    have hz3 := hb3.size
    try simp only [World.size_alloc, World.size_setCell, World.heap_drewN, World.size_drew] at hz3
    obtain ⟨hc3, hf3⟩ := Fl.bcell hb3
    try simp only [World.heap_drewN, World.cell?_drewN, World.frozen?_drewN] at hc3 hf3
    have g3_0 : w.heap.size < w3.heap.size := by omega
    go_wp2_with fail
    refine (HT0.out _ (by (repeat' first | exact Below.refl _ _ | (refine Below.setCell ?_ (by first | omega | (simp; omega) | simp) _) | (refine below_drewN ?_ _) | (refine Below.alloc ?_ (by first | omega | (simp; omega) | simp) _) | (refine Below.trans ?_ (Below.mono (by assumption) (by first | omega | (simp; omega) | simp)))))).mono ?_
    rintro e w4 ⟨a4, cap4, rfl, ho4, hb4⟩
    have hz4 := hb4.size
    try simp only [World.size_alloc, World.size_setCell, World.heap_drewN, World.size_drew] at hz4
    obtain ⟨hc4, hf4⟩ := Fl.bcell hb4
    try simp only [World.heap_drewN, World.cell?_drewN, World.frozen?_drewN] at hc4 hf4
    have g4_0 : w.heap.size < w4.heap.size := by omega
    have HO4 := Lib.hid ho4; clear ho4
    go_wp2_with fail
    refine (HI.out _ _ _ (HO4.out.v.later (by (repeat' first | exact Below.refl _ _ | (refine Below.setCell ?_ (by first | omega | (simp; omega) | simp) _) | (refine below_drewN ?_ _) | (refine Below.alloc ?_ (by first | omega | (simp; omega) | simp) _) | (refine Below.trans ?_ (Below.mono (by assumption) (by first | omega | (simp; omega) | simp))))))).mono ?_
    rintro e w5 ⟨r50, rfl, f50, hb5⟩
    have hz5 := hb5.size
    try simp only [World.size_alloc, World.size_setCell, World.heap_drewN, World.size_drew] at hz5
    obtain ⟨hc5, hf5⟩ := Fl.bcell hb5
    try simp only [World.heap_drewN, World.cell?_drewN, World.frozen?_drewN] at hc5 hf5
    have g5_0 : w.heap.size < w5.heap.size := by omega
    have g5_1 : w4.heap.size < w5.heap.size := by omega
    go_wp2_with (refine Fl.wpList_conv rfl rfl rfl (by kernel_rfl) Try.underlying36 (by assumption) (Fl.fits_wide _) ?_; intro r n hr)
    refine (Th.same_ret _ _ _ _ (by assumption) (by assumption)).mono ?_
    rintro e w6 ⟨rfl, hb6⟩
    have hz6 := hb6.size
    try simp only [World.size_alloc, World.size_setCell, World.heap_drewN, World.size_drew] at hz6
    obtain ⟨hc6, hf6⟩ := Fl.bcell hb6
    try simp only [World.heap_drewN, World.cell?_drewN, World.frozen?_drewN] at hc6 hf6
    have g6_0 : w.heap.size < w6.heap.size := by omega
    have g6_1 : w4.heap.size < w6.heap.size := by omega
    have HX := Lib.hid (show Th.IsV w6 a4 len0 cap4 c0 from HO4.out.v.later (by (repeat' first | exact Below.refl _ _ | (refine Below.setCell ?_ (by first | omega | (simp; omega) | simp) _) | (refine below_drewN ?_ _) | (refine Below.alloc ?_ (by first | omega | (simp; omega) | simp) _) | (refine Below.trans ?_ (Below.mono (by assumption) (by first | omega | (simp; omega) | simp))))))
    have HW := Lib.hid (show Th.IsV w6 a0 len0 cap0 c0 from HY0.out.later (by (repeat' first | exact Below.refl _ _ | (refine Below.setCell ?_ (by first | omega | (simp; omega) | simp) _) | (refine below_drewN ?_ _) | (refine Below.alloc ?_ (by first | omega | (simp; omega) | simp) _) | (refine Below.trans ?_ (Below.mono (by assumption) (by first | omega | (simp; omega) | simp))))))
    go_wp2_with fail
    refine LooseP.wp_region 4 [(40, Th.phi a0S len0 c0)] (by kernel_rfl) (by kernel_rfl) (by simp [undef]) ?_
    apply Exists.intro
    simp only [List.take_succ_cons, List.take_zero, List.drop_succ_cons, List.drop_zero]
    have hst : ∀ p ∈ [((40 : Nat), Th.phi a0S len0 c0)], LooseP.Stable p.2 := by intro p hp; rw [List.mem_singleton.1 hp]; exact Th.phi_stable _ _ _
    repeat (first | (apply Loose.walk_step; intro K hK; apply LooseP.turn_value (hwant := rfl) (hd := rfl); (focus (intro w' hw'; obtain ⟨hc, hf⟩ := Fl.bcell hw'; go_simp; first | done | rfl | exact ⟨rfl, rfl⟩)); go_simp; refine hK _ ?_; clear hK K) | (apply Loose.walk_step; intro K hK; refine LooseP.turn_callP (f := 27) (args := fun a => #[a.eval (.tmp 39)]) (V := fun v => ∃ a cap, v = Th.tV a len0 cap a0S) (φ := Th.phi a0S len0 c0) (d := 40) hst (Nat.le_refl _) rfl rfl (by intro p hp _; rw [List.mem_singleton.1 hp]) (by intro a' w'; go_simp; first | done | rfl | exact ⟨rfl, rfl⟩) ⟨_, none, 0, rfl⟩ ?_ ?_; (focus (intro a' w' _ hcl; go_simp; exact Th.to_phi HW.out hcl.1 hbig0)); (intro v hv; obtain ⟨av, capv, rfl⟩ := hv; go_simp; refine hK _ ?_; clear hK K)) | (apply Loose.walk_step; intro K hK; refine LooseP.turn_call (f := 17) (args := fun a => #[a.eval (.tmp 38), a.eval (.tmp 40)]) (V := fun v => v = .bool true) hst (Nat.le_refl _) rfl rfl (by intro a' w'; go_simp; first | done | rfl | exact ⟨rfl, rfl⟩) ⟨_, rfl⟩ ?_ ?_; (focus (intro a' w' ha hcl; go_simp; exact Th.eq_phi HX.out HF0.out HF0.out hcl (by simp) ha)); (intro v hv; obtain rfl := hv; go_simp; refine hK _ ?_; clear hK K)))
    refine Loose.walk_nil ?_
    intro w7 hcls7
    have hb7 := hcls7.1
    clear hcls7 hst
    go_wp2
    go_ret
    exact ⟨rfl, by (repeat' first | exact Below.refl _ _ | (refine Below.setCell ?_ (by first | omega | (simp; omega) | simp) _) | (refine below_drewN ?_ _) | (refine Below.alloc ?_ (by first | omega | (simp; omega) | simp) _) | (refine Below.trans ?_ (Below.mono (by assumption) (by first | omega | (simp; omega) | simp))))⟩
  · have hk0 : Th.tV a0 len0 cap0 a0S = Th.tV a0 len0 cap0 a0S := rfl
    go_enter Try.func13, Try.ntmps13
    go_wp2_with fail
    refine (Th.sz_thread _ _ _ _ 1048576 _ hmx0 (by omega) (-1) (by rw [if_neg (by omega)])).mono ?_
    rintro e w1 ⟨rfl, hb1⟩
    go_wp2
    go_ret
    exact ⟨rfl, by (repeat' first | exact Below.refl _ _ | (refine Below.setCell ?_ (by first | omega | (simp; omega) | simp) _) | (refine below_drewN ?_ _) | (refine Below.alloc ?_ (by first | omega | (simp; omega) | simp) _) | (refine Below.trans ?_ (Below.mono (by assumption) (by first | omega | (simp; omega) | simp))))⟩

set_option maxRecDepth 100000 in
theorem lifted (os : Os) (started : os.Started) (H : Type) (enc : TypeId × Value → H) :
    ReturnsInHanded {} Try.checked os 13 .any (Rows.fnExactLengthOfThreadSpec.pre6 enc Try.prog Try.f13 Rows.fnExactLengthOfThreadRow.domain false) (Rows.fnExactLengthOfThreadSpec.post enc Try.prog Try.f13 false true false false) := by
  refine returnsInHanded_of_change (C := Try.checked) own started (by kernel_rfl) Try.func13
    (ChangeSpec.witness6 (enc := enc) (C := Try.checked) false ⟨#[], #[.agg #[.slice none 0 0, .float .f32 0]], []⟩ 8 (by kernel_rfl) (by kernel_rfl) (by kernel_rfl) (by kernel_rfl)) ?_
  intro W base args ds gs before hval0 hW hcnd _
  have hval : ∀ (j : Nat) t v, Try.f13.params[j]? = some t → args[j]? = some v → Value.okWide Try.prog W .any base t v := hval0
  have hW' := hW
  obtain ⟨p, q, hA0, hV, rfl, hfz, hnd⟩ := hW
  have hA : DataW.TrodAll enc Try.prog W 0 (fun _ => true) true Try.f13.params.toList args.toList ds p := hA0
  rw [Try.params13] at hA hval
  obtain ⟨v0, vs0, d0, ds0, p0, q0, hargs, rfl, rfl, h0, r0⟩ := trodAll_cons hA
  obtain ⟨rfl, rfl, rfl⟩ := trodAll_nil r0
  obtain rfl : args = #[v0] := by cases args; simp_all
  obtain ⟨rfl, rfl⟩ := trodVars_none hV
  have k0 := h0
  have lt0 : ∀ x ∈ p0, x.block < W.heap.size := by obtain ⟨m, hm⟩ := k0; exact DataW.trod_lt m _ _ _ hm
  obtain ⟨a0S, a0, len0, cap0, c0, rfl, w0, w0S⟩ := Th.open_thread Try.underlying40 (by kernel_rfl) (by kernel_rfl) rfl rfl Try.underlying22 Try.underlying38 Try.underlying47 (by kernel_rfl) (by kernel_rfl) rfl rfl rfl (hval 0 40 v0 rfl rfl) h0
  clear hA0 hval0
  refine (walk a0S a0 len0 cap0 c0 W w0 w0S).mono fun e W' ⟨he, bel⟩ => ?_
  subst he
  exact ⟨_, rfl, _, _, _, [], _, [], hW', trodAll_mk1 (shut_bool Try.underlying4 _), (trodAll_cons_mk (Below.trod laidOut (by kernel_rfl) (of_decide_eq_true (by kernel_rfl)) k0 bel lt0) trodAll_mk0), rfl, bel.frame _, fun h => by cases h⟩

theorem over : Rows.fnExactLengthOfThreadRow.holds Try.pinned (OpenSpec.ofChange Rows.fnExactLengthOfThreadSpec) :=
  OpenClaim.holds_of_wide 13 Try.f13 rfl rfl rfl rfl rfl rfl rfl ⟨rfl, rfl, rfl, rfl, rfl⟩ rfl rfl rfl rfl rfl (by kernel_rfl) Try.func13 (by kernel_rfl)
    (of_decide_eq_true (by kernel_rfl)) (by unfold Func.isWrapper; first | (rw [if_pos (by decide +kernel)]; kernel_rfl) | (rw [if_neg (by decide +kernel)]; exact ⟨rfl, rfl⟩))
    (fun os started H enc _ => lifted os started H enc)

/-- The statement. -/
theorem proved : Rows.FnExactLengthOfThreadSaid := over
#print axioms proved
end Go.Proofs.Ytggklnanhiomjab.fnExactLengthOfThread
