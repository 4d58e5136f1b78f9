/- 'FnExactSameVector' returns true at every input, and every argument reads afterwards as before. No conditions. -/
import Derived.Test.YtfcpkjgnkkcchaeRows
import Derived.WalkKit
import Derived.WalkLawsBesides
import Derived.ProofKit
import Derived.OpenShut
import Derived.ShutString
import Derived.ChangeOld
import Derived.Below
import Derived.Test.YtfcpkjgnkkcchaeFrame
import Derived.Test.YtfcpkjgnkkcchaeVec
import Derived.Test.YtfcpkjgnkkcchaeSameV
namespace Go.Proofs.Ytfcpkjgnkkcchae.fnExactSameVector
open Go.ChangeShapes Go.WideShapes Go.ChangeAt Go.RowKit
open Go.ChangeMaps (open_string shut_string)
set_option linter.unusedVariables false
set_option linter.unusedSimpArgs false

theorem own : ownKnob Try.prog.godebug = none := by kernel_rfl
theorem laidOut : laidOutB Try.prog = true := by kernel_rfl

set_option maxHeartbeats 1600000 in
theorem walk (a0x a0y a0z : Nat) (a1x a1y a1z : Nat) (w : World) (w0x : (Lit.float .f32 a0x).wf = true) (w0y : (Lit.float .f32 a0y).wf = true) (w0z : (Lit.float .f32 a0z).wf = true) (w1x : (Lit.float .f32 a1x).wf = true) (w1y : (Lit.float .f32 a1y).wf = true) (w1z : (Lit.float .f32 a1z).wf = true) :
    Calls Try.prog 6 #[.agg #[.float .f32 a0x, .float .f32 a0y, .float .f32 a0z], .agg #[.float .f32 a1x, .float .f32 a1y, .float .f32 a1z]] w fun e w' => e = .returned (.bool true) ∧ Below w.heap.size w w' := by
  have fx0x := Fl.Fr.wf w0x
  have fx0y := Fl.Fr.wf w0y
  have fx0z := Fl.Fr.wf w0z
  have fx1x := Fl.Fr.wf w1x
  have fx1y := Fl.Fr.wf w1y
  have fx1z := Fl.Fr.wf w1z
  clear w0x w0y w0z w1x w1y w1z
  generalize Fl.cl .f32 a0x = c0 at *; generalize Fl.cl .f32 a0y = c1 at *; generalize Fl.cl .f32 a0z = c2 at *; generalize Fl.cl .f32 a1x = d0 at *; generalize Fl.cl .f32 a1y = d1 at *; generalize Fl.cl .f32 a1z = d2 at *
  cases hs : (Fl.bitsC c0 == Fl.bitsC d0 && Fl.bitsC c1 == Fl.bitsC d1 && Fl.bitsC c2 == Fl.bitsC d2)
  · skip
    go_enter Try.func6, Try.ntmps6
    go_wp2_with (first | fail)
    refine Loose.wp_region_below 5 [] (by kernel_rfl) (by kernel_rfl) (by simp [undef]) ?_
    apply Exists.intro
    simp only [List.take_succ_cons, List.take_zero, List.drop_succ_cons, List.drop_zero]
    repeat (first | (apply Loose.walk_step; intro K hK; apply Loose.turn_value (hwant := rfl) (hd := rfl); (focus (intro w' hw'; obtain ⟨hc, hf⟩ := Fl.bcell hw'; go_simp; first | done | rfl | exact ⟨rfl, rfl⟩)); go_simp; refine hK _ ?_; clear hK K) | (apply Loose.walk_step; intro K hK; apply Loose.turn_callV (Nat.le_refl _) (hwant := rfl) (hd := rfl); (focus (intro w'; go_simp; first | done | rfl | exact ⟨rfl, rfl⟩)); (focus (intro w'; go_at_call 8; exact Vec.to_vector _ _ _ _ _ _ _ (by assumption) (by assumption) (by assumption))); intro x y z hx hy hz; go_simp; refine hK _ ?_; clear hK K) | (apply Loose.walk_step; intro K hK; apply Loose.turn_callD (Nat.le_refl _) (hwant := rfl) (hd := rfl); (focus (intro w'; go_simp; first | done | rfl | exact ⟨rfl, rfl⟩)); (focus (intro w'; go_at_call 16; exact SameV.top_same _ _ _ _ _ _ _ _ _ _ _ _ _ _ (by assumption) (by assumption) (by assumption) (by assumption) (by assumption) (by assumption) (by assumption))); skip; go_simp; refine hK _ ?_; clear hK K))
    refine Loose.walk_nil ?_
    intro w1 hcls1
    obtain ⟨hb1, _⟩ := hcls1
    obtain ⟨hc1, hf1⟩ := Fl.bcell hb1
    have hz1 := hb1.size
    try simp only [World.size_alloc, World.size_setCell, World.heap_drewN, World.size_drew] at hz1
    try (have g1_0 : w.heap.size < w1.heap.size := by omega)
    try (have l1_0 : w.heap.size ≤ w1.heap.size := by omega)
    try (have g1_1 : w.heap.size + 1 < w1.heap.size := by omega)
    try (have l1_1 : w.heap.size + 1 ≤ w1.heap.size := by omega)
    go_wp2_with (first | fail)
    refine Loose.wp_region_below 5 [] (by kernel_rfl) (by kernel_rfl) (by simp [undef]) ?_
    apply Exists.intro
    simp only [List.take_succ_cons, List.take_zero, List.drop_succ_cons, List.drop_zero]
    repeat (first | (apply Loose.walk_step; intro K hK; apply Loose.turn_value (hwant := rfl) (hd := rfl); (focus (intro w' hw'; obtain ⟨hc, hf⟩ := Fl.bcell hw'; go_simp; first | done | rfl | exact ⟨rfl, rfl⟩)); go_simp; refine hK _ ?_; clear hK K) | (apply Loose.walk_step; intro K hK; apply Loose.turn_callV (Nat.le_refl _) (hwant := rfl) (hd := rfl); (focus (intro w'; go_simp; first | done | rfl | exact ⟨rfl, rfl⟩)); (focus (intro w'; go_at_call 8; exact Vec.to_vector _ _ _ _ _ _ _ (by assumption) (by assumption) (by assumption))); intro x y z hx hy hz; go_simp; refine hK _ ?_; clear hK K) | (apply Loose.walk_step; intro K hK; apply Loose.turn_callD (Nat.le_refl _) (hwant := rfl) (hd := rfl); (focus (intro w'; go_simp; first | done | rfl | exact ⟨rfl, rfl⟩)); (focus (intro w'; go_at_call 17; exact SameV.impl_same _ _ _ _ _ _ _ _ _ _ _ _ _ _ (by assumption) (by assumption) (by assumption) (by assumption) (by assumption) (by assumption) (by assumption))); skip; go_simp; refine hK _ ?_; clear hK K))
    refine Loose.walk_nil ?_
    intro w2 hcls2
    obtain ⟨hb2, _⟩ := hcls2
    obtain ⟨hc2, hf2⟩ := Fl.bcell hb2
    have hz2 := hb2.size
    try simp only [World.size_alloc, World.size_setCell, World.heap_drewN, World.size_drew] at hz2
    try (have g2_0 : w.heap.size < w2.heap.size := by omega)
    try (have l2_0 : w.heap.size ≤ w2.heap.size := by omega)
    try (have g2_1 : w1.heap.size < w2.heap.size := by omega)
    try (have l2_1 : w1.heap.size ≤ w2.heap.size := by omega)
    go_wp2
    go_ret
    exact ⟨rfl, by (repeat' first | exact Below.refl _ _ | (refine Below.setCell ?_ (by first | omega | (simp; omega) | simp) _) | (refine below_drewN ?_ _) | (refine Below.alloc ?_ (by first | omega | (simp; omega) | simp) _) | (refine Below.trans ?_ (Below.mono (by assumption) (by first | omega | (simp; omega) | simp))))⟩
  · skip
    go_enter Try.func6, Try.ntmps6
    go_wp2_with (first | fail)
    refine Loose.wp_region_below 5 [] (by kernel_rfl) (by kernel_rfl) (by simp [undef]) ?_
    apply Exists.intro
    simp only [List.take_succ_cons, List.take_zero, List.drop_succ_cons, List.drop_zero]
    repeat (first | (apply Loose.walk_step; intro K hK; apply Loose.turn_value (hwant := rfl) (hd := rfl); (focus (intro w' hw'; obtain ⟨hc, hf⟩ := Fl.bcell hw'; go_simp; first | done | rfl | exact ⟨rfl, rfl⟩)); go_simp; refine hK _ ?_; clear hK K) | (apply Loose.walk_step; intro K hK; apply Loose.turn_callV (Nat.le_refl _) (hwant := rfl) (hd := rfl); (focus (intro w'; go_simp; first | done | rfl | exact ⟨rfl, rfl⟩)); (focus (intro w'; go_at_call 8; exact Vec.to_vector _ _ _ _ _ _ _ (by assumption) (by assumption) (by assumption))); intro x y z hx hy hz; go_simp; refine hK _ ?_; clear hK K) | (apply Loose.walk_step; intro K hK; apply Loose.turn_callD (Nat.le_refl _) (hwant := rfl) (hd := rfl); (focus (intro w'; go_simp; first | done | rfl | exact ⟨rfl, rfl⟩)); (focus (intro w'; go_at_call 16; exact SameV.top_same _ _ _ _ _ _ _ _ _ _ _ _ _ _ (by assumption) (by assumption) (by assumption) (by assumption) (by assumption) (by assumption) (by assumption))); skip; go_simp; refine hK _ ?_; clear hK K))
    refine Loose.walk_nil ?_
    intro w1 hcls1
    obtain ⟨hb1, _⟩ := hcls1
    obtain ⟨hc1, hf1⟩ := Fl.bcell hb1
    have hz1 := hb1.size
    try simp only [World.size_alloc, World.size_setCell, World.heap_drewN, World.size_drew] at hz1
    try (have g1_0 : w.heap.size < w1.heap.size := by omega)
    try (have l1_0 : w.heap.size ≤ w1.heap.size := by omega)
    try (have g1_1 : w.heap.size + 1 < w1.heap.size := by omega)
    try (have l1_1 : w.heap.size + 1 ≤ w1.heap.size := by omega)
    go_wp2_with (first | fail)
    refine Loose.wp_region_below 5 [] (by kernel_rfl) (by kernel_rfl) (by simp [undef]) ?_
    apply Exists.intro
    simp only [List.take_succ_cons, List.take_zero, List.drop_succ_cons, List.drop_zero]
    repeat (first | (apply Loose.walk_step; intro K hK; apply Loose.turn_value (hwant := rfl) (hd := rfl); (focus (intro w' hw'; obtain ⟨hc, hf⟩ := Fl.bcell hw'; go_simp; first | done | rfl | exact ⟨rfl, rfl⟩)); go_simp; refine hK _ ?_; clear hK K) | (apply Loose.walk_step; intro K hK; apply Loose.turn_callV (Nat.le_refl _) (hwant := rfl) (hd := rfl); (focus (intro w'; go_simp; first | done | rfl | exact ⟨rfl, rfl⟩)); (focus (intro w'; go_at_call 8; exact Vec.to_vector _ _ _ _ _ _ _ (by assumption) (by assumption) (by assumption))); intro x y z hx hy hz; go_simp; refine hK _ ?_; clear hK K) | (apply Loose.walk_step; intro K hK; apply Loose.turn_callD (Nat.le_refl _) (hwant := rfl) (hd := rfl); (focus (intro w'; go_simp; first | done | rfl | exact ⟨rfl, rfl⟩)); (focus (intro w'; go_at_call 17; exact SameV.impl_same _ _ _ _ _ _ _ _ _ _ _ _ _ _ (by assumption) (by assumption) (by assumption) (by assumption) (by assumption) (by assumption) (by assumption))); skip; go_simp; refine hK _ ?_; clear hK K))
    refine Loose.walk_nil ?_
    intro w2 hcls2
    obtain ⟨hb2, _⟩ := hcls2
    obtain ⟨hc2, hf2⟩ := Fl.bcell hb2
    have hz2 := hb2.size
    try simp only [World.size_alloc, World.size_setCell, World.heap_drewN, World.size_drew] at hz2
    try (have g2_0 : w.heap.size < w2.heap.size := by omega)
    try (have l2_0 : w.heap.size ≤ w2.heap.size := by omega)
    try (have g2_1 : w1.heap.size < w2.heap.size := by omega)
    try (have l2_1 : w1.heap.size ≤ w2.heap.size := by omega)
    go_wp2
    go_ret
    exact ⟨rfl, by (repeat' first | exact Below.refl _ _ | (refine Below.setCell ?_ (by first | omega | (simp; omega) | simp) _) | (refine below_drewN ?_ _) | (refine Below.alloc ?_ (by first | omega | (simp; omega) | simp) _) | (refine Below.trans ?_ (Below.mono (by assumption) (by first | omega | (simp; omega) | simp))))⟩

set_option maxRecDepth 100000 in
theorem lifted (os : Os) (started : os.Started) (H : Type) (enc : TypeId × Value → H) :
    ReturnsInHanded {} Try.checked os 6 .any (Rows.fnExactSameVectorSpec.pre6 enc Try.prog Try.f6 Rows.fnExactSameVectorRow.domain false) (Rows.fnExactSameVectorSpec.post enc Try.prog Try.f6 false true false false) := by
  refine returnsInHanded_of_change (C := Try.checked) own started (by kernel_rfl) Try.func6
    (ChangeSpec.witness6 (enc := enc) (C := Try.checked) false ⟨#[], #[.agg #[.float .f32 0, .float .f32 0, .float .f32 0], .agg #[.float .f32 0, .float .f32 0, .float .f32 0]], []⟩ 8 (by kernel_rfl) (by kernel_rfl) (by kernel_rfl) (by kernel_rfl)) ?_
  intro W base args ds gs before hval0 hW hcnd _
  have hval : ∀ (j : Nat) t v, Try.f6.params[j]? = some t → args[j]? = some v → Value.okWide Try.prog W .any base t v := hval0
  have hW' := hW
  obtain ⟨p, q, hA0, hV, rfl, hfz, hnd⟩ := hW
  have hA : DataW.TrodAll enc Try.prog W 0 (fun _ => true) true Try.f6.params.toList args.toList ds p := hA0
  rw [Try.params6] at hA hval
  obtain ⟨v0, vs0, d0, ds0, p0, q0, hargs, rfl, rfl, h0, r0⟩ := trodAll_cons hA
  obtain ⟨v1, vs1, d1, ds1, p1, q1, rfl, rfl, rfl, h1, r1⟩ := trodAll_cons r0
  obtain ⟨rfl, rfl, rfl⟩ := trodAll_nil r1
  obtain rfl : args = #[v0, v1] := by cases args; simp_all
  obtain ⟨rfl, rfl⟩ := trodVars_none hV
  have k0 := h0
  have lt0 : ∀ x ∈ p0, x.block < W.heap.size := by obtain ⟨m, hm⟩ := k0; exact DataW.trod_lt m _ _ _ hm
  obtain ⟨a0x, a0y, a0z, rfl, w0x, w0y, w0z⟩ := Frame.open_vec Try.underlying24 (by kernel_rfl) (by kernel_rfl) rfl rfl rfl Try.underlying22 (hval 0 24 v0 rfl rfl) h0
  have k1 := h1
  have lt1 : ∀ x ∈ p1, x.block < W.heap.size := by obtain ⟨m, hm⟩ := k1; exact DataW.trod_lt m _ _ _ hm
  obtain ⟨a1x, a1y, a1z, rfl, w1x, w1y, w1z⟩ := Frame.open_vec Try.underlying24 (by kernel_rfl) (by kernel_rfl) rfl rfl rfl Try.underlying22 (hval 1 24 v1 rfl rfl) h1
  clear hA0 hval0
  refine (walk a0x a0y a0z a1x a1y a1z W w0x w0y w0z w1x w1y w1z).mono fun e W' ⟨he, bel⟩ => ?_
  subst he
  exact ⟨_, rfl, _, _, _, [], _, [], hW', trodAll_mk1 (shut_bool Try.underlying4 _), (trodAll_cons_mk (Below.trod laidOut (by kernel_rfl) (of_decide_eq_true (by kernel_rfl)) k0 bel lt0) (trodAll_cons_mk (Below.trod laidOut (by kernel_rfl) (of_decide_eq_true (by kernel_rfl)) k1 bel lt1) trodAll_mk0)), rfl, bel.frame _, fun h => by cases h⟩

theorem over : Rows.fnExactSameVectorRow.holds Try.pinned (OpenSpec.ofChange Rows.fnExactSameVectorSpec) :=
  OpenClaim.holds_of_wide 6 Try.f6 rfl rfl rfl rfl rfl rfl rfl ⟨rfl, rfl, rfl, rfl, rfl⟩ rfl rfl rfl rfl rfl (by kernel_rfl) Try.func6 (by kernel_rfl)
    (of_decide_eq_true (by kernel_rfl)) (by unfold Func.isWrapper; first | (rw [if_pos (by decide +kernel)]; kernel_rfl) | (rw [if_neg (by decide +kernel)]; exact ⟨rfl, rfl⟩))
    (fun os started H enc _ => lifted os started H enc)

/-- The statement. -/
theorem proved : Rows.FnExactSameVectorSaid := over
#print axioms proved
end Go.Proofs.Ytfcpkjgnkkcchae.fnExactSameVector
