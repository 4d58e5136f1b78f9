/- 'FnExactScaleVector' returns true at every input, and every argument reads afterwards as before. No conditions. -/
import Derived.Test.YtfcpkjgnkkcchadRows
import Derived.WalkKit
import Derived.WalkLawsBesides
import Derived.ProofKit
import Derived.OpenShut
import Derived.ShutString
import Derived.ChangeOld
import Derived.Below
import Derived.Test.YtfcpkjgnkkcchadFrame
import Derived.Test.YtfcpkjgnkkcchadVec
namespace Go.Proofs.Ytfcpkjgnkkcchad.fnExactScaleVector
open Go.ChangeShapes Go.WideShapes Go.ChangeAt Go.RowKit
open Go.ChangeMaps (open_string shut_string)
set_option linter.unusedVariables false
set_option linter.unusedSimpArgs false

theorem own : ownKnob Try.prog.godebug = none := by kernel_rfl
theorem laidOut : laidOutB Try.prog = true := by kernel_rfl

set_option maxHeartbeats 800000 in
theorem walk (a0x a0y a0z : Nat) (a1 : Nat) (w : World) (w0x : (Lit.float .f32 a0x).wf = true) (w0y : (Lit.float .f32 a0y).wf = true) (w0z : (Lit.float .f32 a0z).wf = true) (w1 : (Lit.float .f32 a1).wf = true) :
    Calls Try.prog 11 #[.agg #[.float .f32 a0x, .float .f32 a0y, .float .f32 a0z], .float .f32 a1] w fun e w' => e = .returned (.bool true) ∧ Below w.heap.size w w' := by
  have fx0x := Fl.Fr.wf w0x
  have fx0y := Fl.Fr.wf w0y
  have fx0z := Fl.Fr.wf w0z
  have fq := Fl.Fr.wf w1
  clear w0x w0y w0z w1
  go_enter Try.func11, Try.ntmps11
  go_wp2_with fail
  refine (Vec.to_vector _ _ _ _ _ _ _ (by assumption) (by assumption) (by assumption)).mono ?_
  rintro e w1 ⟨x1, y1, z1, rfl, hx1, hy1, hv1, hb1⟩
  have hz1 := hb1.size
  try simp only [World.size_alloc, World.size_setCell, World.heap_drewN, World.size_drew] at hz1
  obtain ⟨hc1, hf1⟩ := Fl.bcell hb1
  try (have g1_0 : w.heap.size < w1.heap.size := by omega)
  try (have l1_0 : w.heap.size ≤ w1.heap.size := by omega)
  go_wp2_with fail
  refine (Vec.top_scale _ _ _ _ _ _ _ _ _ (by assumption) (by assumption) (by assumption) (by assumption)).mono ?_
  rintro e w2 ⟨x2, y2, z2, rfl, hx2, hy2, hv2, hb2⟩
  have hz2 := hb2.size
  try simp only [World.size_alloc, World.size_setCell, World.heap_drewN, World.size_drew] at hz2
  obtain ⟨hc2, hf2⟩ := Fl.bcell hb2
  try (have g2_0 : w.heap.size < w2.heap.size := by omega)
  try (have l2_0 : w.heap.size ≤ w2.heap.size := by omega)
  try (have g2_1 : w1.heap.size < w2.heap.size := by omega)
  try (have l2_1 : w1.heap.size ≤ w2.heap.size := by omega)
  go_wp2_with fail
  refine (Vec.to_vector _ _ _ _ _ _ _ (by assumption) (by assumption) (by assumption)).mono ?_
  rintro e w3 ⟨x3, y3, z3, rfl, hx3, hy3, hv3, hb3⟩
  have hz3 := hb3.size
  try simp only [World.size_alloc, World.size_setCell, World.heap_drewN, World.size_drew] at hz3
  obtain ⟨hc3, hf3⟩ := Fl.bcell hb3
  try (have g3_0 : w.heap.size < w3.heap.size := by omega)
  try (have l3_0 : w.heap.size ≤ w3.heap.size := by omega)
  try (have g3_1 : w1.heap.size < w3.heap.size := by omega)
  try (have l3_1 : w1.heap.size ≤ w3.heap.size := by omega)
  try (have g3_2 : w2.heap.size < w3.heap.size := by omega)
  try (have l3_2 : w2.heap.size ≤ w3.heap.size := by omega)
  go_wp2_with fail
  refine (Vec.impl_scale _ _ _ _ _ _ _ _ _ (by assumption) (by assumption) (by assumption) (by assumption)).mono ?_
  rintro e w4 ⟨x4, y4, z4, rfl, hx4, hy4, hv4, hb4⟩
  have hz4 := hb4.size
  try simp only [World.size_alloc, World.size_setCell, World.heap_drewN, World.size_drew] at hz4
  obtain ⟨hc4, hf4⟩ := Fl.bcell hb4
  try (have g4_0 : w.heap.size < w4.heap.size := by omega)
  try (have l4_0 : w.heap.size ≤ w4.heap.size := by omega)
  try (have g4_1 : w1.heap.size < w4.heap.size := by omega)
  try (have l4_1 : w1.heap.size ≤ w4.heap.size := by omega)
  try (have g4_2 : w2.heap.size < w4.heap.size := by omega)
  try (have l4_2 : w2.heap.size ≤ w4.heap.size := by omega)
  try (have g4_3 : w3.heap.size < w4.heap.size := by omega)
  try (have l4_3 : w3.heap.size ≤ w4.heap.size := by omega)
  go_wp2_with (first | (go_at_call 31; refine (Vec.eq_vector _ _ _ _ _ _ _ _ _ _ (by assumption) (by assumption) (by assumption) (by assumption) (by assumption) (by assumption)).mono ?_; rintro e w' ⟨rfl, hb⟩; have hz := hb.size; try simp only [World.size_alloc, World.size_setCell, World.heap_drewN, World.size_drew] at hz; obtain ⟨hc, hf⟩ := Fl.bcell hb; try (have g : w.heap.size < w'.heap.size := by omega); try (have g : w.heap.size ≤ w'.heap.size := by omega)))
  go_ret
  exact ⟨rfl, by (repeat' first | exact Below.refl _ _ | (refine Below.setCell ?_ (by first | omega | (simp; omega) | simp) _) | (refine below_drewN ?_ _) | (refine Below.alloc ?_ (by first | omega | (simp; omega) | simp) _) | (refine Below.trans ?_ (Below.mono (by assumption) (by first | omega | (simp; omega) | simp))))⟩

set_option maxRecDepth 100000 in
theorem lifted (os : Os) (started : os.Started) (H : Type) (enc : TypeId × Value → H) :
    ReturnsInHanded {} Try.checked os 11 .any (Rows.fnExactScaleVectorSpec.pre6 enc Try.prog Try.f11 Rows.fnExactScaleVectorRow.domain false) (Rows.fnExactScaleVectorSpec.post enc Try.prog Try.f11 false true false false) := by
  refine returnsInHanded_of_change (C := Try.checked) own started (by kernel_rfl) Try.func11
    (ChangeSpec.witness6 (enc := enc) (C := Try.checked) false ⟨#[], #[.agg #[.float .f32 0, .float .f32 0, .float .f32 0], .float .f32 0], []⟩ 8 (by kernel_rfl) (by kernel_rfl) (by kernel_rfl) (by kernel_rfl)) ?_
  intro W base args ds gs before hval0 hW hcnd _
  have hval : ∀ (j : Nat) t v, Try.f11.params[j]? = some t → args[j]? = some v → Value.okWide Try.prog W .any base t v := hval0
  have hW' := hW
  obtain ⟨p, q, hA0, hV, rfl, hfz, hnd⟩ := hW
  have hA : DataW.TrodAll enc Try.prog W 0 (fun _ => true) true Try.f11.params.toList args.toList ds p := hA0
  rw [Try.params11] at hA hval
  obtain ⟨v0, vs0, d0, ds0, p0, q0, hargs, rfl, rfl, h0, r0⟩ := trodAll_cons hA
  obtain ⟨v1, vs1, d1, ds1, p1, q1, rfl, rfl, rfl, h1, r1⟩ := trodAll_cons r0
  obtain ⟨rfl, rfl, rfl⟩ := trodAll_nil r1
  obtain rfl : args = #[v0, v1] := by cases args; simp_all
  obtain ⟨rfl, rfl⟩ := trodVars_none hV
  have k0 := h0
  have lt0 : ∀ x ∈ p0, x.block < W.heap.size := by obtain ⟨m, hm⟩ := k0; exact DataW.trod_lt m _ _ _ hm
  obtain ⟨a0x, a0y, a0z, rfl, w0x, w0y, w0z⟩ := Frame.open_vec Try.underlying37 (by kernel_rfl) (by kernel_rfl) rfl rfl rfl Try.underlying22 (hval 0 37 v0 rfl rfl) h0
  have k1 := h1
  have lt1 : ∀ x ∈ p1, x.block < W.heap.size := by obtain ⟨m, hm⟩ := k1; exact DataW.trod_lt m _ _ _ hm
  obtain ⟨a1, rfl, e1, _, w1⟩ := open_float Try.underlying22 (hval 1 22 v1 rfl rfl) h1
  clear hA0 hval0
  refine (walk a0x a0y a0z a1 W w0x w0y w0z w1).mono fun e W' ⟨he, bel⟩ => ?_
  subst he
  exact ⟨_, rfl, _, _, _, [], _, [], hW', trodAll_mk1 (shut_bool Try.underlying4 _), (trodAll_cons_mk (Below.trod laidOut (by kernel_rfl) (of_decide_eq_true (by kernel_rfl)) k0 bel lt0) (trodAll_cons_mk (Below.trod laidOut (by kernel_rfl) (of_decide_eq_true (by kernel_rfl)) k1 bel lt1) trodAll_mk0)), rfl, bel.frame _, fun h => by cases h⟩

theorem over : Rows.fnExactScaleVectorRow.holds Try.pinned (OpenSpec.ofChange Rows.fnExactScaleVectorSpec) :=
  OpenClaim.holds_of_wide 11 Try.f11 rfl rfl rfl rfl rfl rfl rfl ⟨rfl, rfl, rfl, rfl, rfl⟩ rfl rfl rfl rfl rfl (by kernel_rfl) Try.func11 (by kernel_rfl)
    (of_decide_eq_true (by kernel_rfl)) (by unfold Func.isWrapper; first | (rw [if_pos (by decide +kernel)]; kernel_rfl) | (rw [if_neg (by decide +kernel)]; exact ⟨rfl, rfl⟩))
    (fun os started H enc _ => lifted os started H enc)

/-- The statement. -/
theorem proved : Rows.FnExactScaleVectorSaid := over
#print axioms proved
end Go.Proofs.Ytfcpkjgnkkcchad.fnExactScaleVector
