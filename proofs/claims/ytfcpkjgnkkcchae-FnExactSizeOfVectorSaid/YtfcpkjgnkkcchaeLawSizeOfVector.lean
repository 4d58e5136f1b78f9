/- 'FnExactSizeOfVector' returns true at every input, and every argument reads afterwards as before. No conditions. -/
import Derived.Test.YtfcpkjgnkkcchaeRows
import Derived.WalkKit
import Derived.WalkLawsBesides
import Derived.ProofKit
import Derived.OpenShut
import Derived.ShutString
import Derived.ChangeOld
import Derived.Below
import Derived.Test.YtfcpkjgnkkcchaeFrame
import Derived.Test.YtfcpkjgnkkcchaeVec
import Derived.Test.YtfcpkjgnkkcchaeSize
namespace Go.Proofs.Ytfcpkjgnkkcchae.fnExactSizeOfVector
open Go.ChangeShapes Go.WideShapes Go.ChangeAt Go.RowKit
open Go.ChangeMaps (open_string shut_string)
set_option linter.unusedVariables false
set_option linter.unusedSimpArgs false

theorem own : ownKnob Try.prog.godebug = none := by kernel_rfl
theorem laidOut : laidOutB Try.prog = true := by kernel_rfl

set_option maxHeartbeats 800000 in
theorem walk (a0x a0y a0z : Nat) (w : World) (w0x : (Lit.float .f32 a0x).wf = true) (w0y : (Lit.float .f32 a0y).wf = true) (w0z : (Lit.float .f32 a0z).wf = true) :
    Calls Try.prog 4 #[.agg #[.float .f32 a0x, .float .f32 a0y, .float .f32 a0z]] w fun e w' => e = .returned (.bool true) ∧ Below w.heap.size w w' := by
  have fx0x := Fl.Fr.wf w0x
  have fx0y := Fl.Fr.wf w0y
  have fx0z := Fl.Fr.wf w0z
  clear w0x w0y w0z
  go_enter Try.func4, Try.ntmps4
  go_wp2_with fail
  refine (Vec.to_vector _ _ _ _ _ _ _ (by assumption) (by assumption) (by assumption)).mono ?_
  rintro e w1 ⟨x1, y1, z1, rfl, hx1, hy1, hv1, hb1⟩
  have hz1 := hb1.size
  try simp only [World.size_alloc, World.size_setCell, World.heap_drewN, World.size_drew] at hz1
  obtain ⟨hc1, hf1⟩ := Fl.bcell hb1
  try (have g1_0 : w.heap.size < w1.heap.size := by omega)
  try (have l1_0 : w.heap.size ≤ w1.heap.size := by omega)
  go_wp2_with fail
  refine (Size.top_size _ _ _ _ _ _ _ (by assumption) (by assumption) (by assumption)).mono ?_
  rintro e w2 ⟨r2, rfl, hr2, hb2⟩
  have hz2 := hb2.size
  try simp only [World.size_alloc, World.size_setCell, World.heap_drewN, World.size_drew] at hz2
  obtain ⟨hc2, hf2⟩ := Fl.bcell hb2
  try (have g2_0 : w.heap.size < w2.heap.size := by omega)
  try (have l2_0 : w.heap.size ≤ w2.heap.size := by omega)
  try (have g2_1 : w1.heap.size < w2.heap.size := by omega)
  try (have l2_1 : w1.heap.size ≤ w2.heap.size := by omega)
  go_wp2_with fail
  refine (Vec.to_vector _ _ _ _ _ _ _ (by assumption) (by assumption) (by assumption)).mono ?_
  rintro e w3 ⟨x3, y3, z3, rfl, hx3, hy3, hv3, hb3⟩
  have hz3 := hb3.size
  try simp only [World.size_alloc, World.size_setCell, World.heap_drewN, World.size_drew] at hz3
  obtain ⟨hc3, hf3⟩ := Fl.bcell hb3
  try (have g3_0 : w.heap.size < w3.heap.size := by omega)
  try (have l3_0 : w.heap.size ≤ w3.heap.size := by omega)
  try (have g3_1 : w1.heap.size < w3.heap.size := by omega)
  try (have l3_1 : w1.heap.size ≤ w3.heap.size := by omega)
  try (have g3_2 : w2.heap.size < w3.heap.size := by omega)
  try (have l3_2 : w2.heap.size ≤ w3.heap.size := by omega)
  go_wp2_with fail
  refine (Size.impl_size _ _ _ _ _ _ _ (by assumption) (by assumption) (by assumption)).mono ?_
  rintro e w4 ⟨r4, rfl, hr4, hb4⟩
  have hz4 := hb4.size
  try simp only [World.size_alloc, World.size_setCell, World.heap_drewN, World.size_drew] at hz4
  obtain ⟨hc4, hf4⟩ := Fl.bcell hb4
  try (have g4_0 : w.heap.size < w4.heap.size := by omega)
  try (have l4_0 : w.heap.size ≤ w4.heap.size := by omega)
  try (have g4_1 : w1.heap.size < w4.heap.size := by omega)
  try (have l4_1 : w1.heap.size ≤ w4.heap.size := by omega)
  try (have g4_2 : w2.heap.size < w4.heap.size := by omega)
  try (have l4_2 : w2.heap.size ≤ w4.heap.size := by omega)
  try (have g4_3 : w3.heap.size < w4.heap.size := by omega)
  try (have l4_3 : w3.heap.size ≤ w4.heap.size := by omega)
  go_wp2_with (first | (go_at_call 13; refine (Same.same_true _ _ _ _ (by assumption) (by assumption)).mono ?_; rintro e w' ⟨n, rfl, rfl⟩) | (refine Fl.wpList_conv rfl rfl rfl (by kernel_rfl) Try.underlying32 (by assumption) (Fl.fits_wide _) ?_; intro r n hr))
  go_ret
  exact ⟨rfl, by (repeat' first | exact Below.refl _ _ | (refine Below.setCell ?_ (by first | omega | (simp; omega) | simp) _) | (refine below_drewN ?_ _) | (refine Below.alloc ?_ (by first | omega | (simp; omega) | simp) _) | (refine Below.trans ?_ (Below.mono (by assumption) (by first | omega | (simp; omega) | simp))))⟩

set_option maxRecDepth 100000 in
theorem lifted (os : Os) (started : os.Started) (H : Type) (enc : TypeId × Value → H) :
    ReturnsInHanded {} Try.checked os 4 .any (Rows.fnExactSizeOfVectorSpec.pre6 enc Try.prog Try.f4 Rows.fnExactSizeOfVectorRow.domain false) (Rows.fnExactSizeOfVectorSpec.post enc Try.prog Try.f4 false true false false) := by
  refine returnsInHanded_of_change (C := Try.checked) own started (by kernel_rfl) Try.func4
    (ChangeSpec.witness6 (enc := enc) (C := Try.checked) false ⟨#[], #[.agg #[.float .f32 0, .float .f32 0, .float .f32 0]], []⟩ 8 (by kernel_rfl) (by kernel_rfl) (by kernel_rfl) (by kernel_rfl)) ?_
  intro W base args ds gs before hval0 hW hcnd _
  have hval : ∀ (j : Nat) t v, Try.f4.params[j]? = some t → args[j]? = some v → Value.okWide Try.prog W .any base t v := hval0
  have hW' := hW
  obtain ⟨p, q, hA0, hV, rfl, hfz, hnd⟩ := hW
  have hA : DataW.TrodAll enc Try.prog W 0 (fun _ => true) true Try.f4.params.toList args.toList ds p := hA0
  rw [Try.params4] at hA hval
  obtain ⟨v0, vs0, d0, ds0, p0, q0, hargs, rfl, rfl, h0, r0⟩ := trodAll_cons hA
  obtain ⟨rfl, rfl, rfl⟩ := trodAll_nil r0
  obtain rfl : args = #[v0] := by cases args; simp_all
  obtain ⟨rfl, rfl⟩ := trodVars_none hV
  have k0 := h0
  have lt0 : ∀ x ∈ p0, x.block < W.heap.size := by obtain ⟨m, hm⟩ := k0; exact DataW.trod_lt m _ _ _ hm
  obtain ⟨a0x, a0y, a0z, rfl, w0x, w0y, w0z⟩ := Frame.open_vec Try.underlying24 (by kernel_rfl) (by kernel_rfl) rfl rfl rfl Try.underlying22 (hval 0 24 v0 rfl rfl) h0
  clear hA0 hval0
  refine (walk a0x a0y a0z W w0x w0y w0z).mono fun e W' ⟨he, bel⟩ => ?_
  subst he
  exact ⟨_, rfl, _, _, _, [], _, [], hW', trodAll_mk1 (shut_bool Try.underlying4 _), (trodAll_cons_mk (Below.trod laidOut (by kernel_rfl) (of_decide_eq_true (by kernel_rfl)) k0 bel lt0) trodAll_mk0), rfl, bel.frame _, fun h => by cases h⟩

theorem over : Rows.fnExactSizeOfVectorRow.holds Try.pinned (OpenSpec.ofChange Rows.fnExactSizeOfVectorSpec) :=
  OpenClaim.holds_of_wide 4 Try.f4 rfl rfl rfl rfl rfl rfl rfl ⟨rfl, rfl, rfl, rfl, rfl⟩ rfl rfl rfl rfl rfl (by kernel_rfl) Try.func4 (by kernel_rfl)
    (of_decide_eq_true (by kernel_rfl)) (by unfold Func.isWrapper; first | (rw [if_pos (by decide +kernel)]; kernel_rfl) | (rw [if_neg (by decide +kernel)]; exact ⟨rfl, rfl⟩))
    (fun os started H enc _ => lifted os started H enc)

/-- The statement. -/
theorem proved : Rows.FnExactSizeOfVectorSaid := over
#print axioms proved
end Go.Proofs.Ytfcpkjgnkkcchae.fnExactSizeOfVector
