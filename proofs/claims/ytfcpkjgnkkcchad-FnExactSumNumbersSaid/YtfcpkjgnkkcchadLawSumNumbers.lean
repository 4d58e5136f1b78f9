/- 'FnExactSumNumbers' returns true at every input, and every argument reads afterwards as before. No conditions. -/
import Derived.Test.YtfcpkjgnkkcchadRows
import Derived.WalkKit
import Derived.WalkLawsBesides
import Derived.ProofKit
import Derived.OpenShut
import Derived.ShutString
import Derived.ChangeOld
import Derived.Below
import Derived.Test.YtfcpkjgnkkcchadFrame
import Derived.Test.YtfcpkjgnkkcchadNums
namespace Go.Proofs.Ytfcpkjgnkkcchad.fnExactSumNumbers
open Go.ChangeShapes Go.WideShapes Go.ChangeAt Go.RowKit
open Go.ChangeMaps (open_string shut_string)
set_option linter.unusedVariables false
set_option linter.unusedSimpArgs false

theorem own : ownKnob Try.prog.godebug = none := by kernel_rfl
theorem laidOut : laidOutB Try.prog = true := by kernel_rfl

set_option maxHeartbeats 1600000 in
theorem walk (a0 : Option Addr) (len0 cap0 : Nat) (z0 : List Nat) (w : World) (w0 : Frame.IsNums .f32 w a0 len0 cap0 z0) :
    Calls Try.prog 6 #[.slice a0 len0 cap0] w fun e w' => e = .returned (.bool true) ∧ Below w.heap.size w w' := by
  have hmx : len0 ≤ 9223372036854775807 := by have h2 := w0.2.1; have h3 := w0.2.2.1; unfold maxLen at h3; omega
  have hzl := w0.1
  have W0 := Lib.hid w0
  have HZ := Lib.hid hzl; clear w0 hzl
  by_cases hbig : len0 ≤ 1048576
  · have hb1 : ¬ (1048576 : Int) < (len0 : Int) := by omega
    go_enter Try.func6, Try.ntmps6
    go_wp2_with fail
    refine (Nums.to_floats _ _ _ _ _ W0.out hbig).mono ?_
    rintro e w1 ⟨a1, cap1, rfl, hn1, hx1⟩
    rw [HZ.out] at hn1 ⊢
    have N1 := Lib.hid hn1; clear hn1
    go_wp2_with (go_at_call 20; refine (Nums.spec_sumn _ _ _ _ _ N1.out).mono ?_; rintro e w2 ⟨r2, rfl, hr2, hx2⟩)
    have N2 := Lib.hid ((W0.out.later hx1).later hx2)
    go_wp2_with fail
    refine (Nums.to_floats _ _ _ _ _ N2.out hbig).mono ?_
    rintro e w3 ⟨a3, cap3, rfl, hn3, hx3⟩
    rw [HZ.out] at hn3 ⊢
    have N3 := Lib.hid hn3; clear hn3
    go_wp2_with (first | (go_at_call 52; refine (Nums.impl_sumn _ _ _ _ _ N3.out).mono ?_; rintro e w4 ⟨r4, rfl, hr4, hx4⟩) | (go_at_call 22; go_in) | (go_at_call 15; refine (Nums.same_ret _ _ _ _ (by assumption) (by assumption)).mono ?_; rintro e w5 ⟨rfl, hx5⟩) | (refine Fl.wpList_conv rfl rfl rfl (by kernel_rfl) Try.underlying25 (by assumption) (Fl.fits_wide _) ?_; intro r n hr))
    have hx45 : Below w4.heap.size w4 w5 := (below_drewN (Below.refl _ _) _).trans hx5
    have hx15 := Nums.seq (Nums.seq (Nums.seq (Nums.seq hx1 hx2) hx3) hx4) hx45
    refine (Nums.to_floats _ _ _ _ _ (W0.out.later hx15) hbig).mono ?_
    rintro e w6 ⟨a6, cap6, rfl, hn6, hx6⟩
    rw [HZ.out] at hn6 ⊢
    have N6 := Lib.hid hn6; clear hn6
    go_wp2_with (go_at_call 23; refine (Nums.eq_floats _ _ _ _ _ _ _ _ (((N3.out.later hx4).later hx45).later hx6) N6.out (fun _ _ => rfl)).mono ?_; rintro e w7 ⟨rfl, hx7⟩)
    go_ret
    exact ⟨rfl, Nums.seq (Nums.seq hx15 hx6) hx7⟩
  · have hb1 : (1048576 : Int) < (len0 : Int) := by omega
    go_enter Try.func6, Try.ntmps6
    go_wp2
    go_ret
    exact ⟨rfl, Below.refl _ _⟩

set_option maxRecDepth 100000 in
theorem lifted (os : Os) (started : os.Started) (H : Type) (enc : TypeId × Value → H) :
    ReturnsInHanded {} Try.checked os 6 .any (Rows.fnExactSumNumbersSpec.pre6 enc Try.prog Try.f6 Rows.fnExactSumNumbersRow.domain false) (Rows.fnExactSumNumbersSpec.post enc Try.prog Try.f6 false true false false) := by
  refine returnsInHanded_of_change (C := Try.checked) own started (by kernel_rfl) Try.func6
    (ChangeSpec.witness6 (enc := enc) (C := Try.checked) false ⟨#[], #[.slice none 0 0], []⟩ 8 (by kernel_rfl) (by kernel_rfl) (by kernel_rfl) (by kernel_rfl)) ?_
  intro W base args ds gs before hval0 hW hcnd _
  have hval : ∀ (j : Nat) t v, Try.f6.params[j]? = some t → args[j]? = some v → Value.okWide Try.prog W .any base t v := hval0
  have hW' := hW
  obtain ⟨p, q, hA0, hV, rfl, hfz, hnd⟩ := hW
  have hA : DataW.TrodAll enc Try.prog W 0 (fun _ => true) true Try.f6.params.toList args.toList ds p := hA0
  rw [Try.params6] at hA hval
  obtain ⟨v0, vs0, d0, ds0, p0, q0, hargs, rfl, rfl, h0, r0⟩ := trodAll_cons hA
  obtain ⟨rfl, rfl, rfl⟩ := trodAll_nil r0
  obtain rfl : args = #[v0] := by cases args; simp_all
  obtain ⟨rfl, rfl⟩ := trodVars_none hV
  have k0 := h0
  have lt0 : ∀ x ∈ p0, x.block < W.heap.size := by obtain ⟨m, hm⟩ := k0; exact DataW.trod_lt m _ _ _ hm
  obtain ⟨a0, len0, cap0, rfl⟩ := okWide_slice Try.underlying29 (hval 0 29 v0 rfl rfl)
  obtain ⟨z0, w0⟩ := Frame.open_nums Try.underlying29 Try.underlying22 (by kernel_rfl) h0
  clear hA0 hval0
  refine (walk a0 len0 cap0 z0 W w0).mono fun e W' ⟨he, bel⟩ => ?_
  subst he
  exact ⟨_, rfl, _, _, _, [], _, [], hW', trodAll_mk1 (shut_bool Try.underlying4 _), (trodAll_cons_mk (Below.trod laidOut (by kernel_rfl) (of_decide_eq_true (by kernel_rfl)) k0 bel lt0) trodAll_mk0), rfl, bel.frame _, fun h => by cases h⟩

theorem over : Rows.fnExactSumNumbersRow.holds Try.pinned (OpenSpec.ofChange Rows.fnExactSumNumbersSpec) :=
  OpenClaim.holds_of_wide 6 Try.f6 rfl rfl rfl rfl rfl rfl rfl ⟨rfl, rfl, rfl, rfl, rfl⟩ rfl rfl rfl rfl rfl (by kernel_rfl) Try.func6 (by kernel_rfl)
    (of_decide_eq_true (by kernel_rfl)) (by unfold Func.isWrapper; first | (rw [if_pos (by decide +kernel)]; kernel_rfl) | (rw [if_neg (by decide +kernel)]; exact ⟨rfl, rfl⟩))
    (fun os started H enc _ => lifted os started H enc)

/-- The statement. -/
theorem proved : Rows.FnExactSumNumbersSaid := over
#print axioms proved
end Go.Proofs.Ytfcpkjgnkkcchad.fnExactSumNumbers
