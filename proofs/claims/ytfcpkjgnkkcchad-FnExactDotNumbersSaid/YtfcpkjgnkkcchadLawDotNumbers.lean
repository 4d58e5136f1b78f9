/- 'FnExactDotNumbers' returns true at every input, and every argument reads afterwards as before. No conditions. -/
import Derived.Test.YtfcpkjgnkkcchadRows
import Derived.WalkKit
import Derived.WalkLawsBesides
import Derived.ProofKit
import Derived.OpenShut
import Derived.ShutString
import Derived.ChangeOld
import Derived.Below
import Derived.Test.YtfcpkjgnkkcchadFrame
import Derived.Test.YtfcpkjgnkkcchadNums
namespace Go.Proofs.Ytfcpkjgnkkcchad.fnExactDotNumbers
open Go.ChangeShapes Go.WideShapes Go.ChangeAt Go.RowKit
open Go.ChangeMaps (open_string shut_string)
set_option linter.unusedVariables false
set_option linter.unusedSimpArgs false

theorem own : ownKnob Try.prog.godebug = none := by kernel_rfl
theorem laidOut : laidOutB Try.prog = true := by kernel_rfl

set_option maxHeartbeats 3200000 in
theorem walk (a0 : Option Addr) (len0 cap0 : Nat) (z0 : List Nat) (a1 : Option Addr) (len1 cap1 : Nat) (z1 : List Nat) (w : World) (w0 : Frame.IsNums .f32 w a0 len0 cap0 z0) (w1 : Frame.IsNums .f32 w a1 len1 cap1 z1) :
    Calls Try.prog 7 #[.slice a0 len0 cap0, .slice a1 len1 cap1] w fun e w' => e = .returned (.bool true) ∧ Below w.heap.size w w' := by
  have hmx : len0 ≤ 9223372036854775807 := by have h2 := w0.2.1; have h3 := w0.2.2.1; unfold maxLen at h3; omega
  have hmy : len1 ≤ 9223372036854775807 := by have h2 := w1.2.1; have h3 := w1.2.2.1; unfold maxLen at h3; omega
  have hzl := w0.1
  have hyl := w1.1
  have W0 := Lib.hid w0
  have W1 := Lib.hid w1
  have HZ := Lib.hid hzl
  have HY := Lib.hid hyl; clear w0 w1 hzl hyl
  by_cases hbig : len0 ≤ 1048576
  · have hb0 : ¬ (1048576 : Int) < (len0 : Int) := by omega
    by_cases hbig' : len1 ≤ 1048576
    · have hb1 : ¬ (1048576 : Int) < (len1 : Int) := by omega
      go_enter Try.func7, Try.ntmps7
      go_wp2_with fail
      refine (Nums.to_floats _ _ _ _ _ W0.out hbig).mono ?_
      rintro e w1 ⟨c1, cap1, rfl, hn1, hx1⟩
      rw [HZ.out] at hn1 ⊢
      have N1 := Lib.hid hn1; clear hn1
      go_wp2_with fail
      refine (Nums.to_floats _ _ _ _ _ (W1.out.later hx1) hbig').mono ?_
      rintro e w2 ⟨c2, cap2, rfl, hn2, hx2⟩
      rw [HY.out] at hn2 ⊢
      have N2 := Lib.hid hn2; clear hn2
      go_wp2_with (go_at_call 24; refine (Nums.spec_dotn _ _ _ _ _ _ _ _ _ (N1.out.later hx2) N2.out).mono ?_; rintro e w3 ⟨r3, rfl, hr3, hx3⟩)
      have hx13 := (Nums.seq (Nums.seq hx1 hx2) hx3)
      refine (Nums.to_floats _ _ _ _ _ (W0.out.later hx13) hbig).mono ?_
      rintro e w4 ⟨c4, cap4, rfl, hn4, hx4⟩
      rw [HZ.out] at hn4 ⊢
      have N4 := Lib.hid hn4; clear hn4
      go_wp2_with fail
      refine (Nums.to_floats _ _ _ _ _ ((W1.out.later hx13).later hx4) hbig').mono ?_
      rintro e w5 ⟨c5, cap5, rfl, hn5, hx5⟩
      rw [HY.out] at hn5 ⊢
      have N5 := Lib.hid hn5; clear hn5
      go_wp2_with (first | (go_at_call 25; refine (Nums.impl_dotn _ _ _ _ _ _ _ _ _ (N4.out.later hx5) N5.out).mono ?_; rintro e w6 ⟨r6, rfl, hr6, hx6⟩) | (go_at_call 15; refine (Nums.same_ret _ _ _ _ (by assumption) (by assumption)).mono ?_; rintro e w7 ⟨rfl, hx7⟩) | (refine Fl.wpList_conv rfl rfl rfl (by kernel_rfl) Try.underlying25 (by assumption) (Fl.fits_wide _) ?_; intro r n hr))
      have hx67 : Below w6.heap.size w6 w7 := (below_drewN (Below.refl _ _) _).trans hx7
      have hx17 := (Nums.seq (Nums.seq (Nums.seq (Nums.seq hx13 hx4) hx5) hx6) hx67)
      refine (Nums.to_floats _ _ _ _ _ (W0.out.later hx17) hbig).mono ?_
      rintro e w8 ⟨c8, cap8, rfl, hn8, hx8⟩
      rw [HZ.out] at hn8 ⊢
      have N8 := Lib.hid hn8; clear hn8
      go_wp2_with (go_at_call 23; refine (Nums.eq_floats _ _ _ _ _ _ _ _ ((((N4.out.later hx5).later hx6).later hx67).later hx8) N8.out (fun _ _ => rfl)).mono ?_; rintro e w9 ⟨rfl, hx9⟩)
      refine (Nums.to_floats _ _ _ _ _ (((W1.out.later hx17).later hx8).later hx9) hbig').mono ?_
      rintro e w10 ⟨c10, cap10, rfl, hn10, hx10⟩
      rw [HY.out] at hn10 ⊢
      have N10 := Lib.hid hn10; clear hn10
      go_wp2_with (go_at_call 23; refine (Nums.eq_floats _ _ _ _ _ _ _ _ (((((N5.out.later hx6).later hx67).later hx8).later hx9).later hx10) N10.out (fun _ _ => rfl)).mono ?_; rintro e w11 ⟨rfl, hx11⟩)
      go_ret
      exact ⟨rfl, (Nums.seq (Nums.seq (Nums.seq (Nums.seq hx17 hx8) hx9) hx10) hx11)⟩
    · have hb1 : (1048576 : Int) < (len1 : Int) := by omega
      go_enter Try.func7, Try.ntmps7
      go_wp2
      go_ret
      exact ⟨rfl, Below.refl _ _⟩
  · have hb1 : (1048576 : Int) < (len0 : Int) := by omega
    go_enter Try.func7, Try.ntmps7
    go_wp2
    go_ret
    exact ⟨rfl, Below.refl _ _⟩

set_option maxRecDepth 100000 in
theorem lifted (os : Os) (started : os.Started) (H : Type) (enc : TypeId × Value → H) :
    ReturnsInHanded {} Try.checked os 7 .any (Rows.fnExactDotNumbersSpec.pre6 enc Try.prog Try.f7 Rows.fnExactDotNumbersRow.domain false) (Rows.fnExactDotNumbersSpec.post enc Try.prog Try.f7 false true false false) := by
  refine returnsInHanded_of_change (C := Try.checked) own started (by kernel_rfl) Try.func7
    (ChangeSpec.witness6 (enc := enc) (C := Try.checked) false ⟨#[], #[.slice none 0 0, .slice none 0 0], []⟩ 8 (by kernel_rfl) (by kernel_rfl) (by kernel_rfl) (by kernel_rfl)) ?_
  intro W base args ds gs before hval0 hW hcnd _
  have hval : ∀ (j : Nat) t v, Try.f7.params[j]? = some t → args[j]? = some v → Value.okWide Try.prog W .any base t v := hval0
  have hW' := hW
  obtain ⟨p, q, hA0, hV, rfl, hfz, hnd⟩ := hW
  have hA : DataW.TrodAll enc Try.prog W 0 (fun _ => true) true Try.f7.params.toList args.toList ds p := hA0
  rw [Try.params7] at hA hval
  obtain ⟨v0, vs0, d0, ds0, p0, q0, hargs, rfl, rfl, h0, r0⟩ := trodAll_cons hA
  obtain ⟨v1, vs1, d1, ds1, p1, q1, rfl, rfl, rfl, h1, r1⟩ := trodAll_cons r0
  obtain ⟨rfl, rfl, rfl⟩ := trodAll_nil r1
  obtain rfl : args = #[v0, v1] := by cases args; simp_all
  obtain ⟨rfl, rfl⟩ := trodVars_none hV
  have k0 := h0
  have lt0 : ∀ x ∈ p0, x.block < W.heap.size := by obtain ⟨m, hm⟩ := k0; exact DataW.trod_lt m _ _ _ hm
  obtain ⟨a0, len0, cap0, rfl⟩ := okWide_slice Try.underlying29 (hval 0 29 v0 rfl rfl)
  obtain ⟨z0, w0⟩ := Frame.open_nums Try.underlying29 Try.underlying22 (by kernel_rfl) h0
  have k1 := h1
  have lt1 : ∀ x ∈ p1, x.block < W.heap.size := by obtain ⟨m, hm⟩ := k1; exact DataW.trod_lt m _ _ _ hm
  obtain ⟨a1, len1, cap1, rfl⟩ := okWide_slice Try.underlying29 (hval 1 29 v1 rfl rfl)
  obtain ⟨z1, w1⟩ := Frame.open_nums Try.underlying29 Try.underlying22 (by kernel_rfl) h1
  clear hA0 hval0
  refine (walk a0 len0 cap0 z0 a1 len1 cap1 z1 W w0 w1).mono fun e W' ⟨he, bel⟩ => ?_
  subst he
  exact ⟨_, rfl, _, _, _, [], _, [], hW', trodAll_mk1 (shut_bool Try.underlying4 _), (trodAll_cons_mk (Below.trod laidOut (by kernel_rfl) (of_decide_eq_true (by kernel_rfl)) k0 bel lt0) (trodAll_cons_mk (Below.trod laidOut (by kernel_rfl) (of_decide_eq_true (by kernel_rfl)) k1 bel lt1) trodAll_mk0)), rfl, bel.frame _, fun h => by cases h⟩

theorem over : Rows.fnExactDotNumbersRow.holds Try.pinned (OpenSpec.ofChange Rows.fnExactDotNumbersSpec) :=
  OpenClaim.holds_of_wide 7 Try.f7 rfl rfl rfl rfl rfl rfl rfl ⟨rfl, rfl, rfl, rfl, rfl⟩ rfl rfl rfl rfl rfl (by kernel_rfl) Try.func7 (by kernel_rfl)
    (of_decide_eq_true (by kernel_rfl)) (by unfold Func.isWrapper; first | (rw [if_pos (by decide +kernel)]; kernel_rfl) | (rw [if_neg (by decide +kernel)]; exact ⟨rfl, rfl⟩))
    (fun os started H enc _ => lifted os started H enc)

/-- The statement. -/
theorem proved : Rows.FnExactDotNumbersSaid := over
#print axioms proved
end Go.Proofs.Ytfcpkjgnkkcchad.fnExactDotNumbers
