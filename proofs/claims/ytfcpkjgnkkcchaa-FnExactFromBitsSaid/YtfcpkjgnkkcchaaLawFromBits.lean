/- 'FnExactFromBits' returns true at every input, and every argument reads afterwards as before. No conditions. -/
import Derived.Test.YtfcpkjgnkkcchaaRows
import Derived.WalkKit
import Derived.WalkLawsBesides
import Derived.ProofKit
import Derived.OpenShut
import Derived.ShutString
import Derived.ChangeOld
import Derived.Below
import Derived.Test.YtfcpkjgnkkcchaaFrame
import Derived.Test.YtfcpkjgnkkcchaaSame
import Derived.Test.YtfcpkjgnkkcchaaConv
namespace Go.Proofs.Ytfcpkjgnkkcchaa.fnExactFromBits
open Go.ChangeShapes Go.WideShapes Go.ChangeAt Go.RowKit
open Go.ChangeMaps (open_string shut_string)
set_option linter.unusedVariables false
set_option linter.unusedSimpArgs false

theorem own : ownKnob Try.prog.godebug = none := by kernel_rfl
theorem laidOut : laidOutB Try.prog = true := by kernel_rfl

theorem walk (a0 : Int) (w : World) (w0 : (Lit.int .i64 a0).wf = true) :
    Calls Try.prog 8 #[.int .i64 a0] w fun e w' => e = .returned (.bool true) ∧ Below w.heap.size w w' := by
  have hb := Fl.bounds64 w0
  by_cases h : 0 ≤ a0 ∧ a0 ≤ 4294967295
  · obtain ⟨n, rfl⟩ := Int.eq_ofNat_of_zero_le h.1
    obtain ⟨h1, h2⟩ := h
    have h2 : n < 4294967296 := by omega
    have fx := Fl.Fr.of_lt32 h2
    have hf := Bits.frombits_run n
    go_enter Try.func8, Try.ntmps8
    go_wp2_with (first | (go_at_call 35; refine (Same.same_true _ _ _ _ (by assumption) (by assumption)).mono ?_; rintro e w' ⟨n, rfl, rfl⟩) | (refine Fl.wpList_conv rfl rfl rfl (by kernel_rfl) Try.underlying27 (by assumption) (Fl.fits_wide _) ?_; intro r n hr) | go_in)
    go_ret
    exact ⟨rfl, below_drewN (Below.refl _ _) _⟩
  · have fx : Fl.Fr .f32 0 (some 0) := Fl.Fr.const (by decide +kernel) (by decide)
    by_cases hneg : a0 < 0
    · have hd : decide (0 ≤ a0) = false := by simp; omega
      go_enter Try.func8, Try.ntmps8
      go_wp2_with (first | (go_at_call 35; refine (Same.same_true _ _ _ _ (by assumption) (by assumption)).mono ?_; rintro e w' ⟨n, rfl, rfl⟩) | (refine Fl.wpList_conv rfl rfl rfl (by kernel_rfl) Try.underlying27 (by assumption) (Fl.fits_wide _) ?_; intro r n hr) | go_in)
      go_ret
      exact ⟨rfl, below_drewN (Below.refl _ _) _⟩
    · have hd : decide (0 ≤ a0) = true := by simp; omega
      have hd2 : decide (a0 ≤ 4294967295) = false := by simp; omega
      have hd3 : 4294967295 < a0 := by omega
      go_enter Try.func8, Try.ntmps8
      go_wp2_with (first | (go_at_call 35; refine (Same.same_true _ _ _ _ (by assumption) (by assumption)).mono ?_; rintro e w' ⟨n, rfl, rfl⟩) | (refine Fl.wpList_conv rfl rfl rfl (by kernel_rfl) Try.underlying27 (by assumption) (Fl.fits_wide _) ?_; intro r n hr) | go_in)
      go_ret
      exact ⟨rfl, below_drewN (Below.refl _ _) _⟩

set_option maxRecDepth 100000 in
theorem lifted (os : Os) (started : os.Started) (H : Type) (enc : TypeId × Value → H) :
    ReturnsInHanded {} Try.checked os 8 .any (Rows.fnExactFromBitsSpec.pre6 enc Try.prog Try.f8 Rows.fnExactFromBitsRow.domain false) (Rows.fnExactFromBitsSpec.post enc Try.prog Try.f8 false true false false) := by
  refine returnsInHanded_of_change (C := Try.checked) own started (by kernel_rfl) Try.func8
    (ChangeSpec.witness6 (enc := enc) (C := Try.checked) false ⟨#[], #[.int .i64 0], []⟩ 8 (by kernel_rfl) (by kernel_rfl) (by kernel_rfl) (by kernel_rfl)) ?_
  intro W base args ds gs before hval0 hW hcnd _
  have hval : ∀ (j : Nat) t v, Try.f8.params[j]? = some t → args[j]? = some v → Value.okWide Try.prog W .any base t v := hval0
  have hW' := hW
  obtain ⟨p, q, hA0, hV, rfl, hfz, hnd⟩ := hW
  have hA : DataW.TrodAll enc Try.prog W 0 (fun _ => true) true Try.f8.params.toList args.toList ds p := hA0
  rw [Try.params8] at hA hval
  obtain ⟨v0, vs0, d0, ds0, p0, q0, hargs, rfl, rfl, h0, r0⟩ := trodAll_cons hA
  obtain ⟨rfl, rfl, rfl⟩ := trodAll_nil r0
  obtain rfl : args = #[v0] := by cases args; simp_all
  obtain ⟨rfl, rfl⟩ := trodVars_none hV
  have k0 := h0
  have lt0 : ∀ x ∈ p0, x.block < W.heap.size := by obtain ⟨m, hm⟩ := k0; exact DataW.trod_lt m _ _ _ hm
  obtain ⟨a0, rfl, e0, _, w0⟩ := open_int Try.underlying2 (hval 0 2 v0 rfl rfl) h0
  clear hA0 hval0
  refine (walk a0 W w0).mono fun e W' ⟨he, bel⟩ => ?_
  subst he
  exact ⟨_, rfl, _, _, _, [], _, [], hW', trodAll_mk1 (shut_bool Try.underlying4 _), (trodAll_cons_mk (Below.trod laidOut (by kernel_rfl) (of_decide_eq_true (by kernel_rfl)) k0 bel lt0) trodAll_mk0), rfl, bel.frame _, fun h => by cases h⟩

theorem over : Rows.fnExactFromBitsRow.holds Try.pinned (OpenSpec.ofChange Rows.fnExactFromBitsSpec) :=
  OpenClaim.holds_of_wide 8 Try.f8 rfl rfl rfl rfl rfl rfl rfl ⟨rfl, rfl, rfl, rfl, rfl⟩ rfl rfl rfl rfl rfl (by kernel_rfl) Try.func8 (by kernel_rfl)
    (of_decide_eq_true (by kernel_rfl)) (by unfold Func.isWrapper; first | (rw [if_pos (by decide +kernel)]; kernel_rfl) | (rw [if_neg (by decide +kernel)]; exact ⟨rfl, rfl⟩))
    (fun os started H enc _ => lifted os started H enc)

/-- The statement. -/
theorem proved : Rows.FnExactFromBitsSaid := over
#print axioms proved
end Go.Proofs.Ytfcpkjgnkkcchaa.fnExactFromBits
