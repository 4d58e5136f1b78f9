/- Square roots: the told function, narrowing of what fits, and the two functions on 32-bit numbers. -/
import Derived.Test.YtbinjkaanbhikaaRows
import Derived.Test.YtbinjkaanbhikaaRet
import Derived.Test.YtbinjkaanbhikaaRange
namespace Go.Proofs.Ytbinjkaanbhikaa
set_option linter.unusedSimpArgs false
set_option linter.unusedVariables false
open Go.RowKit
namespace Root
open Fl

theorem cl_cases' (c : Option Nat) (x : Nat) {k : FloatKind} (f : Fr k x c) : c = none ∨ c = some x := by
  rw [← f.1]; unfold cl; split
  · exact .inl rfl
  · exact .inr rfl

theorem extern_run (x : Nat) (c : Option Nat) (w : World) (f : Fr .f64 x c) : ∃ r n, (callFunc 189 #[.float .f64 x]).run Try.prog w = .ok (.value (.float .f64 r)) (w.drewN n) ∧ Fr .f64 r (sqrtC c) := by
  rw [run_callFunc_extern Try.func189 (by kernel_rfl) (by kernel_rfl) (by kernel_rfl) (e := Extern.MathSqrt.sqrt) (by kernel_rfl)]
  have hE : Extern.MathSqrt.sqrt #[.float .f64 x] = (match FloatKind.f64.format.sqrt x with | some r => pure (.float .f64 r) | none => do pure (.float .f64 (← choose (.nanBits .f64 x x)))) := rfl
  rw [hE]
  clear hE
  cases h : FloatKind.f64.format.sqrt x with
  | some r =>
    refine ⟨r, 0, by rfl, ?_⟩
    have hx : (FloatKind.f64.decode x).isNaN = false ∧ (FloatKind.f64.decode r).isNaN = false ∧ r < 2 ^ FloatKind.f64.format.width := by
      simp only [Ieee.Format.sqrt, Option.map_eq_some_iff] at h
      obtain ⟨e, he, rfl⟩ := h
      have := root_notNaN he
      exact ⟨this.1, write_notNaN _ _ this.2, FloatKind.f64.format.write_lt _⟩
    have hc : c = some x := by rw [← f.1]; exact cl_some_iff.2 hx.1
    rw [hc]
    show Fr .f64 r (FloatKind.f64.format.sqrt x)
    rw [h]
    exact ⟨cl_some_iff.2 hx.2.1, hx.2.2⟩
  | none =>
    refine ⟨_, 1, by simp [choose, Sem.run, Question.forced, World.drewN]; rfl, ?_⟩
    have hc : sqrtC c = none := by
      rcases cl_cases' c x f with h2 | h2
      · rw [h2]; rfl
      · rw [h2]; exact h
    rw [hc]
    exact nanBits_fr .f64 x x _

theorem go_sqrt (x : Nat) (c : Option Nat) (w : World) (f : Fr .f64 x c) : Calls Try.prog 182 #[.float .f64 x] w (RetF .f64 (sqrtC c) w) := by
  obtain ⟨r, n, hr, hf⟩ := extern_run x c w f
  go_enter Try.func182, Try.ntmps182
  go_wp2
  go_ret
  exact ⟨r, rfl, hf, below_drewN (Below.refl _ _) _⟩

theorem spec_narrow (x : Nat) (c : Option Nat) (w : World) (f : Fr .f64 x c) (hf : Fits .f64 .f32 c) : Calls Try.prog 162 #[.float .f64 x] w (RetF .f32 (convC .f64 .f32 c) w) := by
  go_enter Try.func162, Try.ntmps162
  go_wp2_with (first | (refine Fl.wpList_conv rfl rfl rfl (by kernel_rfl) Try.underlying28 (by assumption) (by assumption) ?_; intro r n hr))
  go_ret
  exact ⟨_, rfl, by assumption, below_drewN (Below.refl _ _) _⟩

theorem impl_narrow (x : Nat) (c : Option Nat) (w : World) (f : Fr .f64 x c) (hf : Fits .f64 .f32 c) : Calls Try.prog 170 #[.float .f64 x] w (RetF .f32 (convC .f64 .f32 c) w) := by
  go_enter Try.func170, Try.ntmps170
  go_wp2_with (first | (refine Fl.wpList_conv rfl rfl rfl (by kernel_rfl) Try.underlying28 (by assumption) (by assumption) ?_; intro r n hr))
  go_ret
  exact ⟨_, rfl, by assumption, below_drewN (Below.refl _ _) _⟩

end Root
end Go.Proofs.Ytbinjkaanbhikaa
