/- Square roots: the told function, narrowing of what fits, and the two functions on 32-bit numbers. -/
import Derived.Test.YtjkkefbfhapblaaRows
import Derived.Test.YtjkkefbfhapblaaRet
import Derived.Test.YtjkkefbfhapblaaRange
namespace Go.Proofs.Ytjkkefbfhapblaa
set_option linter.unusedSimpArgs false
set_option linter.unusedVariables false
open Go.RowKit
namespace Root
open Fl

theorem cl_cases' (c : Option Nat) (x : Nat) {k : FloatKind} (f : Fr k x c) : c = none ∨ c = some x := by
  rw [← f.1]; unfold cl; split
  · exact .inl rfl
  · exact .inr rfl

theorem extern_run (x : Nat) (c : Option Nat) (w : World) (f : Fr .f64 x c) : ∃ r n, (callFunc 124 #[.float .f64 x]).run Try.prog w = .ok (.value (.float .f64 r)) (w.drewN n) ∧ Fr .f64 r (sqrtC c) := by
  rw [run_callFunc_extern Try.func124 (by kernel_rfl) (by kernel_rfl) (by kernel_rfl) (e := Extern.MathSqrt.sqrt) (by kernel_rfl)]
  have hE : Extern.MathSqrt.sqrt #[.float .f64 x] = (match FloatKind.f64.format.sqrt x with | some r => pure (.float .f64 r) | none => do pure (.float .f64 (← choose (.nanBits .f64 x x)))) := rfl
  rw [hE]
  clear hE
  cases h : FloatKind.f64.format.sqrt x with
  | some r =>
    refine ⟨r, 0, by rfl, ?_⟩
    have hx : (FloatKind.f64.decode x).isNaN = false ∧ (FloatKind.f64.decode r).isNaN = false ∧ r < 2 ^ FloatKind.f64.format.width := by
      simp only [Ieee.Format.sqrt, Option.map_eq_some_iff] at h
      obtain ⟨e, he, rfl⟩ := h
      have := root_notNaN he
      exact ⟨this.1, write_notNaN _ _ this.2, FloatKind.f64.format.write_lt _⟩
    have hc : c = some x := by rw [← f.1]; exact cl_some_iff.2 hx.1
    rw [hc]
    show Fr .f64 r (FloatKind.f64.format.sqrt x)
    rw [h]
    exact ⟨cl_some_iff.2 hx.2.1, hx.2.2⟩
  | none =>
    refine ⟨_, 1, by simp [choose, Sem.run, Question.forced, World.drewN]; rfl, ?_⟩
    have hc : sqrtC c = none := by
      rcases cl_cases' c x f with h2 | h2
      · rw [h2]; rfl
      · rw [h2]; exact h
    rw [hc]
    exact nanBits_fr .f64 x x _

theorem go_sqrt (x : Nat) (c : Option Nat) (w : World) (f : Fr .f64 x c) : Calls Try.prog 110 #[.float .f64 x] w (RetF .f64 (sqrtC c) w) := by
  obtain ⟨r, n, hr, hf⟩ := extern_run x c w f
  go_enter Try.func110, Try.ntmps110
  go_wp2
  go_ret
  exact ⟨r, rfl, hf, below_drewN (Below.refl _ _) _⟩

theorem spec_narrow (x : Nat) (c : Option Nat) (w : World) (f : Fr .f64 x c) (hf : Fits .f64 .f32 c) : Calls Try.prog 109 #[.float .f64 x] w (RetF .f32 (convC .f64 .f32 c) w) := by
  go_enter Try.func109, Try.ntmps109
  go_wp2_with (first | (refine Fl.wpList_conv rfl rfl rfl (by kernel_rfl) Try.underlying23 (by assumption) (by assumption) ?_; intro r n hr))
  go_ret
  exact ⟨_, rfl, by assumption, below_drewN (Below.refl _ _) _⟩

theorem impl_narrow (x : Nat) (c : Option Nat) (w : World) (f : Fr .f64 x c) (hf : Fits .f64 .f32 c) : Calls Try.prog 123 #[.float .f64 x] w (RetF .f32 (convC .f64 .f32 c) w) := by
  go_enter Try.func123, Try.ntmps123
  go_wp2_with (first | (refine Fl.wpList_conv rfl rfl rfl (by kernel_rfl) Try.underlying23 (by assumption) (by assumption) ?_; intro r n hr))
  go_ret
  exact ⟨_, rfl, by assumption, below_drewN (Below.refl _ _) _⟩

theorem spec_root (x : Nat) (c : Option Nat) (w : World) (f : Fr .f32 x c) : Calls Try.prog 72 #[.float .f32 x] w (RetF .f32 (convC .f64 .f32 (sqrtC (convC .f32 .f64 c))) w) := by
  go_enter Try.func72, Try.ntmps72
  go_wp2_with (first | (refine Fl.wpList_conv rfl rfl rfl (by kernel_rfl) Try.underlying45 (by assumption) (Fl.fits_wide _) ?_; intro r n hr) | (go_at_call 110; refine (go_sqrt _ _ _ (by assumption)).mono ?_; rintro e w' ⟨r, rfl, hr, hb⟩; have hz := hb.size; try simp only [World.size_alloc, World.size_setCell, World.heap_drewN, World.size_drew] at hz; obtain ⟨hc, hf⟩ := Fl.bcell hb; try (have g : w.heap.size < w'.heap.size := by omega); try (have g : w.heap.size ≤ w'.heap.size := by omega)) | (go_at_call 109; refine (spec_narrow _ _ _ (by assumption) (fits_root _)).mono ?_; rintro e w' ⟨r, rfl, hr, hb⟩; have hz := hb.size; try simp only [World.size_alloc, World.size_setCell, World.heap_drewN, World.size_drew] at hz; obtain ⟨hc, hf⟩ := Fl.bcell hb; try (have g : w.heap.size < w'.heap.size := by omega); try (have g : w.heap.size ≤ w'.heap.size := by omega)))
  go_ret
  exact ⟨_, rfl, by assumption, by (repeat' first | exact Below.refl _ _ | (refine Below.setCell ?_ (by first | omega | (simp; omega) | simp) _) | (refine below_drewN ?_ _) | (refine Below.alloc ?_ (by first | omega | (simp; omega) | simp) _) | (refine Below.trans ?_ (Below.mono (by assumption) (by first | omega | (simp; omega) | simp))))⟩

theorem impl_root (x : Nat) (c : Option Nat) (w : World) (f : Fr .f32 x c) : Calls Try.prog 106 #[.float .f32 x] w (RetF .f32 (convC .f64 .f32 (sqrtC (convC .f32 .f64 c))) w) := by
  go_enter Try.func106, Try.ntmps106
  go_wp2_with (first | (refine Fl.wpList_conv rfl rfl rfl (by kernel_rfl) Try.underlying45 (by assumption) (Fl.fits_wide _) ?_; intro r n hr) | (go_at_call 110; refine (go_sqrt _ _ _ (by assumption)).mono ?_; rintro e w' ⟨r, rfl, hr, hb⟩; have hz := hb.size; try simp only [World.size_alloc, World.size_setCell, World.heap_drewN, World.size_drew] at hz; obtain ⟨hc, hf⟩ := Fl.bcell hb; try (have g : w.heap.size < w'.heap.size := by omega); try (have g : w.heap.size ≤ w'.heap.size := by omega)) | (go_at_call 123; refine (impl_narrow _ _ _ (by assumption) (fits_root _)).mono ?_; rintro e w' ⟨r, rfl, hr, hb⟩; have hz := hb.size; try simp only [World.size_alloc, World.size_setCell, World.heap_drewN, World.size_drew] at hz; obtain ⟨hc, hf⟩ := Fl.bcell hb; try (have g : w.heap.size < w'.heap.size := by omega); try (have g : w.heap.size ≤ w'.heap.size := by omega)))
  go_ret
  exact ⟨_, rfl, by assumption, by (repeat' first | exact Below.refl _ _ | (refine Below.setCell ?_ (by first | omega | (simp; omega) | simp) _) | (refine below_drewN ?_ _) | (refine Below.alloc ?_ (by first | omega | (simp; omega) | simp) _) | (refine Below.trans ?_ (Below.mono (by assumption) (by first | omega | (simp; omega) | simp))))⟩

end Root
end Go.Proofs.Ytjkkefbfhapblaa
