/- Flat sheets, both sides. -/
import Derived.Test.YtpmnjbgfdhhomaaSheetS
import Derived.Test.YtpmnjbgfdhhomaaSheetF
import Derived.Test.YtpmnjbgfdhhomaaSheetL
namespace Go.Proofs.Ytpmnjbgfdhhomaa
set_option linter.unusedSimpArgs false
set_option linter.unusedVariables false
open Go.RowKit
namespace Sh
open Fl Rate

theorem both_flat (m : Int) (x s : Nat) (wx : (Lit.float .f32 x).wf = true) (ws : (Lit.float .f32 s).wf = true) : ∃ A n cx cy, n ≤ 48 ∧ (∀ w, Calls Try.prog 7 #[.int .i64 m, .float .f32 x, .float .f32 s] w (RetSh A n s false cx cy w)) ∧ (∀ w, Calls Try.prog 8 #[.int .i64 m, .float .f32 x, .float .f32 s] w (RetSh A n s false cx cy w)) := by
  cases h1 : (decide (2 ≤ m) && decide (m ≤ 48))
  · exact ⟨false, 0, fun _ => none, fun _ => none, by omega, fun w => spec_flat_bad m x s 0 w wx _ _ _ _ h1 rfl rfl, fun w => impl_flat_bad m x s 0 w (Fl.lt32 wx) _ _ _ rfl (by rw [h1]; rfl)⟩
  · cases h2 : (fin .f32 x && cmpC .gtr (ord .f32 (cl .f32 x) (some 0)))
    · exact ⟨false, 0, fun _ => none, fun _ => none, by omega, fun w => spec_flat_bad m x s 0 w wx _ _ _ _ h1 h2 rfl, fun w => impl_flat_bad m x s 0 w (Fl.lt32 wx) _ _ _ h2 (by rw [h1]; rfl)⟩
    · have hm : 2 ≤ m ∧ m ≤ 48 := by simpa using h1
      obtain ⟨n, rfl⟩ := Int.eq_ofNat_of_zero_le (show 0 ≤ m by omega)
      have n1 : 2 ≤ n := by have := hm.1; omega
      have n2 : n ≤ 48 := by have := hm.2; omega
      exact ⟨_, n, (fun k => op2 .mul .f32 (Mks.msC ((k : Nat) : Int)) (cl .f32 x)), (fun _ => some 0), n2, fun w => spec_flat_good n x s w wx ws n1 n2 h1 h2 _ rfl, fun w => impl_flat_good n x s w wx ws n1 n2 h2 _ rfl⟩

end Sh
end Go.Proofs.Ytpmnjbgfdhhomaa
