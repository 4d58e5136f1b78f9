/- The angle of a point in 64 bits: the class, its bound, and the function of the model. -/
import Derived.Test.YtpmnjbgfdhhomaaGreatDoorFlatI
import Derived.Test.YtpmnjbgfdhhomaaGreatDoorAbs
namespace Go.Proofs.YtpmnjbgfdhhomaaGreatDoor
set_option linter.unusedSimpArgs false
set_option linter.unusedVariables false
open Go.RowKit
namespace Flat
open Fl

abbrev ab (c : Option Nat) : Option Nat := c.map fun b => b % 9223372036854775808
def tanC (over : Bool) (ca cb : Option Nat) : Option Nat := if over then op2 .quo .f64 cb ca else op2 .quo .f64 ca cb
def overC (over : Bool) (g : Option Nat) : Option Nat := if over then op2 .sub .f64 (some 4598175219545276416) g else g
def backC (nx : Bool) (g : Option Nat) : Option Nat := if nx then op2 .sub .f64 (some 4602678819172646912) g else g
def downC (ny : Bool) (g : Option Nat) : Option Nat := if ny then g.map (Op.negFloat .f64) else g
def angC (over nx ny : Bool) (ca cb : Option Nat) : Option Nat := downC ny (backC nx (overC over (flatC (tanC over ca cb))))

theorem quarter_bd : Bd 0 (some 4598175219545276416) := ⟨_, rfl, by rw [show FloatKind.f64.decode 4598175219545276416 = .number false 4503599627370496 (-54) by decide +kernel]; exact .inr ⟨by decide, by decide⟩⟩
theorem half_bd : Bd 0 (some 4602678819172646912) := ⟨_, rfl, by rw [show FloatKind.f64.decode 4602678819172646912 = .number false 4503599627370496 (-53) by decide +kernel]; exact .inr ⟨by decide, by decide⟩⟩

theorem over_bd {g : Option Nat} (h : Bd 20 g) (over : Bool) : Bd 21 (overC over g) := by
  cases over
  · exact h.mono (by omega)
  · exact (quarter_bd.sub h (by omega) (by omega)).mono (by omega)

theorem back_bd {g : Option Nat} (h : Bd 21 g) (nx : Bool) : Bd 22 (backC nx g) := by
  cases nx
  · exact h.mono (by omega)
  · exact (half_bd.sub h (by omega) (by omega)).mono (by omega)

theorem bd_fr {e : Int} {c : Option Nat} (h : Bd e c) : ∃ b, c = some b ∧ FloatKind.f64.decode b = FloatKind.f64.decode b := by obtain ⟨b, h, _⟩ := h; exact ⟨b, h, rfl⟩

theorem ang_bd {ca cb : Option Nat} {over nx ny : Bool} (h : Bd 0 (tanC over ca cb)) : Bd 22 (angC over nx ny ca cb) := by
  have h1 := back_bd (over_bd (flat_bd h) over) nx
  cases ny
  · exact h1
  · obtain ⟨b, hb, k⟩ := h1
    show Bd 22 ((backC nx (overC over (flatC (tanC over ca cb)))).map _)
    rw [hb]
    exact ⟨_, rfl, by rw [read_neg]; exact opposite_cl k⟩

theorem neg_fr' {r : Nat} {c : Option Nat} {e : Int} (f : Fr .f64 r c) (h : Bd e c) : Fr .f64 (Op.negFloat .f64 r) (c.map (Op.negFloat .f64)) := (neg_fr f h).1

end Flat
end Go.Proofs.YtpmnjbgfdhhomaaGreatDoor
