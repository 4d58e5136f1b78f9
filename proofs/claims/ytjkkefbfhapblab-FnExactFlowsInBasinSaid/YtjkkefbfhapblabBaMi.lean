/- Mirrored basins. -/
import Derived.Test.YtjkkefbfhapblabBaR
import Derived.Test.YtjkkefbfhapblabHalf
namespace Go.Proofs.Ytjkkefbfhapblab
set_option linter.unusedSimpArgs false
set_option linter.unusedVariables false
open Go.RowKit
set_option maxRecDepth 20000
namespace Ba
open Fl Rate

theorem cell_divmod {W : Int} {x y : Nat} (hW : 3 ≤ W) (hx : (x : Int) < W) : (((W * (y : Int)).toNat + x : Nat) : Int) % W = (x : Int) ∧ (((W * (y : Int)).toNat + x : Nat) : Int) / W = (y : Int) := by
  have h0 : 0 ≤ W * (y : Int) := Int.mul_nonneg (by omega) (by omega)
  have e : (((W * (y : Int)).toNat + x : Nat) : Int) = (x : Int) + W * (y : Int) := by omega
  rw [e]
  constructor
  · rw [Int.add_mul_emod_self_left, Int.emod_eq_of_lt (by omega) hx]
  · rw [Int.add_mul_ediv_left _ _ (by omega), Int.ediv_eq_zero_of_lt (by omega) hx]; omega

theorem neg_fin (d : Option Nat) (hd : ∀ b, d = some b → cl .f32 b = some b) : finC (d.map (Op.negFloat .f32)) = finC d := by
  cases d with
  | none => rfl
  | some b =>
    show fin .f32 (Op.negFloat .f32 b) = fin .f32 b
    have hm : Op.negFloat .f32 b % 2147483648 = b % 2147483648 := by
      show (b ^^^ 2 ^ 31) % 2 ^ 31 = b % 2 ^ 31
      rw [Nat.xor_mod_two_pow, Nat.mod_self, Nat.xor_zero]
    unfold fin
    rw [show FloatKind.f32.format.signWeight = 2147483648 from by decide, hm]

theorem neg_fin' (d : Option Nat) : finC (d.map (Op.negFloat .f32)) = finC d := by
  cases d with
  | none => rfl
  | some b =>
    show fin .f32 (Op.negFloat .f32 b) = fin .f32 b
    have hm : Op.negFloat .f32 b % 2147483648 = b % 2147483648 := by
      show (b ^^^ 2 ^ 31) % 2 ^ 31 = b % 2 ^ 31
      rw [Nat.xor_mod_two_pow, Nat.mod_self, Nat.xor_zero]
    unfold fin
    rw [show FloatKind.f32.format.signWeight = 2147483648 from by decide, hm]

end Ba
end Go.Proofs.Ytjkkefbfhapblab
