/- Subnormal numbers: what the functions that ask for them return. -/
import Derived.Test.YtpmnjbgfdhhomaaGreatDoorRows
import Derived.Test.YtpmnjbgfdhhomaaGreatDoorRet
import Derived.Test.YtpmnjbgfdhhomaaGreatDoorBits
import Derived.Test.YtpmnjbgfdhhomaaGreatDoorFinite
namespace Go.Proofs.YtpmnjbgfdhhomaaGreatDoor
set_option linter.unusedSimpArgs false
set_option linter.unusedVariables false
open Go.RowKit
namespace Sub
open Fl

theorem ofInt_i64 (a : Nat) (ha : a < 9223372036854775808) : (BitVec.ofInt 64 (a : Int)).toNat = a := by
  rw [BitVec.ofInt_natCast, BitVec.toNat_ofNat]; exact Nat.mod_eq_of_lt (by omega)

theorem i64_and_nat (a b : Nat) (ha : a < 9223372036854775808) (hb : b < 9223372036854775808) : bits .and .i64 (a : Int) (b : Int) = ((a &&& b : Nat) : Int) := by
  have hx : a &&& b ≤ a := Nat.and_le_left
  show IntKind.i64.wrap ((BitVec.ofInt 64 (a : Int) &&& BitVec.ofInt 64 (b : Int)).toNat : Int) = _
  rw [BitVec.toNat_and, ofInt_i64 a ha, ofInt_i64 b hb, IntKind.wrap_i64]
  omega

theorem and_exp (b : Nat) : b &&& 2139095040 = b / 8388608 % 256 * 8388608 := by
  apply Nat.eq_of_testBit_eq
  intro i
  rw [Nat.testBit_and, show (2139095040 : Nat) = (2 ^ 8 - 1) * 2 ^ 23 from rfl, show (8388608 : Nat) = 2 ^ 23 from rfl, show (256 : Nat) = 2 ^ 8 from rfl, Nat.testBit_mul_two_pow, Nat.testBit_mul_two_pow, Nat.testBit_mod_two_pow, Nat.testBit_div_two_pow, Nat.testBit_two_pow_sub_one]
  by_cases h : 23 ≤ i
  · simp [h, show i - 23 + 23 = i by omega, Bool.and_comm]
  · simp [h]

theorem and_sign (b : Nat) (hb : b < 4294967296) : b &&& 2147483648 = b / 2147483648 * 2147483648 := by
  apply Nat.eq_of_testBit_eq
  intro i
  rw [Nat.testBit_and, show (2147483648 : Nat) = 2 ^ 31 from rfl, Nat.testBit_mul_two_pow, Nat.testBit_div_two_pow, Nat.testBit_two_pow]
  by_cases h : 31 ≤ i
  · by_cases h2 : i = 31
    · subst h2; simp
    · have : b.testBit i = false := Nat.testBit_lt_two_pow (Nat.lt_of_lt_of_le hb (by rw [show (4294967296 : Nat) = 2 ^ 32 from rfl]; exact Nat.pow_le_pow_right (by decide) (by omega)))
      simp [h, show 31 + (i - 31) = i by omega, show i - 31 + 31 = i by omega, this, show ¬ (31 = i) by omega]
  · simp [h, show ¬ (31 = i) by omega]

theorem exp_zero (b : Nat) : (b &&& 2139095040 = 0) ↔ b % 2147483648 < 8388608 := by rw [and_exp]; omega

/-- Zero, by its bits. -/
theorem zero_test {x : Nat} (h : cl .f32 x = some x) : cmpC .neq (ord .f32 (some x) (some 0)) = decide (x % 2147483648 ≠ 0) := by
  have e : ord .f32 (some x) (some 0) = FloatKind.f32.format.order x 0 := by rw [order_cl, h]; rfl
  rw [e]
  have h1 := cl_some_iff.1 h
  show (Ieee.Format.order Ieee.single x 0 != some .eq) = _
  unfold Ieee.Format.order
  change (Ieee.single.read x).isNaN = false at h1
  have hz : Ieee.single.read 0 = .number false 0 (-149) := by decide +kernel
  rw [hz]
  unfold Ieee.Format.read at h1 ⊢
  simp only [show Ieee.single.signWeight = 2147483648 from by decide, show Ieee.single.binade = 8388608 from by decide, show Ieee.single.infRung = 2139095040 from by decide, show Ieee.single.leastPlace = -149 from by decide] at h1 ⊢
  generalize hs : (x / 2147483648 % 2 == 1) = s at *
  have key : ∀ (m : Nat) (p : Int), (((Ieee.Datum.number s m p).order (.number false 0 (-149))) != some .eq) = decide (m ≠ 0) := by
    intro m p
    simp only [Ieee.Datum.order, Ieee.signed, Nat.zero_shiftLeft]
    have hm : m <<< (p - min p (-149)).toNat = 0 ↔ m = 0 := by
      rw [Nat.shiftLeft_eq]
      constructor
      · intro h; rcases Nat.mul_eq_zero.1 h with h | h
        · exact h
        · exact absurd h (Nat.pos_iff_ne_zero.1 (Nat.two_pow_pos _))
      · rintro rfl; simp
    generalize m <<< (p - min p (-149)).toNat = q at *
    by_cases h0 : m = 0
    · have : q = 0 := hm.2 h0
      subst this; subst h0; cases s <;> rfl
    · have : q ≠ 0 := fun h => h0 (hm.1 h)
      cases s <;> simp [h0, compare, compareOfLessAndEq] <;> (repeat' split) <;> simp_all <;> omega
  split
  · rw [key]
  · split
    · rw [key, decide_eq_decide]; omega
    · split
      · have : x % 2147483648 ≠ 0 := by omega
        have ht : decide (x % 2147483648 ≠ 0) = true := by simpa using this
        rw [ht]; cases s <;> rfl
      · rename_i h3 h4 h5
        rw [if_neg h3, if_neg h4, if_neg h5] at h1; cases h1

theorem impl_sub (x : Nat) (w : World) (hx : x < 4294967296) :
    Calls Tryz.prog 16 #[.float .f32 x] w (RetD (.bool (decide (0 < x % 2147483648) && decide (x % 2147483648 < 8388608))) w) := by
  have hb := Bits.float32bits_run x
  have hm := Finite.and_mask x hx
  have c1 : decide ((0 : Int) < ((x % 2147483648 : Nat) : Int)) = decide (0 < x % 2147483648) := by rw [decide_eq_decide]; omega
  have c2 : decide (((x % 2147483648 : Nat) : Int) < 8388608) = decide (x % 2147483648 < 8388608) := by rw [decide_eq_decide]; omega
  generalize x % 2147483648 = y at *
  rw [← c1, ← c2]
  clear c1 c2
  cases H1 : decide ((0 : Int) < (y : Int)) with
  | true =>
    have h1 : (0 : Int) < (y : Int) := of_decide_eq_true H1
    go_enter Tryz.func16, Tryz.ntmps16
    go_wp2
    go_ret
    exact ⟨by simp, Below.refl _ _⟩
  | false =>
    have h1 : ¬ (0 : Int) < (y : Int) := of_decide_eq_false H1
    go_enter Tryz.func16, Tryz.ntmps16
    go_wp2
    go_ret
    exact ⟨by simp, Below.refl _ _⟩

/-- The bits of a flushed number. -/
def flushed (x : Nat) : Nat := if x % 2147483648 < 8388608 then x / 2147483648 * 2147483648 else x

theorem flushed_fr {x : Nat} (hx : x < 4294967296) : Fr .f32 (flushed x) (cl .f32 (flushed x)) := by
  refine Fr.of_lt32 ?_
  unfold flushed; split <;> omega

theorem impl_flush (x : Nat) (w : World) (hx : x < 4294967296) :
    Calls Tryz.prog 9 #[.float .f32 x] w (RetD (.float .f32 (flushed x)) w) := by
  have hb := Bits.float32bits_run x
  have hf := fun n => Bits.frombits_run n
  have hs : bits .andNot .u32 (x : Int) 2147483647 = ((x / 2147483648 * 2147483648 : Nat) : Int) := by rw [← and_sign x hx]; exact u32_andNot_nat x 2147483647 hx (by decide)
  have hc := fun w => impl_sub x w hx
  have HC := Lib.hid hc; clear hc
  by_cases hlt : 0 < x % 2147483648 ∧ x % 2147483648 < 8388608
  · have hfl : flushed x = x / 2147483648 * 2147483648 := by unfold flushed; rw [if_pos hlt.2]
    have ht : (decide (0 < x % 2147483648) && decide (x % 2147483648 < 8388608)) = true := by simpa using hlt
    rw [hfl]
    generalize x / 2147483648 * 2147483648 = y at *
    clear hlt hfl
    go_enter Tryz.func9, Tryz.ntmps9
    go_wp2_with (go_at_call 16; refine (HC.out _).mono ?_; rw [ht]; rintro e w' ⟨rfl, hb⟩)
    go_ret
    exact ⟨rfl, by (repeat' first | exact Below.refl _ _ | (refine Below.setCell ?_ (by first | omega | (simp; omega) | simp) _) | (refine below_drewN ?_ _) | (refine Below.alloc ?_ (by first | omega | (simp; omega) | simp) _) | (refine Below.trans ?_ (Below.mono (by assumption) (by first | omega | (simp; omega) | simp))))⟩
  · have hfl : flushed x = x := by unfold flushed; split <;> omega
    have ht : (decide (0 < x % 2147483648) && decide (x % 2147483648 < 8388608)) = false := by simpa using hlt
    rw [hfl]
    have HF := Lib.hid hfl; clear hfl hlt
    go_enter Tryz.func9, Tryz.ntmps9
    go_wp2_with (go_at_call 16; refine (HC.out _).mono ?_; rw [ht]; rintro e w' ⟨rfl, hb⟩)
    go_ret
    exact ⟨rfl, by (repeat' first | exact Below.refl _ _ | (refine Below.setCell ?_ (by first | omega | (simp; omega) | simp) _) | (refine below_drewN ?_ _) | (refine Below.alloc ?_ (by first | omega | (simp; omega) | simp) _) | (refine Below.trans ?_ (Below.mono (by assumption) (by first | omega | (simp; omega) | simp))))⟩

end Sub
end Go.Proofs.YtpmnjbgfdhhomaaGreatDoor
