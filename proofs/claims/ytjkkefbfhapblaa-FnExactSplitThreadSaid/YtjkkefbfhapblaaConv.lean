/- A 32-bit number is a 64-bit one: the conversion asks the tape for nothing. -/
import Derived.Test.YtjkkefbfhapblaaFlWalk
namespace Go.Proofs.Ytjkkefbfhapblaa
set_option linter.unusedSimpArgs false
set_option linter.unusedVariables false
open Go.RowKit
namespace Fl

theorem word_mod (f : Ieee.Format) (s : Bool) (R : Nat) (h : R < f.signWeight) : f.word s R % f.signWeight = R := by
  unfold Ieee.Format.word
  split
  · rw [Nat.add_mod_left]; exact Nat.mod_eq_of_lt h
  · exact Nat.mod_eq_of_lt h

theorem word_sign (f : Ieee.Format) (s : Bool) (R : Nat) (h : R < f.signWeight) : (f.word s R / f.signWeight % 2 == 1) = s := by
  have hp : 0 < f.signWeight := by omega
  unfold Ieee.Format.word
  cases s
  · simp [Nat.div_eq_of_lt h]
  · simp [Nat.add_div_left _ hp, Nat.div_eq_of_lt h]

/-- The datum of a sign and a rung below that of infinity. -/
def numOf (f : Ieee.Format) (s : Bool) (R : Nat) : Ieee.Datum :=
  if R < f.binade then .number s R f.leastPlace else .number s (f.binade + R % f.binade) (f.leastPlace + (R / f.binade - 1 : Nat))

theorem read_num (f : Ieee.Format) (s : Bool) (R : Nat) (h : R < f.infRung) : f.read (f.word s R) = numOf f s R := by
  have h1 := f.infRung_lt
  unfold Ieee.Format.read
  simp only [word_mod f s R (by omega), word_sign f s R (by omega)]
  unfold numOf
  split
  · rfl
  · rfl

theorem numOf_not_inf (f : Ieee.Format) (s : Bool) (R : Nat) : (numOf f s R).isInfinity = false := by
  unfold numOf; split <;> rfl

/-- What is read of a word: its magnitude and place are those of the format. -/
theorem read32_bounds {b : Nat} {s : Bool} {m : Nat} {p : Int} (h : Ieee.single.read b = .number s m p) : m < 16777216 ∧ -149 ≤ p ∧ p ≤ 104 := by
  unfold Ieee.Format.read at h
  simp only [show Ieee.single.signWeight = 2147483648 from by decide, show Ieee.single.binade = 8388608 from by decide, show Ieee.single.infRung = 2139095040 from by decide, show Ieee.single.leastPlace = -149 from by decide] at h
  split at h
  · cases h; omega
  · split at h
    · cases h; omega
    · split at h <;> cases h

theorem cut_zero (way : Ieee.Toward) (neg : Bool) (n : Nat) : way.cut neg n 0 = n := by
  unfold Ieee.Toward.cut
  cases way <;> cases neg <;> simp [Nat.mod_one]

theorem log2_le {m k : Nat} (h : m < 2 ^ (k + 1)) : m.log2 ≤ k := by
  by_cases h0 : m = 0
  · subst h0; simp
  · have := (Nat.log2_lt h0).2 h; omega

/-- The word of a number that the double format has: its rung written out. -/
theorem near64 (s : Bool) (m : Nat) (p : Int) (hm : m ≠ 0) (hl : m.log2 ≤ 52) (h1 : -1022 ≤ p + m.log2) (h2 : p + m.log2 ≤ 1023) :
    Ieee.double.nearest s m p = Ieee.double.word s ((p + m.log2 + 1022).toNat * 4503599627370496 + m * 2 ^ (52 - m.log2)) ∧
    m * 2 ^ (52 - m.log2) < 9007199254740992 ∧ 4503599627370496 ≤ m * 2 ^ (52 - m.log2) := by
  have hb : m * 2 ^ (52 - m.log2) < 9007199254740992 := by
    have a : m < 2 ^ (m.log2 + 1) := Nat.lt_log2_self
    have b : m * 2 ^ (52 - m.log2) < 2 ^ (m.log2 + 1) * 2 ^ (52 - m.log2) := Nat.mul_lt_mul_of_pos_right a (Nat.two_pow_pos _)
    rw [← Nat.pow_add, show m.log2 + 1 + (52 - m.log2) = 53 by omega] at b
    exact b
  have hc : 4503599627370496 ≤ m * 2 ^ (52 - m.log2) := by
    have a : 2 ^ m.log2 ≤ m := Nat.log2_self_le hm
    have b : 2 ^ m.log2 * 2 ^ (52 - m.log2) ≤ m * 2 ^ (52 - m.log2) := Nat.mul_le_mul_right _ a
    rw [← Nat.pow_add, show m.log2 + (52 - m.log2) = 52 by omega] at b
    exact b
  refine ⟨?_, hb, hc⟩
  unfold Ieee.Format.nearest
  simp only [show Ieee.double.binade = 4503599627370496 from by decide, show Ieee.double.infRung = 9218868437227405312 from by decide, show Ieee.double.leastPlace = -1074 from by decide, show Ieee.double.fractionBits = 52 from rfl]
  rw [if_neg hm]
  have e1 : max (p + (m.log2 : Int) - (52 : Nat)) (-1074) = p + m.log2 - 52 := by omega
  rw [e1]
  have e2 : (p - (p + (m.log2 : Int) - 52)).toNat = 52 - m.log2 := by omega
  have e3 : (p + (m.log2 : Int) - 52 - p).toNat = 0 := by omega
  rw [e2, e3, cut_zero, Nat.shiftLeft_eq]
  congr 1
  have e4 : (p + (m.log2 : Int) - 52 - -1074).toNat = (p + m.log2 + 1022).toNat := by omega
  rw [e4]
  have : (p + (m.log2 : Int) + 1022).toNat ≤ 2045 := by omega
  generalize m * 2 ^ (52 - m.log2) = q at *
  omega

theorem widen {b : Nat} (h : (FloatKind.f32.decode b).isNaN = false) : (floatToFloatBits .f32 b .f64).isSome = true := by
  unfold floatToFloatBits
  rw [if_neg (by decide)]
  cases hd : FloatKind.f32.decode b with
  | nan s t => rw [hd] at h; cases h
  | infinity s => rfl
  | number s m p =>
    obtain ⟨b1, b2, b3⟩ := read32_bounds hd
    have key : (FloatKind.f64.decode (FloatKind.f64.encode (.number s m p))).isInfinity = false := by
      show (Ieee.double.read (Ieee.double.nearest s m p)).isInfinity = false
      by_cases h0 : m = 0
      · subst h0
        have : Ieee.double.nearest s 0 p = Ieee.double.word s 0 := by simp [Ieee.Format.nearest]
        rw [this, read_num _ _ _ (by decide)]; exact numOf_not_inf _ _ _
      · have hl : m.log2 ≤ 23 := log2_le (by omega)
        obtain ⟨e, e1, _⟩ := near64 s m p h0 (by omega) (by omega) (by omega)
        rw [e, read_num]
        · exact numOf_not_inf _ _ _
        · have : (p + (m.log2 : Int) + 1022).toNat ≤ 1149 := by omega
          show _ < 9218868437227405312
          generalize m * 2 ^ (52 - m.log2) = q at *
          omega
    simp [key]

theorem fits_wide (c : Option Nat) : Fits .f32 .f64 c := .inr fun _ _ h => widen h
end Fl
end Go.Proofs.Ytjkkefbfhapblaa
