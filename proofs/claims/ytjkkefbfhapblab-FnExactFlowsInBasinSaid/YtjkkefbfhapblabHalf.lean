/- Rounding goes by the value alone; half of a 32-bit number, told as a quotient and as a product; the opposite of a 32-bit number. -/
import Derived.Test.YtjkkefbfhapblabVal
namespace Go.Proofs.Ytjkkefbfhapblab
set_option linter.unusedSimpArgs false
set_option linter.unusedVariables false
open Go.RowKit
namespace Fl

theorem cut_scale (neg : Bool) (m d k : Nat) : Ieee.Toward.even.cut neg (m * 2 ^ k) (d + k) = Ieee.Toward.even.cut neg m d := by
  by_cases h0 : m = 0
  · subst h0
    rw [Nat.zero_mul]
    have hz : ∀ d, Ieee.Toward.even.cut neg 0 d = 0 := fun d => by
      have := cut_le .even neg 0 d 0 (Nat.two_pow_pos _)
      have h2 : Ieee.Toward.even.cut neg 0 d ≤ 0 := by
        unfold Ieee.Toward.cut
        have hg : (1 <<< min d ((0 : Nat).log2 + 2) == 0) = false := by rw [Nat.one_shiftLeft]; simp
        simp only [Nat.zero_div, Nat.zero_mod, Nat.mul_zero, Nat.not_lt_zero, decide_false, Bool.false_or, hg, Bool.false_and, Bool.toNat_false, Nat.add_zero]
        exact Nat.le_refl _
      omega
    rw [hz, hz]
  have hl : (m * 2 ^ k).log2 = m.log2 + k := by rw [← Nat.shiftLeft_eq]; exact log2_shl h0
  have hmin : min (d + k) (m.log2 + k + 2) = min d (m.log2 + 2) + k := by omega
  unfold Ieee.Toward.cut
  rw [hl, hmin, Nat.one_shiftLeft, Nat.one_shiftLeft, Nat.pow_add]
  generalize hG : 2 ^ min d (m.log2 + 2) = G
  have hk := Nat.two_pow_pos k
  have e1 : m * 2 ^ k / (G * 2 ^ k) = m / G := Nat.mul_div_mul_right _ _ hk
  have e2 : m * 2 ^ k % (G * 2 ^ k) = m % G * 2 ^ k := Nat.mul_mod_mul_right ..
  simp only [e1, e2]
  generalize m % G = r
  have c1 : decide (G * 2 ^ k < 2 * (r * 2 ^ k)) = decide (G < 2 * r) := by
    rw [← Nat.mul_assoc]
    exact decide_eq_decide.2 (Nat.mul_lt_mul_right hk)
  have c2 : (G * 2 ^ k == 2 * (r * 2 ^ k)) = (G == 2 * r) := by
    rw [← Nat.mul_assoc]
    have : G * 2 ^ k = 2 * r * 2 ^ k ↔ G = 2 * r := Nat.mul_right_cancel_iff hk
    by_cases h : G = 2 * r
    · rw [h]; simp
    · have h' : ¬ G * 2 ^ k = 2 * r * 2 ^ k := fun e => h (this.1 e)
      rw [beq_eq_false_iff_ne.2 h, beq_eq_false_iff_ne.2 h']
  rw [c1, c2]

theorem nearest_scale (f : Ieee.Format) (s : Bool) (m k : Nat) (p : Int) (hm : m ≠ 0) : f.nearest s (m * 2 ^ k) p = f.nearest s m (p + k) := by
  have hmk : m * 2 ^ k ≠ 0 := Nat.mul_ne_zero hm (Nat.ne_of_gt (Nat.two_pow_pos _))
  have hlog : (m * 2 ^ k).log2 = m.log2 + k := by rw [← Nat.shiftLeft_eq]; exact log2_shl hm
  unfold Ieee.Format.nearest
  simp only
  rw [if_neg hm, if_neg hmk, hlog]
  have e0 : p + ((m.log2 + k : Nat) : Int) - (f.fractionBits : Int) = p + (k : Int) + (m.log2 : Int) - (f.fractionBits : Int) := by omega
  rw [e0]
  generalize max (p + (k : Int) + (m.log2 : Int) - (f.fractionBits : Int)) f.leastPlace = last
  congr 3
  rw [Nat.shiftLeft_eq, Nat.shiftLeft_eq]
  by_cases h1 : last ≤ p
  · have a1 : (last - p).toNat = 0 := by omega
    have a2 : (last - (p + (k : Int))).toNat = 0 := by omega
    have a3 : (p + (k : Int) - last).toNat = k + (p - last).toNat := by omega
    rw [a1, a2, a3, cut_zero, cut_zero, Nat.mul_assoc, ← Nat.pow_add]
  · by_cases h2 : last ≤ p + k
    · have a1 : (p - last).toNat = 0 := by omega
      have a2 : (last - (p + (k : Int))).toNat = 0 := by omega
      rw [a1, a2, cut_zero, Nat.pow_zero, Nat.mul_one]
      have e : m * 2 ^ k = m * 2 ^ (p + (k : Int) - last).toNat * 2 ^ (last - p).toNat := by
        rw [Nat.mul_assoc, ← Nat.pow_add]; congr 2; omega
      rw [e]
      exact cut_exact _ _ _ _ (Nat.mul_pos (Nat.pos_of_ne_zero hm) (Nat.two_pow_pos _))
    · have a1 : (p - last).toNat = 0 := by omega
      have a2 : (p + (k : Int) - last).toNat = 0 := by omega
      have a3 : (last - p).toNat = (last - (p + (k : Int))).toNat + k := by omega
      rw [a1, a2, a3, Nat.pow_zero, Nat.mul_one, Nat.mul_one]
      exact cut_scale _ _ _ _

/-- Half of a number, as a quotient and as a product. -/
theorem half_eq {x m : Nat} {s : Bool} {p : Int} (h : FloatKind.f32.decode x = .number s m p) (hm : m ≠ 0) : op2 .quo .f32 (some x) (some 1073741824) = op2 .mul .f32 (some 1056964608) (some x) := by
  obtain ⟨b1, _, _⟩ := read32_bounds h
  have hl : m.log2 ≤ 23 := log2_le (by omega)
  have d2 : FloatKind.f32.decode 1073741824 = .number false 8388608 (-22) := by decide +kernel
  have dh : FloatKind.f32.decode 1056964608 = .number false 8388608 (-24) := by decide +kernel
  have hl2 : (8388608 : Nat).log2 = 23 := by decide +kernel
  have q : (FloatKind.f32.decode x).quotient 25 (FloatKind.f32.decode 1073741824) = some (.number s (m * 2 ^ (26 - m.log2)) (p + m.log2 - 27)) := by
    rw [h, d2]
    simp only [Ieee.Datum.quotient]
    rw [if_neg (by decide), hl2, Nat.shiftLeft_eq]
    have e1 : m * 2 ^ (25 + 23 - m.log2) = m * 2 ^ (25 - m.log2) * 8388608 := by
      rw [show 8388608 = 2 ^ 23 from rfl, Nat.mul_assoc, ← Nat.pow_add]; congr 2; omega
    have e2 : m * 2 ^ (26 - m.log2) = 2 * (m * 2 ^ (25 - m.log2)) := by
      rw [show 26 - m.log2 = (25 - m.log2) + 1 by omega, Nat.pow_succ, ← Nat.mul_assoc, Nat.mul_comm 2]
    rw [e1, Nat.mul_div_cancel _ (by decide), Nat.mul_mod_left, e2]
    simp only [bne_self_eq_false, Bool.toNat_false, Nat.add_zero, Bool.xor_false, Option.some.injEq, Ieee.Datum.number.injEq, true_and]
    omega
  have r : (FloatKind.f32.decode 1056964608).product (FloatKind.f32.decode x) = some (.number s (m * 2 ^ 23) (p - 24)) := by
    rw [h, dh]
    simp only [Ieee.Datum.product, Bool.false_xor, Option.some.injEq, Ieee.Datum.number.injEq, true_and]
    constructor
    · rw [Nat.mul_comm]
    · omega
  show ((FloatKind.f32.decode x).quotient 25 (FloatKind.f32.decode 1073741824)).map FloatKind.f32.encode = ((FloatKind.f32.decode 1056964608).product (FloatKind.f32.decode x)).map FloatKind.f32.encode
  rw [q, r]
  show some (Ieee.single.nearest s _ _) = some (Ieee.single.nearest s _ _)
  rw [nearest_scale _ _ _ _ _ hm, nearest_scale _ _ _ _ _ hm]
  congr 2
  omega

/-- The opposite's word. -/
theorem neg32_read (b : Nat) : FloatKind.f32.decode (Op.negFloat .f32 b) = (FloatKind.f32.decode b).opposite := by
  have hm : Op.negFloat .f32 b % 2147483648 = b % 2147483648 := by
    show (b ^^^ 2 ^ 31) % 2 ^ 31 = b % 2 ^ 31
    rw [Nat.xor_mod_two_pow, Nat.mod_self, Nat.xor_zero]
  have hd : (Op.negFloat .f32 b / 2147483648 % 2 == 1) = !(b / 2147483648 % 2 == 1) := by
    have e : Op.negFloat .f32 b / 2147483648 = b / 2147483648 ^^^ 1 := by
      show (b ^^^ 2 ^ 31) / 2 ^ 31 = b / 2 ^ 31 ^^^ 1
      rw [Nat.xor_div_two_pow, Nat.div_self (by decide)]
    rw [e]
    generalize b / 2147483648 = q
    have e2 : (q ^^^ 1) % 2 = (q % 2) ^^^ 1 := by
      have := Nat.xor_mod_two_pow (a := q) (b := 1) (n := 1)
      simpa using this
    rw [e2]
    have : q % 2 = 0 ∨ q % 2 = 1 := by omega
    rcases this with h | h <;> rw [h] <;> rfl
  unfold FloatKind.decode Ieee.Format.read
  simp only [show FloatKind.f32.format.signWeight = 2147483648 from by decide]
  rw [hm, hd]
  split
  · rfl
  · split
    · rfl
    · split <;> rfl

theorem neg32_fr {r : Nat} {c : Option Nat} (f : Fr .f32 r c) : Fr .f32 (Op.negFloat .f32 r) (c.map (Op.negFloat .f32)) := by
  have hlt : Op.negFloat .f32 r < 2 ^ FloatKind.f32.format.width := Nat.xor_lt_two_pow (n := 32) f.2 (by decide)
  refine ⟨?_, hlt⟩
  cases c with
  | none =>
    have := cl_none_iff.1 f.1
    exact cl_none_iff.2 (by rw [neg32_read, opposite_notNaN]; exact this)
  | some b =>
    obtain rfl := eq_of_some f
    have := cl_some_iff.1 f.1
    exact cl_some_iff.2 (by rw [neg32_read, opposite_notNaN]; exact this)
end Fl
end Go.Proofs.Ytjkkefbfhapblab
