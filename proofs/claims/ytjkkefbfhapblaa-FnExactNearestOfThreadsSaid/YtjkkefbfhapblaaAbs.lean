/- The size and the opposite of a 64-bit number, comparisons with zero, and the tangent of two sizes. -/
import Derived.Test.YtjkkefbfhapblaaRows
import Derived.Test.YtjkkefbfhapblaaRet
import Derived.Test.YtjkkefbfhapblaaBc
import Derived.Test.YtjkkefbfhapblaaFin
import Derived.Laws.BitsAllLaws
namespace Go.Proofs.Ytjkkefbfhapblaa
set_option linter.unusedSimpArgs false
set_option linter.unusedVariables false
open Go.RowKit
namespace Flat
open Fl

theorem float64frombits_run (x : Int) (w : World) : (callFunc 105 #[.int .u64 x]).run Try.prog w = .ok (.value (.float .f64 x.toNat)) w := by
  rw [run_callFunc_extern Try.func105 (by kernel_rfl) (by kernel_rfl) (by kernel_rfl) (e := Extern.MathFloatBits.float64frombits) (by kernel_rfl)]; rfl

theorem abs_bits (x : Nat) (hx : x < 18446744073709551616) : bits .andNot .u64 (x : Int) 9223372036854775808 = ((x % 9223372036854775808 : Nat) : Int) := by
  rw [show (9223372036854775808 : Int) = ((9223372036854775808 : Nat) : Int) from rfl, u64_andNot_nat x 9223372036854775808 hx (by decide)]
  have := Nat.and_two_pow_sub_one_eq_mod x 63
  rw [show 2 ^ 63 - 1 = 9223372036854775807 from by decide, show 2 ^ 63 = 9223372036854775808 from by decide] at this
  rw [show 18446744073709551615 - 9223372036854775808 = 9223372036854775807 from by decide, this]

/-- What the size's word says. -/
theorem read_abs {b : Nat} {s : Bool} {m : Nat} {p : Int} (h : FloatKind.f64.decode b = .number s m p) : FloatKind.f64.decode (b % 9223372036854775808) = .number false m p := by
  have hd : b % 9223372036854775808 / 9223372036854775808 = 0 := Nat.div_eq_of_lt (Nat.mod_lt _ (by decide))
  have hm : b % 9223372036854775808 % 9223372036854775808 = b % 9223372036854775808 := Nat.mod_mod _ _
  unfold FloatKind.decode Ieee.Format.read at h ⊢
  simp only [show FloatKind.f64.format.signWeight = 9223372036854775808 from by decide] at h ⊢
  rw [hm, hd]
  split at h
  · next h1 => rw [if_pos h1]; cases h; rfl
  · next h1 =>
    rw [if_neg h1]
    split at h
    · next h2 => rw [if_pos h2]; cases h; rfl
    · split at h <;> cases h

/-- The opposite's word. -/
theorem read_neg (b : Nat) : FloatKind.f64.decode (Op.negFloat .f64 b) = (FloatKind.f64.decode b).opposite := by
  have hm : Op.negFloat .f64 b % 9223372036854775808 = b % 9223372036854775808 := by
    show (b ^^^ 2 ^ 63) % 2 ^ 63 = b % 2 ^ 63
    rw [Nat.xor_mod_two_pow, Nat.mod_self, Nat.xor_zero]
  have hd : (Op.negFloat .f64 b / 9223372036854775808 % 2 == 1) = !(b / 9223372036854775808 % 2 == 1) := by
    have e : Op.negFloat .f64 b / 9223372036854775808 = b / 9223372036854775808 ^^^ 1 := by
      show (b ^^^ 2 ^ 63) / 2 ^ 63 = b / 2 ^ 63 ^^^ 1
      rw [Nat.xor_div_two_pow, Nat.div_self (by decide)]
    rw [e]
    generalize b / 9223372036854775808 = q
    have e2 : (q ^^^ 1) % 2 = (q % 2) ^^^ 1 := by
      have := Nat.xor_mod_two_pow (a := q) (b := 1) (n := 1)
      simpa using this
    rw [e2]
    have : q % 2 = 0 ∨ q % 2 = 1 := by omega
    rcases this with h | h <;> rw [h] <;> rfl
  unfold FloatKind.decode Ieee.Format.read
  simp only [show FloatKind.f64.format.signWeight = 9223372036854775808 from by decide]
  rw [hm, hd]
  split
  · rfl
  · split
    · rfl
    · split <;> rfl

theorem neg_lt {b : Nat} (hb : b < 18446744073709551616) : Op.negFloat .f64 b < 18446744073709551616 := Nat.xor_lt_two_pow (n := 64) hb (by decide)

theorem neg_fr {r : Nat} {c : Option Nat} {e : Int} (f : Fr .f64 r c) (h : Bd e c) : Fr .f64 (Op.negFloat .f64 r) (c.map (Op.negFloat .f64)) ∧ Bd e (c.map (Op.negFloat .f64)) := by
  obtain ⟨b, rfl, k⟩ := h
  obtain rfl := eq_of_some f
  have k' : CL e (FloatKind.f64.decode (Op.negFloat .f64 r)) := by rw [read_neg]; exact opposite_cl k
  exact ⟨⟨cl_some_iff.2 k'.toDL.num.1, neg_lt f.2⟩, ⟨_, rfl, k'⟩⟩

/-- How a number stands to zero. -/
def zord (s : Bool) (m : Nat) : Ordering := if m = 0 then .eq else if s then .lt else .gt

theorem ord_zero {k : FloatKind} {b : Nat} {s : Bool} {m : Nat} {p : Int} (h : k.decode b = .number s m p) : ord k (some b) (some 0) = some (zord s m) := by
  have h0 : k.decode 0 = .number false 0 k.format.leastPlace := by cases k <;> decide +kernel
  show ((k.decode b).order (k.decode 0)) = _
  rw [h, h0]
  show some (compare (Ieee.signed s m _) (Ieee.signed false 0 _)) = _
  have e0 : ∀ u, Ieee.signed false 0 u = 0 := fun u => by simp [Ieee.signed]
  rw [e0]
  congr 1
  generalize (p - min p k.format.leastPlace).toNat = u
  unfold zord
  have hpos : 0 < 2 ^ u := Nat.two_pow_pos u
  by_cases hm : m = 0
  · subst hm; rw [if_pos rfl]; cases s <;> simp [Ieee.signed]
  · rw [if_neg hm]
    have hmu : 0 < m * 2 ^ u := Nat.mul_pos (Nat.pos_of_ne_zero hm) hpos
    cases s
    · show compare (((m <<< u : Nat) : Int)) 0 = _
      rw [Nat.shiftLeft_eq]
      exact Std.compare_eq_gt.2 (by omega)
    · show compare (-((m <<< u : Nat) : Int)) 0 = _
      rw [Nat.shiftLeft_eq]
      exact Std.compare_eq_lt.2 (by omega)

/-- A finite 32-bit number as a 64-bit one: its sign, and whether it is zero. -/
theorem widen_num {x : Nat} {s : Bool} {m : Nat} {p : Int} (h : FloatKind.f32.decode x = .number s m p) :
    ∃ b m' p', convC .f32 .f64 (some x) = some b ∧ FloatKind.f64.decode b = .number s m' p' ∧ (m' = 0 ↔ m = 0) := by
  obtain ⟨b1, b2, b3⟩ := read32_bounds h
  have key : ∃ m' p', FloatKind.f64.decode (FloatKind.f64.encode (.number s m p)) = .number s m' p' ∧ (m' = 0 ↔ m = 0) := by
    show ∃ m' p', Ieee.double.read (Ieee.double.nearest s m p) = .number s m' p' ∧ (m' = 0 ↔ m = 0)
    by_cases h0 : m = 0
    · subst h0
      have : Ieee.double.nearest s 0 p = Ieee.double.word s 0 := by simp [Ieee.Format.nearest]
      rw [this, read_num _ _ _ (by decide)]
      exact ⟨0, _, rfl, Iff.rfl⟩
    · have hl : m.log2 ≤ 23 := log2_le (by omega)
      obtain ⟨e, e1, e2⟩ := near64 s m p h0 (by omega) (by omega) (by omega)
      have hR : (p + (m.log2 : Int) + 1022).toNat * 4503599627370496 + m * 2 ^ (52 - m.log2) < 9218868437227405312 := by
        have : (p + (m.log2 : Int) + 1022).toNat ≤ 1149 := by omega
        generalize m * 2 ^ (52 - m.log2) = q at *
        omega
      rw [e, read_num _ _ _ hR]
      unfold numOf
      simp only [show Ieee.double.binade = 4503599627370496 from by decide]
      rw [if_neg (by omega)]
      exact ⟨_, _, rfl, by omega, fun h => absurd h h0⟩
  obtain ⟨m', p', k1, k2⟩ := key
  refine ⟨_, m', p', ?_, k1, k2⟩
  unfold convC
  rw [if_neg (by decide)]
  show floatToFloatBits .f32 x .f64 = _
  unfold floatToFloatBits
  rw [if_neg (by decide), h]
  simp [k1, Ieee.Datum.isInfinity]

theorem order_abs {a b m n : Nat} {i j : Int} (ha : FloatKind.f64.decode a = .number false m i) (hb : FloatKind.f64.decode b = .number false n j) :
    ord .f64 (some a) (some b) = some (compare (((m * 2 ^ (i - min i j).toNat : Nat)) : Int) ((n * 2 ^ (j - min i j).toNat : Nat) : Int)) := by
  show ((FloatKind.f64.decode a).order (FloatKind.f64.decode b)) = _
  rw [ha, hb]
  show some (compare (Ieee.signed false m _) (Ieee.signed false n _)) = _
  simp only [Ieee.signed, Nat.shiftLeft_eq]
  rfl

theorem quo_bd {a b m n : Nat} {i j : Int} (ha : FloatKind.f64.decode a = .number false m i) (hb : FloatKind.f64.decode b = .number false n j) (hn : n ≠ 0) (hle : m * 2 ^ (i - min i j).toNat ≤ n * 2 ^ (j - min i j).toNat) : Bd 0 (op2 .quo .f64 (some a) (some b)) := by
  obtain ⟨o, hp⟩ : ∃ o, (Ieee.Datum.number false m i).quotient (FloatKind.f64.format.fractionBits + 2) (.number false n j) = some o := by
    simp only [Ieee.Datum.quotient]; rw [if_neg hn]; exact ⟨_, rfl⟩
  refine ⟨_, op2_write (o := o) ?_, writeC (quotient_one hn hle hp) (by omega) (by omega)⟩
  show ((FloatKind.f64.decode a).quotient _ (FloatKind.f64.decode b)).map _ = _
  rw [ha, hb, hp]; rfl

/-- The tangent of two sizes, the lesser by the greater. -/
theorem tan_bd {a b m n : Nat} {i j : Int} (ha : FloatKind.f64.decode a = .number false m i) (hb : FloatKind.f64.decode b = .number false n j) (h0 : ¬ (m = 0 ∧ n = 0)) :
    Bd 0 (if (ord .f64 (some a) (some b) == some .gt) then op2 .quo .f64 (some b) (some a) else op2 .quo .f64 (some a) (some b)) := by
  have hpa := Nat.two_pow_pos (i - min i j).toNat
  have hpb := Nat.two_pow_pos (j - min i j).toNat
  rw [order_abs ha hb]
  by_cases hgt : n * 2 ^ (j - min i j).toNat < m * 2 ^ (i - min i j).toNat
  · have e : compare (((m * 2 ^ (i - min i j).toNat : Nat)) : Int) ((n * 2 ^ (j - min i j).toNat : Nat) : Int) = .gt := Std.compare_eq_gt.2 (by omega)
    rw [e, if_pos (show (some Ordering.gt == some Ordering.gt) = true from rfl)]
    have hm : m ≠ 0 := by rintro rfl; rw [Nat.zero_mul] at hgt; omega
    refine quo_bd hb ha hm ?_
    rw [Int.min_comm]
    omega
  · have e : compare (((m * 2 ^ (i - min i j).toNat : Nat)) : Int) ((n * 2 ^ (j - min i j).toNat : Nat) : Int) ≠ .gt := fun h => by have := Std.compare_eq_gt.1 h; omega
    rw [if_neg (by simpa using e)]
    have hn : n ≠ 0 := by
      rintro rfl
      rw [Nat.zero_mul] at hgt
      have : m * 2 ^ (i - min i j).toNat = 0 := by omega
      rcases Nat.mul_eq_zero.1 this with h | h
      · exact h0 ⟨h, rfl⟩
      · omega
    exact quo_bd ha hb hn (by omega)
end Flat
end Go.Proofs.Ytjkkefbfhapblaa
