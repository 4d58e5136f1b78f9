/- The value of a 64-bit number, in units of 2^-1074: sums, comparisons and whole parts of numbers are those of their values. -/
import Derived.Test.YtjkkefbfhapblaaBc
namespace Go.Proofs.Ytjkkefbfhapblaa
set_option linter.unusedSimpArgs false
set_option linter.unusedVariables false
open Go.RowKit
namespace Fl

/-- The value, in units of 2^-1074. -/
def val (d : Ieee.Datum) : Int := match d with
  | .number s m p => Ieee.signed s m (p + 1074).toNat
  | _ => 0

/-- A number whose place is no lower than that of the least 64-bit one. -/
def At (d : Ieee.Datum) : Prop := match d with
  | .number _ _ p => -1074 ≤ p
  | _ => False

theorem At.num {d : Ieee.Datum} (h : At d) : ∃ s m p, d = .number s m p ∧ -1074 ≤ p := by
  cases d with
  | infinity => exact h.elim
  | nan => exact h.elim
  | number s m p => exact ⟨s, m, p, rfl, h⟩

theorem signed_eq (s : Bool) (m u : Nat) : Ieee.signed s m u = if s then -(((m * 2 ^ u : Nat)) : Int) else ((m * 2 ^ u : Nat) : Int) := by
  unfold Ieee.signed; rw [Nat.shiftLeft_eq]

theorem signed_up (s : Bool) (m u k : Nat) : Ieee.signed s m (u + k) = Ieee.signed s m u * ((2 ^ k : Nat) : Int) := by
  rw [signed_eq, signed_eq, Nat.pow_add, ← Nat.mul_assoc]
  cases s <;> simp [Int.neg_mul]

theorem signed_abs (T : Int) (b : Bool) (u : Nat) (h : T ≠ 0 → b = decide (T < 0)) : Ieee.signed b T.natAbs u = T * ((2 ^ u : Nat) : Int) := by
  rw [signed_eq]
  by_cases h0 : T = 0
  · subst h0; cases b <;> simp
  · rw [h h0]
    by_cases hn : T < 0
    · have e : ((T.natAbs : Nat) : Int) = -T := by omega
      rw [decide_eq_true hn, if_pos rfl, Int.natCast_mul, e, Int.neg_mul, Int.neg_neg]
    · have e : ((T.natAbs : Nat) : Int) = T := by omega
      rw [decide_eq_false hn, if_neg (by decide), Int.natCast_mul, e]

theorem val_at {s : Bool} {m : Nat} {p b : Int} (hb : -1074 ≤ b) (hp : b ≤ p) : val (.number s m p) = Ieee.signed s m (p - b).toNat * ((2 ^ (b + 1074).toNat : Nat) : Int) := by
  show Ieee.signed s m (p + 1074).toNat = _
  rw [← signed_up]; congr 1; omega

theorem sum_val {x y d : Ieee.Datum} (hx : At x) (hy : At y) (h : x.sum y = some d) : At d ∧ val d = val x + val y := by
  obtain ⟨s, m, i, rfl, hi⟩ := hx.num
  obtain ⟨t, n, j, rfl, hj⟩ := hy.num
  cases h
  have hb : -1074 ≤ min i j := by omega
  refine ⟨hb, ?_⟩
  have e1 := val_at (s := s) (m := m) hb (show min i j ≤ i by omega)
  have e2 := val_at (s := t) (m := n) hb (show min i j ≤ j by omega)
  rw [e1, e2, ← Int.add_mul]
  show Ieee.signed _ _ (min i j + 1074).toNat = _
  rw [signed_abs _ _ _ (fun h => by rw [if_neg h])]

theorem opposite_val {d : Ieee.Datum} (h : At d) : At d.opposite ∧ val d.opposite = - val d := by
  obtain ⟨s, m, i, rfl, hi⟩ := h.num
  refine ⟨hi, ?_⟩
  show Ieee.signed _ _ _ = - Ieee.signed _ _ _
  rw [signed_eq, signed_eq]
  cases s <;> simp

theorem compare_mul (a b : Int) (k : Nat) (hk : 0 < k) : compare (a * (k : Int)) (b * (k : Int)) = compare a b := by
  have hk' : (0 : Int) < k := by omega
  rcases Int.lt_trichotomy a b with h | h | h
  · rw [Std.compare_eq_lt.2 h, Std.compare_eq_lt.2 (Int.mul_lt_mul_of_pos_right h hk')]
  · subst h; simp
  · rw [Std.compare_eq_gt.2 h, Std.compare_eq_gt.2 (Int.mul_lt_mul_of_pos_right h hk')]

theorem order_val {x y : Ieee.Datum} (hx : At x) (hy : At y) : x.order y = some (compare (val x) (val y)) := by
  obtain ⟨s, m, i, rfl, hi⟩ := hx.num
  obtain ⟨t, n, j, rfl, hj⟩ := hy.num
  have hb : -1074 ≤ min i j := by omega
  have e1 := val_at (s := s) (m := m) hb (show min i j ≤ i by omega)
  have e2 := val_at (s := t) (m := n) hb (show min i j ≤ j by omega)
  rw [e1, e2, compare_mul _ _ _ (Nat.two_pow_pos _)]
  rfl

theorem abs_val (s : Bool) (m : Nat) (p : Int) : (val (.number s m p)).natAbs = m * 2 ^ (p + 1074).toNat := natAbs_signed s m _

/-- A size as a bound of the value. -/
theorem cl_of_val {d : Ieee.Datum} {e : Int} (h : At d) (he : -1074 ≤ e) (hv : (val d).natAbs ≤ 2 ^ (e + 1074).toNat) : CL e d := by
  obtain ⟨s, m, i, rfl, hi⟩ := h.num
  rw [abs_val] at hv
  by_cases h0 : m = 0
  · exact .inl h0
  have hle : i ≤ e := by
    have h1 : 2 ^ (i + 1074).toNat ≤ 2 ^ (e + 1074).toNat := Nat.le_trans (Nat.le_mul_of_pos_left _ (Nat.pos_of_ne_zero h0)) hv
    have := (Nat.pow_le_pow_iff_right (by decide : 1 < 2)).1 h1
    omega
  refine .inr ⟨hle, ?_⟩
  have e1 : (e + 1074).toNat = (e - i).toNat + (i + 1074).toNat := by omega
  rw [e1, Nat.pow_add] at hv
  exact Nat.le_of_mul_le_mul_right hv (Nat.two_pow_pos _)

theorem val_of_cl {d : Ieee.Datum} {e : Int} (h : At d) (hc : CL e d) : (val d).natAbs ≤ 2 ^ (e + 1074).toNat := by
  obtain ⟨s, m, i, rfl, hi⟩ := h.num
  rw [abs_val]
  rcases hc with h0 | ⟨h1, h2⟩
  · subst h0; rw [Nat.zero_mul]; exact Nat.zero_le _
  · refine Nat.le_trans (Nat.mul_le_mul_right _ h2) ?_
    rw [← Nat.pow_add]
    exact Nat.pow_le_pow_right (by decide) (by omega)

/-- What is read of a word: its magnitude and place are those of the format. -/
theorem read64_bounds {b : Nat} {s : Bool} {m : Nat} {p : Int} (h : FloatKind.f64.decode b = .number s m p) : m < 9007199254740992 ∧ -1074 ≤ p ∧ p ≤ 971 := by
  change Ieee.double.read b = _ at h
  unfold Ieee.Format.read at h
  simp only [show Ieee.double.signWeight = 9223372036854775808 from by decide, show Ieee.double.binade = 4503599627370496 from by decide, show Ieee.double.infRung = 9218868437227405312 from by decide, show Ieee.double.leastPlace = -1074 from by decide] at h
  split at h
  · cases h; omega
  · split at h
    · cases h; omega
    · split at h <;> cases h

theorem decode_at {b : Nat} {s : Bool} {m : Nat} {p : Int} (h : FloatKind.f64.decode b = .number s m p) : At (FloatKind.f64.decode b) := by
  rw [h]; exact (read64_bounds h).2.1

theorem cut_zero_way (neg : Bool) (n drop : Nat) : Ieee.Toward.zero.cut neg n drop = n / 2 ^ drop := by
  unfold Ieee.Toward.cut
  simp only [Bool.toNat_false, Nat.add_zero, Nat.one_shiftLeft]
  rcases Nat.le_total drop (n.log2 + 2) with hd | hd
  · rw [Nat.min_eq_left hd]
  · rw [Nat.min_eq_right hd]
    have a : n < 2 ^ (n.log2 + 2) := Nat.lt_of_lt_of_le Nat.lt_log2_self (Nat.pow_le_pow_right (by decide) (by omega))
    rw [Nat.div_eq_of_lt a, Nat.div_eq_of_lt (Nat.lt_of_lt_of_le a (Nat.pow_le_pow_right (by decide) hd))]

/-- The whole part: towards zero. -/
theorem toInt_val {d : Ieee.Datum} (h : At d) : ∃ n, d.toInt .zero = some n ∧ (val d - n * ((2 ^ 1074 : Nat) : Int)).natAbs < 2 ^ 1074 ∧ n.natAbs * 2 ^ 1074 ≤ (val d).natAbs := by
  obtain ⟨s, m, p, rfl, hp⟩ := h.num
  refine ⟨Ieee.signed s (Ieee.Toward.zero.cut s (m <<< p.toNat) (-p).toNat) 0, rfl, ?_⟩
  rw [cut_zero_way, Nat.shiftLeft_eq]
  have hv : val (.number s m p) = if s then -(((m * 2 ^ (p + 1074).toNat : Nat)) : Int) else ((m * 2 ^ (p + 1074).toNat : Nat) : Int) := signed_eq ..
  rw [hv, signed_eq, Nat.pow_zero, Nat.mul_one]
  have key : (m * 2 ^ p.toNat / 2 ^ (-p).toNat) * 2 ^ 1074 ≤ m * 2 ^ (p + 1074).toNat ∧ m * 2 ^ (p + 1074).toNat < (m * 2 ^ p.toNat / 2 ^ (-p).toNat) * 2 ^ 1074 + 2 ^ 1074 := by
    by_cases hp0 : 0 ≤ p
    · have e1 : (-p).toNat = 0 := by omega
      have e2 : (p + 1074).toNat = p.toNat + 1074 := by omega
      rw [e1, e2, Nat.pow_zero, Nat.div_one, Nat.pow_add, ← Nat.mul_assoc]
      have := Nat.two_pow_pos 1074
      generalize 2 ^ 1074 = U at *
      generalize m * 2 ^ p.toNat * U = z at *
      omega
    · have e1 : p.toNat = 0 := by omega
      have e2 : 1074 = (-p).toNat + (p + 1074).toNat := by omega
      have e3 : 2 ^ 1074 = 2 ^ (-p).toNat * 2 ^ (p + 1074).toNat := by rw [← Nat.pow_add, ← e2]
      rw [e1, Nat.pow_zero, Nat.mul_one, e3]
      generalize hD : 2 ^ (-p).toNat = D
      generalize hF : 2 ^ (p + 1074).toNat = F
      have hD0 : 0 < D := by rw [← hD]; exact Nat.two_pow_pos _
      have hF0 : 0 < F := by rw [← hF]; exact Nat.two_pow_pos _
      have h1 : m / D * D ≤ m := Nat.div_mul_le_self m D
      have h2 : m < m / D * D + D := by
        have := Nat.div_add_mod m D
        have := Nat.mod_lt m hD0
        rw [Nat.mul_comm D] at *
        omega
      constructor
      · rw [← Nat.mul_assoc]; exact Nat.mul_le_mul_right _ h1
      · rw [← Nat.mul_assoc, ← Nat.add_mul]; exact Nat.mul_lt_mul_of_pos_right h2 hF0
  generalize m * 2 ^ p.toNat / 2 ^ (-p).toNat = M at *
  generalize m * 2 ^ (p + 1074).toNat = V at *
  generalize 2 ^ 1074 = U at *
  obtain ⟨k1, k2⟩ := key
  have e : ((M : Int) * (U : Int)) = ((M * U : Nat) : Int) := by simp
  cases s
  · simp only [Bool.false_eq_true, if_false, Int.natAbs_natCast]
    rw [e]; generalize M * U = W at *; omega
  · simp only [if_true, Int.natAbs_neg, Int.natAbs_natCast, Int.neg_mul]
    rw [e]; generalize M * U = W at *; omega

/-- A number of at most 53 digits in the normal range is written as it is. -/
theorem cut_exact (way : Ieee.Toward) (neg : Bool) (q d : Nat) (hq : 0 < q) : way.cut neg (q * 2 ^ d) d = q := by
  have hl : d ≤ (q * 2 ^ d).log2 + 2 := by
    have h1 : 2 ^ d ≤ q * 2 ^ d := Nat.le_mul_of_pos_left _ hq
    have := (Nat.le_log2 (by have := Nat.two_pow_pos d; omega)).2 h1
    omega
  unfold Ieee.Toward.cut
  rw [Nat.min_eq_left hl, Nat.one_shiftLeft]
  have h1 : q * 2 ^ d / 2 ^ d = q := Nat.mul_div_cancel _ (Nat.two_pow_pos _)
  have h2 : q * 2 ^ d % 2 ^ d = 0 := Nat.mul_mod_left _ _
  have h3 : (2 ^ d == 0) = false := by simp
  simp only [h1, h2, Nat.mul_zero, Nat.not_lt_zero, decide_false, Bool.false_or, h3, Bool.false_and, bne_self_eq_false, Bool.and_false]
  cases way <;> simp

theorem nearest_up (s : Bool) (m k : Nat) (p : Int) (hm : m ≠ 0) (hl : m.log2 ≤ 52) (h1 : -1022 ≤ p + k + m.log2) :
    Ieee.double.nearest s (m * 2 ^ k) p = Ieee.double.nearest s m (p + k) := by
  have hmk : m * 2 ^ k ≠ 0 := Nat.mul_ne_zero hm (Nat.ne_of_gt (Nat.two_pow_pos _))
  have hlog : (m * 2 ^ k).log2 = m.log2 + k := by rw [← Nat.shiftLeft_eq]; exact log2_shl hm
  unfold Ieee.Format.nearest
  simp only [show Ieee.double.leastPlace = -1074 from by decide, show Ieee.double.fractionBits = 52 from rfl]
  rw [if_neg hm, if_neg hmk, hlog]
  have e1 : max (p + ((m.log2 + k : Nat) : Int) - (52 : Nat)) (-1074) = p + k + m.log2 - 52 := by omega
  have e2 : max (p + (k : Int) + (m.log2 : Int) - (52 : Nat)) (-1074) = p + k + m.log2 - 52 := by omega
  rw [e1, e2]
  have e3 : (p + (k : Int) + (m.log2 : Int) - 52 - (p + k)).toNat = 0 := by omega
  have e4 : (p + (k : Int) - (p + k + m.log2 - 52)).toNat = 52 - m.log2 := by omega
  rw [e3, e4, cut_zero, Nat.shiftLeft_eq, Nat.shiftLeft_eq]
  congr 3
  rcases Nat.le_total k (52 - m.log2) with hk | hk
  · have e5 : (p + (k : Int) + (m.log2 : Int) - 52 - p).toNat = 0 := by omega
    have e6 : (p - (p + (k : Int) + m.log2 - 52)).toNat = 52 - m.log2 - k := by omega
    rw [e5, e6, cut_zero, Nat.mul_assoc, ← Nat.pow_add]
    congr 2; omega
  · have e5 : (p + (k : Int) + (m.log2 : Int) - 52 - p).toNat = k - (52 - m.log2) := by omega
    have e6 : (p - (p + (k : Int) + m.log2 - 52)).toNat = 0 := by omega
    rw [e5, e6, Nat.pow_zero, Nat.mul_one]
    have e7 : m * 2 ^ k = m * 2 ^ (52 - m.log2) * 2 ^ (k - (52 - m.log2)) := by
      rw [Nat.mul_assoc, ← Nat.pow_add]; congr 2; omega
    rw [e7]
    exact cut_exact _ _ _ _ (Nat.mul_pos (Nat.pos_of_ne_zero hm) (Nat.two_pow_pos _))

/-- Such a number, written and read. -/
theorem norm (s : Bool) (m k : Nat) (p : Int) (hm : m ≠ 0) (hl : m.log2 ≤ 52) (h1 : -1022 ≤ p + k + m.log2) (h2 : p + k + m.log2 ≤ 1023) :
    FloatKind.f64.decode (FloatKind.f64.encode (.number s (m * 2 ^ k) p)) = .number s (m * 2 ^ (52 - m.log2)) (p + k + m.log2 - 52) := by
  show Ieee.double.read (Ieee.double.nearest s (m * 2 ^ k) p) = _
  rw [nearest_up s m k p hm hl h1]
  obtain ⟨e, e1, e2⟩ := near64 s m (p + k) hm hl (by omega) (by omega)
  have hT : (p + (k : Int) + (m.log2 : Int) + 1022).toNat ≤ 2045 := by omega
  have hR : (p + (k : Int) + (m.log2 : Int) + 1022).toNat * 4503599627370496 + m * 2 ^ (52 - m.log2) < 9218868437227405312 := by
    generalize m * 2 ^ (52 - m.log2) = q at *
    omega
  rw [e, read_num _ _ _ hR]
  unfold numOf
  simp only [show Ieee.double.binade = 4503599627370496 from by decide, show Ieee.double.leastPlace = -1074 from by decide]
  have hTe : ((p + (k : Int) + (m.log2 : Int) + 1022).toNat : Int) = p + k + m.log2 + 1022 := by omega
  generalize (p + (k : Int) + (m.log2 : Int) + 1022).toNat = T at *
  generalize m * 2 ^ (52 - m.log2) = q at *
  rw [if_neg (by omega)]
  have d1 : (T * 4503599627370496 + q) / 4503599627370496 = T + 1 := by omega
  have d2 : (T * 4503599627370496 + q) % 4503599627370496 = q - 4503599627370496 := by omega
  have d3 : 4503599627370496 + (q - 4503599627370496) = q := by omega
  have d4 : (-1074 : Int) + ((T + 1 - 1 : Nat) : Int) = p + k + m.log2 - 52 := by omega
  rw [d1, d2, d3, d4]

theorem norm_val (s : Bool) (m k : Nat) (p : Int) (hm : m ≠ 0) (hl : m.log2 ≤ 52) (h1 : -1022 ≤ p + k + m.log2) (h2 : p + k + m.log2 ≤ 1023) (hp : -1074 ≤ p) :
    val (FloatKind.f64.decode (FloatKind.f64.encode (.number s (m * 2 ^ k) p))) = val (.number s (m * 2 ^ k) p) := by
  rw [norm s m k p hm hl h1 h2]
  show Ieee.signed _ _ _ = Ieee.signed _ _ _
  rw [signed_eq, signed_eq]
  have e : m * 2 ^ (52 - m.log2) * 2 ^ (p + k + m.log2 - 52 + 1074).toNat = m * 2 ^ k * 2 ^ (p + 1074).toNat := by
    rw [Nat.mul_assoc, Nat.mul_assoc, ← Nat.pow_add, ← Nat.pow_add]
    congr 2; omega
  rw [e]

/-- An integer of at most 53 digits is a number. -/
theorem int_val (n : Int) (h : n.natAbs < 9007199254740992) : At (FloatKind.f64.decode (floatOfInt .f64 n)) ∧ val (FloatKind.f64.decode (floatOfInt .f64 n)) = n * ((2 ^ 1074 : Nat) : Int) ∧ (FloatKind.f64.decode (floatOfInt .f64 n)).isNaN = false := by
  by_cases h0 : n = 0
  · subst h0
    have e : FloatKind.f64.decode (floatOfInt .f64 0) = .number false 0 (-1074) := by decide +kernel
    rw [e]
    refine ⟨by show (-1074 : Int) ≤ -1074; omega, ?_, rfl⟩
    show Ieee.signed _ _ _ = _
    rw [signed_eq, Nat.zero_mul, Int.zero_mul]; rfl
  · have hm : n.natAbs ≠ 0 := by omega
    have hl : n.natAbs.log2 ≤ 52 := log2_le h
    have e : floatOfInt .f64 n = FloatKind.f64.encode (.number (n < 0) (n.natAbs * 2 ^ 0) 0) := by rw [Nat.pow_zero, Nat.mul_one]; rfl
    have hn := norm (n < 0) n.natAbs 0 0 hm hl (by omega) (by omega)
    have hv := norm_val (n < 0) n.natAbs 0 0 hm hl (by omega) (by omega) (by omega)
    rw [e]
    refine ⟨?_, ?_, ?_⟩
    · rw [hn]; show (-1074 : Int) ≤ _; omega
    · rw [hv]
      show Ieee.signed _ _ 1074 = _
      rw [Nat.pow_zero, Nat.mul_one]
      exact signed_abs n _ _ (fun _ => rfl)
    · rw [hn]; rfl
end Fl
end Go.Proofs.Ytjkkefbfhapblaa
