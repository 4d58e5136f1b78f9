/- Whole numbers as 32-bit ones: sums, differences and products of whole numbers below 2^24 are exact. -/
import Derived.Test.YtpmnjbgfdhhomabGreatDoorVal
namespace Go.Proofs.YtpmnjbgfdhhomabGreatDoor
set_option linter.unusedSimpArgs false
set_option linter.unusedVariables false
set_option exponentiation.threshold 3000
open Go.RowKit
namespace Int32_
open Fl

/-- The class is the whole number n (of either sign, if it is 0). -/
def IsI (c : Option Nat) (n : Int) : Prop := ∃ b, c = some b ∧ b < 4294967296 ∧ At (FloatKind.f32.decode b) ∧ val (FloatKind.f32.decode b) = n * ((2 ^ 1074 : Nat) : Int)

theorem log2_shift (m k : Nat) (hm : m ≠ 0) : (m * 2 ^ k).log2 = m.log2 + k := by
  have h := log2_shl (m := m) (k := k) hm
  rwa [Nat.shiftLeft_eq] at h

/-- The word of a whole number that is not 0, however it is written. -/
theorem near (s : Bool) (m N : Nat) (p : Int) (hp : -1074 ≤ p) (hN : N ≠ 0) (hl : N < 16777216) (h : m * 2 ^ (p + 1074).toNat = N * 2 ^ 1074) :
    Ieee.single.nearest s m p = Ieee.single.word s ((N.log2 + 126) * 8388608 + N * 2 ^ (23 - N.log2)) ∧ N.log2 ≤ 23 ∧ 8388608 ≤ N * 2 ^ (23 - N.log2) ∧ N * 2 ^ (23 - N.log2) < 16777216 := by
  have hL : N.log2 ≤ 23 := by
    have := (Nat.log2_lt hN).2 (show N < 2 ^ 24 from hl)
    omega
  have q1 : 8388608 ≤ N * 2 ^ (23 - N.log2) := by
    have a : 2 ^ N.log2 ≤ N := Nat.log2_self_le hN
    have b : 2 ^ N.log2 * 2 ^ (23 - N.log2) ≤ N * 2 ^ (23 - N.log2) := Nat.mul_le_mul_right _ a
    rw [← Nat.pow_add, show N.log2 + (23 - N.log2) = 23 by omega] at b
    exact b
  have q2 : N * 2 ^ (23 - N.log2) < 16777216 := by
    have a : N < 2 ^ (N.log2 + 1) := Nat.lt_log2_self
    have b : N * 2 ^ (23 - N.log2) < 2 ^ (N.log2 + 1) * 2 ^ (23 - N.log2) := Nat.mul_lt_mul_of_pos_right a (Nat.two_pow_pos _)
    rw [← Nat.pow_add, show N.log2 + 1 + (23 - N.log2) = 24 by omega] at b
    exact b
  refine ⟨?_, hL, q1, q2⟩
  have hm : m ≠ 0 := by
    rintro rfl
    rw [Nat.zero_mul] at h
    exact Nat.ne_of_lt (Nat.mul_pos (Nat.pos_of_ne_zero hN) (Nat.two_pow_pos 1074)) h
  have hlog : (m.log2 : Int) + p = N.log2 := by
    have a := log2_shift m (p + 1074).toNat hm
    have b := log2_shift N 1074 hN
    rw [h, b] at a
    omega
  unfold Ieee.Format.nearest
  simp only [show Ieee.single.binade = 8388608 from by decide, show Ieee.single.infRung = 2139095040 from by decide, show Ieee.single.leastPlace = -149 from by decide, show Ieee.single.fractionBits = 23 from rfl]
  rw [if_neg hm]
  have e1 : max (p + (m.log2 : Int) - (23 : Nat)) (-149) = (N.log2 : Int) - 23 := by omega
  rw [e1]
  have e4 : ((N.log2 : Int) - 23 - -149).toNat = N.log2 + 126 := by omega
  rw [e4]
  have kept : Ieee.Toward.even.cut s (m <<< (p - ((N.log2 : Int) - 23)).toNat) ((N.log2 : Int) - 23 - p).toNat = N * 2 ^ (23 - N.log2) := by
    rw [Nat.shiftLeft_eq]
    by_cases hd : (N.log2 : Int) - 23 ≤ p
    · have e3 : ((N.log2 : Int) - 23 - p).toNat = 0 := by omega
      rw [e3, cut_zero]
      have hk : 2 ^ (p + 1074).toNat = 2 ^ (p - ((N.log2 : Int) - 23)).toNat * 2 ^ (1074 - (23 - N.log2)) := by
        rw [← Nat.pow_add]; congr 1; omega
      have hk2 : 2 ^ 1074 = 2 ^ (23 - N.log2) * 2 ^ (1074 - (23 - N.log2)) := by
        rw [← Nat.pow_add]; congr 1; omega
      rw [hk, hk2, ← Nat.mul_assoc, ← Nat.mul_assoc] at h
      exact Nat.eq_of_mul_eq_mul_right (Nat.two_pow_pos _) h
    · have e3 : (p - ((N.log2 : Int) - 23)).toNat = 0 := by omega
      rw [e3, Nat.pow_zero, Nat.mul_one]
      have hm2 : m = N * 2 ^ (23 - N.log2) * 2 ^ ((N.log2 : Int) - 23 - p).toNat := by
        have hk2 : 2 ^ 1074 = 2 ^ (23 - N.log2) * 2 ^ ((N.log2 : Int) - 23 - p).toNat * 2 ^ (p + 1074).toNat := by
          rw [← Nat.pow_add, ← Nat.pow_add]; congr 1; omega
        rw [hk2, ← Nat.mul_assoc, ← Nat.mul_assoc] at h
        exact Nat.eq_of_mul_eq_mul_right (Nat.two_pow_pos _) h
      rw [hm2]
      exact cut_exact _ _ _ _ (by omega)
  rw [kept, Nat.min_eq_left (by omega)]

theorem signed_zero (s : Bool) (u : Nat) : Ieee.signed s 0 u = 0 := by
  rw [signed_eq, Nat.zero_mul]; cases s <;> rfl

theorem signed_mul (s t : Bool) (m k u v : Nat) : Ieee.signed (s ^^ t) (m * k) (u + v) = Ieee.signed s m u * Ieee.signed t k v := by
  rw [signed_eq, signed_eq, signed_eq]
  have : m * k * 2 ^ (u + v) = (m * 2 ^ u) * (k * 2 ^ v) := by
    rw [Nat.pow_add]; ac_rfl
  rw [this, Int.natCast_mul]
  generalize ((m * 2 ^ u : Nat) : Int) = A
  generalize ((k * 2 ^ v : Nat) : Int) = B
  cases s <;> cases t <;> simp [Int.neg_mul, Int.mul_neg]

/-- What is written of an exact whole number. -/
theorem written {d : Ieee.Datum} {n : Int} (h : At d) (hv : val d = n * ((2 ^ 1074 : Nat) : Int)) (hn : n.natAbs < 16777216) : IsI (some (FloatKind.f32.encode d)) n ∧ (FloatKind.f32.decode (FloatKind.f32.encode d)).isNaN = false := by
  obtain ⟨s, m, p, rfl, hp⟩ := h.num
  have habs := abs_val s m p
  rw [hv, Int.natAbs_mul, Int.natAbs_natCast] at habs
  have hlt : FloatKind.f32.encode (.number s m p) < 4294967296 := FloatKind.f32.format.write_lt _
  by_cases h0 : n = 0
  · subst h0
    have hm : m = 0 := by
      rw [Int.natAbs_zero, Nat.zero_mul] at habs
      rcases Nat.mul_eq_zero.1 habs.symm with h | h
      · exact h
      · exact absurd h (Nat.ne_of_gt (Nat.two_pow_pos _))
    subst hm
    have e : FloatKind.f32.encode (.number s 0 p) = Ieee.single.word s 0 := by
      show Ieee.single.nearest s 0 p = _
      simp [Ieee.Format.nearest]
    have ed : FloatKind.f32.decode (FloatKind.f32.encode (.number s 0 p)) = .number s 0 (-149) := by
      rw [e]; cases s <;> decide +kernel
    refine ⟨⟨_, rfl, hlt, ?_, ?_⟩, ?_⟩
    · rw [ed]; show (-1074 : Int) ≤ -149; omega
    · rw [ed, Int.zero_mul]; exact signed_zero s _
    · rw [ed]; rfl
  · have hN : n.natAbs ≠ 0 := by omega
    obtain ⟨e, hL, q1, q2⟩ := near s m n.natAbs p hp hN hn habs.symm
    have ed : FloatKind.f32.decode (FloatKind.f32.encode (.number s m p)) = .number s (n.natAbs * 2 ^ (23 - n.natAbs.log2)) ((n.natAbs.log2 : Int) - 23) := by
      show Ieee.single.read (Ieee.single.nearest s m p) = _
      rw [e, read_num _ _ _ (by show _ < 2139095040; omega)]
      unfold numOf
      rw [show Ieee.single.binade = 8388608 from by decide, show Ieee.single.leastPlace = -149 from by decide]
      generalize n.natAbs * 2 ^ (23 - n.natAbs.log2) = q at *
      generalize n.natAbs.log2 = L at *
      rw [if_neg (by omega)]
      have x1 : 8388608 + ((L + 126) * 8388608 + q) % 8388608 = q := by omega
      have x2 : (-149 : Int) + ((((L + 126) * 8388608 + q) / 8388608 - 1 : Nat) : Int) = (L : Int) - 23 := by omega
      rw [x1, x2]
    refine ⟨⟨_, rfl, hlt, ?_, ?_⟩, ?_⟩
    · rw [ed]; show (-1074 : Int) ≤ _; omega
    · rw [ed, ← hv]
      show Ieee.signed s _ _ = Ieee.signed s _ _
      rw [signed_eq, signed_eq]
      have : n.natAbs * 2 ^ (23 - n.natAbs.log2) * 2 ^ ((n.natAbs.log2 : Int) - 23 + 1074).toNat = m * 2 ^ (p + 1074).toNat := by
        have x3 : 23 - n.natAbs.log2 + ((n.natAbs.log2 : Int) - 23 + 1074).toNat = 1074 := by omega
        rw [← habs, Nat.mul_assoc, ← Nat.pow_add, x3]
      rw [this]
    · rw [ed]; rfl

theorem op_write {op : BinOp} {b1 b2 : Nat} {o : Ieee.Datum} (h : floatBits op .f32 b1 b2 = some (FloatKind.f32.encode o)) : op2 op .f32 (some b1) (some b2) = some (FloatKind.f32.encode o) := by
  simp only [op2, Option.bind_some]; exact h

theorem add {c d : Option Nat} {n k : Int} (hc : IsI c n) (hd : IsI d k) (h : (n + k).natAbs < 16777216) : IsI (op2 .add .f32 c d) (n + k) := by
  obtain ⟨b1, rfl, _, a1, v1⟩ := hc
  obtain ⟨b2, rfl, _, a2, v2⟩ := hd
  obtain ⟨s, m, p, e1, _⟩ := a1.num
  obtain ⟨t, m', q, e2, _⟩ := a2.num
  obtain ⟨o, ho⟩ : ∃ o, (FloatKind.f32.decode b1).sum (FloatKind.f32.decode b2) = some o := by rw [e1, e2]; exact ⟨_, rfl⟩
  obtain ⟨a3, v3⟩ := sum_val a1 a2 ho
  rw [op_write (o := o) (by show ((FloatKind.f32.decode b1).sum (FloatKind.f32.decode b2)).map _ = _; rw [ho]; rfl)]
  exact (written a3 (by rw [v3, v1, v2, Int.add_mul]) h).1

theorem sub {c d : Option Nat} {n k : Int} (hc : IsI c n) (hd : IsI d k) (h : (n - k).natAbs < 16777216) : IsI (op2 .sub .f32 c d) (n - k) := by
  obtain ⟨b1, rfl, _, a1, v1⟩ := hc
  obtain ⟨b2, rfl, _, a2, v2⟩ := hd
  obtain ⟨a2', v2'⟩ := opposite_val a2
  obtain ⟨s, m, p, e1, _⟩ := a1.num
  obtain ⟨t, m', q, e2, _⟩ := a2'.num
  obtain ⟨o, ho⟩ : ∃ o, (FloatKind.f32.decode b1).sum (FloatKind.f32.decode b2).opposite = some o := by rw [e1, e2]; exact ⟨_, rfl⟩
  obtain ⟨a3, v3⟩ := sum_val a1 a2' ho
  rw [op_write (o := o) (by show ((FloatKind.f32.decode b1).sum (FloatKind.f32.decode b2).opposite).map _ = _; rw [ho]; rfl)]
  exact (written a3 (by rw [v3, v1, v2', v2, Int.sub_mul]; omega) h).1

theorem least {b : Nat} {s : Bool} {m : Nat} {p : Int} (h : FloatKind.f32.decode b = .number s m p) : -149 ≤ p := (read32_bounds h).2.1

theorem mul {c d : Option Nat} {n k : Int} (hc : IsI c n) (hd : IsI d k) (h : (n * k).natAbs < 16777216) : IsI (op2 .mul .f32 c d) (n * k) := by
  obtain ⟨b1, rfl, _, a1, v1⟩ := hc
  obtain ⟨b2, rfl, _, a2, v2⟩ := hd
  obtain ⟨s, m, p, e1, _⟩ := a1.num
  obtain ⟨t, m', q, e2, _⟩ := a2.num
  have hp := least e1
  have hq := least e2
  have ho : (FloatKind.f32.decode b1).product (FloatKind.f32.decode b2) = some (.number (s ^^ t) (m * m') (p + q)) := by rw [e1, e2]; rfl
  rw [op_write (o := .number (s ^^ t) (m * m') (p + q)) (by show ((FloatKind.f32.decode b1).product (FloatKind.f32.decode b2)).map _ = _; rw [ho]; rfl)]
  have hat : At (.number (s ^^ t) (m * m') (p + q)) := by show (-1074 : Int) ≤ p + q; omega
  refine (written hat ?_ h).1
  rw [e1] at v1
  rw [e2] at v2
  have w1 : Ieee.signed s m (p + 1074).toNat = n * ((2 ^ 1074 : Nat) : Int) := v1
  have w2 : Ieee.signed t m' (q + 1074).toNat = k * ((2 ^ 1074 : Nat) : Int) := v2
  show Ieee.signed (s ^^ t) (m * m') (p + q + 1074).toNat = _
  have hpos : ((2 ^ 1074 : Nat) : Int) ≠ 0 := fun e => Nat.ne_of_gt (Nat.two_pow_pos 1074) (Int.ofNat.inj e)
  refine Int.eq_of_mul_eq_mul_right hpos ?_
  have prod : Ieee.signed (s ^^ t) (m * m') (p + q + 1074).toNat * ((2 ^ 1074 : Nat) : Int) = Ieee.signed s m (p + 1074).toNat * Ieee.signed t m' (q + 1074).toNat := by
    have hx : (p + q + 1074).toNat + 1074 = (p + 1074).toNat + (q + 1074).toNat := by omega
    rw [← signed_up, hx, signed_mul]
  rw [prod, w1, w2]
  generalize ((2 ^ 1074 : Nat) : Int) = U
  ac_rfl

theorem int {n : Int} (h : n.natAbs < 16777216) : IsI (cl .f32 (floatOfInt .f32 n)) n ∧ cl .f32 (floatOfInt .f32 n) = some (floatOfInt .f32 n) := by
  have hv : val (.number (decide (n < 0)) n.natAbs 0) = n * ((2 ^ 1074 : Nat) : Int) := by
    show Ieee.signed _ _ 1074 = _
    exact signed_abs n _ 1074 (fun _ => rfl)
  have hw := written (d := .number (decide (n < 0)) n.natAbs 0) (n := n) (by show (-1074 : Int) ≤ 0; omega) hv h
  have e : floatOfInt .f32 n = FloatKind.f32.encode (.number (decide (n < 0)) n.natAbs 0) := rfl
  have hc : cl .f32 (floatOfInt .f32 n) = some (floatOfInt .f32 n) := cl_some_iff.2 (by rw [e]; exact hw.2)
  exact ⟨by rw [hc, e]; exact hw.1, hc⟩

theorem cmp {c d : Option Nat} {n k : Int} (hc : IsI c n) (hd : IsI d k) : ord .f32 c d = some (compare n k) := by
  obtain ⟨b1, rfl, _, a1, v1⟩ := hc
  obtain ⟨b2, rfl, _, a2, v2⟩ := hd
  show FloatKind.f32.format.order b1 b2 = _
  show (FloatKind.f32.decode b1).order (FloatKind.f32.decode b2) = _
  rw [order_val a1 a2, v1, v2, compare_mul _ _ _ (Nat.two_pow_pos 1074)]

theorem eql {c d : Option Nat} {n k : Int} (hc : IsI c n) (hd : IsI d k) (h : n = k) : cmpC .eql (ord .f32 c d) = true ∧ cmpC .neq (ord .f32 c d) = false := by
  rw [cmp hc hd, h]
  rw [show compare k k = .eq from by simp]; exact ⟨rfl, rfl⟩
end Int32_
end Go.Proofs.YtpmnjbgfdhhomabGreatDoor
