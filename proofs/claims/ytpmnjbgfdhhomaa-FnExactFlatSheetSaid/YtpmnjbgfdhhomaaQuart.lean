/- Quarters of a turn: how often a quarter is taken from a part of a turn, exactly. -/
import Derived.Test.YtpmnjbgfdhhomaaTurn
namespace Go.Proofs.Ytpmnjbgfdhhomaa
set_option linter.unusedSimpArgs false
set_option linter.unusedVariables false
open Go.RowKit
namespace Turn
open Fl Flat

theorem u_is : 2 ^ 1074 = 4 * 2 ^ 1072 := by decide +kernel
theorem one_val : val (FloatKind.f64.decode 4607182418800017408) = ((2 ^ 1074 : Nat) : Int) := by decide +kernel
theorem quarter_val : val (FloatKind.f64.decode 4598175219545276416) = ((2 ^ 1072 : Nat) : Int) := by decide +kernel
theorem zero_val : val (FloatKind.f64.decode 0) = 0 := by decide +kernel
theorem one_dec : FloatKind.f64.decode 4607182418800017408 = .number false 4503599627370496 (-52) := by decide +kernel
theorem quarter_dec : FloatKind.f64.decode 4598175219545276416 = .number false 4503599627370496 (-54) := by decide +kernel
theorem zero_dec : FloatKind.f64.decode 0 = .number false 0 (-1074) := by decide +kernel

/-- A number between 0 and 1, by its value. -/
def Part (c : Option Nat) (V : Nat) : Prop := ∃ b m p, c = some b ∧ FloatKind.f64.decode b = .number false m p ∧ val (FloatKind.f64.decode b) = ((V : Nat) : Int) ∧ V ≤ 2 ^ 1074

theorem val_neg {m : Nat} {p : Int} (h0 : m ≠ 0) : val (.number true m p) < 0 := by
  show Ieee.signed true m _ < 0
  rw [signed_eq, if_pos rfl]
  have := Nat.mul_pos (Nat.pos_of_ne_zero h0) (Nat.two_pow_pos (p + 1074).toNat)
  generalize m * 2 ^ (p + 1074).toNat = z at *
  omega

theorem val_pos (m : Nat) (p : Int) : val (.number false m p) = ((m * 2 ^ (p + 1074).toNat : Nat) : Int) := signed_eq ..

/-- A number that is not below zero, and no greater than 1: as a part, but for the sign of a zero. -/
def Part0 (c : Option Nat) (V : Nat) : Prop := ∃ b s m p, c = some b ∧ FloatKind.f64.decode b = .number s m p ∧ val (FloatKind.f64.decode b) = ((V : Nat) : Int) ∧ V ≤ 2 ^ 1074

theorem part_of_bd {c : Option Nat} (h : Bd 0 c) (h2 : ∀ b, c = some b → 0 ≤ val (FloatKind.f64.decode b)) : ∃ V, Part0 c V := by
  obtain ⟨b, rfl, k⟩ := h
  obtain ⟨s, m, p, hd⟩ := k.isNum
  have h3 := h2 b rfl
  have h4 := val_of_cl (decode_at hd) k
  rw [k0] at h4
  refine ⟨(val (FloatKind.f64.decode b)).toNat, b, s, m, p, rfl, hd, ?_, ?_⟩
  · generalize val (FloatKind.f64.decode b) = v at *
    omega
  · generalize val (FloatKind.f64.decode b) = v at *
    generalize 2 ^ 1074 = U at *
    omega

theorem part_val {c : Option Nat} (h : Bd 52 c) {neg : Bool} (hn : cmpC .lss (ord .f64 (rawC c) (some 0)) = neg) : ∃ V, Part0 (partC neg c) V := by
  have hr := raw_bd h
  have hr' := hr
  obtain ⟨b, e, k⟩ := hr
  obtain ⟨s, m, p, hd⟩ := k.isNum
  rw [e, ord_val hd zero_dec, (cmpC_val _ _).2.2.1, zero_val] at hn
  have hv := val_of_cl (decode_at hd) k
  rw [k0] at hv
  cases neg
  · refine part_of_bd hr' ?_
    intro b' e'
    change rawC c = some b' at e'
    rw [e] at e'; cases e'
    have := of_decide_eq_false hn
    omega
  · have hlt := of_decide_eq_true hn
    obtain ⟨o, ho⟩ : ∃ o, (FloatKind.f64.decode b).sum (FloatKind.f64.decode 4607182418800017408) = some o := by rw [hd, one_dec]; exact ⟨_, rfl⟩
    obtain ⟨q1, q2⟩ := sum_val (decode_at hd) (decode_at one_dec) ho
    rw [one_val] at q2
    have hw : op2 .add .f64 (some b) one = some (FloatKind.f64.encode o) := by
      refine op2_write (o := o) ?_
      show ((FloatKind.f64.decode b).sum (FloatKind.f64.decode 4607182418800017408)).map _ = _
      rw [ho]; rfl
    have hcl : CL 0 o := by
      refine cl_of_val q1 (by omega) ?_
      rw [k0, q2]
      generalize val (FloatKind.f64.decode b) = v at *
      generalize 2 ^ 1074 = U at *
      omega
    have hnn : NN o := by
      obtain ⟨s', m', p', rfl, _⟩ := q1.num
      by_cases h0 : m' = 0
      · exact .inr h0
      · cases s'
        · exact .inl rfl
        · exfalso
          have := val_neg (p := p') h0
          rw [q2] at this
          generalize val (FloatKind.f64.decode b) = v at *
          generalize 2 ^ 1074 = U at *
          omega
    have hN := writeN hnn hcl (by omega) (by omega)
    refine part_of_bd ⟨_, by show partC true c = _; unfold partC; rw [if_pos rfl, e]; exact hw, writeC hcl (by omega) (by omega)⟩ ?_
    intro b' e'
    unfold partC at e'
    rw [if_pos rfl, e, hw] at e'
    cases e'
    generalize FloatKind.f64.decode (FloatKind.f64.encode o) = d at *
    cases d with
    | infinity => exact hN.elim
    | nan => exact hN.elim
    | number s' m' p' =>
      rcases hN with h | h
      · subst h; rw [val_pos]; omega
      · subst h
        show 0 ≤ Ieee.signed s' 0 _
        rw [signed_eq, Nat.zero_mul]
        cases s' <;> simp

/-- The digits of a number that is not too small. -/
theorem normal_digits {b : Nat} {s : Bool} {m : Nat} {p : Int} (h : FloatKind.f64.decode b = .number s m p) (hp : -1074 < p) : 4503599627370496 ≤ m := by
  change Ieee.double.read b = _ at h
  unfold Ieee.Format.read at h
  simp only [show Ieee.double.signWeight = 9223372036854775808 from by decide, show Ieee.double.binade = 4503599627370496 from by decide, show Ieee.double.infRung = 9218868437227405312 from by decide, show Ieee.double.leastPlace = -1074 from by decide] at h
  split at h
  · cases h; omega
  · split at h
    · cases h; omega
    · split at h <;> cases h

theorem two_mono {a b : Nat} (h : a ≤ b) : 2 ^ a ≤ 2 ^ b := Nat.pow_le_pow_right (by decide) h

/-- A quarter less, exactly. -/
theorem part_less {Q : Nat} (hQ : Q = 2 ^ 1072) {c : Option Nat} {V : Nat} (h : Part0 c V) (hq : Q ≤ V) : Part0 (op2 .sub .f64 c quarter) (V - Q) := by
  have hqv := quarter_val
  rw [← hQ] at hqv
  obtain ⟨b, s, m, p, rfl, hd, hv, hle⟩ := h
  obtain ⟨b1, b2, b3⟩ := read64_bounds hd
  have hs : s = false := by
    cases s
    · rfl
    · exfalso
      rw [hd] at hv
      by_cases h0 : m = 0
      · subst h0
        have e : val (.number true 0 p) = 0 := by show Ieee.signed _ _ _ = _; rw [signed_eq, Nat.zero_mul]; rfl
        rw [e] at hv
        have hpos := Nat.two_pow_pos 1072
        rw [← hQ] at hpos
        omega
      · have := val_neg (p := p) h0
        omega
  subst hs
  have hv2 : m * 2 ^ (p + 1074).toNat = V := by rw [hd, val_pos] at hv; omega
  -- the place
  have hp1 : -54 ≤ p := by
    by_cases hlt : -54 ≤ p
    · exact hlt
    · exfalso
      have e1 := two_mono (a := (p + 1074).toNat) (b := 1019) (by omega)
      have e3 : 9007199254740991 * 2 ^ 1019 < 2 ^ 1072 := by decide +kernel
      rw [← hQ] at e3
      generalize 2 ^ 1019 = A at *
      have e2 : m * 2 ^ (p + 1074).toNat ≤ 9007199254740991 * A := Nat.mul_le_mul (by omega) e1
      omega
  have hm := normal_digits hd (by omega)
  have hp2 : p ≤ -52 := by
    by_cases hlt : p ≤ -52
    · exact hlt
    · exfalso
      have e1 := two_mono (a := 1023) (b := (p + 1074).toNat) (by omega)
      have e3 : 2 ^ 1074 < 4503599627370496 * 2 ^ 1023 := by decide +kernel
      generalize 2 ^ 1023 = A at *
      generalize 2 ^ 1074 = B at *
      have e2 : 4503599627370496 * A ≤ m * 2 ^ (p + 1074).toNat := Nat.mul_le_mul hm e1
      omega
  obtain ⟨o, ho⟩ : ∃ o, (FloatKind.f64.decode b).sum (FloatKind.f64.decode 4598175219545276416).opposite = some o := by rw [hd, quarter_dec]; exact ⟨_, rfl⟩
  obtain ⟨k1, k2⟩ := opposite_val (decode_at quarter_dec)
  obtain ⟨q1, q2⟩ := sum_val (decode_at hd) k1 ho
  rw [k2, hqv, hv] at q2
  have hw : op2 .sub .f64 (some b) quarter = some (FloatKind.f64.encode o) := by
    refine op2_write (o := o) ?_
    show ((FloatKind.f64.decode b).sum (FloatKind.f64.decode 4598175219545276416).opposite).map _ = _
    rw [ho]; rfl
  -- the sum, written out
  have hT : ∃ (s' : Bool) (m0 k : Nat), o = .number s' (m0 * 2 ^ k) (-54) ∧ m0 < 9007199254740992 ∧ k ≤ 2 := by
    have e : (FloatKind.f64.decode b).sum (FloatKind.f64.decode 4598175219545276416).opposite = some (.number (if Ieee.signed false m (p - min p (-54)).toNat + Ieee.signed true 4503599627370496 (-54 - min p (-54)).toNat = 0 then false && true else Ieee.signed false m (p - min p (-54)).toNat + Ieee.signed true 4503599627370496 (-54 - min p (-54)).toNat < 0) (Ieee.signed false m (p - min p (-54)).toNat + Ieee.signed true 4503599627370496 (-54 - min p (-54)).toNat).natAbs (min p (-54))) := by rw [hd, quarter_dec]; rfl
    rw [e] at ho
    have hmin : min p (-54) = -54 := by omega
    rw [hmin] at ho
    simp only [signed_eq, Bool.false_eq_true, if_false, if_true] at ho
    cases ho
    have : p = -54 ∨ p = -53 ∨ p = -52 := by omega
    have z0 : ((-54 : Int) - -54).toNat = 0 := by decide
    have z1 : ((-53 : Int) - -54).toNat = 1 := by decide
    have z2 : ((-52 : Int) - -54).toNat = 2 := by decide
    rw [z0]
    rcases this with rfl | rfl | rfl
    · rw [z0]
      have eM : (((m * 2 ^ 0 : Nat) : Int) + -((4503599627370496 * 2 ^ 0 : Nat) : Int)).natAbs = (m - 4503599627370496) * 2 ^ 0 := by omega
      rw [eM]
      exact ⟨_, m - 4503599627370496, 0, rfl, by omega, by omega⟩
    · rw [z1]
      have eM : (((m * 2 ^ 1 : Nat) : Int) + -((4503599627370496 * 2 ^ 0 : Nat) : Int)).natAbs = (m - 2251799813685248) * 2 ^ 1 := by omega
      rw [eM]
      exact ⟨_, m - 2251799813685248, 1, rfl, by omega, by omega⟩
    · rw [z2]
      have eM : (((m * 2 ^ 2 : Nat) : Int) + -((4503599627370496 * 2 ^ 0 : Nat) : Int)).natAbs = (m - 1125899906842624) * 2 ^ 2 := by omega
      rw [eM]
      exact ⟨_, m - 1125899906842624, 2, rfl, by omega, by omega⟩
  obtain ⟨s', m0, k, rfl, hm0, hk⟩ := hT
  have hV : ((V - Q : Nat) : Int) = val (.number s' (m0 * 2 ^ k) (-54)) := by
    rw [q2]
    omega
  have hfin : V - Q ≤ 2 ^ 1074 := Nat.le_trans (Nat.sub_le _ _) hle
  by_cases h0 : m0 = 0
  · subst h0
    rw [Nat.zero_mul] at *
    have e : FloatKind.f64.decode (FloatKind.f64.encode (.number s' 0 (-54))) = .number s' 0 (-1074) := by cases s' <;> decide +kernel
    refine ⟨_, s', 0, -1074, hw, e, ?_, hfin⟩
    rw [e, hV]
    show Ieee.signed _ _ _ = Ieee.signed _ _ _
    rw [signed_eq, signed_eq, Nat.zero_mul, Nat.zero_mul]
  · have hl : m0.log2 ≤ 52 := log2_le hm0
    have n1 := norm s' m0 k (-54) h0 hl (by omega) (by omega)
    have n2 := norm_val s' m0 k (-54) h0 hl (by omega) (by omega) (by omega)
    exact ⟨_, s', _, _, hw, n1, by rw [n2, hV], hfin⟩

/-- The part less quarters. -/
def phC (c : Option Nat) : Nat → Option Nat
  | 0 => c
  | k + 1 => op2 .sub .f64 (phC c k) quarter

theorem ph_part {Q : Nat} (hQ : Q = 2 ^ 1072) {c : Option Nat} {V : Nat} (h : Part0 c V) : ∀ k : Nat, k * Q ≤ V → Part0 (phC c k) (V - k * Q)
  | 0, _ => by rw [Nat.zero_mul]; exact h
  | k + 1, hk => by
    have e : (k + 1) * Q = k * Q + Q := Nat.succ_mul ..
    rw [e] at hk ⊢
    have := part_less hQ (ph_part hQ h k (Nat.le_trans (Nat.le_add_right _ _) hk)) (Nat.le_sub_of_add_le (by rw [Nat.add_comm]; exact hk))
    rw [Nat.sub_sub] at this
    exact this

theorem ph_cmp {Q : Nat} (hQ : Q = 2 ^ 1072) {c : Option Nat} {V : Nat} (h : Part0 c V) (k : Nat) (hk : k * Q ≤ V) : cmpC .geq (ord .f64 (phC c k) quarter) = decide (k < V / Q) := by
  have hqv := quarter_val
  have hpos := Nat.two_pow_pos 1072
  rw [← hQ] at hqv hpos
  obtain ⟨b, s, m, p, e, hd, hv, _⟩ := ph_part hQ h k hk
  rw [e, ord_val hd quarter_dec, (cmpC_val _ _).1, hv, hqv]
  refine decide_eq_decide.2 ?_
  have e1 : k < V / Q ↔ (k + 1) * Q ≤ V := (Nat.le_div_iff_mul_le hpos)
  rw [e1, Nat.succ_mul]
  generalize k * Q = z at *
  omega

/-- How many quarters there are, and what is left. -/
theorem quarters {c : Option Nat} {V : Nat} (h : Part0 c V) : ∃ K, K ≤ 4 ∧ (∀ k, k ≤ K → cmpC .geq (ord .f64 (phC c k) quarter) = decide (k < K)) ∧ Bd 0 (phC c K) := by
  obtain ⟨Q, hQ⟩ : ∃ Q, Q = 2 ^ 1072 := ⟨_, rfl⟩
  have hU := u_is
  have hpos := Nat.two_pow_pos 1072
  rw [← hQ] at hU hpos
  have hle : V ≤ 4 * Q := by
    obtain ⟨_, _, _, _, _, _, _, hle⟩ := h
    rw [← hU]; exact hle
  have hm := Nat.div_mul_le_self V Q
  refine ⟨V / Q, Nat.div_le_of_le_mul (by rw [Nat.mul_comm]; exact hle), fun k hk => ph_cmp hQ h k (Nat.le_trans (Nat.mul_le_mul_right _ hk) hm), ?_⟩
  obtain ⟨b, s, m, p, e, hd, hv, hl⟩ := ph_part hQ h (V / Q) hm
  refine ⟨b, e, cl_of_val (decode_at hd) (by omega) ?_⟩
  rw [k0, hv, Int.natAbs_natCast]
  exact hl
end Turn
end Go.Proofs.Ytpmnjbgfdhhomaa
