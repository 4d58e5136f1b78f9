/- The logarithm of a 64-bit number as a class: halvings, doublings, the sum, and bounds. -/
import Derived.Test.YtggklnanhiomjabTurn
namespace Go.Proofs.Ytggklnanhiomjab
set_option linter.unusedSimpArgs false
set_option linter.unusedVariables false
open Go.RowKit
namespace Log
open Fl Flat Turn

abbrev two : Option Nat := some 4611686018427387904
abbrev c15 : Option Nat := some 4609434218613702656
abbrev c075 : Option Nat := some 4604930618986332160
abbrev ln2 : Option Nat := some 4604418534313441775
def hC (c : Option Nat) : Nat → Option Nat
  | 0 => c
  | k + 1 => op2 .quo .f64 (hC c k) two
def gC (c : Option Nat) : Nat → Option Nat
  | 0 => c
  | k + 1 => op2 .mul .f64 (gC c k) two

/-- A number above zero of 53 digits. -/
def Nm (q : Nat) (P : Int) (c : Option Nat) : Prop := ∃ b, c = some b ∧ FloatKind.f64.decode b = .number false q P ∧ 4503599627370496 ≤ q ∧ q < 9007199254740992

theorem log_of {q : Nat} (h1 : 4503599627370496 ≤ q) (h2 : q < 9007199254740992) : q.log2 = 52 := (Nat.log2_eq_iff (by omega)).2 ⟨h1, h2⟩

theorem Nm.half {q : Nat} {P : Int} {c : Option Nat} (h : Nm q P c) (h1 : -1000 ≤ P) (h2 : P ≤ 900) : Nm q (P - 1) (op2 .quo .f64 c two) := by
  obtain ⟨b, rfl, hd, q1, q2⟩ := h
  have hl := log_of q1 q2
  have h2d : FloatKind.f64.decode 4611686018427387904 = .number false 4503599627370496 (-51) := by decide +kernel
  have hl2 : (4503599627370496 : Nat).log2 = 52 := by decide +kernel
  have hq : (FloatKind.f64.decode b).quotient 54 (FloatKind.f64.decode 4611686018427387904) = some (.number false (q * 2 ^ 3) (P - 4)) := by
    rw [hd, h2d]
    simp only [Ieee.Datum.quotient]
    rw [if_neg (by decide), hl, hl2, Nat.shiftLeft_eq]
    have e1 : 54 + 52 - 52 = 54 := rfl
    have e2 : q * 2 ^ 54 / 4503599627370496 = q * 4 := by omega
    have e3 : q * 2 ^ 54 % 4503599627370496 = 0 := by omega
    rw [e1, e2, e3]
    simp only [bne_self_eq_false, Bool.toNat_false, Nat.add_zero, Bool.xor_self, Option.some.injEq, Ieee.Datum.number.injEq, true_and]
    omega
  have hn := norm false q 3 (P - 4) (by omega) (by omega) (by omega) (by omega)
  have e : P - 4 + (3 : Nat) + (q.log2 : Int) - 52 = P - 1 := by omega
  rw [hl, Nat.sub_self, Nat.pow_zero, Nat.mul_one] at hn
  rw [hl] at e
  rw [e] at hn
  refine ⟨_, op2_write (o := .number false (q * 2 ^ 3) (P - 4)) ?_, hn, q1, q2⟩
  show ((FloatKind.f64.decode b).quotient _ (FloatKind.f64.decode 4611686018427387904)).map _ = _
  have : FloatKind.f64.format.fractionBits + 2 = 54 := rfl
  rw [this, hq]; rfl

theorem Nm.double {q : Nat} {P : Int} {c : Option Nat} (h : Nm q P c) (h1 : -1000 ≤ P) (h2 : P ≤ 900) : Nm q (P + 1) (op2 .mul .f64 c two) := by
  obtain ⟨b, rfl, hd, q1, q2⟩ := h
  have hl := log_of q1 q2
  have h2d : FloatKind.f64.decode 4611686018427387904 = .number false 4503599627370496 (-51) := by decide +kernel
  have hq : (FloatKind.f64.decode b).product (FloatKind.f64.decode 4611686018427387904) = some (.number false (q * 2 ^ 52) (P - 51)) := by
    rw [hd, h2d]; rfl
  have hn := norm false q 52 (P - 51) (by omega) (by omega) (by omega) (by omega)
  have e : P - 51 + (52 : Nat) + (q.log2 : Int) - 52 = P + 1 := by omega
  rw [hl, Nat.sub_self, Nat.pow_zero, Nat.mul_one] at hn
  rw [hl] at e
  rw [e] at hn
  refine ⟨_, op2_write (o := .number false (q * 2 ^ 52) (P - 51)) ?_, hn, q1, q2⟩
  show ((FloatKind.f64.decode b).product (FloatKind.f64.decode 4611686018427387904)).map _ = _
  rw [hq]; rfl

theorem val_nm {q : Nat} {P : Int} (h : -1074 ≤ P) : val (.number false q P) = ((q * 2 ^ (P + 1074).toNat : Nat) : Int) := signed_eq ..

/-- How such a number stands to three times a power of two. -/
theorem nm_cmp {q : Nat} {P R : Int} {c : Option Nat} {t : Nat} (h : Nm q P c) (hP : -1000 ≤ P) (hP2 : P ≤ 900) (ht : FloatKind.f64.decode t = .number false 6755399441055744 R) (hR : -1000 ≤ R) :
    ∃ a b : Int, ord .f64 c (some t) = some (compare a b) ∧ (b ≤ a ↔ R < P ∨ (P = R ∧ 6755399441055744 ≤ q)) := by
  obtain ⟨x, rfl, hd, q1, q2⟩ := h
  refine ⟨_, _, ord_val hd ht, ?_⟩
  rw [hd, ht, val_nm (by omega), val_nm (by omega)]
  rw [Int.ofNat_le]
  rcases Int.lt_trichotomy P R with hl | hl | hl
  · have e : (R + 1074).toNat = (P + 1074).toNat + (R - P - 1).toNat + 1 := by omega
    have key : q * 2 ^ (P + 1074).toNat < 6755399441055744 * 2 ^ (R + 1074).toNat := by
      rw [e, Nat.pow_succ, Nat.pow_add]
      have p1 := Nat.two_pow_pos (P + 1074).toNat
      have p2 := Nat.two_pow_pos (R - P - 1).toNat
      generalize 2 ^ (P + 1074).toNat = A at *
      generalize 2 ^ (R - P - 1).toNat = B at *
      have k1 : A ≤ A * B := Nat.le_mul_of_pos_right _ p2
      have k2 : q * A < 9007199254740992 * A := Nat.mul_lt_mul_of_pos_right q2 p1
      generalize q * A = z at *
      generalize A * B = y at *
      omega
    constructor
    · intro h; omega
    · rintro (h | ⟨h, _⟩) <;> omega
  · subst hl
    have p1 := Nat.two_pow_pos (P + 1074).toNat
    constructor
    · intro h; exact .inr ⟨rfl, Nat.le_of_mul_le_mul_right h p1⟩
    · rintro (h | ⟨_, h⟩)
      · omega
      · exact Nat.mul_le_mul_right _ h
  · have e : (P + 1074).toNat = (R + 1074).toNat + (P - R - 1).toNat + 1 := by omega
    refine ⟨fun _ => .inl hl, fun _ => ?_⟩
    rw [e, Nat.pow_succ, Nat.pow_add]
    have p1 := Nat.two_pow_pos (R + 1074).toNat
    have p2 := Nat.two_pow_pos (P - R - 1).toNat
    generalize 2 ^ (R + 1074).toNat = A at *
    generalize 2 ^ (P - R - 1).toNat = B at *
    have k1 : A ≤ A * B := Nat.le_mul_of_pos_right _ p2
    have k2 : 4503599627370496 * (A * B * 2) ≤ q * (A * B * 2) := Nat.mul_le_mul_right _ q1
    generalize q * (A * B * 2) = z at *
    generalize A * B = y at *
    omega

/-- How often it is halved, and doubled. -/
def downs (q : Nat) (P : Int) : Nat := if q < 6755399441055744 then (P + 52).toNat else (P + 53).toNat
def ups (q : Nat) (P : Int) : Nat := if q < 6755399441055744 then (-52 - P).toNat else (-53 - P).toNat

theorem down_nm {q : Nat} {P : Int} {c : Option Nat} (h : Nm q P c) (h1 : -300 ≤ P) (h2 : P ≤ 300) : ∀ k : Nat, k ≤ 500 → Nm q (P - k) (hC c k)
  | 0, _ => by have e : P - ((0 : Nat) : Int) = P := by omega
               rw [e]; exact h
  | k + 1, hk => by
    have := (down_nm h h1 h2 k (by omega)).half (by omega) (by omega)
    have e : P - (k : Int) - 1 = P - ((k + 1 : Nat) : Int) := by omega
    rw [e] at this
    exact this

theorem up_nm {q : Nat} {P : Int} {c : Option Nat} (h : Nm q P c) (h1 : -300 ≤ P) (h2 : P ≤ 300) : ∀ k : Nat, k ≤ 500 → Nm q (P + k) (gC c k)
  | 0, _ => by have e : P + ((0 : Nat) : Int) = P := by omega
               rw [e]; exact h
  | k + 1, hk => by
    have := (up_nm h h1 h2 k (by omega)).double (by omega) (by omega)
    have e : P + (k : Int) + 1 = P + ((k + 1 : Nat) : Int) := by omega
    rw [e] at this
    exact this

theorem down_cmp {q : Nat} {P : Int} {c : Option Nat} (h : Nm q P c) (h1 : -300 ≤ P) (h2 : P ≤ 300) (k : Nat) (hk : k ≤ 500) : cmpC .geq (ord .f64 (hC c k) c15) = decide (k < downs q P) := by
  obtain ⟨a, b, e, i⟩ := nm_cmp (down_nm h h1 h2 k hk) (by omega) (by omega) (t := 4609434218613702656) (R := -52) (by decide +kernel) (by omega)
  rw [e, (cmpC_val a b).1]
  refine decide_eq_decide.2 (i.trans ?_)
  unfold downs
  split <;> omega

theorem up_cmp {q : Nat} {P : Int} {c : Option Nat} (h : Nm q P c) (h1 : -300 ≤ P) (h2 : P ≤ 300) (k : Nat) (hk : k ≤ 500) : cmpC .lss (ord .f64 (gC c k) c075) = decide (k < ups q P) := by
  obtain ⟨a, b, e, i⟩ := nm_cmp (up_nm h h1 h2 k hk) (by omega) (by omega) (t := 4604930618986332160) (R := -53) (by decide +kernel) (by omega)
  rw [e, (cmpC_val a b).2.2.1]
  refine decide_eq_decide.2 ?_
  have : a < b ↔ ¬ (b ≤ a) := by omega
  rw [this, i]
  unfold ups
  split <;> omega

/-- The number behind both loops. -/
def baseC (c : Option Nat) (q : Nat) (P : Int) : Option Nat := gC (hC c (downs q P)) (ups q (P - downs q P))
def expo (q : Nat) (P : Int) : Int := (downs q P : Int) - (ups q (P - downs q P) : Int)

theorem base_nm {q : Nat} {P : Int} {c : Option Nat} (h : Nm q P c) (h1 : -250 ≤ P) (h2 : P ≤ 100) : ∃ R, Nm q R (baseC c q P) ∧ ((R = -52 ∧ q < 6755399441055744) ∨ (R = -53 ∧ 6755399441055744 ≤ q)) := by
  have hd : downs q P ≤ 200 := by unfold downs; split <;> omega
  have hu : ups q (P - downs q P) ≤ 300 := by unfold ups downs; split <;> omega
  have k := down_nm h (by omega) (by omega) (downs q P) (by omega)
  have hlo : -300 ≤ P - (downs q P : Int) := by unfold downs; split <;> omega
  have hhi : P - (downs q P : Int) ≤ 300 := by omega
  have k2 := up_nm k (by omega) (by omega) (ups q (P - downs q P)) (by omega)
  refine ⟨_, k2, ?_⟩
  unfold ups downs
  split <;> omega

theorem expo_le {q : Nat} {P : Int} (h1 : -250 ≤ P) (h2 : P ≤ 100) : (expo q P).natAbs ≤ 256 := by
  unfold expo ups downs; split <;> omega

def oddC (j : Nat) : Option Nat := cl .f64 (floatOfInt .f64 (25 - 2 * (j : Int)))
def qC (u : Option Nat) : Nat → Option Nat
  | 0 => some 0
  | j + 1 => op2 .add .f64 (op2 .quo .f64 one (oddC j)) (op2 .mul .f64 u (qC u j))
def shareC (c : Option Nat) : Option Nat := op2 .quo .f64 (op2 .sub .f64 c one) (op2 .add .f64 c one)
def logC (c : Option Nat) (e : Int) : Option Nat := op2 .add .f64 (op2 .mul .f64 two (op2 .mul .f64 (shareC c) (qC (op2 .mul .f64 (shareC c) (shareC c)) 13))) (op2 .mul .f64 (cl .f64 (floatOfInt .f64 e)) ln2)

theorem two_bd : Bd 1 two := ⟨_, rfl, by rw [show FloatKind.f64.decode 4611686018427387904 = .number false 4503599627370496 (-51) by decide +kernel]; exact .inr ⟨by decide, by decide⟩⟩
theorem ln2_bd : Bd 0 ln2 := ⟨_, rfl, by rw [show FloatKind.f64.decode 4604418534313441775 = .number false 6243314768165359 (-53) by decide +kernel]; exact .inr ⟨by decide, by decide⟩⟩

theorem oddC_gd {j : Nat} (h : j < 13) : Gd 0 (oddC j) := by
  have : j = 0 ∨ j = 1 ∨ j = 2 ∨ j = 3 ∨ j = 4 ∨ j = 5 ∨ j = 6 ∨ j = 7 ∨ j = 8 ∨ j = 9 ∨ j = 10 ∨ j = 11 ∨ j = 12 := by omega
  rcases this with rfl | rfl | rfl | rfl | rfl | rfl | rfl | rfl | rfl | rfl | rfl | rfl | rfl
  · exact ⟨_, (by decide +kernel : oddC 0 = some 4627730092099895296), by rw [show FloatKind.f64.decode 4627730092099895296 = .number false 7036874417766400 (-48) by decide +kernel]; exact ⟨by decide, by decide +kernel⟩⟩
  · exact ⟨_, (by decide +kernel : oddC 1 = some 4627167142146473984), by rw [show FloatKind.f64.decode 4627167142146473984 = .number false 6473924464345088 (-48) by decide +kernel]; exact ⟨by decide, by decide +kernel⟩⟩
  · exact ⟨_, (by decide +kernel : oddC 2 = some 4626604192193052672), by rw [show FloatKind.f64.decode 4626604192193052672 = .number false 5910974510923776 (-48) by decide +kernel]; exact ⟨by decide, by decide +kernel⟩⟩
  · exact ⟨_, (by decide +kernel : oddC 3 = some 4626041242239631360), by rw [show FloatKind.f64.decode 4626041242239631360 = .number false 5348024557502464 (-48) by decide +kernel]; exact ⟨by decide, by decide +kernel⟩⟩
  · exact ⟨_, (by decide +kernel : oddC 4 = some 4625478292286210048), by rw [show FloatKind.f64.decode 4625478292286210048 = .number false 4785074604081152 (-48) by decide +kernel]; exact ⟨by decide, by decide +kernel⟩⟩
  · exact ⟨_, (by decide +kernel : oddC 5 = some 4624633867356078080), by rw [show FloatKind.f64.decode 4624633867356078080 = .number false 8444249301319680 (-49) by decide +kernel]; exact ⟨by decide, by decide +kernel⟩⟩
  · exact ⟨_, (by decide +kernel : oddC 6 = some 4623507967449235456), by rw [show FloatKind.f64.decode 4623507967449235456 = .number false 7318349394477056 (-49) by decide +kernel]; exact ⟨by decide, by decide +kernel⟩⟩
  · exact ⟨_, (by decide +kernel : oddC 7 = some 4622382067542392832), by rw [show FloatKind.f64.decode 4622382067542392832 = .number false 6192449487634432 (-49) by decide +kernel]; exact ⟨by decide, by decide +kernel⟩⟩
  · exact ⟨_, (by decide +kernel : oddC 8 = some 4621256167635550208), by rw [show FloatKind.f64.decode 4621256167635550208 = .number false 5066549580791808 (-49) by decide +kernel]; exact ⟨by decide, by decide +kernel⟩⟩
  · exact ⟨_, (by decide +kernel : oddC 9 = some 4619567317775286272), by rw [show FloatKind.f64.decode 4619567317775286272 = .number false 7881299347898368 (-50) by decide +kernel]; exact ⟨by decide, by decide +kernel⟩⟩
  · exact ⟨_, (by decide +kernel : oddC 10 = some 4617315517961601024), by rw [show FloatKind.f64.decode 4617315517961601024 = .number false 5629499534213120 (-50) by decide +kernel]; exact ⟨by decide, by decide +kernel⟩⟩
  · exact ⟨_, (by decide +kernel : oddC 11 = some 4613937818241073152), by rw [show FloatKind.f64.decode 4613937818241073152 = .number false 6755399441055744 (-51) by decide +kernel]; exact ⟨by decide, by decide +kernel⟩⟩
  · exact ⟨_, (by decide +kernel : oddC 12 = some 4607182418800017408), by rw [show FloatKind.f64.decode 4607182418800017408 = .number false 4503599627370496 (-52) by decide +kernel]; exact ⟨by decide, by decide +kernel⟩⟩

theorem qC_bd {u : Option Nat} (h : Bd 0 u) : ∀ j : Nat, j ≤ 13 → Bd (j : Int) (qC u j)
  | 0, _ => ⟨0, rfl, by rw [show FloatKind.f64.decode 0 = .number false 0 (-1074) by decide +kernel]; exact .inl rfl⟩
  | j + 1, hj => by
    have q := one_bd.quo (oddC_gd (show j < 13 by omega)) (by omega) (by omega)
    have m := h.mul (qC_bd h j (by omega)) (by omega) (by omega)
    exact (q.add m (by omega) (by omega)).mono (by omega)

/-- A number between 3/4 and 3/2, less 1 and plus 1. -/
theorem near_one {q : Nat} {R : Int} {c : Option Nat} (h : Nm q R c) (hR : R = -52 ∨ R = -53) : Bd 0 (op2 .sub .f64 c one) ∧ Gd 0 (op2 .add .f64 c one) := by
  obtain ⟨b, rfl, hd, q1, q2⟩ := h
  have h1d : FloatKind.f64.decode 4607182418800017408 = .number false 4503599627370496 (-52) := by decide +kernel
  have hb : CL 1 (FloatKind.f64.decode b) := by
    rw [hd]; refine .inr ⟨by omega, ?_⟩
    rcases hR with rfl | rfl
    · exact Nat.le_trans (Nat.le_of_lt q2) (by decide)
    · exact Nat.le_trans (Nat.le_of_lt q2) (by decide)
  constructor
  · have hs : ∃ T : Int, (FloatKind.f64.decode b).sum (FloatKind.f64.decode 4607182418800017408).opposite = some (.number (if T = 0 then false && true else T < 0) T.natAbs (min R (-52))) ∧ T = Ieee.signed false q (R - min R (-52)).toNat + Ieee.signed true 4503599627370496 (-52 - min R (-52)).toNat := by
      rw [hd, h1d]; exact ⟨_, rfl, rfl⟩
    obtain ⟨T, hs, hT⟩ := hs
    refine ⟨_, op2_write (o := .number (if T = 0 then false && true else T < 0) T.natAbs (min R (-52))) ?_, writeC (e := 0) ?_ (by omega) (by omega)⟩
    · show ((FloatKind.f64.decode b).sum (FloatKind.f64.decode 4607182418800017408).opposite).map _ = _
      rw [hs]; rfl
    · refine .inr ⟨by omega, ?_⟩
      rw [signed_eq, signed_eq] at hT
      rcases hR with rfl | rfl
      · have e : (2 : Nat) ^ ((0 : Int) - min (-52) (-52)).toNat = 4503599627370496 := by decide
        have e1 : ((-52 : Int) - min (-52) (-52)).toNat = 0 := by decide
        rw [e]
        rw [e1, if_neg (by decide), if_pos rfl] at hT
        omega
      · have e : (2 : Nat) ^ ((0 : Int) - min (-53) (-52)).toNat = 9007199254740992 := by decide
        have e1 : ((-53 : Int) - min (-53) (-52)).toNat = 0 := by decide
        have e2 : ((-52 : Int) - min (-53) (-52)).toNat = 1 := by decide
        rw [e]
        rw [e1, e2, if_neg (by decide), if_pos rfl] at hT
        omega
  · have hs : (FloatKind.f64.decode b).sum (FloatKind.f64.decode 4607182418800017408) = (FloatKind.f64.decode 4607182418800017408).sum (FloatKind.f64.decode b) := by
      rw [hd, h1d]
      simp only [Ieee.Datum.sum, Int.min_comm R (-52), Int.add_comm (Ieee.signed false q _)]
    have hc : op2 .add .f64 (some b) one = op2 .add .f64 one (some b) := by
      show ((FloatKind.f64.decode b).sum (FloatKind.f64.decode 4607182418800017408)).map _ = ((FloatKind.f64.decode 4607182418800017408).sum (FloatKind.f64.decode b)).map _
      rw [hs]
    rw [hc]
    exact (Gd.add one_bd ⟨b, rfl, hb⟩ one_gd one_nd ⟨b, rfl, by rw [hd]; exact .inl rfl⟩ (by omega) (by omega) (by omega)).1

theorem int_bd {n : Int} {e : Nat} (h : n.natAbs ≤ 2 ^ e) (he : e ≤ 52) : Bd e (cl .f64 (floatOfInt .f64 n)) := by
  have h1 : n.natAbs < 9007199254740992 := Nat.lt_of_le_of_lt h (Nat.lt_of_le_of_lt (Nat.pow_le_pow_right (by decide) he) (by decide))
  obtain ⟨a1, a2, a3⟩ := int_val n h1
  refine ⟨_, cl_some_iff.2 a3, cl_of_val a1 (by omega) ?_⟩
  rw [a2, Int.natAbs_mul, Int.natAbs_natCast]
  have e1 : ((e : Int) + 1074).toNat = e + 1074 := by omega
  rw [e1, Nat.pow_add]
  exact Nat.mul_le_mul_right _ h

theorem log_bd {q : Nat} {P : Int} {c : Option Nat} (h : Nm q P c) (h1 : -250 ≤ P) (h2 : P ≤ 100) : Bd 15 (logC (baseC c q P) (expo q P)) := by
  obtain ⟨R, k, hR⟩ := base_nm h h1 h2
  obtain ⟨s1, s2⟩ := near_one k (by omega)
  have s : Bd 0 (shareC (baseC c q P)) := s1.quo s2 (by omega) (by omega)
  have u : Bd 0 (op2 .mul .f64 (shareC (baseC c q P)) (shareC (baseC c q P))) := s.mul s (by omega) (by omega)
  have t := qC_bd u 13 (by omega)
  have a := two_bd.mul (s.mul t (by omega) (by omega)) (by omega) (by omega)
  have i := (int_bd (n := expo q P) (e := 8) (expo_le h1 h2) (by omega)).mul ln2_bd (by omega) (by omega)
  exact (a.add i (by omega) (by omega)).mono (by omega)

/-- A finite 32-bit number above zero as a 64-bit one. -/
theorem widen_nm {x m : Nat} {p : Int} (h : FloatKind.f32.decode x = .number false m p) (hm : m ≠ 0) : ∃ q P, Nm q P (convC .f32 .f64 (some x)) ∧ -250 ≤ P ∧ P ≤ 100 := by
  obtain ⟨b1, b2, b3⟩ := read32_bounds h
  have hl : m.log2 ≤ 23 := log2_le (by omega)
  have hn := norm false m 0 p hm (by omega) (by omega) (by omega)
  rw [Nat.pow_zero, Nat.mul_one] at hn
  have hq := near64 false m p hm (by omega) (by omega) (by omega)
  refine ⟨m * 2 ^ (52 - m.log2), p + (0 : Nat) + m.log2 - 52, ⟨FloatKind.f64.encode (.number false m p), ?_, hn, hq.2.2, hq.2.1⟩, by omega, by omega⟩
  unfold convC
  rw [if_neg (by decide)]
  show floatToFloatBits .f32 x .f64 = _
  unfold floatToFloatBits
  rw [if_neg (by decide), h]
  simp [hn, Ieee.Datum.isInfinity]
end Log
end Go.Proofs.Ytggklnanhiomjab
