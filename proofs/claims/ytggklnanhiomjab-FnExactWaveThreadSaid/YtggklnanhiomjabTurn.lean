/- The part of a turn and its sine as classes of 64-bit numbers, and their bounds. -/
import Derived.Test.YtggklnanhiomjabVal
import Derived.Test.YtggklnanhiomjabFlat
import Derived.Test.YtggklnanhiomjabAbs
import Derived.Test.YtggklnanhiomjabFin
namespace Go.Proofs.Ytggklnanhiomjab
set_option linter.unusedSimpArgs false
set_option linter.unusedVariables false
open Go.RowKit
namespace Fl

theorem cmpC_val (a b : Int) : cmpC .geq (some (compare a b)) = decide (b ≤ a) ∧ cmpC .leq (some (compare a b)) = decide (a ≤ b) ∧ cmpC .lss (some (compare a b)) = decide (a < b) ∧ cmpC .gtr (some (compare a b)) = decide (b < a) ∧ cmpC .eql (some (compare a b)) = decide (a = b) ∧ cmpC .neq (some (compare a b)) = decide (a ≠ b) := by
  rcases Int.lt_trichotomy a b with h | h | h
  · rw [Std.compare_eq_lt.2 h]
    exact ⟨(decide_eq_false (by omega)).symm, (decide_eq_true (by omega)).symm, (decide_eq_true (by omega)).symm, (decide_eq_false (by omega)).symm, (decide_eq_false (by omega)).symm, (decide_eq_true (by omega)).symm⟩
  · subst h
    rw [Std.compare_self]
    exact ⟨(decide_eq_true (by omega)).symm, (decide_eq_true (by omega)).symm, (decide_eq_false (by omega)).symm, (decide_eq_false (by omega)).symm, (decide_eq_true (by omega)).symm, (decide_eq_false (by omega)).symm⟩
  · rw [Std.compare_eq_gt.2 h]
    exact ⟨(decide_eq_true (by omega)).symm, (decide_eq_false (by omega)).symm, (decide_eq_false (by omega)).symm, (decide_eq_true (by omega)).symm, (decide_eq_false (by omega)).symm, (decide_eq_true (by omega)).symm⟩

theorem ord_val {a b : Nat} {s t : Bool} {m n : Nat} {p q : Int} (ha : FloatKind.f64.decode a = .number s m p) (hb : FloatKind.f64.decode b = .number t n q) :
    ord .f64 (some a) (some b) = some (compare (val (FloatKind.f64.decode a)) (val (FloatKind.f64.decode b))) :=
  order_val (decode_at ha) (decode_at hb)
end Fl

namespace Fl
section
variable {P : Program} {w : World} {ops : Array Oper} {rest : List Oper} {o : Oper} {a : Act} {Q : Exit → Act → World → Prop}
theorem wpList_fint (hg : Region.wanted o (yielded ops a.tmps) = true) {src dst : TypeId} {x : Operand} (hop : o.op = Op.convert src dst x) {s : FloatKind} {k : IntKind} {b : Nat} (hx : a.eval x = .float s b) (hs : (P.underlying src).isSome = true) (hd : P.underlying dst = some (.int k))
    {n : Int} (hn : floatToIntVal s b k = some n) (hK : wpList P ops Q rest (a.put o.dst (.int k n)) w) : wpList P ops Q (o :: rest) a w := by
  refine wpList_step fun K hK' => ?_
  rw [if_pos hg]
  unfold Oper.wp
  simp [execOp, hop, hx, run_convert_float_int w src dst s k b n hs hd hn, Result.andThen]
  exact hK' _ _ hK
end
end Fl

namespace Turn
open Fl Flat

theorem intFr (n : Int) : Fr .f64 (floatOfInt .f64 n) (cl .f64 (floatOfInt .f64 n)) := ⟨rfl, by unfold floatOfInt FloatKind.nearest; exact FloatKind.f64.format.write_lt _⟩


abbrev half : Option Nat := some 4602678819172646912
abbrev quarter : Option Nat := some 4598175219545276416
abbrev tau : Option Nat := some 4618760256179416344

/-- The whole part, towards zero. -/
def wholeC (c : Option Nat) : Int := match c with
  | some b => ((FloatKind.f64.decode b).toInt .zero).getD 0
  | none => 0

theorem k52 : 2 ^ ((52 : Int) + 1074).toNat ≤ 4503599627370496 * 2 ^ 1074 := by decide +kernel
theorem k52e : ((52 : Int) + 1074).toNat = 1126 := rfl
theorem k0 : ((0 : Int) + 1074).toNat = 1074 := rfl

theorem whole_ok {b : Nat} (h : CL 52 (FloatKind.f64.decode b)) : floatToIntVal .f64 b .i64 = some (wholeC (some b)) ∧ (wholeC (some b)).natAbs ≤ 4503599627370496 ∧ (val (FloatKind.f64.decode b) - wholeC (some b) * ((2 ^ 1074 : Nat) : Int)).natAbs < 2 ^ 1074 := by
  obtain ⟨s, m, p, hd⟩ := h.isNum
  have ha := decode_at hd
  obtain ⟨n, hn, h1, h2⟩ := toInt_val ha
  have hv := val_of_cl ha h
  have e : wholeC (some b) = n := by show ((FloatKind.f64.decode b).toInt .zero).getD 0 = n; rw [hn]; rfl
  have hle : n.natAbs ≤ 4503599627370496 := by
    have h3 := Nat.le_trans h2 (Nat.le_trans hv k52)
    have hp := Nat.two_pow_pos 1074
    generalize 2 ^ 1074 = U at h3 hp
    exact Nat.le_of_mul_le_mul_right h3 hp
  rw [e]
  refine ⟨?_, hle, h1⟩
  unfold floatToIntVal
  rw [hn]
  have hmin : IntKind.i64.min = -9223372036854775808 := by decide
  have hmax : IntKind.i64.max = 9223372036854775807 := by decide
  simp only
  rw [hmin, hmax, if_pos (by omega)]

/-- A number less its whole part. -/
def rawC (c : Option Nat) : Option Nat := op2 .sub .f64 c (cl .f64 (floatOfInt .f64 (wholeC c)))
/-- The part of a turn; neg: whether the difference is below zero. -/
def partC (neg : Bool) (c : Option Nat) : Option Nat := if neg then op2 .add .f64 (rawC c) one else rawC c
def lowC (below : Bool) (c : Option Nat) : Option Nat := if below then op2 .sub .f64 c half else c
def backC (high : Bool) (c : Option Nat) : Option Nat := if high then op2 .sub .f64 half c else c
def dC (j : Nat) : Option Nat := cl .f64 (floatOfInt .f64 (2 * (8 - (j : Int)) * (2 * (8 - (j : Int)) + 1)))
def sC (u : Option Nat) : Nat → Option Nat
  | 0 => one
  | j + 1 => op2 .sub .f64 one (op2 .quo .f64 (op2 .mul .f64 u (sC u j)) (dC j))
def zC (c : Option Nat) : Option Nat := op2 .mul .f64 c tau
def endC (c : Option Nat) : Option Nat := op2 .mul .f64 (zC c) (sC (op2 .mul .f64 (zC c) (zC c)) 8)
def signC (below : Bool) (c : Option Nat) : Option Nat := if below then c.map (Op.negFloat .f64) else c
/-- The sine of a part of a turn. -/
def partSine (below high : Bool) (c : Option Nat) : Option Nat := signC below (endC (backC high (lowC below c)))

theorem quarter_bd : Bd 0 quarter := ⟨_, rfl, by rw [show FloatKind.f64.decode 4598175219545276416 = .number false 4503599627370496 (-54) by decide +kernel]; exact .inr ⟨by decide, by decide⟩⟩
theorem half_bd : Bd 0 half := ⟨_, rfl, by rw [show FloatKind.f64.decode 4602678819172646912 = .number false 4503599627370496 (-53) by decide +kernel]; exact .inr ⟨by decide, by decide⟩⟩
theorem tau_bd : Bd 3 tau := ⟨_, rfl, by rw [show FloatKind.f64.decode 4618760256179416344 = .number false 7074237752028440 (-50) by decide +kernel]; exact .inr ⟨by decide, by decide⟩⟩

theorem raw_bd {c : Option Nat} (h : Bd 52 c) : Bd 0 (rawC c) := by
  obtain ⟨b, rfl, k⟩ := h
  obtain ⟨h1, h2, h3⟩ := whole_ok k
  obtain ⟨a1, a2, a3⟩ := int_val (wholeC (some b)) (by omega)
  obtain ⟨s, m, p, hd⟩ := k.isNum
  have ha := decode_at hd
  obtain ⟨o1, o2⟩ := opposite_val a1
  have hc : cl .f64 (floatOfInt .f64 (wholeC (some b))) = some (floatOfInt .f64 (wholeC (some b))) := cl_some_iff.2 a3
  generalize hF : floatOfInt .f64 (wholeC (some b)) = F at *
  obtain ⟨o, ho⟩ : ∃ o, (FloatKind.f64.decode b).sum (FloatKind.f64.decode F).opposite = some o := by
    obtain ⟨s', m', p', hd', _⟩ := o1.num
    rw [hd, hd']; exact ⟨_, rfl⟩
  obtain ⟨q1, q2⟩ := sum_val ha o1 ho
  refine ⟨_, ?_, writeC (cl_of_val q1 (e := 0) (by omega) ?_) (by omega) (by omega)⟩
  · show op2 .sub .f64 (some b) (cl .f64 (floatOfInt .f64 (wholeC (some b)))) = _
    rw [hF, hc]
    refine op2_write (o := o) ?_
    show ((FloatKind.f64.decode b).sum (FloatKind.f64.decode F).opposite).map _ = _
    rw [ho]; rfl
  · rw [q2, o2, a2, ← Int.sub_eq_add_neg, k0]
    exact Nat.le_of_lt h3

theorem part_bd {c : Option Nat} (h : Bd 52 c) (neg : Bool) : Bd 1 (partC neg c) := by
  cases neg
  · exact (raw_bd h).mono (by omega)
  · exact ((raw_bd h).add one_bd (by omega) (by omega)).mono (by omega)

theorem low_bd {c : Option Nat} (h : Bd 1 c) (below : Bool) : Bd 2 (lowC below c) := by
  cases below
  · exact h.mono (by omega)
  · exact (h.sub half_bd (by omega) (by omega)).mono (by omega)

theorem back_bd {c : Option Nat} (h : Bd 2 c) (high : Bool) : Bd 3 (backC high c) := by
  cases high
  · exact h.mono (by omega)
  · exact (half_bd.sub h (by omega) (by omega)).mono (by omega)

theorem dC_gd {j : Nat} (h : j < 8) : Gd 0 (dC j) := by
  have : j = 0 ∨ j = 1 ∨ j = 2 ∨ j = 3 ∨ j = 4 ∨ j = 5 ∨ j = 6 ∨ j = 7 := by omega
  rcases this with rfl | rfl | rfl | rfl | rfl | rfl | rfl | rfl
  · exact ⟨_, (by decide +kernel : dC 0 = some 4643492690795692032), by rw [show FloatKind.f64.decode 4643492690795692032 = .number false 4785074604081152 (-44) by decide +kernel]; exact ⟨by decide, by decide +kernel⟩⟩
  · exact ⟨_, (by decide +kernel : dC 1 = some 4641592734702895104), by rw [show FloatKind.f64.decode 4641592734702895104 = .number false 7388718138654720 (-45) by decide +kernel]; exact ⟨by decide, by decide +kernel⟩⟩
  · exact ⟨_, (by decide +kernel : dC 2 = some 4639692778610098176), by rw [show FloatKind.f64.decode 4639692778610098176 = .number false 5488762045857792 (-45) by decide +kernel]; exact ⟨by decide, by decide +kernel⟩⟩
  · exact ⟨_, (by decide +kernel : dC 3 = some 4637440978796412928), by rw [show FloatKind.f64.decode 4637440978796412928 = .number false 7740561859543040 (-46) by decide +kernel]; exact ⟨by decide, by decide +kernel⟩⟩
  · exact ⟨_, (by decide +kernel : dC 4 = some 4634766966517661696), by rw [show FloatKind.f64.decode 4634766966517661696 = .number false 5066549580791808 (-46) by decide +kernel]; exact ⟨by decide, by decide +kernel⟩⟩
  · exact ⟨_, (by decide +kernel : dC 5 = some 4631107791820423168), by rw [show FloatKind.f64.decode 4631107791820423168 = .number false 5910974510923776 (-47) by decide +kernel]; exact ⟨by decide, by decide +kernel⟩⟩
  · exact ⟨_, (by decide +kernel : dC 6 = some 4626322717216342016), by rw [show FloatKind.f64.decode 4626322717216342016 = .number false 5629499534213120 (-48) by decide +kernel]; exact ⟨by decide, by decide +kernel⟩⟩
  · exact ⟨_, (by decide +kernel : dC 7 = some 4618441417868443648), by rw [show FloatKind.f64.decode 4618441417868443648 = .number false 6755399441055744 (-50) by decide +kernel]; exact ⟨by decide, by decide +kernel⟩⟩

theorem sC_bd {u : Option Nat} (h : Bd 12 u) : ∀ j : Nat, j ≤ 8 → Bd (13 * (j : Int)) (sC u j)
  | 0, _ => one_bd
  | j + 1, hj => by
    have m := h.mul (sC_bd h j (by omega)) (by omega) (by omega)
    have q := m.quo (dC_gd (show j < 8 by omega)) (by omega) (by omega)
    exact (one_bd.sub q (by omega) (by omega)).mono (by omega)

theorem end_bd {c : Option Nat} (h : Bd 3 c) : Bd 110 (endC c) := by
  have z : Bd 6 (zC c) := h.mul tau_bd (by omega) (by omega)
  have u : Bd 12 (op2 .mul .f64 (zC c) (zC c)) := z.mul z (by omega) (by omega)
  exact (z.mul (sC_bd u 8 (by omega)) (by omega) (by omega)).mono (by omega)

theorem sign_bd {c : Option Nat} {e : Int} (h : Bd e c) (below : Bool) : Bd e (signC below c) := by
  cases below
  · exact h
  · obtain ⟨b, rfl, k⟩ := h
    exact ⟨_, rfl, by rw [read_neg]; exact opposite_cl k⟩

theorem sine_bd {c : Option Nat} (h : Bd 1 c) (below high : Bool) : Bd 110 (partSine below high c) := sign_bd (end_bd (back_bd (low_bd h below) high)) below
theorem nonfin_sub {y : Nat} (h : fin .f32 y = false) : op2 .sub .f64 (convC .f32 .f64 (cl .f32 y)) (convC .f32 .f64 (cl .f32 y)) = none := by
  rcases decode_inf h with ⟨s, hd⟩ | ⟨s, u, hd⟩
  · have hc : cl .f32 y = some y := cl_some_iff.2 (by rw [hd]; rfl)
    have e : convC .f32 .f64 (some y) = some (FloatKind.f64.encode (.infinity s)) := by
      unfold convC
      rw [if_neg (by decide)]
      show floatToFloatBits .f32 y .f64 = _
      unfold floatToFloatBits
      rw [if_neg (by decide), hd]
    rw [hc, e]
    cases s <;> decide +kernel
  · have hc : cl .f32 y = none := cl_none_iff.2 (by rw [hd]; rfl)
    rw [hc]; rfl

theorem fin_of_num {k : FloatKind} {b : Nat} {s : Bool} {m : Nat} {p : Int} (h : k.decode b = .number s m p) : fin k b = true := by
  cases hf : fin k b
  · rcases decode_inf hf with ⟨s', hd⟩ | ⟨s', u, hd⟩ <;> rw [hd] at h <;> cases h
  · rfl

theorem fin_sub {b : Nat} {s : Bool} {m : Nat} {p : Int} (h : FloatKind.f64.decode b = .number s m p) : op2 .sub .f64 (some b) (some b) = some 0 := by
  have hc : cl .f64 b = some b := cl_some_iff.2 (by rw [h]; rfl)
  have := sub_self .f64 b
  rw [hc, fin_of_num h] at this
  simpa using this

theorem big_val : val (FloatKind.f64.decode 4841369599423283200) = ((2 ^ 1126 : Nat) : Int) ∧ val (FloatKind.f64.decode 14064741636278059008) = -((2 ^ 1126 : Nat) : Int) := by
  rw [show FloatKind.f64.decode 4841369599423283200 = .number false 4503599627370496 0 by decide +kernel, show FloatKind.f64.decode 14064741636278059008 = .number true 4503599627370496 0 by decide +kernel]
  decide +kernel

/-- The tests of a number against 2^52, by its value. -/
theorem big_tests {b : Nat} {s : Bool} {m : Nat} {p : Int} (h : FloatKind.f64.decode b = .number s m p) :
    cmpC .geq (ord .f64 (some b) (some 4841369599423283200)) = decide (((2 ^ 1126 : Nat) : Int) ≤ val (FloatKind.f64.decode b)) ∧
    cmpC .leq (ord .f64 (some b) (some 14064741636278059008)) = decide (val (FloatKind.f64.decode b) ≤ -((2 ^ 1126 : Nat) : Int)) ∧
    cmpC .geq (ord .f64 ((some b).map fun b => b % 9223372036854775808) (some 4841369599423283200)) = decide (2 ^ 1126 ≤ (val (FloatKind.f64.decode b)).natAbs) := by
  have d1 : FloatKind.f64.decode 4841369599423283200 = .number false 4503599627370496 0 := by decide +kernel
  have d2 : FloatKind.f64.decode 14064741636278059008 = .number true 4503599627370496 0 := by decide +kernel
  have ea := read_abs h
  refine ⟨?_, ?_, ?_⟩
  · rw [ord_val h d1, (cmpC_val _ _).1, big_val.1]
  · rw [ord_val h d2, (cmpC_val _ _).2.1, big_val.2]
  · show cmpC .geq (ord .f64 (some (b % 9223372036854775808)) (some 4841369599423283200)) = _
    rw [ord_val ea d1, (cmpC_val _ _).1, big_val.1, ea, h, abs_val]
    refine decide_eq_decide.2 ?_
    show _ ≤ Ieee.signed false m (p + 1074).toNat ↔ _
    rw [signed_eq]
    simp only [Bool.false_eq_true, if_false]
    generalize 2 ^ 1126 = K
    generalize m * 2 ^ (p + 1074).toNat = V
    omega

theorem sine_args {b : Nat} {s : Bool} {m : Nat} {p : Int} (h : FloatKind.f64.decode b = .number s m p) (hb : (val (FloatKind.f64.decode b)).natAbs < 2 ^ 1126) : Bd 52 (some b) :=
  ⟨b, rfl, cl_of_val (decode_at h) (by omega) (by rw [k52e]; exact Nat.le_of_lt hb)⟩

end Turn
end Go.Proofs.Ytggklnanhiomjab
