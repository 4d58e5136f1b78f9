/- Floats as classes: a word that is a NaN says no more than that; every other word says its bits. What each operation of the walk gives, as a class. -/
import Derived.WalkKit
import Derived.WalkLawsBesides
import Derived.Deep.Draws
import Derived.Lib.Hide
namespace Go.Proofs.Ytjkkefbfhapblaa
set_option linter.unusedSimpArgs false
set_option linter.unusedVariables false
open Go.RowKit
namespace Fl

/-- The class of a word. -/
def cl (k : FloatKind) (b : Nat) : Option Nat := if (k.decode b).isNaN then none else some b

/-- An operation on classes. -/
def op2 (op : BinOp) (k : FloatKind) (x y : Option Nat) : Option Nat := x.bind fun a => y.bind fun b => floatBits op k a b

/-- r is a word of the class c. -/
def Fr (k : FloatKind) (r : Nat) (c : Option Nat) : Prop := cl k r = c ∧ r < 2 ^ k.format.width

theorem cl_some {k : FloatKind} {b a : Nat} (h : cl k b = some a) : b = a := by
  unfold cl at h; split at h
  · cases h
  · exact Option.some.inj h

theorem cl_some_iff {k : FloatKind} {b : Nat} : cl k b = some b ↔ (k.decode b).isNaN = false := by
  unfold cl; split <;> simp_all

theorem cl_none_iff {k : FloatKind} {b : Nat} : cl k b = none ↔ (k.decode b).isNaN = true := by
  unfold cl; split <;> simp_all

theorem infRung_lt_sw (f : Ieee.Format) : f.infRung < f.signWeight := f.infRung_lt

theorem read_word (f : Ieee.Format) (s : Bool) (rung : Nat) (h : rung ≤ f.infRung) : (f.read (f.word s rung)).isNaN = false := by
  have h1 := f.infRung_lt
  have e : f.word s rung % f.signWeight = rung := by
    unfold Ieee.Format.word
    split
    · rw [Nat.add_mod_left]; exact Nat.mod_eq_of_lt (by omega)
    · exact Nat.mod_eq_of_lt (by omega)
  unfold Ieee.Format.read
  simp only [e]
  split
  · rfl
  · split
    · rfl
    · split
      · rfl
      · omega

theorem write_notNaN (f : Ieee.Format) (d : Ieee.Datum) (h : d.isNaN = false) : (f.read (f.write d)).isNaN = false := by
  cases d with
  | number s m p =>
    show (f.read (f.nearest s m p)).isNaN = false
    unfold Ieee.Format.nearest
    dsimp only
    split
    · exact read_word f s 0 (Nat.zero_le _)
    · exact read_word f s _ (Nat.min_le_right ..)
  | infinity s => exact read_word f s _ (Nat.le_refl _)
  | nan s t => cases h

theorem sum_notNaN {x y d : Ieee.Datum} (h : x.sum y = some d) : x.isNaN = false ∧ y.isNaN = false ∧ d.isNaN = false := by
  cases x <;> cases y <;> simp only [Ieee.Datum.sum] at h
  case number.number => cases h; exact ⟨rfl, rfl, rfl⟩
  case number.infinity => cases h; exact ⟨rfl, rfl, rfl⟩
  case infinity.number => cases h; exact ⟨rfl, rfl, rfl⟩
  case infinity.infinity => split at h <;> cases h; exact ⟨rfl, rfl, rfl⟩
  all_goals cases h

theorem product_notNaN {x y d : Ieee.Datum} (h : x.product y = some d) : x.isNaN = false ∧ y.isNaN = false ∧ d.isNaN = false := by
  cases x <;> cases y <;> simp only [Ieee.Datum.product] at h
  case number.number => cases h; exact ⟨rfl, rfl, rfl⟩
  case number.infinity => split at h <;> cases h; exact ⟨rfl, rfl, rfl⟩
  case infinity.number => split at h <;> cases h; exact ⟨rfl, rfl, rfl⟩
  case infinity.infinity => cases h; exact ⟨rfl, rfl, rfl⟩
  all_goals cases h

theorem quotient_notNaN {n : Nat} {x y d : Ieee.Datum} (h : x.quotient n y = some d) : x.isNaN = false ∧ y.isNaN = false ∧ d.isNaN = false := by
  cases x <;> cases y <;> simp only [Ieee.Datum.quotient] at h
  case number.number =>
    split at h
    · split at h <;> cases h; exact ⟨rfl, rfl, rfl⟩
    · cases h; exact ⟨rfl, rfl, rfl⟩
  case number.infinity => cases h; exact ⟨rfl, rfl, rfl⟩
  case infinity.number => cases h; exact ⟨rfl, rfl, rfl⟩
  all_goals cases h

theorem root_notNaN {n : Nat} {x d : Ieee.Datum} (h : x.root n = some d) : x.isNaN = false ∧ d.isNaN = false := by
  cases x <;> simp only [Ieee.Datum.root] at h
  case number =>
    split at h
    · cases h; exact ⟨rfl, rfl⟩
    · split at h <;> cases h; exact ⟨rfl, rfl⟩
  case infinity => split at h <;> cases h; exact ⟨rfl, rfl⟩
  case nan => cases h

theorem opposite_notNaN (d : Ieee.Datum) : d.opposite.isNaN = d.isNaN := by cases d <;> rfl

theorem floatBits_notNaN {op : BinOp} {k : FloatKind} {x y r : Nat} (h : floatBits op k x y = some r) :
    (k.decode x).isNaN = false ∧ (k.decode y).isNaN = false ∧ (k.decode r).isNaN = false := by
  unfold floatBits at h
  split at h
  · obtain ⟨d, h1, h2⟩ := Option.map_eq_some_iff.1 h
    obtain ⟨a, b, c⟩ := sum_notNaN h1
    exact ⟨a, b, by rw [← h2]; exact write_notNaN _ _ c⟩
  · obtain ⟨d, h1, h2⟩ := Option.map_eq_some_iff.1 h
    obtain ⟨a, b, c⟩ := sum_notNaN h1
    rw [opposite_notNaN] at b
    exact ⟨a, b, by rw [← h2]; exact write_notNaN _ _ c⟩
  · obtain ⟨d, h1, h2⟩ := Option.map_eq_some_iff.1 h
    obtain ⟨a, b, c⟩ := product_notNaN h1
    exact ⟨a, b, by rw [← h2]; exact write_notNaN _ _ c⟩
  · obtain ⟨d, h1, h2⟩ := Option.map_eq_some_iff.1 h
    obtain ⟨a, b, c⟩ := quotient_notNaN h1
    exact ⟨a, b, by rw [← h2]; exact write_notNaN _ _ c⟩
  · cases h

/-- A NaN that the tape gives is one, and fits. -/
theorem nan32 (t : Nat) : (FloatKind.f32.decode ((t % 2) * 2 ^ 31 + 0x7f800000 + 1 + (t / 2) % (2 ^ 23 - 1))).isNaN = true ∧ (t % 2) * 2 ^ 31 + 0x7f800000 + 1 + (t / 2) % (2 ^ 23 - 1) < 2 ^ 32 := by
  have h1 : t % 2 < 2 := Nat.mod_lt _ (by decide)
  have h2 : (t / 2) % (2 ^ 23 - 1) < 2 ^ 23 - 1 := Nat.mod_lt _ (by decide)
  generalize t % 2 = a at *
  generalize (t / 2) % (2 ^ 23 - 1) = b at *
  refine ⟨?_, by omega⟩
  have e : (a * 2 ^ 31 + 0x7f800000 + 1 + b) % 2147483648 = 0x7f800000 + 1 + b := by omega
  show (Ieee.Format.read Ieee.single _).isNaN = true
  unfold Ieee.Format.read
  simp only [show Ieee.single.signWeight = 2147483648 from by decide, show Ieee.single.binade = 8388608 from by decide, show Ieee.single.infRung = 2139095040 from by decide, e]
  rw [if_neg (by omega), if_neg (by omega), if_neg (by omega)]
  rfl

theorem nan64 (t : Nat) : (FloatKind.f64.decode ((t % 2) * 2 ^ 63 + 0x7ff0000000000000 + 1 + (t / 2) % (2 ^ 52 - 1))).isNaN = true ∧ (t % 2) * 2 ^ 63 + 0x7ff0000000000000 + 1 + (t / 2) % (2 ^ 52 - 1) < 2 ^ 64 := by
  have h1 : t % 2 < 2 := Nat.mod_lt _ (by decide)
  have h2 : (t / 2) % (2 ^ 52 - 1) < 2 ^ 52 - 1 := Nat.mod_lt _ (by decide)
  generalize t % 2 = a at *
  generalize (t / 2) % (2 ^ 52 - 1) = b at *
  refine ⟨?_, by omega⟩
  have e : (a * 2 ^ 63 + 0x7ff0000000000000 + 1 + b) % 9223372036854775808 = 0x7ff0000000000000 + 1 + b := by omega
  show (Ieee.Format.read Ieee.double _).isNaN = true
  unfold Ieee.Format.read
  simp only [show Ieee.double.signWeight = 9223372036854775808 from by decide, show Ieee.double.binade = 4503599627370496 from by decide, show Ieee.double.infRung = 9218868437227405312 from by decide, e]
  rw [if_neg (by omega), if_neg (by omega), if_neg (by omega)]
  rfl

theorem nanBits_fr (k : FloatKind) (x y t : Nat) : Fr k ((Question.nanBits k x y).cut t) none := by
  cases k
  · obtain ⟨a, b⟩ := nan32 t; exact ⟨cl_none_iff.2 a, b⟩
  · obtain ⟨a, b⟩ := nan64 t; exact ⟨cl_none_iff.2 a, b⟩

theorem nanConv_fr (k : FloatKind) (x t : Nat) : Fr k ((Question.nanConv k x).cut t) none := by
  cases k
  · obtain ⟨a, b⟩ := nan32 t; exact ⟨cl_none_iff.2 a, b⟩
  · obtain ⟨a, b⟩ := nan64 t; exact ⟨cl_none_iff.2 a, b⟩

theorem wf_lt {k : FloatKind} {b : Nat} (h : (Lit.float k b).wf = true) : b < 2 ^ k.format.width := by
  cases k
  · have : b < 4294967296 := by simpa [Lit.wf] using h
    exact this
  · have : b < 18446744073709551616 := by simpa [Lit.wf] using h
    exact this

theorem op2_cl {op : BinOp} {k : FloatKind} {x y r : Nat} (h : floatBits op k x y = some r) : op2 op k (cl k x) (cl k y) = some r ∧ cl k r = some r := by
  obtain ⟨a, b, c⟩ := floatBits_notNaN h
  rw [cl_some_iff.2 a, cl_some_iff.2 b]
  exact ⟨h, cl_some_iff.2 c⟩

theorem op2_none {op : BinOp} {k : FloatKind} {x y : Nat} (h : floatBits op k x y = none) : op2 op k (cl k x) (cl k y) = none := by
  unfold op2
  cases h1 : cl k x with
  | none => rfl
  | some a =>
    cases h2 : cl k y with
    | none => rfl
    | some b =>
      obtain rfl := cl_some h1
      obtain rfl := cl_some h2
      exact h

section
variable {P : Program} (w : World)

/-- An arithmetic operation on floats: some word of the class; the world but for draws. -/
theorem run_op (op : BinOp) (hop : op = .add ∨ op = .sub ∨ op = .mul ∨ op = .quo) (t : TypeId) (k : FloatKind) (x y : Nat) :
    ∃ r n, (binOp op t (.float k x) (.float k y)).run P w = .ok (.float k r) (w.drewN n) ∧ Fr k r (op2 op k (cl k x) (cl k y)) := by
  cases h : floatBits op k x y with
  | some r =>
    refine ⟨r, 0, run_float_arith w op t k x y r h, ?_⟩
    obtain ⟨a, b⟩ := op2_cl h
    rw [a]
    refine ⟨b, ?_⟩
    exact wf_lt (floatBits_wf h)
  | none =>
    refine ⟨(Question.nanBits k x y).cut (w.tape w.drawn (.nanBits k x y)), 1, ?_, ?_⟩
    · unfold floatBits at h
      rcases hop with rfl | rfl | rfl | rfl <;> simp only at h <;> simp [binOp, Op.floatArith, h, choose, Sem.run, Question.forced, World.drewN]
    · rw [op2_none h]; exact nanBits_fr k x y _

/-- A comparison is one of classes. -/
def ord (k : FloatKind) (x y : Option Nat) : Option Ordering := x.bind fun a => y.bind fun b => k.format.order a b

theorem order_none_left {f : Ieee.Format} {x y : Nat} (h : (f.read x).isNaN = true) : f.order x y = none := by
  unfold Ieee.Format.order
  cases hx : f.read x with
  | nan s t => cases f.read y <;> rfl
  | number => rw [hx] at h; cases h
  | infinity => rw [hx] at h; cases h

theorem order_none_right {f : Ieee.Format} {x y : Nat} (h : (f.read y).isNaN = true) : f.order x y = none := by
  unfold Ieee.Format.order
  cases hy : f.read y with
  | nan s t => cases f.read x <;> rfl
  | number => rw [hy] at h; cases h
  | infinity => rw [hy] at h; cases h

theorem order_cl (k : FloatKind) (x y : Nat) : k.format.order x y = ord k (cl k x) (cl k y) := by
  unfold ord
  cases h1 : cl k x with
  | none => exact order_none_left (cl_none_iff.1 h1)
  | some a =>
    obtain rfl := cl_some h1
    cases h2 : cl k y with
    | none => exact order_none_right (cl_none_iff.1 h2)
    | some b => obtain rfl := cl_some h2; rfl

end
end Fl
end Go.Proofs.Ytjkkefbfhapblaa
