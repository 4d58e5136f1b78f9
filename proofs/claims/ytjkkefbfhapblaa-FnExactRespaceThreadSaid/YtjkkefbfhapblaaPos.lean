/- Classes of numbers that are not negative: sums, squares, roots, conversions of them; lengths of what lies between finite points are numbers. -/
import Derived.Test.YtjkkefbfhapblaaRate
import Derived.Test.YtjkkefbfhapblaaRoot
namespace Go.Proofs.Ytjkkefbfhapblaa
set_option linter.unusedSimpArgs false
set_option linter.unusedVariables false
open Go.RowKit
namespace Pos
open Fl Rate

/-- A datum that is not negative, and a number or the infinity. -/
def Non (d : Ieee.Datum) : Prop := (∃ m p, d = .number false m p) ∨ d = .infinity false

theorem read_non (f : Ieee.Format) (R : Nat) (h : R ≤ f.infRung) : Non (f.read (f.word false R)) := by
  have h1 := f.infRung_lt
  unfold Ieee.Format.read
  simp only [word_mod f false R (by omega), word_sign f false R (by omega)]
  split
  · exact .inl ⟨_, _, rfl⟩
  · split
    · exact .inl ⟨_, _, rfl⟩
    · split
      · exact .inr rfl
      · omega

theorem write_non (f : Ieee.Format) {d : Ieee.Datum} (h : Non d) : Non (f.read (f.write d)) := by
  rcases h with ⟨m, p, rfl⟩ | rfl
  · show Non (f.read (f.nearest false m p))
    unfold Ieee.Format.nearest
    dsimp only
    split
    · exact read_non f 0 (Nat.zero_le _)
    · exact read_non f _ (Nat.min_le_right ..)
  · exact read_non f _ (Nat.le_refl _)

/-- A class of such a word. -/
def PosC (k : FloatKind) (c : Option Nat) : Prop := ∃ b, c = some b ∧ b < 2 ^ k.format.width ∧ Non (k.decode b)

theorem pos_write {k : FloatKind} {d : Ieee.Datum} (h : Non d) : PosC k (some (k.encode d)) := ⟨_, rfl, k.format.write_lt d, write_non k.format h⟩

theorem non_sum {x y : Ieee.Datum} (hx : Non x) (hy : Non y) : ∃ d, x.sum y = some d ∧ Non d := by
  rcases hx with ⟨m, p, rfl⟩ | rfl <;> rcases hy with ⟨n, q, rfl⟩ | rfl
  · have hT : ∀ a b : Nat, ¬ (Ieee.signed false m a + Ieee.signed false n b < 0) := by
      intro a b
      unfold Ieee.signed
      simp only [Bool.false_eq_true, if_false]
      generalize m <<< a = x
      generalize n <<< b = y
      omega
    refine ⟨_, rfl, .inl ⟨_, _, congrArg (fun s => Ieee.Datum.number s _ _) ?_⟩⟩
    split
    · rfl
    · exact decide_eq_false (hT _ _)
  · exact ⟨_, rfl, .inr rfl⟩
  · exact ⟨_, rfl, .inr rfl⟩
  · exact ⟨.infinity false, rfl, .inr rfl⟩

theorem non_square {x : Ieee.Datum} (hx : x.isNaN = false) : ∃ d, x.product x = some d ∧ Non d := by
  cases x with
  | number s m i => exact ⟨_, rfl, .inl ⟨_, _, by rw [Bool.xor_self]⟩⟩
  | infinity s => exact ⟨_, rfl, .inr (by rw [Bool.xor_self])⟩
  | nan s t => cases hx

theorem non_root {n : Nat} {x : Ieee.Datum} (hx : Non x) : ∃ d, x.root n = some d ∧ Non d := by
  rcases hx with ⟨m, p, rfl⟩ | rfl
  · simp only [Ieee.Datum.root]
    split
    · exact ⟨_, rfl, .inl ⟨_, _, rfl⟩⟩
    · exact ⟨_, rfl, .inl ⟨_, _, rfl⟩⟩
  · exact ⟨_, rfl, .inr rfl⟩

/-- A class that is some number or an infinity. -/
def NumC (c : Option Nat) : Prop := ∃ r, c = some r ∧ (FloatKind.f32.decode r).isNaN = false

theorem fin_num {c : Option Nat} (h : finC c = true) : ∃ b s m p, c = some b ∧ FloatKind.f32.decode b = .number s m p := by
  cases c with
  | none => cases h
  | some b =>
    obtain ⟨s, m, p, hd⟩ := decode_fin (k := .f32) h
    exact ⟨b, s, m, p, rfl, hd⟩

theorem num_sub {a b : Option Nat} (ha : finC a = true) (hb : finC b = true) : NumC (op2 .sub .f32 a b) := by
  obtain ⟨x, s, m, p, rfl, hx⟩ := fin_num ha
  obtain ⟨y, t, n, q, rfl, hy⟩ := fin_num hb
  have e : op2 .sub .f32 (some x) (some y) = ((FloatKind.f32.decode x).sum (FloatKind.f32.decode y).opposite).map FloatKind.f32.encode := rfl
  rw [e, hx, hy]
  exact ⟨_, rfl, write_notNaN _ _ rfl⟩

theorem sq_pos {c : Option Nat} (h : NumC c) : PosC .f32 (op2 .mul .f32 c c) := by
  obtain ⟨x, rfl, hx⟩ := h
  obtain ⟨d, h1, h2⟩ := non_square hx
  have e : op2 .mul .f32 (some x) (some x) = ((FloatKind.f32.decode x).product (FloatKind.f32.decode x)).map FloatKind.f32.encode := rfl
  rw [e, h1]
  exact pos_write h2

theorem add_pos {c d : Option Nat} (hc : PosC .f32 c) (hd : PosC .f32 d) : PosC .f32 (op2 .add .f32 c d) := by
  obtain ⟨x, rfl, _, hx⟩ := hc
  obtain ⟨y, rfl, _, hy⟩ := hd
  obtain ⟨d, h1, h2⟩ := non_sum hx hy
  have e : op2 .add .f32 (some x) (some y) = ((FloatKind.f32.decode x).sum (FloatKind.f32.decode y)).map FloatKind.f32.encode := rfl
  rw [e, h1]
  exact pos_write h2

theorem conv_pos {s k : FloatKind} {c : Option Nat} (hsk : s ≠ k) (h : PosC s c) (hf : Fits s k c) : PosC k (convC s k c) := by
  obtain ⟨b, rfl, hb, hn⟩ := h
  have hnn : (s.decode b).isNaN = false := by rcases hn with ⟨m, p, e⟩ | e <;> rw [e] <;> rfl
  have hs : (floatToFloatBits s b k).isSome = true := by
    rcases hf with h | h
    · exact absurd h hsk
    · exact h b rfl hnn
  have e : convC s k (some b) = floatToFloatBits s b k := by unfold convC; rw [if_neg hsk]; rfl
  rw [e]
  unfold floatToFloatBits at hs ⊢
  rw [if_neg hsk] at hs ⊢
  rcases hn with ⟨m, p, hd⟩ | hd
  · rw [hd] at hs ⊢
    simp only at hs ⊢
    split at hs
    · cases hs
    · next h => rw [if_neg h]; exact pos_write (.inl ⟨_, _, rfl⟩)
  · rw [hd]
    exact pos_write (.inr rfl)

theorem root_pos {c : Option Nat} (h : PosC .f64 c) : PosC .f64 (sqrtC c) := by
  obtain ⟨b, rfl, hb, hn⟩ := h
  obtain ⟨d, h1, h2⟩ := non_root (n := FloatKind.f64.format.fractionBits + 2) hn
  show PosC .f64 (FloatKind.f64.format.sqrt b)
  unfold Ieee.Format.sqrt
  obtain ⟨d, h1, h2⟩ := non_root (n := _) hn
  rw [show FloatKind.f64.format.read b = FloatKind.f64.decode b from rfl, h1]
  exact pos_write h2

/-- The length of a vector, as a class. -/
def sizC (c0 c1 c2 : Option Nat) : Option Nat := convC .f64 .f32 (sqrtC (convC .f32 .f64 (op2 .add .f32 (op2 .add .f32 (op2 .mul .f32 c0 c0) (op2 .mul .f32 c1 c1)) (op2 .mul .f32 c2 c2))))

theorem siz_pos {c0 c1 c2 : Option Nat} (h0 : NumC c0) (h1 : NumC c1) (h2 : NumC c2) : PosC .f32 (sizC c0 c1 c2) :=
  conv_pos (by decide) (root_pos (conv_pos (by decide) (add_pos (add_pos (sq_pos h0) (sq_pos h1)) (sq_pos h2)) (fits_wide _))) (fits_root _)

theorem inf_word {b : Nat} (hb : b < 4294967296) (h : FloatKind.f32.decode b = .infinity false) : b = 2139095040 := by
  change Ieee.single.read b = _ at h
  unfold Ieee.Format.read at h
  simp only [show Ieee.single.signWeight = 2147483648 from by decide, show Ieee.single.binade = 8388608 from by decide, show Ieee.single.infRung = 2139095040 from by decide] at h
  split at h
  · cases h
  · split at h
    · cases h
    · split at h
      · next h1 =>
        simp only [Ieee.Datum.infinity.injEq, beq_eq_false_iff_ne] at h
        omega
      · cases h

theorem less_inf {d : Option Nat} (h : PosC .f32 d) : cmpC .lss (ord .f32 d (some 2139095040)) = true ∨ d = some 2139095040 := by
  obtain ⟨b, rfl, hb, ⟨m, p, hn⟩ | hi⟩ := h
  · left
    have e : ord .f32 (some b) (some 2139095040) = (FloatKind.f32.decode b).order (FloatKind.f32.decode 2139095040) := rfl
    rw [e, hn, show FloatKind.f32.decode 2139095040 = .infinity false from by decide +kernel]
    rfl
  · right
    rw [inf_word hb hi]
end Pos
end Go.Proofs.Ytjkkefbfhapblaa
