/- Finite numbers: what is taken from itself is zero just then. -/
import Derived.Test.YtjkkefbfhapblaaFl
namespace Go.Proofs.Ytjkkefbfhapblaa
set_option linter.unusedSimpArgs false
set_option linter.unusedVariables false
open Go.RowKit
namespace Fl

/-- A word of a finite number. -/
def fin (k : FloatKind) (b : Nat) : Bool := decide (b % k.format.signWeight < k.format.infRung)

theorem sum_opposite (s : Bool) (m : Nat) (p : Int) : (Ieee.Datum.number s m p).sum (Ieee.Datum.number s m p).opposite = some (.number false 0 p) := by
  have h : (Ieee.signed s m (p - p).toNat + Ieee.signed (!s) m (p - p).toNat) = 0 := by
    unfold Ieee.signed
    cases s <;> simp <;> omega
  simp only [Ieee.Datum.opposite, Ieee.Datum.sum, Int.min_self, h]
  cases s <;> rfl

theorem write_zero (f : Ieee.Format) (p : Int) : f.write (.number false 0 p) = 0 := by
  simp [Ieee.Format.write, Ieee.Format.nearest, Ieee.Format.word]

/-- The datum of a word is a number just where the word is that of a finite number. -/
theorem decode_fin {k : FloatKind} {b : Nat} (h : fin k b = true) : ∃ s m p, k.decode b = .number s m p := by
  unfold fin at h
  have h' := of_decide_eq_true h
  unfold FloatKind.decode Ieee.Format.read
  dsimp only
  by_cases h1 : b % k.format.signWeight < k.format.binade
  · rw [if_pos h1]; exact ⟨_, _, _, rfl⟩
  · rw [if_neg h1, if_pos h']; exact ⟨_, _, _, rfl⟩

theorem decode_inf {k : FloatKind} {b : Nat} (h : fin k b = false) : (∃ s, k.decode b = .infinity s) ∨ (∃ s t, k.decode b = .nan s t) := by
  unfold fin at h
  have h' := of_decide_eq_false h
  have h2 : k.format.binade ≤ k.format.infRung := by cases k <;> decide
  unfold FloatKind.decode Ieee.Format.read
  dsimp only
  rw [if_neg (by omega), if_neg h']
  split
  · exact .inl ⟨_, rfl⟩
  · exact .inr ⟨_, _, rfl⟩

theorem sub_self (k : FloatKind) (b : Nat) : op2 .sub k (cl k b) (cl k b) = if fin k b then some 0 else none := by
  by_cases hf : fin k b = true
  · rw [if_pos hf]
    obtain ⟨s, m, p, hd⟩ := decode_fin hf
    have hc : cl k b = some b := cl_some_iff.2 (by rw [hd]; rfl)
    rw [hc]
    show floatBits .sub k b b = some 0
    have hd' : k.format.read b = .number s m p := hd
    simp only [floatBits, Ieee.Format.sub, hd', sum_opposite, Option.map_some, write_zero]
  · rw [if_neg hf]
    rcases decode_inf (by simpa using hf) with ⟨s, hd⟩ | ⟨s, t, hd⟩
    · have hc : cl k b = some b := cl_some_iff.2 (by rw [hd]; rfl)
      rw [hc]
      show floatBits .sub k b b = none
      have hd' : k.format.read b = .infinity s := hd
      simp only [floatBits, Ieee.Format.sub, hd', Ieee.Datum.opposite, Ieee.Datum.sum]
      cases s <;> rfl
    · have hc : cl k b = none := cl_none_iff.2 (by rw [hd]; rfl)
      rw [hc]; rfl

/-- The test 'r == 0' of a difference of this class. -/
theorem fin_test {k : FloatKind} {b r : Nat} (hr : Fr k r (op2 .sub k (cl k b) (cl k b))) : (k.format.order r 0 == some .eq) = fin k b := by
  rw [order_cl, hr.1, sub_self]
  by_cases hf : fin k b = true
  · rw [if_pos hf, hf]; cases k <;> rfl
  · rw [if_neg hf]; have : fin k b = false := by simpa using hf
    rw [this]; rfl
end Fl
end Go.Proofs.Ytjkkefbfhapblaa
