/- Decimal digits, one after another from the last one on. -/
import Derived.Lib.ItoaNum
namespace Go.Proofs.YtaacneppnpognaaDoor
set_option linter.unusedSimpArgs false
set_option linter.unusedVariables false
namespace Dec

/-- What is left of N, and the digits that have been told. -/
def Inv (N R : Nat) (acc : List UInt8) : Prop :=
  R * 10 ^ acc.length ≤ N ∧ ((acc = [] ∧ R = N) ∨ (acc ≠ [] ∧ R ≠ 0 ∧ Lib.decDigits N = Lib.decDigits R ++ acc) ∨ (acc ≠ [] ∧ R = 0 ∧ Lib.decDigits N = acc))

theorem Inv.start (N : Nat) : Inv N N [] := ⟨by simp, .inl ⟨rfl, rfl⟩⟩

theorem Inv.next {N R : Nat} {acc : List UInt8} (h : Inv N R acc) (hgo : acc = [] ∨ R ≠ 0) : Inv N (R / 10) (UInt8.ofNat (48 + R % 10) :: acc) := by
  obtain ⟨h1, h2⟩ := h
  refine ⟨?_, .inr ?_⟩
  · rw [List.length_cons, Nat.pow_succ, Nat.mul_comm (10 ^ _) 10, ← Nat.mul_assoc]
    exact Nat.le_trans (Nat.mul_le_mul_right _ (Nat.div_mul_le_self R 10)) h1
  · have key : Lib.decDigits N = Lib.decDigits R ++ acc := by
      rcases h2 with ⟨h2, h3⟩ | ⟨_, _, h3⟩ | ⟨h3, h4, _⟩
      · rw [h2, h3, List.append_nil]
      · exact h3
      · rcases hgo with h | h
        · exact absurd h h3
        · exact absurd h4 h
    by_cases hR : R < 10
    · have e : Lib.decDigits R = [UInt8.ofNat (48 + R)] := by rw [Lib.decDigits, dif_pos hR]
      refine .inr ⟨by simp, by omega, ?_⟩
      rw [key, e, Nat.mod_eq_of_lt hR]; rfl
    · have e : Lib.decDigits R = Lib.decDigits (R / 10) ++ [UInt8.ofNat (48 + R % 10)] := by rw [Lib.decDigits, dif_neg hR]
      refine .inl ⟨by simp, by omega, ?_⟩
      rw [key, e, List.append_assoc]; rfl

theorem Inv.done {N R : Nat} {acc : List UInt8} (h : Inv N R acc) (h1 : acc ≠ []) (h2 : R = 0) : acc = Lib.decDigits N := by
  rcases h.2 with ⟨h3, _⟩ | ⟨_, h3, _⟩ | ⟨_, _, h3⟩
  · exact absurd h3 h1
  · exact absurd h2 h3
  · exact h3.symm

theorem Inv.short {N R : Nat} {acc : List UInt8} (h : Inv N R acc) (hN : N ≤ 9223372036854775808) (hgo : acc = [] ∨ R ≠ 0) : acc.length ≤ 18 := by
  rcases hgo with rfl | hR
  · exact Nat.zero_le _
  · have h1 : 10 ^ acc.length ≤ N := Nat.le_trans (Nat.le_mul_of_pos_left _ (Nat.pos_of_ne_zero hR)) h.1
    have h2 : 10 ^ acc.length < 10 ^ 19 := Nat.lt_of_le_of_lt h1 (by omega)
    have := (Nat.pow_lt_pow_iff_right (by decide : 1 < 10)).1 h2
    omega
end Dec
end Go.Proofs.YtaacneppnpognaaDoor
