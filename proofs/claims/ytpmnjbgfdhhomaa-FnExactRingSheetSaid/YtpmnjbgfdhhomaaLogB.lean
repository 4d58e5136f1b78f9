/- The logarithm of a 32-bit number: both sides answer one class. -/
import Derived.Test.YtpmnjbgfdhhomaaLogI
import Derived.Test.YtpmnjbgfdhhomaaAbs
import Derived.Test.YtpmnjbgfdhhomaaFinite
import Derived.Test.YtpmnjbgfdhhomaaFin
namespace Go.Proofs.Ytpmnjbgfdhhomaa
set_option linter.unusedSimpArgs false
set_option linter.unusedVariables false
open Go.RowKit
namespace Log
open Fl Flat

theorem isinf_pos (x : Nat) (c : Option Nat) (w : World) (f : Fr .f64 x c) (big : Bool) (h : cmpC .gtr (ord .f64 c (some 9218868437227405311)) = big) : Calls Try.prog 51 #[.float .f64 x, .int .i64 1] w (RetD (.bool big) w) := by
  have fm : Fr .f64 9218868437227405311 (some 9218868437227405311) := Fr.const (by decide +kernel) (by decide)
  go_enter Try.func51, Try.ntmps51
  go_wp2_with (first | (refine Fl.wpList_cmp rfl rfl rfl rfl rfl (by assumption) (by assumption) ?_))
  go_ret
  exact ⟨by first | rfl | rw [h], by (repeat' first | exact Below.refl _ _ | (refine Below.setCell ?_ (by first | omega | (simp; omega) | simp) _) | (refine below_drewN ?_ _) | (refine Below.alloc ?_ (by first | omega | (simp; omega) | simp) _) | (refine Below.trans ?_ (Below.mono (by assumption) (by first | omega | (simp; omega) | simp))))⟩

theorem not_max {b : Nat} {s : Bool} {m : Nat} {p : Int} (h : FloatKind.f64.decode b = .number s m p) : cmpC .gtr (ord .f64 (some b) (some 9218868437227405311)) = false := by
  have d1 : FloatKind.f64.decode 9218868437227405311 = .number false 9007199254740991 971 := by decide +kernel
  obtain ⟨b1, b2, b3⟩ := read64_bounds h
  rw [ord_val h d1, (cmpC_val _ _).2.2.2.1, h, d1]
  refine decide_eq_false ?_
  show ¬ Ieee.signed false 9007199254740991 (971 + 1074 : Int).toNat < Ieee.signed s m (p + 1074).toNat
  rw [signed_eq, signed_eq]
  have k : m * 2 ^ (p + 1074).toNat ≤ 9007199254740991 * 2 ^ (971 + 1074 : Int).toNat := Nat.mul_le_mul (by omega) (Nat.pow_le_pow_right (by decide) (by omega))
  generalize m * 2 ^ (p + 1074).toNat = A at *
  generalize 9007199254740991 * 2 ^ (971 + 1074 : Int).toNat = B at *
  cases s <;> simp <;> omega

theorem eq_self {b : Nat} {s : Bool} {m : Nat} {p : Int} (h : FloatKind.f64.decode b = .number s m p) : cmpC .neq (ord .f64 (some b) (some b)) = false := by
  rw [ord_val h h, (cmpC_val _ _).2.2.2.2.2]; simp

/-- A word of an infinity. -/
theorem inf_word {x : Nat} (hx : x < 4294967296) {s : Bool} (h : FloatKind.f32.decode x = .infinity s) : x = if s then 4286578688 else 2139095040 := by
  change Ieee.single.read x = _ at h
  unfold Ieee.Format.read at h
  simp only [show Ieee.single.signWeight = 2147483648 from by decide, show Ieee.single.binade = 8388608 from by decide, show Ieee.single.infRung = 2139095040 from by decide] at h
  split at h
  · cases h
  · split at h
    · cases h
    · split at h
      · next h3 =>
        cases h
        by_cases hs : (x / 2147483648 % 2 == 1) = true
        · rw [if_pos hs]
          have : x / 2147483648 % 2 = 1 := by simpa using hs
          omega
        · rw [if_neg hs]
          have : ¬ x / 2147483648 % 2 = 1 := by simpa using hs
          omega
      · cases h

/-- What both loops and the sum need of a finite number above zero. -/
theorem main_facts {x m : Nat} {p : Int} (hd : FloatKind.f32.decode x = .number false m p) (hm : m ≠ 0) :
    ∃ (c : Option Nat) (D V : Nat), convC .f32 .f64 (some x) = c ∧ D ≤ 400 ∧ V ≤ 400 ∧ (∀ k, k ≤ D → cmpC .geq (ord .f64 (hC c k) c15) = decide (k < D)) ∧ (∀ k, k ≤ V → cmpC .lss (ord .f64 (gC (hC c D) k) c075) = decide (k < V)) ∧ Bd 15 (logC (gC (hC c D) V) ((D : Int) - V)) ∧ ∃ b, c = some b ∧ ∃ m' p', FloatKind.f64.decode b = .number false m' p' ∧ m' ≠ 0 := by
  obtain ⟨q, P, hn, h1, h2⟩ := widen_nm hd hm
  have hdn : downs q P ≤ 200 := by unfold downs; split <;> omega
  have hup : ups q (P - downs q P) ≤ 300 := by unfold ups downs; split <;> omega
  have k1 := down_nm hn (by omega) (by omega) (downs q P) (by omega)
  have hlo : -300 ≤ P - (downs q P : Int) := by unfold downs; split <;> omega
  have hhi : P - (downs q P : Int) ≤ 300 := by omega
  refine ⟨_, downs q P, ups q (P - downs q P), rfl, by omega, by omega, fun k hk => down_cmp hn (by omega) (by omega) k (by omega), fun k hk => up_cmp k1 (by omega) (by omega) k (by omega), log_bd hn h1 h2, ?_⟩
  obtain ⟨b, e, d, q1, q2⟩ := hn
  exact ⟨b, e, q, P, d, by omega⟩