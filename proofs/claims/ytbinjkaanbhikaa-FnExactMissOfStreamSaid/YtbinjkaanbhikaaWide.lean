/- A 32-bit number that is widened and narrowed is itself. -/
import Derived.Test.YtbinjkaanbhikaaConv
namespace Go.Proofs.Ytbinjkaanbhikaa
set_option linter.unusedSimpArgs false
set_option linter.unusedVariables false
open Go.RowKit
namespace Wide
open Fl

theorem log2_shift (m k : Nat) (hm : m ≠ 0) : (m * 2 ^ k).log2 = m.log2 + k := by
  have hp : 0 < 2 ^ k := Nat.two_pow_pos k
  have h0 : m * 2 ^ k ≠ 0 := by
    have := Nat.mul_pos (Nat.pos_of_ne_zero hm) hp
    omega
  have a : m < 2 ^ (m.log2 + 1) := Nat.lt_log2_self
  have b : 2 ^ m.log2 ≤ m := Nat.log2_self_le hm
  have a2 : m * 2 ^ k < 2 ^ (m.log2 + k + 1) := by
    have := Nat.mul_lt_mul_of_pos_right a hp
    rw [← Nat.pow_add] at this
    rw [show m.log2 + k + 1 = m.log2 + 1 + k by omega]
    exact this
  have b2 : 2 ^ (m.log2 + k) ≤ m * 2 ^ k := by
    have := Nat.mul_le_mul_right (2 ^ k) b
    rw [← Nat.pow_add] at this
    exact this
  have c1 := (Nat.log2_lt h0).2 a2
  have c2 := (Nat.le_log2 h0).2 b2
  omega

theorem cut_exact (neg : Bool) (m k : Nat) (hm : m ≠ 0) : Ieee.Toward.even.cut neg (m * 2 ^ k) k = m := by
  have hp : 0 < 2 ^ k := Nat.two_pow_pos k
  unfold Ieee.Toward.cut
  rw [log2_shift m k hm, Nat.min_eq_left (by omega)]
  simp only [Nat.one_shiftLeft]
  rw [Nat.mul_div_cancel _ hp, Nat.mul_mod_left]
  have h1 : ¬ 2 ^ k < 2 * 0 := by omega
  have h2 : (2 ^ k == 2 * 0) = false := by simp
  simp [h2]

theorem back32 {b : Nat} {s : Bool} {m : Nat} {p : Int} (h : Ieee.single.read b = .number s m p) (hb : b < 4294967296) (k : Nat) : Ieee.single.nearest s (m * 2 ^ k) (p - k) = b := by
  unfold Ieee.Format.read at h
  simp only [show Ieee.single.signWeight = 2147483648 from by decide, show Ieee.single.binade = 8388608 from by decide, show Ieee.single.infRung = 2139095040 from by decide, show Ieee.single.leastPlace = -149 from by decide] at h
  have hw : Ieee.single.word (b / 2147483648 % 2 == 1) (b % 2147483648) = b := by
    unfold Ieee.Format.word
    rw [show Ieee.single.signWeight = 2147483648 from by decide]
    by_cases h1 : b / 2147483648 % 2 = 1
    · rw [if_pos (by simp [h1])]; omega
    · rw [if_neg (by simp [h1])]; omega
  have hp : 0 < 2 ^ k := Nat.two_pow_pos k
  have main : ∀ (m : Nat) (p : Int), m ≠ 0 → max (p + (m.log2 : Int) - 23) (-149) = p → ((p + 149).toNat * 8388608 + m = b % 2147483648) → b % 2147483648 < 2139095040 → Ieee.single.nearest (b / 2147483648 % 2 == 1) (m * 2 ^ k) (p - k) = b := by
    intro m p hm h1 h2 h3
    have h0 : m * 2 ^ k ≠ 0 := by
      have := Nat.mul_pos (Nat.pos_of_ne_zero hm) hp
      omega
    unfold Ieee.Format.nearest
    simp only [show Ieee.single.binade = 8388608 from by decide, show Ieee.single.infRung = 2139095040 from by decide, show Ieee.single.leastPlace = -149 from by decide, show Ieee.single.fractionBits = 23 from rfl]
    rw [if_neg h0, log2_shift m k hm]
    have e1 : max (p - (k : Int) + ((m.log2 + k : Nat) : Int) - (23 : Nat)) (-149) = p := by omega
    rw [e1]
    have e2 : (p - (k : Int) - p).toNat = 0 := by omega
    have e3 : (p - (p - (k : Int))).toNat = k := by omega
    rw [e2, e3, Nat.shiftLeft_zero, cut_exact _ m k hm]
    have e4 : (p - -149).toNat = (p + 149).toNat := by omega
    rw [e4, h2, Nat.min_eq_left (by omega)]
    exact hw
  split at h
  · rename_i h1
    cases h
    by_cases h0 : b % 2147483648 = 0
    · have : Ieee.single.nearest (b / 2147483648 % 2 == 1) (b % 2147483648 * 2 ^ k) (-149 - k) = Ieee.single.word (b / 2147483648 % 2 == 1) 0 := by rw [h0]; simp [Ieee.Format.nearest]
      rw [this, ← h0]; exact hw
    · have hl : (b % 2147483648).log2 ≤ 22 := log2_le (by omega)
      exact main _ _ h0 (by omega) (by omega) (by omega)
  · split at h
    · rename_i h1 h2
      cases h
      have hl : (8388608 + b % 2147483648 % 8388608).log2 = 23 := by
        have c1 := log2_le (m := 8388608 + b % 2147483648 % 8388608) (k := 23) (by omega)
        have c2 := (Nat.le_log2 (n := 8388608 + b % 2147483648 % 8388608) (k := 23) (by omega)).2 (by omega)
        omega
      refine main _ _ (by omega) (by omega) ?_ (by omega)
      have : (-149 + ((b % 2147483648 / 8388608 - 1 : Nat) : Int) + 149).toNat = b % 2147483648 / 8388608 - 1 := by omega
      rw [this]
      omega
    · split at h <;> cases h

/-- Widened and narrowed. -/
theorem wide_back {b : Nat} (hb : b < 4294967296) : convC .f64 .f32 (convC .f32 .f64 (cl .f32 b)) = cl .f32 b ∧ Fits .f64 .f32 (convC .f32 .f64 (cl .f32 b)) := by
  cases hc : cl .f32 b with
  | none => exact ⟨rfl, .inr fun _ h => nomatch h⟩
  | some c =>
    obtain rfl := cl_some hc
    have key : ∃ B, floatToFloatBits .f32 b .f64 = some B ∧ floatToFloatBits .f64 B .f32 = some b := by
      have hn := cl_some_iff.1 hc
      cases hd : FloatKind.f32.decode b with
      | nan s t => rw [hd] at hn; cases hn
      | infinity s =>
        refine ⟨FloatKind.f64.encode (.infinity s), by unfold floatToFloatBits; rw [if_neg (by decide), hd], ?_⟩
        unfold floatToFloatBits
        rw [if_neg (by decide)]
        have hb2 : FloatKind.f32.encode (.infinity s) = b := by
          have hd2 : Ieee.single.read b = .infinity s := hd
          unfold Ieee.Format.read at hd2
          simp only [show Ieee.single.signWeight = 2147483648 from by decide, show Ieee.single.binade = 8388608 from by decide, show Ieee.single.infRung = 2139095040 from by decide, show Ieee.single.leastPlace = -149 from by decide] at hd2
          split at hd2
          · cases hd2
          · split at hd2
            · cases hd2
            · split at hd2
              · cases hd2
                show Ieee.single.word _ Ieee.single.infRung = b
                unfold Ieee.Format.word
                rw [show Ieee.single.signWeight = 2147483648 from by decide, show Ieee.single.infRung = 2139095040 from by decide]
                by_cases h1 : b / 2147483648 % 2 = 1
                · rw [if_pos (by simp [h1])]; omega
                · rw [if_neg (by simp [h1])]; omega
              · cases hd2
        cases s
        · rw [show FloatKind.f64.decode (FloatKind.f64.encode (.infinity false)) = .infinity false from by decide +kernel]
          rw [← hb2]
        · rw [show FloatKind.f64.decode (FloatKind.f64.encode (.infinity true)) = .infinity true from by decide +kernel]
          rw [← hb2]
      | number s m p =>
        obtain ⟨b1, b2, b3⟩ := read32_bounds hd
        have hdd : Ieee.single.read b = .number s m p := hd
        have hnb : (FloatKind.f32.decode b).isInfinity = false := by rw [hd]; rfl
        have wide : ∃ k : Nat, FloatKind.f64.decode (FloatKind.f64.encode (.number s m p)) = .number s (m * 2 ^ k) (if m = 0 then -1074 else p - k) := by
          show ∃ k : Nat, Ieee.double.read (Ieee.double.nearest s m p) = _
          by_cases h0 : m = 0
          · subst h0
            have : Ieee.double.nearest s 0 p = Ieee.double.word s 0 := by simp [Ieee.Format.nearest]
            rw [this, read_num _ _ _ (by decide)]
            exact ⟨0, by rw [if_pos rfl]; cases s <;> decide +kernel⟩
          · have hl : m.log2 ≤ 23 := log2_le (by omega)
            obtain ⟨e, e1, e2⟩ := near64 s m p h0 (by omega) (by omega) (by omega)
            refine ⟨52 - m.log2, ?_⟩
            have hr : (p + (m.log2 : Int) + 1022).toNat ≤ 1149 := by omega
            rw [e, read_num]
            · unfold numOf
              rw [if_neg h0]
              rw [show Ieee.double.binade = 4503599627370496 from by decide, show Ieee.double.leastPlace = -1074 from by decide]
              generalize hq : m * 2 ^ (52 - m.log2) = q at *
              rw [if_neg (by omega)]
              congr 1
              · omega
              · omega
            · show _ < 9218868437227405312
              generalize m * 2 ^ (52 - m.log2) = q at *
              omega
        obtain ⟨k, hk⟩ := wide
        refine ⟨FloatKind.f64.encode (.number s m p), ?_, ?_⟩
        · unfold floatToFloatBits
          rw [if_neg (by decide), hd]
          simp [hk, Ieee.Datum.isInfinity]
        · have hback : FloatKind.f32.encode (.number s (m * 2 ^ k) (if m = 0 then -1074 else p - k)) = b := by
            show Ieee.single.nearest s (m * 2 ^ k) _ = b
            by_cases h0 : m = 0
            · have := back32 hdd hb k
              subst h0
              rw [Nat.zero_mul] at this ⊢
              rw [← this]
              simp [Ieee.Format.nearest]
            · rw [if_neg h0]; exact back32 hdd hb k
          unfold floatToFloatBits
          rw [if_neg (by decide), hk]
          simp only [hback, hnb]
          rfl
    obtain ⟨B, h1, h2⟩ := key
    have e1 : convC .f32 .f64 (some b) = some B := h1
    have e2 : convC .f64 .f32 (some B) = some b := h2
    rw [e1, e2]
    exact ⟨rfl, .inr fun x hx _ => by cases hx; rw [h2]; rfl⟩
end Wide
end Go.Proofs.Ytbinjkaanbhikaa
