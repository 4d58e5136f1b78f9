/- How great a number can be: bounds by powers of two, kept by rounding; a number that is not too great is narrowed without asking the tape. -/
import Derived.Test.YtjkkefbfhapblaaConv
namespace Go.Proofs.Ytjkkefbfhapblaa
set_option linter.unusedSimpArgs false
set_option linter.unusedVariables false
open Go.RowKit
namespace Fl

/-- A number whose size is below 2 to the power of L + 1. -/
def DL (L : Int) (d : Ieee.Datum) : Prop := match d with
  | .number _ m p => m = 0 ∨ p + (m.log2 : Int) ≤ L
  | _ => False

theorem DL.mono {L L' : Int} {d : Ieee.Datum} (h : DL L d) (hl : L ≤ L') : DL L' d := by
  cases d with
  | number s m p => rcases h with h | h
                    · exact .inl h
                    · exact .inr (by omega)
  | infinity => exact h.elim
  | nan => exact h.elim

theorem DL.num {L : Int} {d : Ieee.Datum} (h : DL L d) : d.isNaN = false ∧ d.isInfinity = false := by
  cases d with
  | number s m p => exact ⟨rfl, rfl⟩
  | infinity => exact h.elim
  | nan => exact h.elim

theorem cut_le (way : Ieee.Toward) (neg : Bool) (n drop k : Nat) (h : n < 2 ^ (k + drop)) : way.cut neg n drop ≤ 2 ^ k := by
  have key : n / (1 <<< min drop (n.log2 + 2)) < 2 ^ k := by
    rw [Nat.one_shiftLeft, Nat.div_lt_iff_lt_mul (Nat.two_pow_pos _), ← Nat.pow_add]
    rcases Nat.le_total drop (n.log2 + 2) with hd | hd
    · rw [Nat.min_eq_left hd]; exact h
    · rw [Nat.min_eq_right hd]
      exact Nat.lt_of_lt_of_le Nat.lt_log2_self (Nat.pow_le_pow_right (by decide) (by omega))
  unfold Ieee.Toward.cut
  simp only
  have hb : ∀ b : Bool, b.toNat ≤ 1 := fun b => by cases b <;> decide
  exact Nat.le_trans (Nat.add_le_add_left (hb _) _) key

/-- The rung to which a number is rounded. -/
theorem nearest_le (f : Ieee.Format) (s : Bool) (m : Nat) (p L : Int) (h : m = 0 ∨ p + (m.log2 : Int) ≤ L) (hL : f.leastPlace + f.fractionBits ≤ L) :
    ∃ R, f.nearest s m p = f.word s R ∧ R ≤ ((L - f.leastPlace - f.fractionBits).toNat + 2) * f.binade := by
  unfold Ieee.Format.nearest
  by_cases h0 : m = 0
  · rw [if_pos h0]; exact ⟨0, rfl, Nat.zero_le _⟩
  · rw [if_neg h0]
    simp only
    refine ⟨_, rfl, Nat.le_trans (Nat.min_le_left _ _) ?_⟩
    have hp : p + (m.log2 : Int) ≤ L := by rcases h with h | h; exact absurd h h0; exact h
    generalize hla : max (p + (m.log2 : Int) - f.fractionBits) f.leastPlace = last
    have l1 : p + (m.log2 : Int) - f.fractionBits ≤ last := by omega
    have l2 : last ≤ L - f.fractionBits := by omega
    have hk : Ieee.Toward.even.cut s (m <<< (p - last).toNat) (last - p).toNat ≤ 2 ^ (f.fractionBits + 1) := by
      refine cut_le _ _ _ _ _ ?_
      rw [Nat.shiftLeft_eq]
      have a : m < 2 ^ (m.log2 + 1) := Nat.lt_log2_self
      have b : m * 2 ^ (p - last).toNat < 2 ^ (m.log2 + 1) * 2 ^ (p - last).toNat := Nat.mul_lt_mul_of_pos_right a (Nat.two_pow_pos _)
      rw [← Nat.pow_add] at b
      exact Nat.lt_of_lt_of_le b (Nat.pow_le_pow_right (by decide) (by omega))
    have hbin : 2 ^ (f.fractionBits + 1) = 2 * f.binade := by unfold Ieee.Format.binade; rw [Nat.pow_succ, Nat.mul_comm]
    rw [hbin] at hk
    have hm : (last - f.leastPlace).toNat * f.binade ≤ (L - f.leastPlace - f.fractionBits).toNat * f.binade := Nat.mul_le_mul_right _ (by omega)
    rw [Nat.add_mul]
    omega

/-- What is read of a rung that is not too high. -/
theorem read_le (f : Ieee.Format) (s : Bool) (R : Nat) (L : Int) (h : R < f.infRung) (hR : R ≤ ((L - f.leastPlace - f.fractionBits).toNat + 2) * f.binade) (hL : f.leastPlace + f.fractionBits ≤ L) :
    DL (L + 1) (f.read (f.word s R)) := by
  rw [read_num f s R h]
  unfold numOf
  have hpos : 0 < f.binade := Nat.two_pow_pos _
  split
  · next hlt =>
    by_cases h0 : R = 0
    · exact .inl h0
    · have : R.log2 < f.fractionBits := (Nat.log2_lt h0).2 hlt
      exact .inr (by omega)
  · next hge =>
    have h1 : f.binade + R % f.binade < 2 ^ (f.fractionBits + 1) := by
      have := Nat.mod_lt R hpos
      have e : 2 ^ (f.fractionBits + 1) = 2 * f.binade := by unfold Ieee.Format.binade; rw [Nat.pow_succ, Nat.mul_comm]
      omega
    have h2 : (f.binade + R % f.binade).log2 ≤ f.fractionBits := log2_le h1
    have h3 : R / f.binade ≤ (L - f.leastPlace - f.fractionBits).toNat + 2 := Nat.div_le_of_le_mul (by rw [Nat.mul_comm]; exact hR)
    refine .inr ?_
    omega

/-- Rounding keeps a bound, but for one. -/
theorem write_le (f : Ieee.Format) (d : Ieee.Datum) (L : Int) (h : DL L d) (hL : f.leastPlace + f.fractionBits ≤ L) (hT : (L - f.leastPlace - f.fractionBits).toNat + 2 < 2 ^ f.exponentBits - 1) :
    DL (L + 1) (f.read (f.write d)) := by
  cases d with
  | infinity => exact h.elim
  | nan => exact h.elim
  | number s m p =>
    obtain ⟨R, e, hR⟩ := nearest_le f s m p L h hL
    show DL (L + 1) (f.read (f.nearest s m p))
    rw [e]
    refine read_le f s R L ?_ hR hL
    refine Nat.lt_of_le_of_lt hR ?_
    exact Nat.mul_lt_mul_of_pos_right hT (Nat.two_pow_pos _)

theorem write64 {d : Ieee.Datum} {L : Int} (h : DL L d) (h1 : -1022 ≤ L) (h2 : L ≤ 1022) : DL (L + 1) (FloatKind.f64.decode (FloatKind.f64.encode d)) :=
  write_le Ieee.double d L h (by show (-1074 : Int) + 52 ≤ L; omega) (by show (L - -1074 - 52).toNat + 2 < 2047; omega)

theorem write32 {d : Ieee.Datum} {L : Int} (h : DL L d) (h1 : -126 ≤ L) (h2 : L ≤ 126) : DL (L + 1) (FloatKind.f32.decode (FloatKind.f32.encode d)) :=
  write_le Ieee.single d L h (by show (-149 : Int) + 23 ≤ L; omega) (by show (L - -149 - 23).toNat + 2 < 255; omega)

/-- Every finite 32-bit number. -/
theorem read32_le {b : Nat} {s : Bool} {m : Nat} {p : Int} (h : FloatKind.f32.decode b = .number s m p) : DL 127 (FloatKind.f32.decode b) := by
  rw [h]
  obtain ⟨h1, _, h3⟩ := read32_bounds h
  by_cases h0 : m = 0
  · exact .inl h0
  · have : m.log2 ≤ 23 := log2_le (by omega)
    exact .inr (by omega)

/-- The root's digits. -/
theorem rootFrom_lt (n : Nat) : ∀ todo root : Nat, Ieee.Datum.rootFrom n todo root < root + 2 ^ todo
  | 0, root => by simp [Ieee.Datum.rootFrom]
  | todo + 1, root => by
    unfold Ieee.Datum.rootFrom
    simp only
    split
    · have := rootFrom_lt n todo (root + 1 <<< todo)
      rw [Nat.one_shiftLeft] at this ⊢
      rw [Nat.pow_succ]; omega
    · have := rootFrom_lt n todo root
      rw [Nat.pow_succ]; omega

theorem log2_shl {m k : Nat} (h : m ≠ 0) : (m <<< k).log2 = m.log2 + k := by
  rw [Nat.shiftLeft_eq]
  have h2 : m * 2 ^ k ≠ 0 := Nat.mul_ne_zero h (Nat.ne_of_gt (Nat.two_pow_pos _))
  rw [Nat.log2_eq_iff h2]
  have a := Nat.log2_self_le h
  have b : m < 2 ^ (m.log2 + 1) := Nat.lt_log2_self
  constructor
  · rw [Nat.pow_add]; exact Nat.mul_le_mul_right _ a
  · rw [show m.log2 + k + 1 = (m.log2 + 1) + k by omega, Nat.pow_add]
    exact Nat.mul_lt_mul_of_pos_right b (Nat.two_pow_pos _)

/-- A root is half as great, but for what is lost in the halves. -/
theorem root_le {digits : Nat} {d e : Ieee.Datum} {L : Int} (h : DL L d) (hr : d.root digits = some e) (hL : 0 ≤ L) : DL (L / 2 + 1) e := by
  cases d with
  | infinity => exact h.elim
  | nan => exact h.elim
  | number s m i =>
    simp only [Ieee.Datum.root] at hr
    split at hr
    · next h0 => cases hr; exact .inl h0
    · next h0 =>
      split at hr
      · cases hr
      · cases hr
        refine .inr ?_
        have hp : i + (m.log2 : Int) ≤ L := by rcases h with h | h; exact absurd h h0; exact h
        generalize hmo : 2 * digits - m.log2 + ((i - ((2 * digits - m.log2 : Nat) : Int)) % 2).toNat = more
        have hn : (m <<< more).log2 = m.log2 + more := log2_shl h0
        have hw := rootFrom_lt (m <<< more) ((m <<< more).log2 / 2 + 1) 0
        generalize Ieee.Datum.rootFrom (m <<< more) ((m <<< more).log2 / 2 + 1) 0 = whole at *
        rw [hn] at hw
        have hb : ∀ b : Bool, b.toNat ≤ 1 := fun b => by cases b <;> decide
        have h1 := hb (whole * whole != m <<< more)
        generalize (whole * whole != m <<< more).toNat = t at *
        have h2 : 2 * whole + t < 2 ^ ((m.log2 + more) / 2 + 1 + 1) := by rw [Nat.pow_succ]; omega
        have h3 : (2 * whole + t).log2 ≤ (m.log2 + more) / 2 + 1 := log2_le h2
        omega

/-- A 64-bit number that is not too great is narrowed. -/
theorem narrows {b : Nat} {L : Int} (h : DL L (FloatKind.f64.decode b)) (hL : L ≤ 126) : (floatToFloatBits .f64 b .f32).isSome = true := by
  unfold floatToFloatBits
  rw [if_neg (by decide)]
  cases hd : FloatKind.f64.decode b with
  | nan s t => rw [hd] at h; exact h.elim
  | infinity s => rfl
  | number s m p =>
    rw [hd] at h
    have key := (write32 (h.mono (show L ≤ max L (-126) by omega)) (by omega) (by omega)).num.2
    simp [key]

theorem narrows_inf {b : Nat} {s : Bool} (h : FloatKind.f64.decode b = .infinity s) : (floatToFloatBits .f64 b .f32).isSome = true := by
  unfold floatToFloatBits
  rw [if_neg (by decide)]
  rw [h]; rfl

/-- The root of a class. -/
def sqrtC (c : Option Nat) : Option Nat := c.bind fun b => FloatKind.f64.format.sqrt b

theorem fits_root (c : Option Nat) : Fits .f64 .f32 (sqrtC (convC .f32 .f64 c)) := by
  refine .inr fun r hr _ => ?_
  cases c with
  | none => cases hr
  | some b =>
    unfold convC at hr
    rw [if_neg (by decide)] at hr
    unfold sqrtC at hr
    simp only [Option.bind_some] at hr
    cases hf : floatToFloatBits .f32 b .f64 with
    | none => rw [hf] at hr; cases hr
    | some b' =>
      rw [hf] at hr
      simp only [Option.bind_some, Ieee.Format.sqrt, Option.map_eq_some_iff] at hr
      obtain ⟨e, he, rfl⟩ := hr
      unfold floatToFloatBits at hf
      rw [if_neg (by decide)] at hf
      cases hd : FloatKind.f32.decode b with
      | nan s t => simp [hd] at hf
      | infinity s =>
        simp only [hd] at hf
        cases hf
        have : FloatKind.f64.format.read (FloatKind.f64.encode (.infinity s)) = .infinity s := by cases s <;> decide +kernel
        rw [this] at he
        unfold Ieee.Datum.root at he
        cases s
        · simp at he; subst he
          exact narrows_inf (s := false) (by decide +kernel)
        · simp at he
      | number s m p =>
        have h1 := read32_le hd
        rw [hd] at h1
        simp only [hd] at hf
        split at hf
        · cases hf
        · cases hf
          have h2 := write64 h1 (by omega) (by omega)
          have h3 := root_le h2 he (by omega)
          have h4 := write64 h3 (by omega) (by omega)
          exact narrows h4 (by omega)
end Fl
end Go.Proofs.Ytjkkefbfhapblaa
