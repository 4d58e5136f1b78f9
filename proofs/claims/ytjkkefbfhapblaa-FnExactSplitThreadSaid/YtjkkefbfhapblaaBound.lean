/- Closed bounds by powers of two for 64-bit numbers, which rounding keeps as they are: what is at most 2^e stays so, what is at least 2^k stays so. Sums, products, quotients and roots. -/
import Derived.Test.YtjkkefbfhapblaaRange
namespace Go.Proofs.Ytjkkefbfhapblaa
set_option linter.unusedSimpArgs false
set_option linter.unusedVariables false
open Go.RowKit
namespace Fl

/-- Of a size at most 2^e. -/
def CL (e : Int) (d : Ieee.Datum) : Prop := match d with
  | .number _ m p => m = 0 ∨ (p ≤ e ∧ m ≤ 2 ^ (e - p).toNat)
  | _ => False

/-- Not below zero. -/
def NN (d : Ieee.Datum) : Prop := match d with
  | .number s m _ => s = false ∨ m = 0
  | _ => False

/-- At least 2^k, without its sign. -/
def GA (k : Int) (d : Ieee.Datum) : Prop := match d with
  | .number _ m p => m ≠ 0 ∧ k ≤ p + (m.log2 : Int)
  | _ => False

theorem CL.mono {e e' : Int} {d : Ieee.Datum} (h : CL e d) (he : e ≤ e') : CL e' d := by
  cases d with
  | infinity => exact h.elim
  | nan => exact h.elim
  | number s m p =>
    rcases h with h | ⟨h1, h2⟩
    · exact .inl h
    · exact .inr ⟨by omega, Nat.le_trans h2 (Nat.pow_le_pow_right (by decide) (by omega))⟩

theorem CL.toDL {e : Int} {d : Ieee.Datum} (h : CL e d) : DL e d := by
  cases d with
  | infinity => exact h.elim
  | nan => exact h.elim
  | number s m p =>
    rcases h with h | ⟨h1, h2⟩
    · exact .inl h
    · have : m.log2 ≤ (e - p).toNat := log2_le (Nat.lt_of_le_of_lt h2 (Nat.pow_lt_pow_right (by decide) (by omega)))
      exact .inr (by omega)

theorem CL.log {e p : Int} {m : Nat} {s : Bool} (h : CL e (.number s m p)) (h0 : m ≠ 0) : p + (m.log2 : Int) ≤ e := by
  rcases h.toDL with h | h
  · exact absurd h h0
  · exact h

theorem cut_even_le (neg : Bool) (n drop k : Nat) (h : n ≤ 2 ^ (k + drop)) : Ieee.Toward.even.cut neg n drop ≤ 2 ^ k := by
  rcases Nat.lt_or_ge n (2 ^ (k + drop)) with hlt | hge
  · exact cut_le _ _ _ _ _ hlt
  · have e : n = 2 ^ (k + drop) := Nat.le_antisymm h hge
    subst e
    unfold Ieee.Toward.cut
    rw [Nat.log2_two_pow, Nat.min_eq_left (by omega), Nat.one_shiftLeft]
    have h1 : 2 ^ (k + drop) / 2 ^ drop = 2 ^ k := by rw [Nat.pow_add]; exact Nat.mul_div_cancel _ (Nat.two_pow_pos _)
    have h2 : 2 ^ (k + drop) % 2 ^ drop = 0 := by rw [Nat.pow_add]; exact Nat.mul_mod_left _ _
    have h3 : (2 ^ drop == 0) = false := by simp
    simp only [h1, h2, Nat.mul_zero, Nat.not_lt_zero, decide_false, Bool.false_or, h3, Bool.false_and, Bool.toNat_false, Nat.add_zero]
    exact Nat.le_refl _

theorem two_binade (f : Ieee.Format) : 2 ^ (f.fractionBits + 1) = 2 * f.binade := by unfold Ieee.Format.binade; rw [Nat.pow_succ, Nat.mul_comm]

theorem nearest_cl (f : Ieee.Format) (s : Bool) (m : Nat) (p e : Int) (h : CL e (.number s m p)) (hL : f.leastPlace + f.fractionBits ≤ e) :
    ∃ R, f.nearest s m p = f.word s R ∧ R ≤ ((e - f.leastPlace - f.fractionBits).toNat + 1) * f.binade := by
  by_cases h0 : m = 0
  · unfold Ieee.Format.nearest; rw [if_pos h0]; exact ⟨0, rfl, Nat.zero_le _⟩
  have hlog := h.log h0
  obtain ⟨hp, hm⟩ : p ≤ e ∧ m ≤ 2 ^ (e - p).toNat := by rcases h with h | h; exact absurd h h0; exact h
  unfold Ieee.Format.nearest
  rw [if_neg h0]
  simp only
  refine ⟨_, rfl, Nat.le_trans (Nat.min_le_left _ _) ?_⟩
  generalize hla : max (p + (m.log2 : Int) - f.fractionBits) f.leastPlace = last
  have l1 : p + (m.log2 : Int) - f.fractionBits ≤ last := by omega
  have l2 : last ≤ e - f.fractionBits := by omega
  rw [Nat.shiftLeft_eq]
  by_cases he : last = e - f.fractionBits
  · have hk : Ieee.Toward.even.cut s (m * 2 ^ (p - last).toNat) (last - p).toNat ≤ 2 ^ f.fractionBits := by
      refine cut_even_le _ _ _ _ ?_
      refine Nat.le_trans (Nat.mul_le_mul_right _ hm) ?_
      rw [← Nat.pow_add]
      exact Nat.pow_le_pow_right (by decide) (by omega)
    have hb : 2 ^ f.fractionBits = f.binade := rfl
    rw [hb] at hk
    have e1 : (last - f.leastPlace).toNat = (e - f.leastPlace - f.fractionBits).toNat := by omega
    rw [e1, Nat.add_mul, Nat.one_mul]
    omega
  · have hk : Ieee.Toward.even.cut s (m * 2 ^ (p - last).toNat) (last - p).toNat ≤ 2 ^ (f.fractionBits + 1) := by
      refine cut_le _ _ _ _ _ ?_
      have a : m < 2 ^ (m.log2 + 1) := Nat.lt_log2_self
      have b : m * 2 ^ (p - last).toNat < 2 ^ (m.log2 + 1) * 2 ^ (p - last).toNat := Nat.mul_lt_mul_of_pos_right a (Nat.two_pow_pos _)
      rw [← Nat.pow_add] at b
      exact Nat.lt_of_lt_of_le b (Nat.pow_le_pow_right (by decide) (by omega))
    rw [two_binade] at hk
    have e1 : (last - f.leastPlace).toNat + 1 ≤ (e - f.leastPlace - f.fractionBits).toNat := by omega
    have hm2 : ((last - f.leastPlace).toNat + 1) * f.binade ≤ (e - f.leastPlace - f.fractionBits).toNat * f.binade := Nat.mul_le_mul_right _ e1
    rw [Nat.add_mul] at hm2 ⊢
    omega

theorem read_cl (f : Ieee.Format) (s : Bool) (R : Nat) (e : Int) (h : R < f.infRung) (hR : R ≤ ((e - f.leastPlace - f.fractionBits).toNat + 1) * f.binade) (hL : f.leastPlace + f.fractionBits ≤ e) :
    CL e (f.read (f.word s R)) := by
  rw [read_num f s R h]
  unfold numOf
  have hpos : 0 < f.binade := Nat.two_pow_pos _
  generalize hK : (e - f.leastPlace - f.fractionBits).toNat = K at hR
  split
  · next hlt =>
    refine .inr ⟨by omega, Nat.le_of_lt (Nat.lt_of_lt_of_le hlt ?_)⟩
    exact Nat.pow_le_pow_right (by decide) (by omega)
  · next hge =>
    have h3 : R / f.binade ≤ K + 1 := Nat.div_le_of_le_mul (by rw [Nat.mul_comm]; exact hR)
    have hd := Nat.div_add_mod R f.binade
    have hml := Nat.mod_lt R hpos
    by_cases hq : R / f.binade = K + 1
    · have hz : R % f.binade = 0 := by
        rw [hq, Nat.mul_comm] at hd; omega
      rw [hz, hq]
      refine .inr ⟨by omega, ?_⟩
      exact Nat.pow_le_pow_right (by decide) (by omega)
    · have h1 : f.binade + R % f.binade ≤ 2 ^ (f.fractionBits + 1) := by rw [two_binade]; omega
      have hq1 : 1 ≤ R / f.binade := (Nat.le_div_iff_mul_le hpos).2 (by omega)
      refine .inr ⟨by omega, Nat.le_trans h1 (Nat.pow_le_pow_right (by decide) (by omega))⟩

theorem write_cl (f : Ieee.Format) (d : Ieee.Datum) (e : Int) (h : CL e d) (hL : f.leastPlace + f.fractionBits ≤ e) (hT : (e - f.leastPlace - f.fractionBits).toNat + 1 < 2 ^ f.exponentBits - 1) :
    CL e (f.read (f.write d)) := by
  cases d with
  | infinity => exact h.elim
  | nan => exact h.elim
  | number s m p =>
    obtain ⟨R, er, hR⟩ := nearest_cl f s m p e h hL
    show CL e (f.read (f.nearest s m p))
    rw [er]
    exact read_cl f s R e (Nat.lt_of_le_of_lt hR (Nat.mul_lt_mul_of_pos_right hT (Nat.two_pow_pos _))) hR hL

theorem writeC {d : Ieee.Datum} {e : Int} (h : CL e d) (h1 : -1022 ≤ e) (h2 : e ≤ 1023) : CL e (FloatKind.f64.decode (FloatKind.f64.encode d)) :=
  write_cl Ieee.double d e h (by show (-1074 : Int) + 52 ≤ e; omega) (by show (e - -1074 - 52).toNat + 1 < 2047; omega)

theorem product_cl {x y d : Ieee.Datum} {e1 e2 : Int} (hx : CL e1 x) (hy : CL e2 y) (h : x.product y = some d) : CL (e1 + e2) d := by
  cases x with
  | infinity => exact hx.elim
  | nan => exact hx.elim
  | number s m i =>
  cases y with
  | infinity => exact hy.elim
  | nan => exact hy.elim
  | number t n j =>
  cases h
  rcases hx with h0 | ⟨h1, h2⟩
  · subst h0; exact .inl (Nat.zero_mul _)
  · rcases hy with h0 | ⟨h3, h4⟩
    · subst h0; exact .inl (Nat.mul_zero _)
    · refine .inr ⟨by omega, Nat.le_trans (Nat.mul_le_mul h2 h4) ?_⟩
      rw [← Nat.pow_add]
      exact Nat.pow_le_pow_right (by decide) (by omega)

theorem shifted_le {m : Nat} {i e base E : Int} {s : Bool} (h : CL e (.number s m i)) (hb : base ≤ i) (hE : e ≤ E) : m * 2 ^ (i - base).toNat ≤ 2 ^ (E - base).toNat ∧ (m ≠ 0 → base ≤ E) := by
  rcases h with h | ⟨h1, h2⟩
  · subst h; exact ⟨by rw [Nat.zero_mul]; exact Nat.zero_le _, fun h => absurd rfl h⟩
  · refine ⟨Nat.le_trans (Nat.mul_le_mul_right _ h2) ?_, fun _ => by omega⟩
    rw [← Nat.pow_add]
    exact Nat.pow_le_pow_right (by decide) (by omega)

theorem natAbs_signed (s : Bool) (m u : Nat) : (Ieee.signed s m u).natAbs = m * 2 ^ u := by
  unfold Ieee.signed
  split
  · rw [Int.natAbs_neg, Int.natAbs_natCast, Nat.shiftLeft_eq]
  · rw [Int.natAbs_natCast, Nat.shiftLeft_eq]

theorem sum_cl {x y d : Ieee.Datum} {e1 e2 : Int} (hx : CL e1 x) (hy : CL e2 y) (h : x.sum y = some d) : CL (max e1 e2 + 1) d := by
  cases x with
  | infinity => exact hx.elim
  | nan => exact hx.elim
  | number s m i =>
  cases y with
  | infinity => exact hy.elim
  | nan => exact hy.elim
  | number t n j =>
  cases h
  obtain ⟨a1, a2⟩ := shifted_le hx (show min i j ≤ i by omega) (show e1 ≤ max e1 e2 by omega)
  obtain ⟨b1, b2⟩ := shifted_le hy (show min i j ≤ j by omega) (show e2 ≤ max e1 e2 by omega)
  have hs := Int.natAbs_add_le (Ieee.signed s m (i - min i j).toNat) (Ieee.signed t n (j - min i j).toNat)
  rw [natAbs_signed, natAbs_signed] at hs
  by_cases h0 : m = 0 ∧ n = 0
  · obtain ⟨rfl, rfl⟩ := h0
    rw [Nat.zero_mul, Nat.zero_mul] at hs
    exact .inl (by omega)
  · have hb : min i j ≤ max e1 e2 := by
      by_cases hm : m = 0
      · exact b2 (fun hn => h0 ⟨hm, hn⟩)
      · exact a2 hm
    refine .inr ⟨by omega, Nat.le_trans hs ?_⟩
    have : (max e1 e2 + 1 - min i j).toNat = (max e1 e2 - min i j).toNat + 1 := by omega
    rw [this, Nat.pow_succ]
    omega

theorem opposite_cl {d : Ieee.Datum} {e : Int} (h : CL e d) : CL e d.opposite := by
  cases d with
  | infinity => exact h.elim
  | nan => exact h.elim
  | number s m p => exact h

theorem toNat_le_one (b : Bool) : b.toNat ≤ 1 := by cases b <;> decide

theorem quotient_cl {x y d : Ieee.Datum} {digits : Nat} {e k : Int} (hx : CL e x) (hy : GA k y) (h : x.quotient digits y = some d) : CL (e - k) d := by
  cases x with
  | infinity => exact hx.elim
  | nan => exact hx.elim
  | number s m i =>
  cases y with
  | infinity => exact hy.elim
  | nan => exact hy.elim
  | number t n j =>
  obtain ⟨hn, hk⟩ := hy
  simp only [Ieee.Datum.quotient] at h
  rw [if_neg hn] at h
  cases h
  by_cases h0 : m = 0
  · subst h0; refine .inl ?_; simp
  have hlog := hx.log h0
  obtain ⟨h1, h2⟩ : i ≤ e ∧ m ≤ 2 ^ (e - i).toNat := by rcases hx with h | h; exact absurd h h0; exact h
  generalize hmo : digits + n.log2 - m.log2 = more
  have hX : 0 ≤ e - k - i + j + more := by omega
  have hle : m <<< more ≤ n * 2 ^ (e - k - i + j + more).toNat := by
    rw [Nat.shiftLeft_eq]
    refine Nat.le_trans (Nat.mul_le_mul_right _ h2) ?_
    rw [← Nat.pow_add]
    refine Nat.le_trans (Nat.pow_le_pow_right (by decide) (show (e - i).toNat + more ≤ n.log2 + (e - k - i + j + more).toNat by omega)) ?_
    rw [Nat.pow_add]
    exact Nat.mul_le_mul_right _ (Nat.log2_self_le hn)
  generalize hXe : (e - k - i + j + more).toNat = X at *
  generalize m <<< more = dv at *
  have hpos : 0 < n := Nat.pos_of_ne_zero hn
  have hq : dv / n ≤ 2 ^ X := Nat.div_le_of_le_mul hle
  have hdm := Nat.div_add_mod dv n
  have ht := toNat_le_one (dv % n != 0)
  refine .inr ⟨by omega, ?_⟩
  have hexp : (e - k - (i - j - more - 1)).toNat = X + 1 := by omega
  rw [hexp, Nat.pow_succ]
  by_cases heq : dv / n = 2 ^ X
  · rw [heq] at hdm
    have : dv % n = 0 := by omega
    rw [this, heq]
    simp; omega
  · omega

theorem rootFrom_sq (n : Nat) : ∀ todo root : Nat, root * root ≤ n → Ieee.Datum.rootFrom n todo root * Ieee.Datum.rootFrom n todo root ≤ n
  | 0, root, h => by simpa [Ieee.Datum.rootFrom] using h
  | todo + 1, root, h => by
    unfold Ieee.Datum.rootFrom
    simp only
    split
    · next hh => exact rootFrom_sq n todo _ hh
    · exact rootFrom_sq n todo _ h

theorem root_cl {digits : Nat} {d r : Ieee.Datum} {e : Int} (h : CL e d) (hr : d.root digits = some r) (he : 0 ≤ e) : CL ((e + 1) / 2) r := by
  cases d with
  | infinity => exact h.elim
  | nan => exact h.elim
  | number s m i =>
    simp only [Ieee.Datum.root] at hr
    split at hr
    · next h0 => cases hr; exact .inl h0
    · next h0 =>
      split at hr
      · cases hr
      · cases hr
        obtain ⟨h1, h2⟩ : i ≤ e ∧ m ≤ 2 ^ (e - i).toNat := by rcases h with h | h; exact absurd h h0; exact h
        generalize hmo : 2 * digits - m.log2 + ((i - ((2 * digits - m.log2 : Nat) : Int)) % 2).toNat = more
        have hev : (i - more) % 2 = 0 := by omega
        have hw := rootFrom_sq (m <<< more) ((m <<< more).log2 / 2 + 1) 0 (Nat.zero_le _)
        generalize Ieee.Datum.rootFrom (m <<< more) ((m <<< more).log2 / 2 + 1) 0 = whole at *
        have hY : 0 ≤ (e + 1) / 2 - (i - more) / 2 := by omega
        have hn : m <<< more ≤ 2 ^ ((e + 1) / 2 - (i - more) / 2).toNat * 2 ^ ((e + 1) / 2 - (i - more) / 2).toNat := by
          rw [Nat.shiftLeft_eq]
          refine Nat.le_trans (Nat.mul_le_mul_right _ h2) ?_
          rw [← Nat.pow_add, ← Nat.pow_add]
          exact Nat.pow_le_pow_right (by decide) (by omega)
        have ht := toNat_le_one (whole * whole != m <<< more)
        refine .inr ⟨by omega, ?_⟩
        have hexp : ((e + 1) / 2 - ((i - more) / 2 - 1)).toNat = ((e + 1) / 2 - (i - more) / 2).toNat + 1 := by omega
        rw [hexp, Nat.pow_succ]
        generalize 2 ^ ((e + 1) / 2 - (i - more) / 2).toNat = Y at *
        rcases Nat.lt_or_ge whole Y with hlt | hge
        · omega
        · have hYY : Y * Y ≤ whole * whole := Nat.mul_le_mul hge hge
          have heq : whole * whole = m <<< more := by omega
          have : whole = Y := by
            rcases Nat.lt_or_ge Y whole with hl | hl
            · have := Nat.mul_lt_mul_of_lt_of_le hl hge (by omega)
              omega
            · omega
          rw [heq, this]; simp; omega

/-- What is at least a power of two is rounded to no less. -/
theorem nearest_ga (f : Ieee.Format) (s : Bool) (m : Nat) (p k : Int) (R : Nat) (h0 : m ≠ 0) (hk : k ≤ p + (m.log2 : Int)) (hK : f.leastPlace + f.fractionBits ≤ k) (er : f.nearest s m p = f.word s R) (hR : R < f.infRung) :
    ((k - f.leastPlace - f.fractionBits).toNat + 1) * f.binade ≤ R := by
  unfold Ieee.Format.nearest at er
  rw [if_neg h0] at er
  simp only at er
  have e1 : max (p + (m.log2 : Int) - f.fractionBits) f.leastPlace = p + m.log2 - f.fractionBits := by omega
  rw [e1] at er
  have hinj : ∀ a b : Nat, f.word s a = f.word s b → a = b := by
    intro a b hab; unfold Ieee.Format.word at hab; split at hab <;> omega
  have er2 := hinj _ _ er
  have hcut : f.binade ≤ Ieee.Toward.even.cut s (m <<< (p - (p + m.log2 - f.fractionBits)).toNat) (p + m.log2 - f.fractionBits - p).toNat := by
    unfold Ieee.Toward.cut
    simp only
    refine Nat.le_trans ?_ (Nat.le_add_right _ _)
    rw [Nat.one_shiftLeft, Nat.le_div_iff_mul_le (Nat.two_pow_pos _), Nat.shiftLeft_eq]
    refine Nat.le_trans (m := 2 ^ f.fractionBits * 2 ^ (p + m.log2 - f.fractionBits - p).toNat) (Nat.mul_le_mul_left _ (Nat.pow_le_pow_right (by decide) (Nat.min_le_left _ _))) ?_
    rw [← Nat.pow_add]
    refine Nat.le_trans (Nat.pow_le_pow_right (by decide) (show f.fractionBits + (p + m.log2 - f.fractionBits - p).toNat ≤ m.log2 + (p - (p + m.log2 - f.fractionBits)).toNat by omega)) ?_
    rw [Nat.pow_add]
    exact Nat.mul_le_mul_right _ (Nat.log2_self_le h0)
  have hmul : (k - f.leastPlace - f.fractionBits).toNat * f.binade ≤ (p + (m.log2 : Int) - f.fractionBits - f.leastPlace).toNat * f.binade := Nat.mul_le_mul_right _ (by omega)
  rw [Nat.add_mul, Nat.one_mul]
  omega

theorem read_ga (f : Ieee.Format) (s : Bool) (R : Nat) (k : Int) (h : R < f.infRung) (hR : ((k - f.leastPlace - f.fractionBits).toNat + 1) * f.binade ≤ R) (hK : f.leastPlace + f.fractionBits ≤ k) : GA k (f.read (f.word s R)) := by
  rw [read_num f s R h]
  unfold numOf
  have hpos : 0 < f.binade := Nat.two_pow_pos _
  have hb : f.binade ≤ R := Nat.le_trans (Nat.le_mul_of_pos_left _ (Nat.succ_pos _)) hR
  rw [if_neg (by omega)]
  have hq : (k - f.leastPlace - f.fractionBits).toNat + 1 ≤ R / f.binade := (Nat.le_div_iff_mul_le hpos).2 hR
  have hl : f.fractionBits ≤ (f.binade + R % f.binade).log2 := (Nat.le_log2 (by omega)).2 (Nat.le_add_right _ _)
  exact ⟨by omega, by omega⟩

theorem write_ga (f : Ieee.Format) {d : Ieee.Datum} {e k : Int} (h : GA k d) (hc : CL e d) (hK : f.leastPlace + f.fractionBits ≤ k) (hL : f.leastPlace + f.fractionBits ≤ e) (hT : (e - f.leastPlace - f.fractionBits).toNat + 1 < 2 ^ f.exponentBits - 1) : GA k (f.read (f.write d)) := by
  cases d with
  | infinity => exact h.elim
  | nan => exact h.elim
  | number s m p =>
    obtain ⟨h0, hk⟩ := h
    obtain ⟨R, er, hR⟩ := nearest_cl f s m p e hc hL
    have hRlt : R < f.infRung := Nat.lt_of_le_of_lt hR (Nat.mul_lt_mul_of_pos_right hT (Nat.two_pow_pos _))
    show GA k (f.read (f.nearest s m p))
    have hlo := nearest_ga f s m p k R h0 hk hK er hRlt
    rw [er]
    exact read_ga f s R k hRlt hlo hK

theorem writeG {d : Ieee.Datum} {e k : Int} (h : GA k d) (hc : CL e d) (h1 : -1022 ≤ k) (h2 : e ≤ 1023) (h3 : -1022 ≤ e) : GA k (FloatKind.f64.decode (FloatKind.f64.encode d)) :=
  write_ga Ieee.double h hc (by show (-1074 : Int) + 52 ≤ k; omega) (by show (-1074 : Int) + 52 ≤ e; omega) (by show (e - -1074 - 52).toNat + 1 < 2047; omega)

/-- Rounding keeps the sign. -/
theorem write_nn (f : Ieee.Format) {d : Ieee.Datum} {e : Int} (h : NN d) (hc : CL e d) (hL : f.leastPlace + f.fractionBits ≤ e) (hT : (e - f.leastPlace - f.fractionBits).toNat + 1 < 2 ^ f.exponentBits - 1) : NN (f.read (f.write d)) := by
  cases d with
  | infinity => exact h.elim
  | nan => exact h.elim
  | number s m p =>
    obtain ⟨R, er, hR⟩ := nearest_cl f s m p e hc hL
    have hRlt : R < f.infRung := Nat.lt_of_le_of_lt hR (Nat.mul_lt_mul_of_pos_right hT (Nat.two_pow_pos _))
    show NN (f.read (f.nearest s m p))
    rcases h with h | h
    · rw [er, read_num f s R hRlt]
      unfold numOf
      split
      · exact .inl h
      · exact .inl h
    · have e0 : f.nearest s m p = f.word s 0 := by unfold Ieee.Format.nearest; rw [if_pos h]
      have hpos : 0 < f.binade := Nat.two_pow_pos _
      rw [e0, read_num f s 0 (by omega)]
      unfold numOf
      rw [if_pos hpos]
      exact .inr rfl

theorem writeN {d : Ieee.Datum} {e : Int} (h : NN d) (hc : CL e d) (h2 : e ≤ 1023) (h3 : -1022 ≤ e) : NN (FloatKind.f64.decode (FloatKind.f64.encode d)) :=
  write_nn Ieee.double h hc (by show (-1074 : Int) + 52 ≤ e; omega) (by show (e - -1074 - 52).toNat + 1 < 2047; omega)

/-- A square is not below zero. -/
theorem square_nn {x d : Ieee.Datum} {e : Int} (hx : CL e x) (h : x.product x = some d) : NN d := by
  cases x with
  | infinity => exact hx.elim
  | nan => exact hx.elim
  | number s m i => cases h; exact .inl (by cases s <;> rfl)

theorem root_nn {digits : Nat} {d r : Ieee.Datum} (h : NN d) (hr : d.root digits = some r) : NN r := by
  cases d with
  | infinity => exact h.elim
  | nan => exact h.elim
  | number s m i =>
    simp only [Ieee.Datum.root] at hr
    split at hr
    · next h0 => cases hr; exact .inr h0
    · split at hr
      · cases hr
      · cases hr; exact .inl rfl

/-- A number that is not below zero has a root. -/
theorem root_some {digits : Nat} {d : Ieee.Datum} (h : NN d) : ∃ r, d.root digits = some r := by
  cases d with
  | infinity => exact h.elim
  | nan => exact h.elim
  | number s m i =>
    simp only [Ieee.Datum.root]
    split
    · exact ⟨_, rfl⟩
    · next h0 =>
      rcases h with h | h
      · rw [h]; exact ⟨_, rfl⟩
      · exact absurd h h0

theorem signed_nn (m u : Nat) {s : Bool} (h : s = false ∨ m = 0) : Ieee.signed s m u = ((m * 2 ^ u : Nat) : Int) := by
  unfold Ieee.signed
  rcases h with h | h
  · rw [h, Nat.shiftLeft_eq]; rfl
  · subst h; split <;> simp

/-- What is not below zero makes a sum no less. -/
theorem sum_ga {x y d : Ieee.Datum} {k : Int} (hx : GA k x) (nx : NN x) (ny : NN y) (h : x.sum y = some d) : GA k d ∧ NN d := by
  cases x with
  | infinity => exact hx.elim
  | nan => exact hx.elim
  | number s m i =>
  cases y with
  | infinity => exact ny.elim
  | nan => exact ny.elim
  | number t n j =>
  cases h
  obtain ⟨h0, hk⟩ := hx
  have e1 := signed_nn m (i - min i j).toNat nx
  have e2 := signed_nn n (j - min i j).toNat ny
  simp only [e1, e2]
  have hm : m * 2 ^ (i - min i j).toNat ≠ 0 := Nat.mul_ne_zero h0 (Nat.ne_of_gt (Nat.two_pow_pos _))
  have hlog : (m * 2 ^ (i - min i j).toNat).log2 = m.log2 + (i - min i j).toNat := by rw [← Nat.shiftLeft_eq]; exact log2_shl h0
  generalize hA : m * 2 ^ (i - min i j).toNat = A at *
  generalize hB : n * 2 ^ (j - min i j).toNat = B at *
  have hab : (((A : Nat) : Int) + ((B : Nat) : Int)).natAbs = A + B := by omega
  have hne : ((A : Int) + (B : Int)) ≠ 0 := by omega
  have hge : ¬ ((A : Int) + (B : Int)) < 0 := by omega
  rw [if_neg hne, hab]
  refine ⟨⟨by omega, ?_⟩, .inl (by simp [hge])⟩
  have hl : A.log2 ≤ (A + B).log2 := (Nat.le_log2 (by omega)).2 (Nat.le_trans (Nat.log2_self_le hm) (Nat.le_add_right _ _))
  omega
end Fl
end Go.Proofs.Ytjkkefbfhapblaa
