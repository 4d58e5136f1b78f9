/- Bounds of classes of 64-bit numbers, operation by operation. -/
import Derived.Test.YtjkkefbfhapblaaBound
namespace Go.Proofs.Ytjkkefbfhapblaa
set_option linter.unusedSimpArgs false
set_option linter.unusedVariables false
open Go.RowKit
namespace Fl

/-- A number of a size at most 2^e. -/
def Bd (e : Int) (c : Option Nat) : Prop := ∃ b, c = some b ∧ CL e (FloatKind.f64.decode b)
/-- A number not below zero. -/
def Nd (c : Option Nat) : Prop := ∃ b, c = some b ∧ NN (FloatKind.f64.decode b)
/-- A number at least 2^k, without its sign. -/
def Gd (k : Int) (c : Option Nat) : Prop := ∃ b, c = some b ∧ GA k (FloatKind.f64.decode b)

theorem Bd.mono {e e' : Int} {c : Option Nat} (h : Bd e c) (he : e ≤ e') : Bd e' c := by
  obtain ⟨b, h1, h2⟩ := h; exact ⟨b, h1, h2.mono he⟩

theorem CL.isNum {e : Int} {d : Ieee.Datum} (h : CL e d) : ∃ s m p, d = .number s m p := by
  cases d with
  | infinity => exact h.elim
  | nan => exact h.elim
  | number s m p => exact ⟨s, m, p, rfl⟩

theorem op2_write {op : BinOp} {b1 b2 : Nat} {o : Ieee.Datum} (h : floatBits op .f64 b1 b2 = some (FloatKind.f64.encode o)) : op2 op .f64 (some b1) (some b2) = some (FloatKind.f64.encode o) := by
  simp only [op2, Option.bind_some]; exact h

theorem Bd.mul {e1 e2 : Int} {c d : Option Nat} (hc : Bd e1 c) (hd : Bd e2 d) (h1 : -1022 ≤ e1 + e2) (h2 : e1 + e2 ≤ 1023) : Bd (e1 + e2) (op2 .mul .f64 c d) := by
  obtain ⟨b1, rfl, k1⟩ := hc
  obtain ⟨b2, rfl, k2⟩ := hd
  obtain ⟨s, m, p, e1'⟩ := k1.isNum
  obtain ⟨t, n, q, e2'⟩ := k2.isNum
  have hp : (FloatKind.f64.decode b1).product (FloatKind.f64.decode b2) = some (.number (s ^^ t) (m * n) (p + q)) := by rw [e1', e2']; rfl
  refine ⟨_, op2_write (o := .number (s ^^ t) (m * n) (p + q)) ?_, writeC (product_cl k1 k2 hp) h1 h2⟩
  show ((FloatKind.f64.decode b1).product (FloatKind.f64.decode b2)).map _ = _
  rw [hp]; rfl

theorem Nd.square {e : Int} {c : Option Nat} (hc : Bd e c) (h1 : -1022 ≤ e + e) (h2 : e + e ≤ 1023) : Nd (op2 .mul .f64 c c) := by
  obtain ⟨b1, rfl, k1⟩ := hc
  obtain ⟨s, m, p, e1'⟩ := k1.isNum
  have hp : (FloatKind.f64.decode b1).product (FloatKind.f64.decode b1) = some (.number (s ^^ s) (m * m) (p + p)) := by rw [e1']; rfl
  refine ⟨_, op2_write (o := .number (s ^^ s) (m * m) (p + p)) ?_, writeN (square_nn k1 hp) (product_cl k1 k1 hp) h2 h1⟩
  show ((FloatKind.f64.decode b1).product (FloatKind.f64.decode b1)).map _ = _
  rw [hp]; rfl

theorem sum_some {x y : Ieee.Datum} {e1 e2 : Int} (hx : CL e1 x) (hy : CL e2 y) : ∃ d, x.sum y = some d := by
  obtain ⟨s, m, p, rfl⟩ := hx.isNum
  obtain ⟨t, n, q, rfl⟩ := hy.isNum
  exact ⟨_, rfl⟩

theorem Bd.add {e1 e2 : Int} {c d : Option Nat} (hc : Bd e1 c) (hd : Bd e2 d) (h1 : -1022 ≤ max e1 e2 + 1) (h2 : max e1 e2 + 1 ≤ 1023) : Bd (max e1 e2 + 1) (op2 .add .f64 c d) := by
  obtain ⟨b1, rfl, k1⟩ := hc
  obtain ⟨b2, rfl, k2⟩ := hd
  obtain ⟨o, hp⟩ := sum_some k1 k2
  refine ⟨_, op2_write (o := o) ?_, writeC (sum_cl k1 k2 hp) h1 h2⟩
  show ((FloatKind.f64.decode b1).sum (FloatKind.f64.decode b2)).map _ = _
  rw [hp]; rfl

theorem Bd.sub {e1 e2 : Int} {c d : Option Nat} (hc : Bd e1 c) (hd : Bd e2 d) (h1 : -1022 ≤ max e1 e2 + 1) (h2 : max e1 e2 + 1 ≤ 1023) : Bd (max e1 e2 + 1) (op2 .sub .f64 c d) := by
  obtain ⟨b1, rfl, k1⟩ := hc
  obtain ⟨b2, rfl, k2⟩ := hd
  have k2' := opposite_cl k2
  obtain ⟨o, hp⟩ := sum_some k1 k2'
  refine ⟨_, op2_write (o := o) ?_, writeC (sum_cl k1 k2' hp) h1 h2⟩
  show ((FloatKind.f64.decode b1).sum (FloatKind.f64.decode b2).opposite).map _ = _
  rw [hp]; rfl

/-- A sum of a number of at least 2^k, both not below zero. -/
theorem Gd.add {e1 e2 k : Int} {c d : Option Nat} (hc : Bd e1 c) (hd : Bd e2 d) (gc : Gd k c) (nc : Nd c) (nd : Nd d) (hk : -1022 ≤ k) (h1 : -1022 ≤ max e1 e2 + 1) (h2 : max e1 e2 + 1 ≤ 1023) : Gd k (op2 .add .f64 c d) ∧ Nd (op2 .add .f64 c d) := by
  obtain ⟨b1, rfl, k1⟩ := hc
  obtain ⟨b2, rfl, k2⟩ := hd
  obtain ⟨_, e3, g⟩ := gc; cases e3
  obtain ⟨_, e3, n1⟩ := nc; cases e3
  obtain ⟨_, e3, n2⟩ := nd; cases e3
  obtain ⟨o, hp⟩ := sum_some k1 k2
  obtain ⟨g', n'⟩ := sum_ga g n1 n2 hp
  have hw : op2 .add .f64 (some b1) (some b2) = some (FloatKind.f64.encode o) := by
    refine op2_write ?_
    show ((FloatKind.f64.decode b1).sum (FloatKind.f64.decode b2)).map _ = _
    rw [hp]; rfl
  have hcl := sum_cl k1 k2 hp
  exact ⟨⟨_, hw, writeG g' hcl hk h2 h1⟩, ⟨_, hw, writeN n' hcl h2 h1⟩⟩

theorem quotient_some {x y : Ieee.Datum} {e k : Int} {digits : Nat} (hx : CL e x) (hy : GA k y) : ∃ d, x.quotient digits y = some d := by
  obtain ⟨s, m, p, rfl⟩ := hx.isNum
  cases y with
  | infinity => exact hy.elim
  | nan => exact hy.elim
  | number t n j =>
    simp only [Ieee.Datum.quotient]
    rw [if_neg hy.1]
    exact ⟨_, rfl⟩

theorem Bd.quo {e k : Int} {c d : Option Nat} (hc : Bd e c) (gd : Gd k d) (h1 : -1022 ≤ e - k) (h2 : e - k ≤ 1023) : Bd (e - k) (op2 .quo .f64 c d) := by
  obtain ⟨b1, rfl, k1⟩ := hc
  obtain ⟨b2, rfl, g⟩ := gd
  obtain ⟨o, hp⟩ := quotient_some (digits := FloatKind.f64.format.fractionBits + 2) k1 g
  refine ⟨_, op2_write (o := o) ?_, writeC (quotient_cl k1 g hp) h1 h2⟩
  show ((FloatKind.f64.decode b1).quotient _ (FloatKind.f64.decode b2)).map _ = _
  rw [hp]; rfl

theorem Bd.sqrt {e : Int} {c : Option Nat} (hc : Bd e c) (nc : Nd c) (he : 0 ≤ e) (h2 : e ≤ 1000) : Bd ((e + 1) / 2) (sqrtC c) ∧ Nd (sqrtC c) := by
  obtain ⟨b1, rfl, k1⟩ := hc
  obtain ⟨_, e3, n1⟩ := nc; cases e3
  obtain ⟨o, hp⟩ := root_some (digits := FloatKind.f64.format.fractionBits + 2) n1
  have hw : sqrtC (some b1) = some (FloatKind.f64.encode o) := by
    show ((FloatKind.f64.decode b1).root _).map _ = _
    rw [hp]; rfl
  have hcl := root_cl k1 hp he
  exact ⟨⟨_, hw, writeC hcl (by omega) (by omega)⟩, ⟨_, hw, writeN (root_nn n1 hp) hcl (by omega) (by omega)⟩⟩

/-- A bounded number is narrowed without asking the tape. -/
theorem Bd.fits {e : Int} {c : Option Nat} (hc : Bd e c) (he : e ≤ 126) : Fits .f64 .f32 c := by
  obtain ⟨b, rfl, k⟩ := hc
  refine .inr fun b' hb _ => ?_
  cases hb
  exact narrows k.toDL he

theorem Fits.none : Fits .f64 .f32 none := .inr fun _ h => nomatch h

/-- A constant. -/
theorem Bd.const {e : Int} (b : Nat) {s : Bool} {m : Nat} {p : Int} (h : FloatKind.f64.decode b = .number s m p) (h1 : p ≤ e) (h2 : m ≤ 2 ^ (e - p).toNat) : Bd e (some b) := ⟨b, rfl, by rw [h]; exact .inr ⟨h1, h2⟩⟩

/-- The quotient of a number by one that is no less, in size, is at most 1. -/
theorem quotient_one {s t : Bool} {m n : Nat} {i j : Int} {digits : Nat} {d : Ieee.Datum} (hn : n ≠ 0) (hle : m * 2 ^ (i - min i j).toNat ≤ n * 2 ^ (j - min i j).toNat) (h : (Ieee.Datum.number s m i).quotient digits (.number t n j) = some d) : CL 0 d := by
  simp only [Ieee.Datum.quotient] at h
  rw [if_neg hn] at h
  cases h
  by_cases h0 : m = 0
  · subst h0; refine .inl ?_; simp
  have hml : m * 2 ^ (i - min i j).toNat ≠ 0 := Nat.mul_ne_zero h0 (Nat.ne_of_gt (Nat.two_pow_pos _))
  have l1 : (m * 2 ^ (i - min i j).toNat).log2 = m.log2 + (i - min i j).toNat := by rw [← Nat.shiftLeft_eq]; exact log2_shl h0
  have l2 : (n * 2 ^ (j - min i j).toNat).log2 = n.log2 + (j - min i j).toNat := by rw [← Nat.shiftLeft_eq]; exact log2_shl hn
  have l3 : (m * 2 ^ (i - min i j).toNat).log2 ≤ (n * 2 ^ (j - min i j).toNat).log2 := (Nat.le_log2 (by omega)).2 (Nat.le_trans (Nat.log2_self_le hml) hle)
  generalize hmo : digits + n.log2 - m.log2 = more
  have hX : 0 ≤ j - i + more := by omega
  have hdv : m <<< more ≤ n * 2 ^ (j - i + more).toNat := by
    rw [Nat.shiftLeft_eq]
    have hpos := Nat.two_pow_pos (i - min i j).toNat
    apply Nat.le_of_mul_le_mul_right (c := 2 ^ (i - min i j).toNat) _ hpos
    rw [Nat.mul_right_comm]
    refine Nat.le_trans (Nat.mul_le_mul_right _ hle) ?_
    rw [Nat.mul_assoc, Nat.mul_assoc, ← Nat.pow_add, ← Nat.pow_add]
    exact Nat.mul_le_mul_left _ (Nat.pow_le_pow_right (by decide) (by omega))
  generalize hXe : (j - i + more).toNat = X at *
  generalize m <<< more = dv at *
  have hpos : 0 < n := Nat.pos_of_ne_zero hn
  have hq : dv / n ≤ 2 ^ X := Nat.div_le_of_le_mul hdv
  have hdm := Nat.div_add_mod dv n
  have ht := toNat_le_one (dv % n != 0)
  refine .inr ⟨by omega, ?_⟩
  have hexp : (0 - (i - j - more - 1)).toNat = X + 1 := by omega
  rw [hexp, Nat.pow_succ]
  by_cases heq : dv / n = 2 ^ X
  · rw [heq] at hdm
    have : dv % n = 0 := by omega
    rw [this, heq]
    simp; omega
  · omega
end Fl
end Go.Proofs.Ytjkkefbfhapblaa
