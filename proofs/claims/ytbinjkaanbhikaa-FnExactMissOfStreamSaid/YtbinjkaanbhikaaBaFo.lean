/- Places between cells, and the greatest integers that are not greater. -/
import Derived.Test.YtbinjkaanbhikaaBaLa
import Derived.Test.YtbinjkaanbhikaaTurn
namespace Go.Proofs.Ytbinjkaanbhikaa
set_option linter.unusedSimpArgs false
set_option linter.unusedVariables false
open Go.RowKit
set_option maxRecDepth 20000
namespace Ba
open Fl Rate Turn

abbrev far0 : Option Nat := some 3296329728
abbrev far1 : Option Nat := some 1148846080

/-- A place is from -1000 to 1000. -/
def placeB (c : Option Nat) : Bool := cmpC .geq (ord .f32 c far0) && cmpC .leq (ord .f32 c far1)

theorem far_num : FloatKind.f32.decode 1148846080 = .number false 16384000 (-14) ∧ FloatKind.f32.decode 3296329728 = .number true 16384000 (-14) := by decide +kernel

theorem far_val : val (.number false 16384000 (-14)) = 1000 * ((2 ^ 1074 : Nat) : Int) ∧ val (.number true 16384000 (-14)) = -(1000 * ((2 ^ 1074 : Nat) : Int)) := by decide +kernel

theorem far32 : Fr .f32 3296329728 far0 ∧ Fr .f32 1148846080 far1 := ⟨Fr.const (by decide +kernel) (by decide), Fr.const (by decide +kernel) (by decide)⟩

theorem two_add (e : Int) (k : Nat) (h : e = (k : Int)) : 2 ^ (e + 1074).toNat = 2 ^ k * 2 ^ 1074 := by
  subst h
  rw [show ((k : Int) + 1074).toNat = k + 1074 by omega, Nat.pow_add]

theorem place_cl {x : Nat} (h : placeB (cl .f32 x) = true) : ∃ s m p, FloatKind.f32.decode x = .number s m p ∧ CL 10 (.number s m p) := by
  unfold placeB at h
  simp only [Bool.and_eq_true] at h
  cases hd : FloatKind.f32.decode x with
  | nan s t =>
    have hc : cl .f32 x = none := cl_none_iff.2 (by rw [hd]; rfl)
    rw [hc] at h
    cases h.1
  | infinity s =>
    have hc : cl .f32 x = some x := cl_some_iff.2 (by rw [hd]; rfl)
    rw [hc] at h
    have e0 : ord .f32 (some x) far0 = (Ieee.Datum.infinity s).order (.number true 16384000 (-14)) := by
      show (FloatKind.f32.decode x).order (FloatKind.f32.decode 3296329728) = _
      rw [hd, far_num.2]
    have e1 : ord .f32 (some x) far1 = (Ieee.Datum.infinity s).order (.number false 16384000 (-14)) := by
      show (FloatKind.f32.decode x).order (FloatKind.f32.decode 1148846080) = _
      rw [hd, far_num.1]
    rw [e0, e1] at h
    cases s
    · cases h.2
    · cases h.1
  | number s m p =>
    have hc : cl .f32 x = some x := cl_some_iff.2 (by rw [hd]; rfl)
    obtain ⟨b1, b2, b3⟩ := read32_bounds hd
    have ha : At (.number s m p) := by show -1074 ≤ p; omega
    rw [hc] at h
    have e0 : ord .f32 (some x) far0 = some (compare (val (.number s m p)) (-(1000 * ((2 ^ 1074 : Nat) : Int)))) := by
      show (FloatKind.f32.decode x).order (FloatKind.f32.decode 3296329728) = _
      rw [hd, far_num.2, order_val ha (by show (-1074 : Int) ≤ -14; omega), far_val.2]
    have e1 : ord .f32 (some x) far1 = some (compare (val (.number s m p)) (1000 * ((2 ^ 1074 : Nat) : Int))) := by
      show (FloatKind.f32.decode x).order (FloatKind.f32.decode 1148846080) = _
      rw [hd, far_num.1, order_val ha (by show (-1074 : Int) ≤ -14; omega), far_val.1]
    rw [e0, e1, (cmpC_val _ _).1, (cmpC_val _ _).2.1] at h
    have h1 := of_decide_eq_true h.1
    have h2 := of_decide_eq_true h.2
    refine ⟨s, m, p, rfl, cl_of_val ha (by omega) ?_⟩
    refine Nat.le_trans ?_ (Nat.le_of_eq (two_add 10 10 rfl).symm)
    generalize 2 ^ 1074 = U at *
    omega

theorem place_bd {x : Nat} (h : placeB (cl .f32 x) = true) : Bd 10 (convC .f32 .f64 (cl .f32 x)) := by
  obtain ⟨s, m, p, hd, hc⟩ := place_cl h
  have he : cl .f32 x = some x := cl_some_iff.2 (by rw [hd]; rfl)
  rw [he]
  refine ⟨FloatKind.f64.encode (.number s m p), ?_, writeC hc (by omega) (by omega)⟩
  obtain ⟨t, n, q, hn⟩ := (writeC hc (by omega) (by omega)).isNum
  show floatToFloatBits .f32 x .f64 = _
  unfold floatToFloatBits
  rw [if_neg (by decide), hd]
  simp [hn, Ieee.Datum.isInfinity]

/-- The greatest integer that is no greater, as a number. -/
def floorC (c : Option Nat) : Option Nat := c.map fun b => FloatKind.f64.encode ((FloatKind.f64.decode b).integral .down)

theorem floor_bd {c : Option Nat} (h : Bd 22 c) : Bd 23 (floorC c) := by
  obtain ⟨b, rfl, k⟩ := h
  refine ⟨_, rfl, writeC ?_ (by omega) (by omega)⟩
  obtain ⟨s, m, p, hd⟩ := k.isNum
  rw [hd] at k ⊢
  show CL 23 (.number s (Ieee.Toward.down.cut s (m <<< p.toNat) (-p).toNat) 0)
  have hc : Ieee.Toward.down.cut s (m <<< p.toNat) (-p).toNat ≤ 2 ^ 23 := by
    refine cut_le _ _ _ _ 23 ?_
    rw [Nat.shiftLeft_eq]
    rcases k with h0 | ⟨h1, h2⟩
    · subst h0; rw [Nat.zero_mul]; exact Nat.two_pow_pos _
    · refine Nat.lt_of_le_of_lt (Nat.mul_le_mul_right _ h2) ?_
      rw [← Nat.pow_add]
      exact Nat.pow_lt_pow_right (by decide) (by omega)
  exact .inr ⟨by omega, hc⟩

theorem extern_floor (x : Nat) (w : World) {s : Bool} {m : Nat} {p : Int} (hd : FloatKind.f64.decode x = .number s m p) : (callFunc 178 #[.float .f64 x]).run Try.prog w = .ok (.value (.float .f64 (FloatKind.f64.encode ((FloatKind.f64.decode x).integral .down)))) w := by
  rw [run_callFunc_extern Try.func178 (by kernel_rfl) (by kernel_rfl) (by kernel_rfl) (e := Extern.MathFloor.toIntegral "math.archFloor" .down) (by kernel_rfl)]
  have hE : Extern.MathFloor.toIntegral "math.archFloor" .down #[.float .f64 x] = pure (.float .f64 (FloatKind.f64.encode ((FloatKind.f64.decode x).integral .down))) := by
    show (match FloatKind.f64.decode x with | Ieee.Datum.nan s t => (_ : Sem Value) | d => (pure (Value.float FloatKind.f64 (FloatKind.f64.encode (d.integral .down))) : Sem Value)) = _
    rw [hd]
  rw [hE]; rfl

theorem go_floor (x : Nat) (c : Option Nat) (w : World) (f : Fr .f64 x c) (hd : ∃ s m p, FloatKind.f64.decode x = .number s m p) : Calls Try.prog 142 #[.float .f64 x] w (RetF .f64 (floorC c) w) := by
  obtain ⟨s, m, p, hd⟩ := hd
  have he := fun w => extern_floor x w hd
  have hc : c = some x := by rw [← f.1]; exact cl_some_iff.2 (by rw [hd]; rfl)
  have hr : Fr .f64 (FloatKind.f64.encode ((FloatKind.f64.decode x).integral .down)) (floorC c) := by
    rw [hc]
    exact ⟨cl_some_iff.2 (write_notNaN _ _ (by rw [hd]; rfl)), FloatKind.f64.format.write_lt _⟩
  have HR := Lib.hid hr
  clear hr hc hd f
  go_enter Try.func142, Try.ntmps142
  go_wp2
  go_ret
  exact ⟨_, rfl, HR.out, Below.refl _ _⟩

/-- The integer at or before a place. -/
def cellI (c : Option Nat) : Int := wholeC (floorC (convC .f32 .f64 c))

/-- How far a place is behind it. -/
def shareC (c : Option Nat) : Option Nat := op2 .sub .f32 c (Mks.msC (cellI c))

theorem place_facts {x : Nat} (h : placeB (cl .f32 x) = true) : (∀ y, Fr .f64 y (convC .f32 .f64 (cl .f32 x)) → ∃ s m p, FloatKind.f64.decode y = .number s m p) ∧
    (∀ y, Fr .f64 y (floorC (convC .f32 .f64 (cl .f32 x))) → floatToIntVal .f64 y .i64 = some (cellI (cl .f32 x))) ∧ -16777216 ≤ cellI (cl .f32 x) ∧ cellI (cl .f32 x) ≤ 16777216 := by
  have a := place_bd h
  have b := floor_bd (a.mono (by omega))
  refine ⟨fun y f => ?_, fun y f => ?_, ?_⟩
  · obtain ⟨z, e, k⟩ := a
    rw [e] at f
    rw [eq_of_some f]
    exact k.isNum
  · obtain ⟨z, e, k⟩ := b
    unfold cellI
    rw [e] at f ⊢
    rw [eq_of_some f]
    exact (whole_ok (k.mono (by omega))).1
  · obtain ⟨z, e, k⟩ := b
    unfold cellI
    rw [e]
    obtain ⟨_, _, h3⟩ := whole_ok (k.mono (by omega))
    obtain ⟨s, m, p, hd⟩ := k.isNum
    have h4 := Nat.le_trans (val_of_cl (decode_at hd) k) (Nat.le_of_eq (two_add 23 23 rfl))
    generalize val (FloatKind.f64.decode z) = V at *
    generalize wholeC (some z) = I at *
    have hU := Nat.two_pow_pos 1074
    generalize 2 ^ 1074 = U at *
    have hI : I.natAbs * U < (2 ^ 23 + 1) * U := by
      have h5 : (I * (U : Int)).natAbs < (2 ^ 23 + 1) * U := by omega
      rwa [Int.natAbs_mul, Int.natAbs_natCast] at h5
    have := Nat.lt_of_mul_lt_mul_right hI
    omega

/-- A number between two others. -/
def betwC (a b s : Option Nat) : Option Nat := op2 .add .f32 a (op2 .mul .f32 s (op2 .sub .f32 b a))

/-- The spin between cells. -/
def aboutC (c : Nat → Option Nat) (W H : Int) (x y : Option Nat) : Option Nat :=
  betwC (betwC (c (idx W H (cellI x) (cellI y))) (c (idx W H (cellI x + 1) (cellI y))) (shareC x)) (betwC (c (idx W H (cellI x) (cellI y + 1))) (c (idx W H (cellI x + 1) (cellI y + 1))) (shareC x)) (shareC y)
end Ba
end Go.Proofs.Ytbinjkaanbhikaa
