/- How far a stream is from one that belongs to a basin: the classes. -/
import Derived.Test.YtbinjkaanbhikaaBaSf
import Derived.Test.YtbinjkaanbhikaaWide
import Derived.Test.YtbinjkaanbhikaaHalf
namespace Go.Proofs.Ytbinjkaanbhikaa
set_option linter.unusedSimpArgs false
set_option linter.unusedVariables false
open Go.RowKit
set_option maxRecDepth 20000
namespace Ba
open Fl Rate Turn

/-- An absolute value, as the model tells it. -/
def absC (x : Option Nat) : Option Nat := if cmpC .leq (ord .f32 x (some 0)) = true then op2 .sub .f32 (some 0) x else x

/-- The greatest of the first k. -/
def msF (x : Nat → Option Nat) : Nat → Option Nat
  | 0 => some 0
  | k + 1 => if cmpC .gtr (ord .f32 (absC (x k)) (msF x k)) = true then absC (x k) else msF x k

/-- The greater of two words that are numbers. -/
def maxW (x y : Nat) : Nat := match FloatKind.f32.format.order x y with
  | some .lt => y
  | some .gt => x
  | _ => if (FloatKind.f32.decode x).neg then y else x

theorem run_max2f {P : Program} (w : World) (x y : Nat) (h : FloatKind.f32.format.order x y ≠ none) : (Builtin.max2 (.float .f32 x) (.float .f32 y)).run P w = .ok (.float .f32 (maxW x y)) w := by
  cases ho : FloatKind.f32.format.order x y with
  | none => exact absurd ho h
  | some c => cases c <;> simp [Builtin.max2, maxW, ho]

theorem run_max3f {P : Program} (x y z : Nat) (h1 : FloatKind.f32.format.order x y ≠ none) (h2 : FloatKind.f32.format.order (maxW x y) z ≠ none) (ts : Array TypeId) (t : TypeId) (w : World) :
    (Builtin.max_ ts t #[.float .f32 x, .float .f32 y, .float .f32 z]).run P w = .ok (.float .f32 (maxW (maxW x y) z)) w := by
  simp [Builtin.max_, run_max2f w x y h1, run_max2f w (maxW x y) z h2, Result.andThen]

def Good (m : Nat) : Prop := m < 4294967296 ∧ ∃ a p, FloatKind.f32.decode m = .number false a p

theorem good_zero : Good 0 := ⟨by decide, 0, -149, by decide +kernel⟩

theorem at_num {x : Nat} {s : Bool} {m : Nat} {p : Int} (h : FloatKind.f32.decode x = .number s m p) : At (.number s m p) := by
  obtain ⟨_, b, _⟩ := read32_bounds h
  show -1074 ≤ p; omega

theorem order_num {x y : Nat} {s t : Bool} {m n : Nat} {p q : Int} (hx : FloatKind.f32.decode x = .number s m p) (hy : FloatKind.f32.decode y = .number t n q) :
    FloatKind.f32.format.order x y = some (compare (val (.number s m p)) (val (.number t n q))) := by
  show (FloatKind.f32.decode x).order (FloatKind.f32.decode y) = _
  rw [hx, hy]
  exact order_val (at_num hx) (at_num hy)

theorem val_pos {m : Nat} {p : Int} : 0 ≤ val (.number false m p) ∧ (m ≠ 0 → 0 < val (.number false m p)) := by
  have e : val (.number false m p) = ((m * 2 ^ (p + 1074).toNat : Nat) : Int) := signed_eq false m _
  rw [e]
  refine ⟨by omega, fun hm => ?_⟩
  have := Nat.mul_pos (Nat.pos_of_ne_zero hm) (Nat.two_pow_pos (p + 1074).toNat)
  omega

theorem val_neg (m : Nat) (p : Int) : val (.number true m p) = - val (.number false m p) := by
  have e : val (.number false m p) = ((m * 2 ^ (p + 1074).toNat : Nat) : Int) := signed_eq false m _
  have e' : val (.number true m p) = -((m * 2 ^ (p + 1074).toNat : Nat) : Int) := signed_eq true m _
  rw [e, e']

theorem val_zero (s : Bool) (p : Int) : val (.number s 0 p) = 0 := by
  have e : val (.number false 0 p) = ((0 * 2 ^ (p + 1074).toNat : Nat) : Int) := signed_eq false 0 _
  rw [Nat.zero_mul] at e
  cases s
  · exact e
  · rw [val_neg, e]; rfl

theorem max_num {x y : Nat} {a : Nat} {p : Int} {t : Bool} {n : Nat} {q : Int} (hx : FloatKind.f32.decode x = .number false a p) (hy : FloatKind.f32.decode y = .number t n q) :
    maxW x y = if val (.number false a p) < val (.number t n q) then y else x := by
  unfold maxW
  rw [order_num hx hy]
  rcases Int.lt_trichotomy (val (.number false a p)) (val (.number t n q)) with h | h | h
  · rw [show compare (val (.number false a p)) (val (.number t n q)) = .lt from Int.compare_eq_lt.2 h, if_pos h]
  · rw [show compare (val (.number false a p)) (val (.number t n q)) = .eq from Int.compare_eq_eq.2 h]
    have h2 : ¬ val (.number false a p) < val (.number t n q) := by rw [h]; exact Int.lt_irrefl _
    rw [if_neg h2]
    show (if (FloatKind.f32.decode x).neg = true then y else x) = x
    rw [hx]
    rfl
  · rw [show compare (val (.number false a p)) (val (.number t n q)) = .gt from Int.compare_eq_gt.2 h]
    have h2 : ¬ val (.number false a p) < val (.number t n q) := by omega
    rw [if_neg h2]

/-- What is taken away from nothing. -/
theorem zero_sub {x : Nat} {s : Bool} {m : Nat} {p : Int} (hx : x < 4294967296) (h : FloatKind.f32.decode x = .number s m p) :
    (m = 0 → op2 .sub .f32 (some 0) (some x) = some 0) ∧ (m ≠ 0 → op2 .sub .f32 (some 0) (some x) = some (Op.negFloat .f32 x)) := by
  obtain ⟨b1, b2, b3⟩ := read32_bounds h
  have d0 : FloatKind.f32.decode 0 = .number false 0 (-149) := by decide +kernel
  have e : op2 .sub .f32 (some 0) (some x) = ((FloatKind.f32.decode 0).sum (FloatKind.f32.decode x).opposite).map FloatKind.f32.encode := rfl
  have hmin : min (-149 : Int) p = -149 := by omega
  refine ⟨fun hm => ?_, fun hm => ?_⟩
  · subst hm
    rw [e, d0, h]
    have hs : (Ieee.Datum.number false 0 (-149)).sum (Ieee.Datum.number s 0 p).opposite = some (.number false 0 (-149)) := by
      show some (Ieee.Datum.number _ _ _) = _
      simp only [hmin, Ieee.signed, Nat.zero_shiftLeft]
      cases s <;> rfl
    rw [hs]
    decide +kernel
  · have hr : Ieee.single.read (Op.negFloat .f32 x) = .number (!s) m p := by
      show FloatKind.f32.decode (Op.negFloat .f32 x) = _
      rw [neg32_read, h]; rfl
    have hlt : Op.negFloat .f32 x < 4294967296 := Nat.xor_lt_two_pow (n := 32) hx (by decide)
    have hb := Wide.back32 hr hlt (p + 149).toNat
    have hk : p - ((p + 149).toNat : Int) = -149 := by omega
    rw [hk] at hb
    rw [e, d0, h]
    have hs : (Ieee.Datum.number false 0 (-149)).sum (Ieee.Datum.number s m p).opposite = some (.number (!s) (m * 2 ^ (p + 149).toNat) (-149)) := by
      show some (Ieee.Datum.number _ _ _) = _
      have hp : 0 < m * 2 ^ (p + 149).toNat := Nat.mul_pos (Nat.pos_of_ne_zero hm) (Nat.two_pow_pos _)
      simp only [hmin, Ieee.signed, Nat.shiftLeft_eq, show (p - -149).toNat = (p + 149).toNat by omega, show ((-149 : Int) - -149).toNat = 0 by omega]
      generalize m * 2 ^ (p + 149).toNat = q at *
      cases s
      · simp <;> omega
      · simp <;> omega
    rw [hs]
    exact congrArg some hb

theorem leq_zero {x : Nat} {s : Bool} {a : Nat} {p : Int} (hd : FloatKind.f32.decode x = .number s a p) : cmpC .leq (ord .f32 (some x) (some 0)) = decide (val (.number s a p) ≤ 0) := by
  have d0 : FloatKind.f32.decode 0 = .number false 0 (-149) := by decide +kernel
  have e : ord .f32 (some x) (some 0) = some (compare (val (.number s a p)) (val (.number false 0 (-149)))) := order_num hd d0
  rw [e, val_zero, (cmpC_val _ _).2.1]

theorem gtr_num {x y : Nat} {s t : Bool} {a b : Nat} {p q : Int} (hx : FloatKind.f32.decode x = .number s a p) (hy : FloatKind.f32.decode y = .number t b q) : cmpC .gtr (ord .f32 (some x) (some y)) = decide (val (.number t b q) < val (.number s a p)) := by
  have e : ord .f32 (some x) (some y) = some (compare (val (.number s a p)) (val (.number t b q))) := order_num hx hy
  rw [e, (cmpC_val _ _).2.2.2.1]

theorem neg_lt32 {x : Nat} (hx : x < 4294967296) : Op.negFloat .f32 x < 4294967296 := Nat.xor_lt_two_pow (n := 32) hx (by decide)

/-- One number more. -/
theorem step_max {m x : Nat} (hm : Good m) (hx : x < 4294967296) {s : Bool} {a : Nat} {p : Int} (hd : FloatKind.f32.decode x = .number s a p) :
    ∃ m', (if cmpC .gtr (ord .f32 (absC (some x)) (some m)) = true then absC (some x) else some m) = some m' ∧ Good m' ∧ maxW (maxW m x) (Op.negFloat .f32 x) = m' ∧ FloatKind.f32.format.order m x ≠ none ∧ FloatKind.f32.format.order (maxW m x) (Op.negFloat .f32 x) ≠ none := by
  obtain ⟨hm1, b, q, hb⟩ := hm
  have hn : FloatKind.f32.decode (Op.negFloat .f32 x) = .number (!s) a p := by rw [neg32_read, hd]; rfl
  have d0 : FloatKind.f32.decode 0 = .number false 0 (-149) := by decide +kernel
  have v0 := (val_pos (m := b) (p := q)).1
  have o1 : FloatKind.f32.format.order m x ≠ none := by rw [order_num hb hd]; exact fun h => by cases h
  have o2 : ∀ y, (y = m ∨ y = x) → FloatKind.f32.format.order y (Op.negFloat .f32 x) ≠ none := by
    intro y hy
    rcases hy with rfl | rfl
    · rw [order_num hb hn]; exact fun h => by cases h
    · rw [order_num hd hn]; exact fun h => by cases h
  have hl := leq_zero hd
  have hmx := max_num hb hd
  by_cases ha : a = 0
  · subst ha
    rw [val_zero] at hl hmx
    rw [if_neg (by omega)] at hmx
    have e : absC (some x) = some 0 := by
      unfold absC
      rw [hl, if_pos (by decide)]
      exact (zero_sub hx hd).1 rfl
    refine ⟨m, ?_, ⟨hm1, b, q, hb⟩, ?_, o1, by rw [hmx]; exact o2 m (.inl rfl)⟩
    · rw [e, gtr_num d0 hb, val_zero, if_neg (by rw [decide_eq_false (by omega)]; decide)]
    · rw [hmx, max_num hb hn, val_zero, if_neg (by omega)]
  · have v1 := (val_pos (m := a) (p := p)).2 ha
    cases s
    · have e : absC (some x) = some x := by
        unfold absC
        rw [hl, decide_eq_false (by omega), if_neg (by decide)]
      have hn' : FloatKind.f32.decode (Op.negFloat .f32 x) = .number true a p := hn
      by_cases hlt : val (.number false b q) < val (.number false a p)
      · rw [if_pos hlt] at hmx
        refine ⟨x, ?_, ⟨hx, a, p, hd⟩, ?_, o1, by rw [hmx]; exact o2 x (.inr rfl)⟩
        · rw [e, gtr_num hd hb, decide_eq_true hlt, if_pos rfl]
        · rw [hmx, max_num hd hn', val_neg, if_neg (by omega)]
      · rw [if_neg hlt] at hmx
        refine ⟨m, ?_, ⟨hm1, b, q, hb⟩, ?_, o1, by rw [hmx]; exact o2 m (.inl rfl)⟩
        · rw [e, gtr_num hd hb, decide_eq_false hlt, if_neg (by decide)]
        · rw [hmx, max_num hb hn', val_neg, if_neg (by omega)]
    · have hn' : FloatKind.f32.decode (Op.negFloat .f32 x) = .number false a p := hn
      rw [val_neg] at hl hmx
      rw [if_neg (by omega)] at hmx
      have e : absC (some x) = some (Op.negFloat .f32 x) := by
        unfold absC
        rw [hl, decide_eq_true (by omega), if_pos rfl]
        exact (zero_sub hx hd).2 ha
      by_cases hlt : val (.number false b q) < val (.number false a p)
      · refine ⟨Op.negFloat .f32 x, ?_, ⟨neg_lt32 hx, a, p, hn'⟩, ?_, o1, by rw [hmx]; exact o2 m (.inl rfl)⟩
        · rw [e, gtr_num hn' hb, decide_eq_true hlt, if_pos rfl]
        · rw [hmx, max_num hb hn', if_pos hlt]
      · refine ⟨m, ?_, ⟨hm1, b, q, hb⟩, ?_, o1, by rw [hmx]; exact o2 m (.inl rfl)⟩
        · rw [e, gtr_num hn' hb, decide_eq_false hlt, if_neg (by decide)]
        · rw [hmx, max_num hb hn', if_neg hlt]

theorem finC_num {x : Nat} {s : Bool} {a : Nat} {p : Int} (hd : FloatKind.f32.decode x = .number s a p) : finC (some x) = true := fin_of_num hd

/-- The absolute value is finite where the number is. -/
theorem abs_fin {c : Option Nat} (hc : ∀ x, c = some x → x < 4294967296) : finC (absC c) = finC c := by
  cases c with
  | none => rfl
  | some x =>
    have hx := hc x rfl
    cases hd : FloatKind.f32.decode x with
    | number s a p =>
      rw [finC_num hd]
      have hn : FloatKind.f32.decode (Op.negFloat .f32 x) = .number (!s) a p := by rw [neg32_read, hd]; rfl
      have d0 : FloatKind.f32.decode 0 = .number false 0 (-149) := by decide +kernel
      unfold absC
      split
      · by_cases ha : a = 0
        · rw [(zero_sub hx hd).1 ha]; exact finC_num d0
        · rw [(zero_sub hx hd).2 ha]; exact finC_num hn
      · exact finC_num hd
    | infinity s =>
      have hw : Wild (some x) := .inr ⟨x, s, rfl, hd⟩
      rw [wild_no hw]
      unfold absC
      split
      · have e : op2 .sub .f32 (some 0) (some x) = ((FloatKind.f32.decode 0).sum (FloatKind.f32.decode x).opposite).map FloatKind.f32.encode := rfl
        have d0 : FloatKind.f32.decode 0 = .number false 0 (-149) := by decide +kernel
        rw [e, d0, hd]
        exact wild_no (.inr ⟨_, _, rfl, inf_enc _⟩)
      · exact wild_no hw
    | nan s u =>
      have hf : finC (some x) = false := by
        show fin .f32 x = false
        cases hf : fin .f32 x
        · rfl
        · obtain ⟨s', m, p, h2⟩ := decode_fin hf
          rw [hd] at h2; cases h2
      have ho : ord .f32 (some x) (some 0) = none := order_none_left (f := FloatKind.f32.format) (by show (FloatKind.f32.decode x).isNaN = true; rw [hd]; rfl)
      unfold absC
      rw [ho]
      rfl

/-- What is greatest is a word. -/
theorem ms_good {x : Nat → Option Nat} {n : Nat} (hf : allF x n = true) (hw : ∀ i y, x i = some y → y < 4294967296) : ∀ k, k ≤ n → ∃ m, msF x k = some m ∧ Good m
  | 0, _ => ⟨0, rfl, good_zero⟩
  | k + 1, hk => by
    obtain ⟨m, h1, h2⟩ := ms_good hf hw k (by omega)
    have h3 := allF_at hf k (by omega)
    cases hx : x k with
    | none => rw [hx] at h3; cases h3
    | some y =>
      rw [hx] at h3
      obtain ⟨s, a, p, hd⟩ := decode_fin (k := .f32) (b := y) h3
      obtain ⟨m', k1, k2, _⟩ := step_max h2 (hw k y hx) hd
      refine ⟨m', ?_, k2⟩
      show (if cmpC .gtr (ord .f32 (absC (x k)) (msF x k)) = true then absC (x k) else msF x k) = some m'
      rw [hx, h1]; exact k1
end Ba
end Go.Proofs.Ytbinjkaanbhikaa
