/- The walk's steps at floats: an arithmetic operation, a conversion: some word of the class; the world but for draws. -/
import Derived.Test.YtjkkefbfhapblaaFl
namespace Go.Proofs.Ytjkkefbfhapblaa
set_option linter.unusedSimpArgs false
set_option linter.unusedVariables false
open Go.RowKit
namespace Fl

section
variable {P : Program} {w : World} {a : Addr} {m : Mode}
@[go_sem] theorem run_store_float (k : FloatKind) (b : Nat) : (store a (.float k b) m).run P w = stored P w a (.float k b) m := run_store P w a _ m rfl
@[go_sem] theorem run_store_complex (k : FloatKind) (b c : Nat) : (store a (.complex k b c) m).run P w = stored P w a (.complex k b c) m := run_store P w a _ m rfl
@[go_sem] theorem unary_neg_float (k : FloatKind) (b : Nat) : Op.unary .neg (.float k b) = pure (.float k (Op.negFloat k b)) := rfl
@[go_sem] theorem unary_neg_complex (k : FloatKind) (b c : Nat) : Op.unary .neg (.complex k b c) = pure (.complex k (Op.negFloat k b) (Op.negFloat k c)) := rfl
end

def arith : BinOp → Bool
  | .add | .sub | .mul | .quo => true
  | _ => false

theorem arith_or {op : BinOp} (h : arith op = true) : op = .add ∨ op = .sub ∨ op = .mul ∨ op = .quo := by
  cases op <;> simp_all [arith]

theorem Fr.const {k : FloatKind} {b : Nat} (h1 : (k.decode b).isNaN = false) (h2 : b < 2 ^ k.format.width) : Fr k b (some b) := ⟨cl_some_iff.2 h1, h2⟩

theorem eq_of_some {k : FloatKind} {r b : Nat} (h : Fr k r (some b)) : r = b := cl_some h.1

section
variable {P : Program} {w : World} {ops : Array Oper} {rest : List Oper} {o : Oper} {a : Act} {Q : Exit → Act → World → Prop}

theorem wpList_fl (hg : Region.wanted o (yielded ops a.tmps) = true) {op : BinOp} {t yt : TypeId} {x y : Operand} (hop : o.op = Op.binOp op t x y yt) (har : arith op = true)
    {k : FloatKind} {bx bz : Nat} (hx : a.eval x = .float k bx) (hy : a.eval y = .float k bz) {cx cy : Option Nat} (fx : Fr k bx cx) (fy : Fr k bz cy)
    (hK : ∀ r n, Fr k r (op2 op k cx cy) → wpList P ops Q rest (a.put o.dst (.float k r)) (w.drewN n)) : wpList P ops Q (o :: rest) a w := by
  refine wpList_step fun K hK' => ?_
  rw [if_pos hg]
  obtain ⟨r, n, hrun, hr⟩ := run_op (P := P) w op (arith_or har) t k bx bz
  rw [fx.1, fy.1] at hr
  unfold Oper.wp
  simp [execOp, hop, hx, hy, eqGuard_at_float, hrun, Result.andThen]
  exact hK' _ _ (hK r n hr)

/-- A comparison, on what the order of the classes is. -/
def cmpC (op : BinOp) (o : Option Ordering) : Bool :=
  match op with
  | .eql => o == some .eq
  | .neq => o != some .eq
  | .lss => o == some .lt
  | .leq => o == some .lt || o == some .eq
  | .gtr => o == some .gt
  | .geq => o == some .gt || o == some .eq
  | _ => false

def isCmp : BinOp → Bool
  | .eql | .neq | .lss | .leq | .gtr | .geq => true
  | _ => false

theorem wpList_cmp (hg : Region.wanted o (yielded ops a.tmps) = true) {op : BinOp} {t yt : TypeId} {x y : Operand} (hop : o.op = Op.binOp op t x y yt) (har : isCmp op = true)
    {k : FloatKind} {bx bz : Nat} (hx : a.eval x = .float k bx) (hy : a.eval y = .float k bz) {cx cy : Option Nat} (fx : Fr k bx cx) (fy : Fr k bz cy)
    (hK : wpList P ops Q rest (a.put o.dst (.bool (cmpC op (ord k cx cy)))) w) : wpList P ops Q (o :: rest) a w := by
  refine wpList_step fun K hK' => ?_
  rw [if_pos hg]
  have e : k.format.order bx bz = ord k cx cy := by rw [order_cl, fx.1, fy.1]
  unfold Oper.wp
  cases op <;> simp only [isCmp, reduceCtorEq, Bool.false_eq_true] at har <;>
    (simp only [cmpC] at hK; simp [execOp, hop, hx, hy, eqGuard_at_float, binOp, Op.floatCmp, e, Result.andThen, Sem.run]; exact hK' _ _ hK)

/-- A conversion between the two kinds, on classes. -/
def convC (s k : FloatKind) (c : Option Nat) : Option Nat := if s = k then c else c.bind fun b => floatToFloatBits s b k

/-- A conversion that asks the tape for no number: its operand is a NaN, or its result is there. -/
def Fits (s k : FloatKind) (c : Option Nat) : Prop := s = k ∨ ∀ b, c = some b → (s.decode b).isNaN = false → (floatToFloatBits s b k).isSome = true

theorem floatToFloat_notNaN {s k : FloatKind} {b r : Nat} (hsk : s ≠ k) (h : floatToFloatBits s b k = some r) : (k.decode r).isNaN = false := by
  unfold floatToFloatBits at h
  rw [if_neg hsk] at h
  split at h
  · cases h
  · cases h; exact write_notNaN _ _ rfl
  · split at h
    · cases h
    · cases h; exact write_notNaN _ _ rfl

theorem floatToFloat_lt {s k : FloatKind} {b r : Nat} (hsk : s ≠ k) (h : floatToFloatBits s b k = some r) : r < 2 ^ k.format.width := by
  unfold floatToFloatBits at h
  rw [if_neg hsk] at h
  split at h
  · cases h
  · cases h; exact k.format.write_lt _
  · split at h
    · cases h
    · cases h; exact k.format.write_lt _

theorem run_conv (w : World) (src dst : TypeId) (s k : FloatKind) (b : Nat) (c : Option Nat) (hs : (P.underlying src).isSome = true) (hd : P.underlying dst = some (.float k)) (hb : Fr s b c) (hf : Fits s k c) :
    ∃ r n, (convert src dst (.float s b)).run P w = .ok (.float k r) (w.drewN n) ∧ Fr k r (convC s k c) := by
  by_cases hsk : s = k
  · subst hsk
    refine ⟨b, 0, run_convert_float_float w src dst s s b b hs hd (by unfold floatToFloatBits; rw [if_pos rfl]), ?_⟩
    unfold convC; rw [if_pos rfl]; exact hb
  · rcases hf with hf | hf
    · exact absurd hf hsk
    unfold convC; rw [if_neg hsk]
    cases c with
    | some b' =>
      obtain rfl := cl_some hb.1
      obtain ⟨r, hr⟩ := Option.isSome_iff_exists.1 (hf _ rfl (cl_some_iff.1 hb.1))
      refine ⟨r, 0, run_convert_float_float w src dst s k _ r hs hd hr, ?_⟩
      show Fr k r (floatToFloatBits s _ k)
      rw [hr]
      exact ⟨cl_some_iff.2 (floatToFloat_notNaN hsk hr), floatToFloat_lt hsk hr⟩
    | none =>
      have hn := cl_none_iff.1 hb.1
      refine ⟨(Question.nanConv k b).cut (w.tape w.drawn (.nanConv k b)), 1, ?_, nanConv_fr k b _⟩
      obtain ⟨u, hs'⟩ := Option.isSome_iff_exists.1 hs
      cases hd' : s.decode b with
      | number => rw [hd'] at hn; cases hn
      | infinity => rw [hd'] at hn; cases hn
      | nan s1 t1 =>
        cases u <;> simp [convert, run_underlying hs', run_underlying hd, Conv.floatToFloat, hsk, hd', choose, Sem.run, Question.forced, World.drewN]

theorem wpList_conv (hg : Region.wanted o (yielded ops a.tmps) = true) {src dst : TypeId} {x : Operand} (hop : o.op = Op.convert src dst x) {s k : FloatKind} {b : Nat} (hx : a.eval x = .float s b) (hs : (P.underlying src).isSome = true) (hd : P.underlying dst = some (.float k))
    {c : Option Nat} (fx : Fr s b c) (hf : Fits s k c) (hK : ∀ r n, Fr k r (convC s k c) → wpList P ops Q rest (a.put o.dst (.float k r)) (w.drewN n)) : wpList P ops Q (o :: rest) a w := by
  refine wpList_step fun K hK' => ?_
  rw [if_pos hg]
  obtain ⟨r, n, hrun, hr⟩ := run_conv (P := P) w src dst s k b c hs hd fx hf
  unfold Oper.wp
  simp [execOp, hop, hx, hrun, Result.andThen]
  exact hK' _ _ (hK r n hr)
end
end Fl
end Go.Proofs.Ytjkkefbfhapblaa
