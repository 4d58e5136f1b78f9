/- Complex numbers in a walk: conversions between the two kinds, on classes of parts. -/
import Derived.Test.YtjkkefbfhapblaaFlWalk
import Derived.Test.YtjkkefbfhapblaaRet
import Derived.Laws.ComplexArith
namespace Go.Proofs.Ytjkkefbfhapblaa
set_option linter.unusedSimpArgs false
set_option linter.unusedVariables false
open Go.RowKit
namespace Fl

/-- A complex number whose parts are of these classes. -/
def RetC (k : FloatKind) (c0 c1 : Option Nat) (w : World) (e : Ending) (w' : World) : Prop := ∃ x y, e = .returned (.complex k x y) ∧ Fr k x c0 ∧ Fr k y c1 ∧ Below w.heap.size w w'

section
variable {P : Program} {w : World} {ops : Array Oper} {rest : List Oper} {o : Oper} {a : Act} {Q : Exit → Act → World → Prop}

theorem run_ff (w : World) {s k : FloatKind} {b : Nat} {c : Option Nat} (hb : Fr s b c) (hf : Fits s k c) : ∃ r n, (Conv.floatToFloat s b k).run P w = .ok (.float k r) (w.drewN n) ∧ Fr k r (convC s k c) := by
  by_cases hsk : s = k
  · subst hsk
    refine ⟨b, 0, run_floatToFloat w (by unfold floatToFloatBits; rw [if_pos rfl]), ?_⟩
    unfold convC; rw [if_pos rfl]; exact hb
  · rcases hf with hf | hf
    · exact absurd hf hsk
    unfold convC; rw [if_neg hsk]
    cases c with
    | some b' =>
      obtain rfl := cl_some hb.1
      obtain ⟨r, hr⟩ := Option.isSome_iff_exists.1 (hf _ rfl (cl_some_iff.1 hb.1))
      refine ⟨r, 0, run_floatToFloat w hr, ?_⟩
      show Fr k r (floatToFloatBits s _ k)
      rw [hr]
      exact ⟨cl_some_iff.2 (floatToFloat_notNaN hsk hr), floatToFloat_lt hsk hr⟩
    | none =>
      have hn := cl_none_iff.1 hb.1
      refine ⟨(Question.nanConv k b).cut (w.tape w.drawn (.nanConv k b)), 1, ?_, nanConv_fr k b _⟩
      cases hd' : s.decode b with
      | number => rw [hd'] at hn; cases hn
      | infinity => rw [hd'] at hn; cases hn
      | nan s1 t1 => simp [Conv.floatToFloat, hsk, hd', choose, Sem.run, Question.forced, World.drewN]

theorem run_cconv (w : World) (src dst : TypeId) (s k : FloatKind) (b d : Nat) (cb cd : Option Nat) (hs : (P.underlying src).isSome = true) (hd : P.underlying dst = some (.complex k)) (fb : Fr s b cb) (fd : Fr s d cd) (hfb : Fits s k cb) (hfd : Fits s k cd) :
    ∃ r q n, (convert src dst (.complex s b d)).run P w = .ok (.complex k r q) (w.drewN n) ∧ Fr k r (convC s k cb) ∧ Fr k q (convC s k cd) := by
  obtain ⟨r, n, h1, f1⟩ := run_ff (P := P) w fb hfb
  obtain ⟨q, m, h2, f2⟩ := run_ff (P := P) (w.drewN n) fd hfd
  refine ⟨r, q, n + m, ?_, f1, f2⟩
  obtain ⟨u, hs'⟩ := Option.isSome_iff_exists.1 hs
  cases u <;> simp [convert, run_underlying hs', run_underlying hd, Conv.complexToComplex, h1, h2]

theorem wpList_cconv (hg : Region.wanted o (yielded ops a.tmps) = true) {src dst : TypeId} {x : Operand} (hop : o.op = Op.convert src dst x) {s k : FloatKind} {b d : Nat} (hx : a.eval x = .complex s b d) (hs : (P.underlying src).isSome = true) (hd : P.underlying dst = some (.complex k))
    {cb cd : Option Nat} (fb : Fr s b cb) (fd : Fr s d cd) (hfb : Fits s k cb) (hfd : Fits s k cd) (hK : ∀ r q n, Fr k r (convC s k cb) → Fr k q (convC s k cd) → wpList P ops Q rest (a.put o.dst (.complex k r q)) (w.drewN n)) : wpList P ops Q (o :: rest) a w := by
  refine wpList_step fun K hK' => ?_
  rw [if_pos hg]
  obtain ⟨r, q, n, hrun, f1, f2⟩ := run_cconv (P := P) w src dst s k b d cb cd hs hd fb fd hfb hfd
  unfold Oper.wp
  simp [execOp, hop, hx, hrun, Result.andThen]
  exact hK' _ _ (hK r q n f1 f2)
end
end Fl
end Go.Proofs.Ytjkkefbfhapblaa
