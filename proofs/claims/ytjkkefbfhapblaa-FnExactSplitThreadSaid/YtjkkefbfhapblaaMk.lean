/- The values that marks have. -/
import Derived.Test.YtjkkefbfhapblaaVal
import Derived.Test.YtjkkefbfhapblaaRet
import Derived.Test.YtjkkefbfhapblaaCplx
import Derived.Test.YtjkkefbfhapblaaSame
import Derived.LoopTactic
namespace Go.Proofs.Ytjkkefbfhapblaa
set_option linter.unusedSimpArgs false
set_option linter.unusedVariables false
open Go.RowKit
namespace Mks
open Fl

def mkC (K : Int) : Option Nat := convC .f64 .f32 (cl .f64 (floatOfInt .f64 K))
def oneC : Option Nat := convC .f64 .f32 (some 4607182418800017408)
def msC (K : Int) : Option Nat := cl .f32 (floatOfInt .f32 K)

theorem order_self {k : FloatKind} {r : Nat} (h : (k.decode r).isNaN = false) : k.format.order r r = some .eq := by
  unfold Ieee.Format.order
  change (k.format.read r).isNaN = false at h
  cases hd : k.format.read r with
  | nan s t => rw [hd] at h; cases h
  | infinity s => cases s <;> rfl
  | number s m p => show some (compare _ _) = _; rw [Std.compare_self]

theorem int_bd {n : Int} {e : Nat} (h : n.natAbs ≤ 2 ^ e) (he : e ≤ 52) : Bd e (cl .f64 (floatOfInt .f64 n)) := by
  have h1 : n.natAbs < 9007199254740992 := Nat.lt_of_le_of_lt h (Nat.lt_of_le_of_lt (Nat.pow_le_pow_right (by decide) he) (by decide))
  obtain ⟨a1, a2, a3⟩ := int_val n h1
  refine ⟨_, cl_some_iff.2 a3, cl_of_val a1 (by omega) ?_⟩
  rw [a2, Int.natAbs_mul, Int.natAbs_natCast]
  have e1 : ((e : Int) + 1074).toNat = e + 1074 := by omega
  rw [e1, Nat.pow_add]
  exact Nat.mul_le_mul_right _ h

theorem intFr (n : Int) : Fr .f64 (floatOfInt .f64 n) (cl .f64 (floatOfInt .f64 n)) := ⟨rfl, by unfold floatOfInt FloatKind.nearest; exact FloatKind.f64.format.write_lt _⟩

theorem mk_facts {K : Int} (h : K.natAbs ≤ 512) : Fits .f64 .f32 (cl .f64 (floatOfInt .f64 K)) ∧ ord .f32 (mkC K) (mkC K) = some .eq := by
  have hb := int_bd (n := K) (e := 9) h (by omega)
  have hf := hb.fits (by omega)
  refine ⟨hf, ?_⟩
  obtain ⟨b, e, k⟩ := hb
  rcases hf with hf | hf
  · cases hf
  · obtain ⟨r, hr⟩ := Option.isSome_iff_exists.1 (hf b e k.toDL.num.1)
    have hm : mkC K = some r := by
      unfold mkC convC
      rw [if_neg (by decide), e]
      exact hr
    rw [hm]
    exact order_self (floatToFloat_notNaN (by decide) hr)

theorem one_facts : Fits .f64 .f32 (some 4607182418800017408) ∧ ord .f32 oneC oneC = some .eq := ⟨.inr fun b hb _ => by cases hb; decide +kernel, by decide +kernel⟩

theorem ms_facts (K : Int) : ord .f32 (msC K) (msC K) = some .eq ∧ Fr .f32 (floatOfInt .f32 K) (msC K) := by
  have hn : (FloatKind.f32.decode (floatOfInt .f32 K)).isNaN = false := by
    show (FloatKind.f32.format.read (FloatKind.f32.format.write (.number _ _ _))).isNaN = false
    exact write_notNaN _ _ rfl
  have hc : msC K = some (floatOfInt .f32 K) := cl_some_iff.2 hn
  refine ⟨by rw [hc]; exact order_self hn, ⟨rfl, ?_⟩⟩
  unfold floatOfInt FloatKind.nearest
  exact FloatKind.f32.format.write_lt _

section
variable {P : Program} {w : World} {ops : Array Oper} {rest : List Oper} {o : Oper} {a : Act} {Q : Exit → Act → World → Prop}
theorem run_cneq (w : World) (t : TypeId) {k : FloatKind} {x y x' y' : Nat} {c d : Option Nat} (fx : Fr k x c) (fy : Fr k y d) (fx' : Fr k x' c) (fy' : Fr k y' d) (hc : ord k c c = some .eq) (hd : ord k d d = some .eq) :
    (binOp .neq t (.complex k x y) (.complex k x' y')).run P w = .ok (.bool false) w := by
  have e1 : k.format.order x x' = some .eq := by rw [order_cl, fx.1, fx'.1]; exact hc
  have e2 : k.format.order y y' = some .eq := by rw [order_cl, fy.1, fy'.1]; exact hd
  simp [binOp, Op.complexOp, Op.Complex.cmp, Op.floatCmp, asBool, e1, e2]

theorem wpList_cneq (hg : Region.wanted o (yielded ops a.tmps) = true) {t yt : TypeId} {x y : Operand} (hop : o.op = Op.binOp .neq t x y yt) {k : FloatKind} {p q p' q' : Nat} (hx : a.eval x = .complex k p q) (hy : a.eval y = .complex k p' q')
    {c d : Option Nat} (fp : Fr k p c) (fq : Fr k q d) (fp' : Fr k p' c) (fq' : Fr k q' d) (hc : ord k c c = some .eq) (hd : ord k d d = some .eq) (hK : wpList P ops Q rest (a.put o.dst (.bool false)) w) : wpList P ops Q (o :: rest) a w := by
  refine wpList_step fun K hK' => ?_
  rw [if_pos hg]
  have hrun := run_cneq (P := P) w t fp fq fp' fq' hc hd
  unfold Oper.wp
  simp [execOp, hop, hx, hy, eqGuard_at_complex, hrun, Result.andThen]
  exact hK' _ _ hK
end
end Mks
end Go.Proofs.Ytjkkefbfhapblaa
