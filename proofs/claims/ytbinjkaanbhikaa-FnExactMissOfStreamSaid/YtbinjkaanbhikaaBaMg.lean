/- How far a stream is from one that belongs to a basin: what is answered. -/
import Derived.Test.YtbinjkaanbhikaaBaMf
import Derived.Test.YtbinjkaanbhikaaBaAi
namespace Go.Proofs.Ytbinjkaanbhikaa
set_option linter.unusedSimpArgs false
set_option linter.unusedVariables false
open Go.RowKit
set_option maxRecDepth 20000
namespace Ba
open Fl Rate

/-- An operation that gives one value, of which only a set is named. -/
theorem turn_in {P : Program} {ops : Array Oper} {K : Act → Prop} {a : Act} {o : Oper} {B : Nat} {w0 : World} {ds : List (Nat × (Value → World → Prop))} {V : Value → Prop} {u : Value} (hwant : Region.wanted o (yielded ops a.tmps) = true) (hd : LooseP.off o.dst ds = true)
    (hrun : ∀ w', Below B w0 w' → (execOp a.eval o).run P w' = .ok (.value u) w') (hu : V u) (hk : ∀ v, V v → K (a.put o.dst v)) : Loose.turn P ops (LooseP.Cls B w0 ds) V o K a := by
  refine Loose.turn_set hwant ⟨u, hu⟩ (fun a' w _ hw => ?_) hk
  rw [hrun w hw.1]; exact ⟨hu, hw.put hd _⟩

/-- The numbers of a basin without its mean. -/
def evC (n : Nat) (c : Nat → Option Nat) : Nat → Option Nat := fun k => op2 .sub .f32 (c k) (op2 .quo .f32 (Nums.accC c n) (Mks.msC (n : Int)))

def misC (W' H' : Int) (n : Nat) (c d : Nat → Option Nat) : Nat → Option Nat := fun k => op2 .add .f32 (lapC W' H' d k) (evC n c k)

/-- Whether there is an answer. -/
def misB (W H W' H' : Int) (n n' : Nat) (c d : Nat → Option Nat) (A A2 : Bool) : Bool :=
  ((((A2 && allF (lapC W' H' d) n') && (A && (finC (Nums.accC c n) && allF (evC n c) n))) && decide (W' = W)) && decide (H' = H)) && allF (misC W' H' n c d) n'

def misR (W H W' H' : Int) (n n' : Nat) (c d : Nat → Option Nat) (A A2 : Bool) : Option Nat := if misB W H W' H' n n' c d A A2 = true then msF (misC W' H' n c d) n' else none

theorem op2_lt {op : BinOp} {x y : Option Nat} {r : Nat} (h : op2 op .f32 x y = some r) (ha : arith op = true) : r < 4294967296 := by
  unfold op2 at h
  cases x with
  | none => cases h
  | some a =>
    cases y with
    | none => cases h
    | some b =>
      have h' : floatBits op .f32 a b = some r := h
      unfold floatBits at h'
      rcases arith_or ha with rfl | rfl | rfl | rfl
      all_goals
        obtain ⟨d, _, e⟩ := Option.map_eq_some_iff.1 h'
        rw [← e]
        exact FloatKind.f32.format.write_lt _

theorem mis_lt {W' H' : Int} {n : Nat} {c d : Nat → Option Nat} : ∀ i y, misC W' H' n c d i = some y → y < 4294967296 := fun i y h => op2_lt h rfl

theorem mis_word {W H W' H' : Int} {n n' : Nat} {c d : Nat → Option Nat} {A A2 : Bool} (h : misB W H W' H' n n' c d A A2 = true) : ∀ k, k ≤ n' → ∃ m, msF (misC W' H' n c d) k = some m ∧ Good m := by
  unfold misB at h
  rw [Bool.and_eq_true] at h
  exact ms_good h.2 mis_lt

theorem good_fr {m : Nat} (h : Good m) : Fr .f32 m (some m) := by
  obtain ⟨h1, a, p, hd⟩ := h
  exact ⟨cl_some_iff.2 (by rw [hd]; rfl), h1⟩

theorem mis_fin (W H W' H' : Int) (n n' : Nat) (c d : Nat → Option Nat) (A A2 : Bool) : finC (misR W H W' H' n n' c d A A2) = misB W H W' H' n n' c d A A2 := by
  unfold misR
  cases hT : misB W H W' H' n n' c d A A2
  · rfl
  · rw [if_pos rfl]
    obtain ⟨m, h1, _, a, p, hd⟩ := mis_word hT n' (Nat.le_refl _)
    rw [h1]
    exact finC_num hd

theorem mis_has (W H W' H' : Int) (n n' : Nat) (c d : Nat → Option Nat) (A A2 : Bool) : ∃ r, Fr .f32 r (if finC (misR W H W' H' n n' c d A A2) = true then misR W H W' H' n n' c d A A2 else some 0) := by
  rw [mis_fin]
  cases hT : misB W H W' H' n n' c d A A2
  · exact ⟨0, zero32⟩
  · rw [if_pos rfl]
    unfold misR
    rw [hT, if_pos rfl]
    obtain ⟨m, h1, h2⟩ := mis_word hT n' (Nat.le_refl _)
    rw [h1]
    exact ⟨m, good_fr h2⟩

theorem okB_ret {W H : Int} {n : Nat} {c f : Nat → Option Nat} {A : Bool} (hA : okB W H n c = A) (R : Bool) (hR : R = true → A = true ∧ allF f n = true) : okB (if R then W else 0) (if R then H else 0) (if R then n else 0) f = R := by
  cases R
  · rfl
  · obtain ⟨rfl, h2⟩ := hR rfl
    obtain ⟨k1, k2, k3, _⟩ := okB_of hA
    show okB W H n f = true
    unfold okB
    rw [k1, k2, h2, decide_eq_true k3]; rfl

end Ba
end Go.Proofs.Ytbinjkaanbhikaa
