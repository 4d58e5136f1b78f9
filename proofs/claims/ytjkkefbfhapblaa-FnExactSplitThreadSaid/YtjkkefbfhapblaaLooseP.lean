/- Regions that draw their order and hold calls that make memory: of such a call's slot it is said what holds of its value in the world as it stands. -/
import Derived.Test.YtjkkefbfhapblaaRet
namespace Go.Proofs.Ytjkkefbfhapblaa
set_option linter.unusedSimpArgs false
set_option linter.unusedVariables false
open Go.RowKit
namespace LooseP
open Fl Loose

def Stable (φ : Value → World → Prop) : Prop := ∀ v w w', φ v w → Below w.heap.size w w' → φ v w'

/-- Below B nothing has turned; and of each slot in ds, once it holds a value, this holds. -/
def Cls (B : Nat) (w0 : World) (ds : List (Nat × (Value → World → Prop))) (a : Act) (w : World) : Prop :=
  Below B w0 w ∧ ∀ p ∈ ds, ∀ v, a.tmps[p.1]? = some v → v ≠ undef → p.2 v w

def off (o : Option Tmp) (ds : List (Nat × (Value → World → Prop))) : Bool := ds.all fun p => o != some p.1

theorem eval_tmp {a : Act} {d : Nat} {v : Value} (h : a.eval (.tmp d) = v) (hv : v ≠ undef) : a.tmps[d]? = some v := by
  simp only [Act.eval, Array.getD_eq_getD_getElem?] at h
  cases h1 : a.tmps[d]? with
  | none => rw [h1] at h; exact absurd h.symm hv
  | some x => rw [h1] at h; exact congrArg some h

/-- What a class tells of a slot that holds this value. -/
theorem Cls.at {B : Nat} {w0 w : World} {ds : List (Nat × (Value → World → Prop))} {a : Act} (h : Cls B w0 ds a w) {d : Nat} {φ : Value → World → Prop} (hp : (d, φ) ∈ ds) {v : Value} (hv : a.eval (.tmp d) = v) (hu : v ≠ undef) : φ v w :=
  h.2 (d, φ) hp v (eval_tmp hv hu) hu

theorem Cls.put {B : Nat} {w0 w : World} {ds : List (Nat × (Value → World → Prop))} {a : Act} {t : Option Tmp} (hd : off t ds = true) (v : Value) (h : Cls B w0 ds a w) : Cls B w0 ds (a.put t v) w := by
  refine ⟨h.1, fun p hp u hu hn => h.2 p hp u ?_ hn⟩
  have := List.all_eq_true.1 hd p hp
  rwa [put_other (by simpa using this)] at hu

theorem Cls.later {B : Nat} {w0 w w' : World} {ds : List (Nat × (Value → World → Prop))} {a : Act} (hst : ∀ p ∈ ds, Stable p.2) (hB : B ≤ w0.heap.size) (h : Cls B w0 ds a w) (h2 : Below w.heap.size w w') : Cls B w0 ds a w' :=
  ⟨below_call hB h.1 h2, fun p hp u hu hn => hst p hp u w w' (h.2 p hp u hu hn) h2⟩

theorem Cls.set {B : Nat} {w0 w : World} {ds : List (Nat × (Value → World → Prop))} {a : Act} {d : Nat} {φ : Value → World → Prop} (huni : ∀ p ∈ ds, p.1 = d → p.2 = φ) (v : Value) (h : Cls B w0 ds a w) (hv : φ v w) : Cls B w0 ds (a.put (some d) v) w := by
  refine ⟨h.1, fun p hp u hu hn => ?_⟩
  by_cases e : p.1 = d
  · rw [huni p hp e]
    simp only [Act.put, e] at hu
    have hin : d < a.tmps.size := by
      have := (Array.getElem?_eq_some_iff.1 hu).1; simpa using this
    rw [Array.getElem?_setIfInBounds_self_of_lt hin] at hu
    cases hu
    exact hv
  · exact h.2 p hp u (by rwa [put_other (by intro h'; exact e (Option.some.inj h').symm)] at hu) hn

section
variable {P : Program} {ops : Array Oper} {K : Act → Prop} {a : Act} {o : Oper} {B : Nat} {w0 : World} {ds : List (Nat × (Value → World → Prop))}

theorem wp_region {id : Nat} {Q : Exit → Act → World → Prop} {a : Act} {w : World} {l : List Oper} (n : Nat) (ds : List (Nat × (Value → World → Prop))) (hm : P.follows .mixedOrders = true) (hB : Region.lexTailB .any l.toArray n = true)
    (h0 : ∀ p ∈ ds, ∀ v, a.tmps[p.1]? = some v → v = undef)
    (h : ∃ Vs, walk P l.toArray (Cls w.heap.size w ds) (fun a' => ∀ w', Cls w.heap.size w ds a' w' → wpList P l.toArray Q (l.drop n) a' w') (l.take n) Vs a) : (Code.region id l.toArray true).wp P Q a w := by
  obtain ⟨Vs, h⟩ := h
  exact wp_region_loose n hm hB (Cls w.heap.size w ds) ⟨(Below.refl _ _).drew, fun p hp v hv hn => absurd (h0 p hp v hv) hn⟩ Vs h

theorem turn_value {v : Value} (hwant : Region.wanted o (yielded ops a.tmps) = true) (hd : off o.dst ds = true) (hrun : ∀ w', Below B w0 w' → (execOp a.eval o).run P w' = .ok (.value v) w') (hk : K (a.put o.dst v)) : turn P ops (Cls B w0 ds) (fun u => u = v) o K a := by
  refine turn_set hwant ⟨v, rfl⟩ (fun a' w _ hw => ?_) (fun u hu => by rw [hu]; exact hk)
  rw [hrun w hw.1]; exact ⟨rfl, hw.put hd _⟩

theorem turn_skip (hwant : Region.wanted o (yielded ops a.tmps) = false) (hd : off o.dst ds = true) (hk : K (a.put o.dst undef)) : turn P ops (Cls B w0 ds) (fun u => u = undef) o K a := by
  refine ⟨⟨fun h => (by rw [hwant] at h; cases h), fun _ a' w h => h.put hd _⟩, fun u hu => ?_⟩
  unfold eff at hu; rw [hwant] at hu; simp at hu; rw [hu]; exact hk

theorem turn_fl (hst : ∀ p ∈ ds, Stable p.2) (hB : B ≤ w0.heap.size) (hwant : Region.wanted o (yielded ops a.tmps) = true) (hd : off o.dst ds = true) {op : BinOp} {t yt : TypeId} {x y : Operand} (hop : o.op = Op.binOp op t x y yt) (har : arith op = true)
    {k : FloatKind} {bx' bz : Nat} (hx : a.eval x = .float k bx') (hy : a.eval y = .float k bz) {cx cy : Option Nat} (fx : Fr k bx' cx) (fy : Fr k bz cy)
    (hk : ∀ r, Fr k r (op2 op k cx cy) → K (a.put o.dst (.float k r))) : turn P ops (Cls B w0 ds) (fun u => ∃ r, u = .float k r ∧ Fr k r (op2 op k cx cy)) o K a := by
  refine turn_set hwant ?_ (fun a' w _ hw => ?_) (fun v hv => ?_)
  · obtain ⟨r, n, _, hr⟩ := run_op (P := P) default op (arith_or har) t k bx' bz
    rw [fx.1, fy.1] at hr
    exact ⟨_, r, rfl, hr⟩
  · obtain ⟨r, n, hrun, hr⟩ := run_op (P := P) w op (arith_or har) t k bx' bz
    rw [fx.1, fy.1] at hr
    simp [execOp, hop, hx, hy, eqGuard_at_float, hrun, Result.andThen, Upon]
    exact ⟨hr, (hw.later hst hB (below_drewN (Below.refl _ _) n)).put hd _⟩
  · obtain ⟨r, rfl, hr⟩ := hv; exact hk r hr

theorem turn_conv (hst : ∀ p ∈ ds, Stable p.2) (hB : B ≤ w0.heap.size) (hwant : Region.wanted o (yielded ops a.tmps) = true) (hd : off o.dst ds = true) {src dst : TypeId} {x : Operand} (hop : o.op = Op.convert src dst x) {s k : FloatKind} {b : Nat} (hx : a.eval x = .float s b) (hs : (P.underlying src).isSome = true) (hdt : P.underlying dst = some (.float k))
    {c : Option Nat} (fx : Fr s b c) (hf : Fits s k c) (hk : ∀ r, Fr k r (convC s k c) → K (a.put o.dst (.float k r))) : turn P ops (Cls B w0 ds) (fun u => ∃ r, u = .float k r ∧ Fr k r (convC s k c)) o K a := by
  refine turn_set hwant ?_ (fun a' w _ hw => ?_) (fun v hv => ?_)
  · obtain ⟨r, n, hrun, hr⟩ := run_conv (P := P) default src dst s k b c hs hdt fx hf
    exact ⟨_, r, rfl, hr⟩
  · obtain ⟨r, n, hrun, hr⟩ := run_conv (P := P) w src dst s k b c hs hdt fx hf
    simp [execOp, hop, hx, hrun, Result.andThen, Upon]
    exact ⟨hr, (hw.later hst hB (below_drewN (Below.refl _ _) n)).put hd _⟩
  · obtain ⟨r, rfl, hr⟩ := hv; exact hk r hr

theorem args_eq {f : FuncId} {args : Act → Array Value} (hrun : ∀ (a' : Act) (w' : World), (execOp a'.eval o).run P w' = .ok (.enter f (args a')) w') {a' : Act} (h : execOp a'.eval o = execOp a.eval o) : args a' = args a := by
  have h1 := hrun a' default
  rw [h, hrun a default] at h1
  simp only [Result.ok.injEq, Next.enter.injEq] at h1
  exact h1.1.2.symm

/-- A call of whose outcome nothing is said but that it lies in V. -/
theorem turn_call {V : Value → Prop} (hst : ∀ p ∈ ds, Stable p.2) (hB : B ≤ w0.heap.size) {f : FuncId} {args : Act → Array Value} (hwant : Region.wanted o (yielded ops a.tmps) = true) (hd : off o.dst ds = true)
    (hrun : ∀ (a' : Act) (w' : World), (execOp a'.eval o).run P w' = .ok (.enter f (args a')) w') (hV : ∃ v, V v)
    (hcall : ∀ (a' : Act) (w' : World), args a' = args a → Cls B w0 ds a' w' → Calls P f (args a) w' (fun e w'' => ∃ v, e = .returned v ∧ V v ∧ Below w'.heap.size w' w'')) (hk : ∀ v, V v → K (a.put o.dst v)) :
    turn P ops (Cls B w0 ds) V o K a := by
  refine turn_set hwant hV (fun a' w he hw => ?_) hk
  rw [hrun a w]
  exact (hcall a' w (args_eq hrun he) hw).mono fun e w'' ⟨v, he', hv, hb⟩ => ⟨v, he', hv, (hw.later hst hB hb).put hd _⟩

/-- A call whose slot is one of those of which something is said. -/
theorem turn_callP {V : Value → Prop} {φ : Value → World → Prop} {d : Nat} (hst : ∀ p ∈ ds, Stable p.2) (hB : B ≤ w0.heap.size) {f : FuncId} {args : Act → Array Value} (hwant : Region.wanted o (yielded ops a.tmps) = true) (hdst : o.dst = some d) (huni : ∀ p ∈ ds, p.1 = d → p.2 = φ)
    (hrun : ∀ (a' : Act) (w' : World), (execOp a'.eval o).run P w' = .ok (.enter f (args a')) w') (hV : ∃ v, V v)
    (hcall : ∀ (a' : Act) (w' : World), args a' = args a → Cls B w0 ds a' w' → Calls P f (args a) w' (fun e w'' => ∃ v, e = .returned v ∧ V v ∧ φ v w'' ∧ Below w'.heap.size w' w'')) (hk : ∀ v, V v → K (a.put (some d) v)) :
    turn P ops (Cls B w0 ds) V o K a := by
  refine turn_set hwant hV (fun a' w he hw => ?_) (fun v hv => by rw [hdst]; exact hk v hv)
  rw [hrun a w]
  refine (hcall a' w (args_eq hrun he) hw).mono fun e w'' ⟨v, he', hv, hφ, hb⟩ => ⟨v, he', hv, ?_⟩
  rw [hdst]
  exact (hw.later hst hB hb).set huni v hφ
end
end LooseP
end Go.Proofs.Ytjkkefbfhapblaa
