/- What a call returns: a number of a class, a vector of three numbers of classes; and the steps of a loose region that need it. -/
import Derived.Test.YtjkkefbfhapblaaFlWalk
import Derived.Test.YtjkkefbfhapblaaLoose
import Derived.Test.YtjkkefbfhapblaaConv
namespace Go.Proofs.Ytjkkefbfhapblaa
set_option linter.unusedSimpArgs false
set_option linter.unusedVariables false
open Go.RowKit
namespace Fl

/-- A number of this class. -/
def RetF (k : FloatKind) (c : Option Nat) (w : World) (e : Ending) (w' : World) : Prop := ∃ x, e = .returned (.float k x) ∧ Fr k x c ∧ Below w.heap.size w w'

/-- A vector whose numbers are of these classes. -/
def RetV (c0 c1 c2 : Option Nat) (w : World) (e : Ending) (w' : World) : Prop :=
  ∃ x y z, e = .returned (.agg #[.float .f32 x, .float .f32 y, .float .f32 z]) ∧ Fr .f32 x c0 ∧ Fr .f32 y c1 ∧ Fr .f32 z c2 ∧ Below w.heap.size w w'

/-- A value that is told. -/
def RetD (v : Value) (w : World) (e : Ending) (w' : World) : Prop := e = .returned v ∧ Below w.heap.size w w'

theorem bcell {B : Nat} {W w1 : World} (hb : Below B W w1) : (∀ b o, b < B → w1.cell? ⟨b, o, none⟩ = W.cell? ⟨b, o, none⟩) ∧ (∀ b o, b < B → w1.frozen? ⟨b, o, none⟩ = W.frozen? ⟨b, o, none⟩) :=
  ⟨fun b o h => hb.cell (p := ⟨b, o, none⟩) h, fun b o h => hb.frozen (p := ⟨b, o, none⟩) h⟩

/-- Behind a call: below B nothing has turned. -/
theorem below_call {B : Nat} {w0 w' w'' : World} (hB : B ≤ w0.heap.size) (h : Below B w0 w') (h2 : Below w'.heap.size w' w'') : Below B w0 w'' :=
  h.trans (h2.mono (Nat.le_trans hB h.size))

end Fl

namespace Loose
open Fl

/-- The class of worlds of a walk's region: below B nothing has turned; and each slot s of bx, once it holds a pointer, leads to a block of the region's own, which is as it was made. -/
def Cls (B : Nat) (w0 : World) (bx : List (Nat × Obj)) (a : Act) (w : World) : Prop :=
  Below B w0 w ∧ ∀ p ∈ bx, ∀ b, a.tmps[p.1]? = some (.pointer (some ⟨b, 0, none⟩)) → B ≤ b ∧ w.heap[b]? = some p.2

/-- The slot is none of these. -/
def away (d : Option Tmp) (bx : List (Nat × Obj)) : Bool := bx.all fun p => d != some p.1

theorem put_other {a : Act} {d : Option Tmp} {v : Value} {s : Nat} (h : d ≠ some s) : (a.put d v).tmps[s]? = a.tmps[s]? := by
  cases d with
  | none => rfl
  | some d => simp only [Act.put]; rw [Array.getElem?_setIfInBounds_ne (by intro e; exact h (by rw [e]))]

theorem Cls.put {B : Nat} {w0 w : World} {bx : List (Nat × Obj)} {a : Act} {d : Option Tmp} (hd : away d bx = true) (v : Value) (h : Cls B w0 bx a w) : Cls B w0 bx (a.put d v) w := by
  refine ⟨h.1, fun p hp b hb => h.2 p hp b ?_⟩
  have := List.all_eq_true.1 hd p hp
  rwa [put_other (by simpa using this)] at hb

/-- Nothing that lies in the world turns: a draw, a call. -/
theorem Cls.later {B : Nat} {w0 w w' : World} {bx : List (Nat × Obj)} {a : Act} (hB : B ≤ w0.heap.size) (h : Cls B w0 bx a w) (h2 : Below w.heap.size w w') : Cls B w0 bx a w' := by
  refine ⟨below_call hB h.1 h2, fun p hp b hb => ?_⟩
  obtain ⟨h3, h4⟩ := h.2 p hp b hb
  refine ⟨h3, ?_⟩
  rw [h2.block b (Array.getElem?_eq_some_iff.1 h4).1]; exact h4

section
variable {P : Program} {ops : Array Oper} {K : Act → Prop} {a : Act} {o : Oper} {rest : List Oper} {Q : Act → Prop} {V : Value → Prop} {Vs : List (Value → Prop)} {B : Nat} {w0 : World} {bx : List (Nat × Obj)} {C : Act → World → Prop}

theorem wp_region_below {id : Nat} {Q : Exit → Act → World → Prop} {a : Act} {w : World} {l : List Oper} (n : Nat) (bx : List (Nat × Obj)) (hm : P.follows .mixedOrders = true) (hB : Region.lexTailB .any l.toArray n = true)
    (h0 : ∀ p ∈ bx, ∀ b, a.tmps[p.1]? ≠ some (.pointer (some ⟨b, 0, none⟩)))
    (h : ∃ Vs, walk P l.toArray (Cls w.heap.size w bx) (fun a' => ∀ w', Cls w.heap.size w bx a' w' → wpList P l.toArray Q (l.drop n) a' w') (l.take n) Vs a) : (Code.region id l.toArray true).wp P Q a w := by
  obtain ⟨Vs, h⟩ := h
  exact wp_region_loose n hm hB (Cls w.heap.size w bx) ⟨(Below.refl _ _).drew, fun p hp b hb => absurd hb (h0 p hp b)⟩ Vs h

theorem walk_nil (h : Q a) : walk P ops C Q [] [] a := h

theorem walk_step (h : ∀ K : Act → Prop, (∀ a, walk P ops C Q rest Vs a → K a) → turn P ops C V o K a) : walk P ops C Q (o :: rest) (V :: Vs) a := h _ (fun _ h => h)

theorem turn_set {V : Value → Prop} (hwant : Region.wanted o (yielded ops a.tmps) = true) (hV : ∃ v, V v) (hat : At P C o a V) (hk : ∀ v, V v → K (a.put o.dst v)) : turn P ops C V o K a := by
  refine ⟨⟨fun _ => ⟨hV, hat⟩, fun h => (by rw [hwant] at h; cases h)⟩, fun u hu => ?_⟩
  unfold eff at hu; rw [hwant] at hu; simp at hu; exact hk u hu

theorem turn_skip (hwant : Region.wanted o (yielded ops a.tmps) = false) (hd : away o.dst bx = true) (hk : K (a.put o.dst undef)) : turn P ops (Cls B w0 bx) (fun u => u = undef) o K a := by
  refine ⟨⟨fun h => (by rw [hwant] at h; cases h), fun _ a' w h => h.put hd _⟩, fun u hu => ?_⟩
  unfold eff at hu; rw [hwant] at hu; simp at hu; rw [hu]; exact hk

theorem turn_value {v : Value} (hwant : Region.wanted o (yielded ops a.tmps) = true) (hd : away o.dst bx = true) (hrun : ∀ w', Below B w0 w' → (execOp a.eval o).run P w' = .ok (.value v) w') (hk : K (a.put o.dst v)) : turn P ops (Cls B w0 bx) (fun u => u = v) o K a := by
  refine turn_set hwant ⟨v, rfl⟩ (fun a' w _ hw => ?_) (fun u hu => by rw [hu]; exact hk)
  rw [hrun w hw.1]; exact ⟨rfl, hw.put hd _⟩

theorem turn_alloc {d : Nat} {ob : Obj} (hB : B ≤ w0.heap.size) (hwant : Region.wanted o (yielded ops a.tmps) = true) (hdst : o.dst = some d)
    (hrun : ∀ w', (execOp a.eval o).run P w' = .ok (.value (.pointer (some ⟨w'.heap.size, 0, none⟩))) (w'.alloc ob)) (hk : ∀ b, B ≤ b → K (a.put o.dst (.pointer (some ⟨b, 0, none⟩)))) :
    turn P ops (Cls B w0 [(d, ob)]) (fun u => ∃ b, B ≤ b ∧ u = .pointer (some ⟨b, 0, none⟩)) o K a := by
  refine turn_set hwant ⟨_, B, Nat.le_refl _, rfl⟩ (fun a' w _ hw => ?_) (fun u hu => by obtain ⟨b, hb, rfl⟩ := hu; exact hk b hb)
  rw [hrun w]
  have hle : B ≤ w.heap.size := Nat.le_trans hB hw.1.size
  refine ⟨⟨_, hle, rfl⟩, hw.1.alloc hle _, fun p hp b hb => ?_⟩
  have hpe : p = (d, ob) := by simpa using hp
  have hbx : ∀ q ∈ [(d, ob)], q.1 = d → q.2 = ob := by simp
  by_cases hpd : p.1 = d
  · rw [hdst, hpd] at hb
    simp only [Act.put] at hb
    have hin : d < a'.tmps.size := by
      have := (Array.getElem?_eq_some_iff.1 hb).1; simpa using this
    rw [Array.getElem?_setIfInBounds_self_of_lt hin] at hb
    have hbe : b = w.heap.size := by
      simp only [Option.some.injEq, Value.pointer.injEq, Addr.mk.injEq] at hb; exact hb.1.symm
    refine ⟨by omega, ?_⟩
    rw [hbe, hbx p hp hpd]
    show (w.heap.push ob)[w.heap.size]? = some ob
    simp
  · rw [put_other (by rw [hdst]; intro e; exact hpd (by simpa using e.symm))] at hb
    obtain ⟨h3, h4⟩ := hw.2 p hp b hb
    refine ⟨h3, ?_⟩
    rw [Below.heap_alloc _ _ _ (Array.getElem?_eq_some_iff.1 h4).1]; exact h4

theorem turn_fl (hB : B ≤ w0.heap.size) (hwant : Region.wanted o (yielded ops a.tmps) = true) (hd : away o.dst bx = true) {op : BinOp} {t yt : TypeId} {x y : Operand} (hop : o.op = Op.binOp op t x y yt) (har : arith op = true)
    {k : FloatKind} {bx' bz : Nat} (hx : a.eval x = .float k bx') (hy : a.eval y = .float k bz) {cx cy : Option Nat} (fx : Fr k bx' cx) (fy : Fr k bz cy)
    (hk : ∀ r, Fr k r (op2 op k cx cy) → K (a.put o.dst (.float k r))) : turn P ops (Cls B w0 bx) (fun u => ∃ r, u = .float k r ∧ Fr k r (op2 op k cx cy)) o K a := by
  refine turn_set hwant ?_ (fun a' w _ hw => ?_) (fun v hv => ?_)
  · obtain ⟨r, n, _, hr⟩ := run_op (P := P) default op (arith_or har) t k bx' bz
    rw [fx.1, fy.1] at hr
    exact ⟨_, r, rfl, hr⟩
  · obtain ⟨r, n, hrun, hr⟩ := run_op (P := P) w op (arith_or har) t k bx' bz
    rw [fx.1, fy.1] at hr
    simp [execOp, hop, hx, hy, eqGuard_at_float, hrun, Result.andThen, Upon]
    exact ⟨hr, (hw.later hB (below_drewN (Below.refl _ _) n)).put hd _⟩
  · obtain ⟨r, rfl, hr⟩ := hv; exact hk r hr

theorem turn_cmp (hwant : Region.wanted o (yielded ops a.tmps) = true) (hd : away o.dst bx = true) {op : BinOp} {t yt : TypeId} {x y : Operand} (hop : o.op = Op.binOp op t x y yt) (har : isCmp op = true)
    {k : FloatKind} {bx' bz : Nat} (hx : a.eval x = .float k bx') (hy : a.eval y = .float k bz) {cx cy : Option Nat} (fx : Fr k bx' cx) (fy : Fr k bz cy)
    (hk : K (a.put o.dst (.bool (cmpC op (ord k cx cy))))) : turn P ops (Cls B w0 bx) (fun u => u = .bool (cmpC op (ord k cx cy))) o K a := by
  refine turn_value hwant hd (fun w' _ => ?_) hk
  have e : k.format.order bx' bz = ord k cx cy := by rw [order_cl, fx.1, fy.1]
  cases op <;> simp only [isCmp, reduceCtorEq, Bool.false_eq_true] at har <;>
    (simp [execOp, hop, hx, hy, eqGuard_at_float, binOp, Op.floatCmp, e, Result.andThen, Sem.run, cmpC])

theorem turn_conv (hB : B ≤ w0.heap.size) (hwant : Region.wanted o (yielded ops a.tmps) = true) (hd : away o.dst bx = true) {src dst : TypeId} {x : Operand} (hop : o.op = Op.convert src dst x) {s k : FloatKind} {b : Nat} (hx : a.eval x = .float s b) (hs : (P.underlying src).isSome = true) (hdt : P.underlying dst = some (.float k))
    {c : Option Nat} (fx : Fr s b c) (hf : Fits s k c) (hk : ∀ r, Fr k r (convC s k c) → K (a.put o.dst (.float k r))) : turn P ops (Cls B w0 bx) (fun u => ∃ r, u = .float k r ∧ Fr k r (convC s k c)) o K a := by
  refine turn_set hwant ?_ (fun a' w _ hw => ?_) (fun v hv => ?_)
  · obtain ⟨r, n, hrun, hr⟩ := run_conv (P := P) default src dst s k b c hs hdt fx hf
    exact ⟨_, r, rfl, hr⟩
  · obtain ⟨r, n, hrun, hr⟩ := run_conv (P := P) w src dst s k b c hs hdt fx hf
    simp [execOp, hop, hx, hrun, Result.andThen, Upon]
    exact ⟨hr, (hw.later hB (below_drewN (Below.refl _ _) n)).put hd _⟩
  · obtain ⟨r, rfl, hr⟩ := hv; exact hk r hr

/-- A call whose outcome lies in V. -/
theorem turn_call {V : Value → Prop} (hB : B ≤ w0.heap.size) {f : FuncId} {args : Array Value} (hwant : Region.wanted o (yielded ops a.tmps) = true) (hd : away o.dst bx = true)
    (hrun : ∀ w', (execOp a.eval o).run P w' = .ok (.enter f args) w') (hcall : ∀ w', Calls P f args w' (fun e w'' => ∃ v, e = .returned v ∧ V v ∧ Below w'.heap.size w' w'')) (hk : ∀ v, V v → K (a.put o.dst v)) :
    turn P ops (Cls B w0 bx) V o K a := by
  refine turn_set hwant ?_ (fun a' w _ hw => ?_) hk
  · obtain ⟨e, w2, fr, ⟨v, _, hv, _⟩, _⟩ := hcall default []
    exact ⟨v, hv⟩
  · rw [hrun w]
    exact (hcall w).mono fun e w'' ⟨v, he, hv, hb⟩ => ⟨v, he, hv, (hw.later hB hb).put hd _⟩

theorem turn_callF (hB : B ≤ w0.heap.size) {k : FloatKind} {c : Option Nat} {f : FuncId} {args : Array Value} (hwant : Region.wanted o (yielded ops a.tmps) = true) (hd : away o.dst bx = true)
    (hrun : ∀ w', (execOp a.eval o).run P w' = .ok (.enter f args) w') (hcall : ∀ w', Calls P f args w' (RetF k c w')) (hk : ∀ x, Fr k x c → K (a.put o.dst (.float k x))) :
    turn P ops (Cls B w0 bx) (fun u => ∃ x, u = .float k x ∧ Fr k x c) o K a :=
  turn_call hB hwant hd hrun (fun w' => (hcall w').mono fun e w'' ⟨x, he, hx, hb⟩ => ⟨_, he, ⟨x, rfl, hx⟩, hb⟩) (fun v hv => by obtain ⟨r, rfl, hr⟩ := hv; exact hk r hr)

theorem turn_callV (hB : B ≤ w0.heap.size) {c0 c1 c2 : Option Nat} {f : FuncId} {args : Array Value} (hwant : Region.wanted o (yielded ops a.tmps) = true) (hd : away o.dst bx = true)
    (hrun : ∀ w', (execOp a.eval o).run P w' = .ok (.enter f args) w') (hcall : ∀ w', Calls P f args w' (RetV c0 c1 c2 w'))
    (hk : ∀ x y z, Fr .f32 x c0 → Fr .f32 y c1 → Fr .f32 z c2 → K (a.put o.dst (.agg #[.float .f32 x, .float .f32 y, .float .f32 z]))) :
    turn P ops (Cls B w0 bx) (fun u => ∃ x y z, u = .agg #[.float .f32 x, .float .f32 y, .float .f32 z] ∧ Fr .f32 x c0 ∧ Fr .f32 y c1 ∧ Fr .f32 z c2) o K a :=
  turn_call hB hwant hd hrun (fun w' => (hcall w').mono fun e w'' ⟨x, y, z, he, hx, hy, hz, hb⟩ => ⟨_, he, ⟨x, y, z, rfl, hx, hy, hz⟩, hb⟩) (fun v hv => by obtain ⟨x, y, z, rfl, hx, hy, hz⟩ := hv; exact hk x y z hx hy hz)

theorem turn_callD (hB : B ≤ w0.heap.size) {v : Value} {f : FuncId} {args : Array Value} (hwant : Region.wanted o (yielded ops a.tmps) = true) (hd : away o.dst bx = true)
    (hrun : ∀ w', (execOp a.eval o).run P w' = .ok (.enter f args) w') (hcall : ∀ w', Calls P f args w' (RetD v w')) (hk : K (a.put o.dst v)) :
    turn P ops (Cls B w0 bx) (fun u => u = v) o K a :=
  turn_call hB hwant hd hrun (fun w' => (hcall w').mono fun e w'' ⟨he, hb⟩ => ⟨_, he, rfl, hb⟩) (fun u hu => by rw [hu]; exact hk)

/-- What a class tells of a block of the region's own. -/
theorem Cls.block {a : Act} {w : World} {s b : Nat} {ob : Obj} (h : Cls B w0 [(s, ob)] a w) (hs : a.tmps[s]? = some (.pointer (some ⟨b, 0, none⟩))) : B ≤ b ∧ b < w.heap.size ∧ w.heap[b]? = some ob := by
  obtain ⟨h1, h2⟩ := h.2 (s, ob) (by simp) b hs
  exact ⟨h1, (Array.getElem?_eq_some_iff.1 h2).1, h2⟩

theorem cells_of {w : World} {b : Nat} {c : Array Value} {t : TypeId} {m : Nat × Nat} (h : w.heap[b]? = some (.cells c t m)) (i : Nat) : w.cell? ⟨b, i, none⟩ = c[i]? := by
  simp [World.cell?, h]

theorem free_of {w : World} {b : Nat} {c : Array Value} {t : TypeId} (h : w.heap[b]? = some (.cells c t)) (i : Nat) : w.frozen? ⟨b, i, none⟩ = false := by
  simp [World.frozen?, h]
end
end Loose
end Go.Proofs.Ytjkkefbfhapblaa
