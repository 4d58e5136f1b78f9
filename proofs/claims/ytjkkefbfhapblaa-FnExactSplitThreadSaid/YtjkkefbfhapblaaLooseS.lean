/- Regions that draw their order and lay a new row of one cell: the cell's value is known by what holds of it. -/
import Derived.Test.YtjkkefbfhapblaaRet
import Derived.Test.YtjkkefbfhapblaaCplx
namespace Go.Proofs.Ytjkkefbfhapblaa
set_option linter.unusedSimpArgs false
set_option linter.unusedVariables false
open Go.RowKit
namespace LooseS
open Fl Loose

/-- Below B nothing has turned; and once slot d holds a new row, its block is as φ says. -/
def ClsS (B : Nat) (w0 : World) (d : Nat) (φ : Obj → Prop) (a : Act) (w : World) : Prop :=
  Below B w0 w ∧ ∀ b, B ≤ b → a.tmps[d]? = some (.slice (some ⟨b, 0, none⟩) 1 1) → ∃ ob, w.heap[b]? = some ob ∧ φ ob

def off (o : Option Tmp) (d : Nat) : Bool := o != some d

theorem ClsS.put {B : Nat} {w0 w : World} {d : Nat} {φ : Obj → Prop} {a : Act} {t : Option Tmp} (hd : off t d = true) (v : Value) (h : ClsS B w0 d φ a w) : ClsS B w0 d φ (a.put t v) w := by
  refine ⟨h.1, fun b hB hb => h.2 b hB ?_⟩
  rwa [put_other (by simpa [off] using hd)] at hb

theorem ClsS.later {B : Nat} {w0 w w' : World} {d : Nat} {φ : Obj → Prop} {a : Act} (hB : B ≤ w0.heap.size) (h : ClsS B w0 d φ a w) (h2 : Below w.heap.size w w') : ClsS B w0 d φ a w' := by
  refine ⟨below_call hB h.1 h2, fun b hb hs => ?_⟩
  obtain ⟨ob, h3, h4⟩ := h.2 b hb hs
  exact ⟨ob, by rw [h2.block b (Array.getElem?_eq_some_iff.1 h3).1]; exact h3, h4⟩

section
variable {P : Program} {ops : Array Oper} {K : Act → Prop} {a : Act} {o : Oper} {B : Nat} {w0 : World} {d : Nat} {φ : Obj → Prop}

theorem wp_region {id : Nat} {Q : Exit → Act → World → Prop} {a : Act} {w : World} {l : List Oper} (n d : Nat) (φ : Obj → Prop) (hm : P.follows .mixedOrders = true) (hB : Region.lexTailB .any l.toArray n = true)
    (h0 : ∀ b, a.tmps[d]? = some (.slice (some ⟨b, 0, none⟩) 1 1) → b < w.heap.size)
    (h : ∃ Vs, walk P l.toArray (ClsS w.heap.size w d φ) (fun a' => ∀ w', ClsS w.heap.size w d φ a' w' → wpList P l.toArray Q (l.drop n) a' w') (l.take n) Vs a) : (Code.region id l.toArray true).wp P Q a w := by
  obtain ⟨Vs, h⟩ := h
  exact wp_region_loose n hm hB (ClsS w.heap.size w d φ) ⟨(Below.refl _ _).drew, fun b hb hs => absurd (h0 b hs) (Nat.not_lt.2 hb)⟩ Vs h

theorem turn_value {v : Value} (hwant : Region.wanted o (yielded ops a.tmps) = true) (hd : off o.dst d = true) (hrun : ∀ w', Below B w0 w' → (execOp a.eval o).run P w' = .ok (.value v) w') (hk : K (a.put o.dst v)) : turn P ops (ClsS B w0 d φ) (fun u => u = v) o K a := by
  refine turn_set hwant ⟨v, rfl⟩ (fun a' w _ hw => ?_) (fun u hu => by rw [hu]; exact hk)
  rw [hrun w hw.1]; exact ⟨rfl, hw.put hd _⟩

theorem turn_fl (hB : B ≤ w0.heap.size) (hwant : Region.wanted o (yielded ops a.tmps) = true) (hd : off o.dst d = true) {op : BinOp} {t yt : TypeId} {x y : Operand} (hop : o.op = Op.binOp op t x y yt) (har : arith op = true)
    {k : FloatKind} {bx' bz : Nat} (hx : a.eval x = .float k bx') (hy : a.eval y = .float k bz) {cx cy : Option Nat} (fx : Fr k bx' cx) (fy : Fr k bz cy)
    (hk : ∀ r, Fr k r (op2 op k cx cy) → K (a.put o.dst (.float k r))) : turn P ops (ClsS B w0 d φ) (fun u => ∃ r, u = .float k r ∧ Fr k r (op2 op k cx cy)) o K a := by
  refine turn_set hwant ?_ (fun a' w _ hw => ?_) (fun v hv => ?_)
  · obtain ⟨r, n, _, hr⟩ := run_op (P := P) default op (arith_or har) t k bx' bz
    rw [fx.1, fy.1] at hr
    exact ⟨_, r, rfl, hr⟩
  · obtain ⟨r, n, hrun, hr⟩ := run_op (P := P) w op (arith_or har) t k bx' bz
    rw [fx.1, fy.1] at hr
    simp [execOp, hop, hx, hy, eqGuard_at_float, hrun, Result.andThen, Upon]
    exact ⟨hr, (hw.later hB (below_drewN (Below.refl _ _) n)).put hd _⟩
  · obtain ⟨r, rfl, hr⟩ := hv; exact hk r hr

theorem turn_callC (hB : B ≤ w0.heap.size) {c e : Option Nat} {f : FuncId} {args : Array Value} (hwant : Region.wanted o (yielded ops a.tmps) = true) (hd : off o.dst d = true)
    (hrun : ∀ w', (execOp a.eval o).run P w' = .ok (.enter f args) w') (hcall : ∀ w', Below B w0 w' → Calls P f args w' (RetC .f32 c e w')) (hk : ∀ x y, Fr .f32 x c → Fr .f32 y e → K (a.put o.dst (.complex .f32 x y))) :
    turn P ops (ClsS B w0 d φ) (fun u => ∃ x y, u = .complex .f32 x y ∧ Fr .f32 x c ∧ Fr .f32 y e) o K a := by
  refine turn_set hwant ?_ (fun a' w _ hw => ?_) (fun v hv => by obtain ⟨x, y, rfl, hx, hy⟩ := hv; exact hk x y hx hy)
  · obtain ⟨_, w2, fr, ⟨x, y, _, hx, hy, _⟩, _⟩ := hcall w0 (Below.refl _ _) []
    exact ⟨_, x, y, rfl, hx, hy⟩
  · rw [hrun w]
    exact (hcall w hw.1).mono fun e w'' ⟨x, y, he, hx, hy, hb⟩ => ⟨_, he, ⟨x, y, rfl, hx, hy⟩, (hw.later hB hb).put hd _⟩

theorem turn_row {ob : Obj} (hB : B ≤ w0.heap.size) (hwant : Region.wanted o (yielded ops a.tmps) = true) (hdst : o.dst = some d) (hφ : φ ob)
    (hrun : ∀ w', (execOp a.eval o).run P w' = .ok (.value (.slice (some ⟨w'.heap.size, 0, none⟩) 1 1)) (w'.alloc ob)) (hk : ∀ b, B ≤ b → K (a.put o.dst (.slice (some ⟨b, 0, none⟩) 1 1))) :
    turn P ops (ClsS B w0 d φ) (fun u => ∃ b, B ≤ b ∧ u = .slice (some ⟨b, 0, none⟩) 1 1) o K a := by
  refine turn_set hwant ⟨_, B, Nat.le_refl _, rfl⟩ (fun a' w _ hw => ?_) (fun u hu => by obtain ⟨b, hb, rfl⟩ := hu; exact hk b hb)
  rw [hrun w]
  have hle : B ≤ w.heap.size := Nat.le_trans hB hw.1.size
  refine ⟨⟨_, hle, rfl⟩, hw.1.alloc hle _, fun b hb hs => ?_⟩
  rw [hdst] at hs
  simp only [Act.put] at hs
  have hin : d < a'.tmps.size := by
    have := (Array.getElem?_eq_some_iff.1 hs).1; simpa using this
  rw [Array.getElem?_setIfInBounds_self_of_lt hin] at hs
  have hbe : b = w.heap.size := by
    simp only [Option.some.injEq, Value.slice.injEq, Addr.mk.injEq] at hs; exact hs.1.1.symm
  refine ⟨ob, ?_, hφ⟩
  rw [hbe]
  show (w.heap.push ob)[w.heap.size]? = some ob
  simp
end
end LooseS
end Go.Proofs.Ytjkkefbfhapblaa
