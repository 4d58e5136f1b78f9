/- Threads whose points are changed one by one: the program's function, for any function value. -/
import Derived.Test.YtjkkefbfhapblaaThP
namespace Go.Proofs.Ytjkkefbfhapblaa
set_option linter.unusedSimpArgs false
set_option linter.unusedVariables false
open Go.RowKit
set_option maxRecDepth 20000
namespace Th
open Fl Rate

end Th
namespace Loose
open Fl
variable {P : Program} {ops : Array Oper} {K : Act → Prop} {a : Act} {o : Oper} {B : Nat} {w0 : World} {bx : List (Nat × Obj)}

/-- A call that answers a vector, in whatever world of the region. -/
theorem turn_callVB (hB : B ≤ w0.heap.size) {c0 c1 c2 : Option Nat} {f : FuncId} {args : Array Value} (hwant : Region.wanted o (yielded ops a.tmps) = true) (hd : away o.dst bx = true)
    (hrun : ∀ w', (execOp a.eval o).run P w' = .ok (.enter f args) w') (hcall : ∀ w', Below B w0 w' → Calls P f args w' (RetV c0 c1 c2 w')) (hk : ∀ x y z, Fr .f32 x c0 → Fr .f32 y c1 → Fr .f32 z c2 → K (a.put o.dst (.agg #[.float .f32 x, .float .f32 y, .float .f32 z]))) :
    turn P ops (Cls B w0 bx) (fun u => ∃ x y z, u = .agg #[.float .f32 x, .float .f32 y, .float .f32 z] ∧ Fr .f32 x c0 ∧ Fr .f32 y c1 ∧ Fr .f32 z c2) o K a := by
  refine turn_set hwant ?_ (fun a' w _ hw => ?_) (fun v hv => by obtain ⟨x, y, z, rfl, hx, hy, hz⟩ := hv; exact hk x y z hx hy hz)
  · obtain ⟨_, w2, fr, ⟨x, y, z, _, hx, hy, hz, _⟩, _⟩ := hcall w0 (Below.refl _ _) []
    exact ⟨_, x, y, z, rfl, hx, hy, hz⟩
  · rw [hrun w]
    exact (hcall w hw.1).mono fun e w'' ⟨x, y, z, he, hx, hy, hz, hb⟩ => ⟨_, he, ⟨x, y, z, rfl, hx, hy, hz⟩, (hw.later hB hb).put hd _⟩
end Loose
namespace Th
open Fl Rate

/-- A thread and whether there is one. -/
def RetB (R : Bool) (s n : Nat) (c : Nat → Option Nat) (w : World) (e : Ending) (w' : World) : Prop :=
  ∃ a cap, e = .returned (.tuple #[tV a n cap s, .bool R]) ∧ IsR w.heap.size w'.heap.size w' a n cap c ∧ Below w.heap.size w w'

def RetG (R : Bool) (s n : Nat) (c : Nat → Option Nat) (w : World) (e : Ending) (w' : World) : Prop := RetB R (if R then s else 0) (if R then n else 0) c w e w'

theorem retG_no {s n : Nat} {f : Nat → Option Nat} {w w' : World} (hb : Below w.heap.size w w') : RetG false s n f w (.returned (.tuple #[tV none 0 0 0, .bool false])) w' := ⟨none, 0, rfl, isR_nil _ _ _ _, hb⟩

/-- Blocks that stay while the points of one row are written. -/
def KeepS (w : World) (P Q S g : Nat) (o2 o4 o8 : Obj) (cur : Array Value) : Prop := w.heap[P]? = some o2 ∧ w.heap[Q]? = some o4 ∧ w.heap[S]? = some o8 ∧ w.heap[g]? = some (.cells cur 28)

theorem KeepS.later {w w' : World} {P Q S g : Nat} {o2 o4 o8 : Obj} {cur : Array Value} (h : KeepS w P Q S g o2 o4 o8 cur) (hb : Below w.heap.size w w') : KeepS w' P Q S g o2 o4 o8 cur :=
  ⟨keep_block hb h.1, keep_block hb h.2.1, keep_block hb h.2.2.1, keep_block hb h.2.2.2⟩

theorem KeepS.store {w : World} {P Q S g : Nat} {o2 o4 o8 : Obj} {cur : Array Value} (h : KeepS w P Q S g o2 o4 o8 cur) (hP : P ≠ g) (hQ : Q ≠ g) (hS : S ≠ g) (i : Nat) (v : Value) : KeepS (w.setCell ⟨g, i, none⟩ v) P Q S g o2 o4 o8 (cur.setIfInBounds i v) :=
  ⟨by rw [set_keep _ _ _ hP]; exact h.1, by rw [set_keep _ _ _ hQ]; exact h.2.1, by rw [set_keep _ _ _ hS]; exact h.2.2.1, setCell_block h.2.2.2 i v⟩

end Th
end Go.Proofs.Ytjkkefbfhapblaa
