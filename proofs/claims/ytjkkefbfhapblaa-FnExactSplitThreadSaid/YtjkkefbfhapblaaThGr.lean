/- Rows of vectors that functions collect (without sines). -/
import Derived.Test.YtjkkefbfhapblaaThP
import Derived.Test.YtjkkefbfhapblaaLooseS
import Derived.Laws.AppendOwn
import Derived.OwnWalk
import Derived.Lib.SmallJoins
namespace Go.Proofs.Ytjkkefbfhapblaa
set_option linter.unusedSimpArgs false
set_option linter.unusedVariables false
open Go.RowKit
set_option maxRecDepth 20000
namespace Th
open Fl Rate

end Th
namespace LooseS
open Fl Loose
variable {P : Program} {ops : Array Oper} {K : Act → Prop} {a : Act} {o : Oper} {B : Nat} {w0 : World} {d : Nat} {φ : Obj → Prop}

/-- A vector is built of numbers that calls gave. -/
theorem turn_build3 {c0 c1 c2 : Option Nat} {x y z : Nat} (hwant : Region.wanted o (yielded ops a.tmps) = true) (hd : off o.dst d = true) (hrun : ∀ w', (execOp a.eval o).run P w' = .ok (.value (.agg #[.float .f32 x, .float .f32 y, .float .f32 z])) w') (fx : Fr .f32 x c0) (fy : Fr .f32 y c1) (fz : Fr .f32 z c2)
    (hk : ∀ x y z, Fr .f32 x c0 → Fr .f32 y c1 → Fr .f32 z c2 → K (a.put o.dst (.agg #[.float .f32 x, .float .f32 y, .float .f32 z]))) :
    turn P ops (ClsS B w0 d φ) (fun u => ∃ x y z, u = .agg #[.float .f32 x, .float .f32 y, .float .f32 z] ∧ Fr .f32 x c0 ∧ Fr .f32 y c1 ∧ Fr .f32 z c2) o K a := by
  refine turn_set hwant ⟨_, x, y, z, rfl, fx, fy, fz⟩ (fun a' w _ hw => ?_) (fun v hv => by obtain ⟨x, y, z, rfl, hx, hy, hz⟩ := hv; exact hk x y z hx hy hz)
  rw [hrun w]
  exact ⟨⟨x, y, z, rfl, fx, fy, fz⟩, hw.put hd _⟩

theorem turn_callF (hB : B ≤ w0.heap.size) {k : FloatKind} {c : Option Nat} {f : FuncId} {args : Array Value} (hwant : Region.wanted o (yielded ops a.tmps) = true) (hd : off o.dst d = true)
    (hrun : ∀ w', (execOp a.eval o).run P w' = .ok (.enter f args) w') (hcall : ∀ w', Below B w0 w' → Calls P f args w' (RetF k c w')) (hk : ∀ x, Fr k x c → K (a.put o.dst (.float k x))) :
    turn P ops (ClsS B w0 d φ) (fun u => ∃ x, u = .float k x ∧ Fr k x c) o K a := by
  refine turn_set hwant ?_ (fun a' w _ hw => ?_) (fun v hv => by obtain ⟨x, rfl, hx⟩ := hv; exact hk x hx)
  · obtain ⟨_, w2, fr, ⟨x, _, hx, _⟩, _⟩ := hcall w0 (Below.refl _ _) []
    exact ⟨_, x, rfl, hx⟩
  · rw [hrun w]
    exact (hcall w hw.1).mono fun e w'' ⟨x, he, hx, hb⟩ => ⟨_, he, ⟨x, rfl, hx⟩, (hw.later hB hb).put hd _⟩

theorem turn_callV (hB : B ≤ w0.heap.size) {c0 c1 c2 : Option Nat} {f : FuncId} {args : Array Value} (hwant : Region.wanted o (yielded ops a.tmps) = true) (hd : off o.dst d = true)
    (hrun : ∀ w', (execOp a.eval o).run P w' = .ok (.enter f args) w') (hcall : ∀ w', Below B w0 w' → Calls P f args w' (RetV c0 c1 c2 w')) (hk : ∀ x y z, Fr .f32 x c0 → Fr .f32 y c1 → Fr .f32 z c2 → K (a.put o.dst (.agg #[.float .f32 x, .float .f32 y, .float .f32 z]))) :
    turn P ops (ClsS B w0 d φ) (fun u => ∃ x y z, u = .agg #[.float .f32 x, .float .f32 y, .float .f32 z] ∧ Fr .f32 x c0 ∧ Fr .f32 y c1 ∧ Fr .f32 z c2) o K a := by
  refine turn_set hwant ?_ (fun a' w _ hw => ?_) (fun v hv => by obtain ⟨x, y, z, rfl, hx, hy, hz⟩ := hv; exact hk x y z hx hy hz)
  · obtain ⟨_, w2, fr, ⟨x, y, z, _, hx, hy, hz, _⟩, _⟩ := hcall w0 (Below.refl _ _) []
    exact ⟨_, x, y, z, rfl, hx, hy, hz⟩
  · rw [hrun w]
    exact (hcall w hw.1).mono fun e w'' ⟨x, y, z, he, hx, hy, hz, hb⟩ => ⟨_, he, ⟨x, y, z, rfl, hx, hy, hz⟩, (hw.later hB hb).put hd _⟩
end LooseS
namespace Loose
open Fl
variable {P : Program} {ops : Array Oper} {K : Act → Prop} {a : Act} {o : Oper} {B : Nat} {w0 : World} {bx : List (Nat × Obj)}

/-- A call that answers a number, in whatever world of the region. -/
theorem turn_callFB (hB : B ≤ w0.heap.size) {k : FloatKind} {c : Option Nat} {f : FuncId} {args : Array Value} (hwant : Region.wanted o (yielded ops a.tmps) = true) (hd : away o.dst bx = true)
    (hrun : ∀ w', (execOp a.eval o).run P w' = .ok (.enter f args) w') (hcall : ∀ w', Below B w0 w' → Calls P f args w' (RetF k c w')) (hk : ∀ x, Fr k x c → K (a.put o.dst (.float k x))) :
    turn P ops (Cls B w0 bx) (fun u => ∃ x, u = .float k x ∧ Fr k x c) o K a := by
  refine turn_set hwant ?_ (fun a' w _ hw => ?_) (fun v hv => by obtain ⟨x, rfl, hx⟩ := hv; exact hk x hx)
  · obtain ⟨_, w2, fr, ⟨x, _, hx, _⟩, _⟩ := hcall w0 (Below.refl _ _) []
    exact ⟨_, x, rfl, hx⟩
  · rw [hrun w]
    exact (hcall w hw.1).mono fun e w'' ⟨x, he, hx, hb⟩ => ⟨_, he, ⟨x, rfl, hx⟩, (hw.later hB hb).put hd _⟩
end Loose
namespace Th
open Fl Rate

/-- The numbers that stand so far. -/
def FP (m : Nat) (f : Nat → Option Nat) (xs : List Value) : Prop := xs.length = m ∧ ∀ j, j < m → ∃ x, xs[j]? = some (.float .f32 x) ∧ Fr .f32 x (f j)

theorem FP.nil (f : Nat → Option Nat) : FP (0 * 3) f [] := ⟨rfl, fun j hj => absurd hj (by omega)⟩

theorem FP.three {k : Nat} {f : Nat → Option Nat} {xs : List Value} (h : FP (k * 3) f xs) {x y z : Nat} (fx : Fr .f32 x (f (k * 3))) (fy : Fr .f32 y (f (k * 3 + 1))) (fz : Fr .f32 z (f (k * 3 + 2))) : FP ((k + 1) * 3) f (xs ++ [.float .f32 x, .float .f32 y, .float .f32 z]) := by
  obtain ⟨h1, h2⟩ := h
  refine ⟨by simp [h1]; omega, fun j hj => ?_⟩
  by_cases hjk : j < k * 3
  · obtain ⟨x', k1, k2⟩ := h2 j hjk
    exact ⟨x', by rw [List.getElem?_append_left (by omega)]; exact k1, k2⟩
  · have : j = k * 3 ∨ j = k * 3 + 1 ∨ j = k * 3 + 2 := by omega
    rcases this with rfl | rfl | rfl
    · exact ⟨x, by rw [List.getElem?_append_right (by omega), h1, Nat.sub_self]; rfl, fx⟩
    · exact ⟨y, by rw [List.getElem?_append_right (by omega), h1, show k * 3 + 1 - k * 3 = 1 by omega]; rfl, fy⟩
    · exact ⟨z, by rw [List.getElem?_append_right (by omega), h1, show k * 3 + 2 - k * 3 = 2 by omega]; rfl, fz⟩

theorem own_heap {w w' : World} {B e size n : Nat} {v : Value} {xs : List Value} (h : w.ownsRow B e size v n xs) (hk : ∀ g, some g = v.ownBlock → g < w.heap.size → w'.heap[g]? = w.heap[g]?) : w'.ownsRow B e size v n xs := by
  obtain ⟨h1, h2 | ⟨g, cap, cur, rfl, h4, h5, h6⟩⟩ := h
  · exact ⟨h1, .inl h2⟩
  · exact ⟨h1, .inr ⟨g, cap, cur, rfl, h4, by rw [hk g (by simp [Value.ownBlock]) (Array.getElem?_eq_some_iff.1 h5).1]; exact h5, h6⟩⟩

theorem own_below {w w' : World} {B e size n : Nat} {v : Value} {xs : List Value} (h : w.ownsRow B e size v n xs) (hb : Below w.heap.size w w') : w'.ownsRow B e size v n xs := own_heap h fun g _ hg => hb.block g hg

theorem own_off {w : World} {B e size n : Nat} {v : Value} {xs : List Value} (h : w.ownsRow B e size v n xs) {S : Nat} {c : Array Value} {T : TypeId} (hS : w.heap[S]? = some (.cells c T)) (hne : e ≠ T) : some S ≠ v.ownBlock := by
  obtain ⟨_, ⟨rfl, _⟩ | ⟨g, cap, cur, rfl, _, hh, _⟩⟩ := h
  · simp [Value.ownBlock]
  · intro he
    obtain rfl : S = g := by simpa [Value.ownBlock] using he
    rw [hh] at hS
    simp only [Option.some.injEq, Obj.cells.injEq] at hS
    exact hne hS.2.1

theorem own_set {w : World} {B e size n i : Nat} {v u : Value} {xs : List Value} (h : w.ownsRow B e size v n xs) {S : Nat} {c : Array Value} {T : TypeId} (hS : w.heap[S]? = some (.cells c T)) (hne : e ≠ T) : (w.setCell ⟨S, i, none⟩ u).ownsRow B e size v n xs :=
  own_heap h fun g hg _ => set_keep w i u (fun e => own_off h hS hne (by rw [← hg, e]))

theorem own_ge {w : World} {B L e size n : Nat} {v : Value} {xs : List Value} (h : w.ownsRow B e size v n xs) (hL : L ≤ B) (k : Nat) (hk : v.ownBlock = some k) : L ≤ k := by
  obtain ⟨_, ⟨rfl, _⟩ | ⟨g, c, cur, rfl, hg, _⟩⟩ := h
  · simp [Value.ownBlock] at hk
  · simp [Value.ownBlock] at hk; omega

theorem appended {w2 w4 w5 : World} {S B k e size : Nat} {v : Value} {xs : List Value} {T : TypeId} {cells : Array Value} (hb : w4.heap[S]? = some (.cells cells T)) (hv : w4.ownsRow B e size v k xs) (hB : Below B w2 w4) (hBS : B ≤ w4.heap.size) (hg : w4.grownBy w5 v.ownBlock) (he : e ≠ T) :
    w5.heap[S]? = some (.cells cells T) ∧ Below B w2 w5 := by
  have hl : S < w4.heap.size := (Array.getElem?_eq_some_iff.1 hb).1
  refine ⟨?_, Below.grown hB hg hBS (own_ge hv (Nat.le_refl _))⟩
  rw [hg.block S hl (own_off hv hb he)]
  exact hb

theorem row_cell3 {w : World} {b : Nat} {x y z : Value} {T : TypeId} (h : w.heap[b]? = some (.cells #[x, y, z] T)) : ∀ j u, [x, y, z][j]? = some u → w.cell? ((⟨b, 0, none⟩ : Addr).add j) = some u := by
  intro j u hj
  match j, hj with
  | 0, hj => simp at hj; subst hj; simp [Addr.add, World.cell?, h]
  | 1, hj => simp at hj; subst hj; simp [Addr.add, World.cell?, h]
  | 2, hj => simp at hj; subst hj; simp [Addr.add, World.cell?, h]

theorem isR_own {w : World} {B n : Nat} {v : Value} {f : Nat → Option Nat} {xs : List Value} (h : w.ownsRow B 28 3 v n xs) (hp : FP (n * 3) f xs) (h0 : 0 < n) : ∃ a cap, v = .slice a n cap ∧ IsR B w.heap.size w a n cap f := by
  obtain ⟨h1, ⟨_, h⟩ | ⟨g, cap, cur, rfl, hB, hh, hn, hm, hs, ht⟩⟩ := h
  · omega
  refine ⟨some ⟨g, 0, none⟩, cap, rfl, hn, hm, g, cur, fun _ => ⟨rfl, hB, block_lt hh, hh⟩, by omega, fun i hi => ?_⟩
  obtain ⟨x, k1, k2⟩ := hp.2 i hi
  refine ⟨x, ?_, k2⟩
  rw [← ht, List.getElem?_take_of_lt (by omega)] at k1
  simpa using k1

end Th
end Go.Proofs.Ytjkkefbfhapblaa
