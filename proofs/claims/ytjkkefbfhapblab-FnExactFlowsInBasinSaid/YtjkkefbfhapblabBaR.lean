/- Rows that the model's functions collect: a new basin, one number more, a basin that is given. -/
import Derived.Test.YtjkkefbfhapblabBaG
import Derived.Test.YtjkkefbfhapblabLooseS
import Derived.Test.YtjkkefbfhapblabHalf
import Derived.OwnWalk
import Derived.Laws.AppendOwn
import Derived.Lib.SmallJoins
namespace Go.Proofs.Ytjkkefbfhapblab
set_option linter.unusedSimpArgs false
set_option linter.unusedVariables false
open Go.RowKit
set_option maxRecDepth 20000
namespace Ba
open Fl Rate

/-- The numbers that stand so far. -/
def FPts (k : Nat) (f : Nat → Option Nat) (xs : List Value) : Prop := xs.length = k ∧ ∀ j, j < k → ∃ x, xs[j]? = some (.float .f32 x) ∧ Fr .f32 x (f j)

theorem FPts.nil (f : Nat → Option Nat) : FPts 0 f [] := ⟨rfl, fun j hj => absurd hj (Nat.not_lt_zero _)⟩

theorem FPts.next {k : Nat} {f : Nat → Option Nat} {xs : List Value} (h : FPts k f xs) {x : Nat} (fx : Fr .f32 x (f k)) : FPts (k + 1) f (xs ++ [.float .f32 x]) := by
  obtain ⟨h1, h2⟩ := h
  refine ⟨by simp [h1], fun j hj => ?_⟩
  by_cases hjk : j = k
  · subst hjk
    exact ⟨x, by rw [List.getElem?_append_right (by omega), h1, Nat.sub_self]; rfl, fx⟩
  · obtain ⟨x', k1, k2⟩ := h2 j (by omega)
    exact ⟨x', by rw [List.getElem?_append_left (by omega)]; exact k1, k2⟩

theorem isO_of {w : World} {B n : Nat} {v : Value} {f : Nat → Option Nat} {xs : List Value} (h : w.ownsRow B 22 1 v n xs) (hp : FPts n f xs) (h0 : 0 < n) : ∃ a cap, v = .slice a n cap ∧ IsO B w.heap.size w a n cap f := by
  obtain ⟨h1, ⟨_, h⟩ | ⟨g, cap, cur, rfl, hB, hh, hn, hm, hs, ht⟩⟩ := h
  · omega
  refine ⟨some ⟨g, 0, none⟩, cap, rfl, hn, hm, g, cur, fun _ => ⟨rfl, hB, block_lt hh, hh⟩, by omega, fun i hi => ?_⟩
  obtain ⟨x, k1, k2⟩ := hp.2 i hi
  refine ⟨x, ?_, k2⟩
  rw [← ht, List.getElem?_take_of_lt (by omega)] at k1
  simpa using k1

theorem own_heap {w w' : World} {B e size n : Nat} {v : Value} {xs : List Value} (h : w.ownsRow B e size v n xs) (hk : ∀ g, some g = v.ownBlock → g < w.heap.size → w'.heap[g]? = w.heap[g]?) : w'.ownsRow B e size v n xs := by
  obtain ⟨h1, h2 | ⟨g, cap, cur, rfl, h4, h5, h6⟩⟩ := h
  · exact ⟨h1, .inl h2⟩
  · exact ⟨h1, .inr ⟨g, cap, cur, rfl, h4, by rw [hk g (by simp [Value.ownBlock]) (Array.getElem?_eq_some_iff.1 h5).1]; exact h5, h6⟩⟩

theorem own_below {w w' : World} {B e size n : Nat} {v : Value} {xs : List Value} (h : w.ownsRow B e size v n xs) (hb : Below w.heap.size w w') : w'.ownsRow B e size v n xs := own_heap h fun g _ hg => hb.block g hg

/-- A row of one type does not lie in a block of another. -/
theorem own_off {w : World} {B e n : Nat} {v : Value} {xs : List Value} (h : w.ownsRow B e 1 v n xs) {S : Nat} {c : Array Value} {T : TypeId} (hS : w.heap[S]? = some (.cells c T)) (hne : e ≠ T) : some S ≠ v.ownBlock := by
  obtain ⟨_, ⟨rfl, _⟩ | ⟨g, cap, cur, rfl, _, hh, _⟩⟩ := h
  · simp [Value.ownBlock]
  · intro he
    obtain rfl : S = g := by simpa [Value.ownBlock] using he
    rw [hh] at hS
    simp only [Option.some.injEq, Obj.cells.injEq] at hS
    exact hne hS.2.1

theorem own_set {w : World} {B e n i : Nat} {v u : Value} {xs : List Value} (h : w.ownsRow B e 1 v n xs) {S : Nat} {c : Array Value} {T : TypeId} (hS : w.heap[S]? = some (.cells c T)) (hne : e ≠ T) : (w.setCell ⟨S, i, none⟩ u).ownsRow B e 1 v n xs :=
  own_heap h fun g hg _ => set_keep w i u (fun e => own_off h hS hne (by rw [← hg, e]))

theorem own_ge {w : World} {B L e size n : Nat} {v : Value} {xs : List Value} (h : w.ownsRow B e size v n xs) (hL : L ≤ B) (k : Nat) (hk : v.ownBlock = some k) : L ≤ k := by
  obtain ⟨_, ⟨rfl, _⟩ | ⟨g, c, cur, rfl, hg, _⟩⟩ := h
  · simp [Value.ownBlock] at hk
  · simp [Value.ownBlock] at hk; omega

/-- Behind an append to the row. -/
theorem appended {w2 w4 w5 : World} {S B k e : Nat} {v : Value} {xs : List Value} {T : TypeId} {cells : Array Value} (hb : w4.heap[S]? = some (.cells cells T)) (hv : w4.ownsRow B e 1 v k xs) (hB : Below B w2 w4) (hBS : B ≤ w4.heap.size) (hg : w4.grownBy w5 v.ownBlock) (he : e ≠ T) :
    w5.heap[S]? = some (.cells cells T) ∧ Below B w2 w5 := by
  have hl : S < w4.heap.size := (Array.getElem?_eq_some_iff.1 hb).1
  refine ⟨?_, Below.grown hB hg hBS (own_ge hv (Nat.le_refl _))⟩
  rw [hg.block S hl (own_off hv hb he)]
  exact hb

/-- A new row's cell. -/
theorem row_cell {w : World} {b : Nat} {x : Value} {T : TypeId} (h : w.heap[b]? = some (.cells #[x] T)) : ∀ j u, [x][j]? = some u → w.cell? ((⟨b, 0, none⟩ : Addr).add j) = some u := by
  intro j u hj
  match j, hj with
  | 0, hj => simp at hj; subst hj; simp [Addr.add, World.cell?, h]

/-- A new basin without spins. -/
def RetNew (W H : Int) (w : World) (e : Ending) (w' : World) : Prop :=
  ∃ g, e = .returned (bV W H (some ⟨g, 0, none⟩) 0 0) ∧ w'.ownsRow w.heap.size 22 1 (.slice (some ⟨g, 0, none⟩) 0 0) 0 [] ∧ Below w.heap.size w w'

theorem spec_new (W H : Int) (w : World) : Calls Try.prog 87 #[.int .i64 W, .int .i64 H] w (RetNew W H w) := by
  go_enter Try.func87, Try.ntmps87
  go_wp2
  refine bodyPost_ret ?ohr rfl ⟨w.heap.size + 1, rfl, ?oown, ?obel⟩
  case ohr => simp [results, Try.results87, go_sem, *]
  case oown =>
    refine ⟨rfl, .inr ⟨w.heap.size + 1, 0, #[], rfl, by simp, ?_, Nat.le_refl _, Nat.zero_le _, rfl, rfl⟩⟩
    repeat rw [set_keep _ _ _ (by omega)]
    simpa using new_block (w.alloc (.cells #[.int .i64 W, .int .i64 H, .slice (some ⟨w.heap.size + 1, 0, none⟩) 0 0] 33)) (.cells #[] 22)
  case obel => (repeat' first | exact Below.refl _ _ | (refine Below.setCell ?_ (by first | omega | (simp; omega) | simp) _) | (refine below_drewN ?_ _) | (refine Below.alloc ?_ (by first | omega | (simp; omega) | simp) _) | (refine Below.trans ?_ (Below.mono (by assumption) (by first | omega | (simp; omega) | simp))))

theorem spec_give (W H : Int) (a : Option Addr) (n cap : Nat) (c : Nat → Option Nat) (w : World) (h : IsY w a n cap c) (A : Bool) (hA : okB W H n c = A) : Calls Try.prog 95 #[bV W H a n cap] w (RetD (.tuple #[if A then bV W H a n cap else bV 0 0 none 0 0, .bool A]) w) := by
  have HV := Lib.hid (fun G w' (hb : Below w.heap.size w w') e0 e1 e2 => spec_is G W H a n cap c w' e0 e1 e2 (h.later hb) A hA)
  clear h hA
  cases A
  all_goals
    go_enter Try.func95, Try.ntmps95
    go_wp2_with fail
    refine (HV.out _ _ (by (repeat' first | exact Below.refl _ _ | (refine Below.setCell ?_ (by first | omega | (simp; omega) | simp) _) | (refine below_drewN ?_ _) | (refine Below.alloc ?_ (by first | omega | (simp; omega) | simp) _) | (refine Below.trans ?_ (Below.mono (by assumption) (by first | omega | (simp; omega) | simp))))) (by simp) (by simp) (by simp)).mono ?_
    rintro e w1 ⟨rfl, hb1⟩
    have hz1 := hb1.size
    simp only [World.size_alloc] at hz1
    obtain ⟨hc1, hf1⟩ := Fl.bcell hb1
    have g1 : w.heap.size < w1.heap.size := by omega
    have g2 : w.heap.size + 1 < w1.heap.size := by omega
    go_wp2
    refine bodyPost_ret ?ohr rfl ⟨rfl, ?obel⟩
    case ohr => simp [results, Try.results95, go_sem, *]
    case obel => (repeat' first | exact Below.refl _ _ | (refine Below.setCell ?_ (by first | omega | (simp; omega) | simp) _) | (refine below_drewN ?_ _) | (refine Below.alloc ?_ (by first | omega | (simp; omega) | simp) _) | (refine Below.trans ?_ (Below.mono (by assumption) (by first | omega | (simp; omega) | simp))))

/-- A basin and whether there is one, as the functions of one size tell it. -/
def RetG (R : Bool) (W H : Int) (n : Nat) (f : Nat → Option Nat) (w : World) (e : Ending) (w' : World) : Prop := RetB R (if R then W else 0) (if R then H else 0) (if R then n else 0) f w e w'

theorem retG_no {W H : Int} {n : Nat} {f : Nat → Option Nat} {w w' : World} (hb : Below w.heap.size w w') : RetG false W H n f w (.returned (.tuple #[bV 0 0 none 0 0, .bool false])) w' := ⟨none, 0, rfl, isO_nil _ _ _ _, hb⟩

end Ba
namespace LooseS
open Fl Loose
variable {P : Program} {ops : Array Oper} {K : Act → Prop} {a : Act} {o : Oper} {B : Nat} {w0 : World} {d : Nat} {φ : Obj → Prop}

theorem turn_callF (hB : B ≤ w0.heap.size) {k : FloatKind} {c : Option Nat} {f : FuncId} {args : Array Value} (hwant : Region.wanted o (yielded ops a.tmps) = true) (hd : off o.dst d = true)
    (hrun : ∀ w', (execOp a.eval o).run P w' = .ok (.enter f args) w') (hcall : ∀ w', Below B w0 w' → Calls P f args w' (RetF k c w')) (hk : ∀ x, Fr k x c → K (a.put o.dst (.float k x))) :
    turn P ops (ClsS B w0 d φ) (fun u => ∃ x, u = .float k x ∧ Fr k x c) o K a := by
  refine turn_set hwant ?_ (fun a' w _ hw => ?_) (fun v hv => by obtain ⟨x, rfl, hx⟩ := hv; exact hk x hx)
  · obtain ⟨_, w2, fr, ⟨x, _, hx, _⟩, _⟩ := hcall w0 (Below.refl _ _) []
    exact ⟨_, x, rfl, hx⟩
  · rw [hrun w]
    exact (hcall w hw.1).mono fun e w'' ⟨x, he, hx, hb⟩ => ⟨_, he, ⟨x, rfl, hx⟩, (hw.later hB hb).put hd _⟩

theorem turn_neg (hwant : Region.wanted o (yielded ops a.tmps) = true) (hd : off o.dst d = true) {t : TypeId} {x : Operand} (hop : o.op = Op.unOp .neg t x) {b : Nat} {c : Option Nat} (hx : a.eval x = .float .f32 b) (fx : Fr .f32 b c)
    (hk : ∀ r, Fr .f32 r (c.map (Op.negFloat .f32)) → K (a.put o.dst (.float .f32 r))) : turn P ops (ClsS B w0 d φ) (fun u => ∃ r, u = .float .f32 r ∧ Fr .f32 r (c.map (Op.negFloat .f32))) o K a := by
  refine turn_set hwant ⟨_, _, rfl, neg32_fr fx⟩ (fun a' w _ hw => ?_) (fun v hv => by obtain ⟨r, rfl, hr⟩ := hv; exact hk r hr)
  have e : (execOp a.eval o).run P w = .ok (.value (.float .f32 (Op.negFloat .f32 b))) w := by
    simp [execOp, hop, hx, Fl.unary_neg_float, Sem.run]
  rw [e]
  exact ⟨⟨_, rfl, neg32_fr fx⟩, hw.put hd _⟩
end LooseS
namespace Loose
open Fl
variable {P : Program} {ops : Array Oper} {K : Act → Prop} {a : Act} {o : Oper} {B : Nat} {w0 : World} {bx : List (Nat × Obj)}

/-- A call that answers a number, in whatever world of the region. -/
theorem turn_callFB (hB : B ≤ w0.heap.size) {k : FloatKind} {c : Option Nat} {f : FuncId} {args : Array Value} (hwant : Region.wanted o (yielded ops a.tmps) = true) (hd : away o.dst bx = true)
    (hrun : ∀ w', (execOp a.eval o).run P w' = .ok (.enter f args) w') (hcall : ∀ w', Below B w0 w' → Calls P f args w' (RetF k c w')) (hk : ∀ x, Fr k x c → K (a.put o.dst (.float k x))) :
    turn P ops (Cls B w0 bx) (fun u => ∃ x, u = .float k x ∧ Fr k x c) o K a := by
  refine turn_set hwant ?_ (fun a' w _ hw => ?_) (fun v hv => by obtain ⟨x, rfl, hx⟩ := hv; exact hk x hx)
  · obtain ⟨_, w2, fr, ⟨x, _, hx, _⟩, _⟩ := hcall w0 (Below.refl _ _) []
    exact ⟨_, x, rfl, hx⟩
  · rw [hrun w]
    exact (hcall w hw.1).mono fun e w'' ⟨x, he, hx, hb⟩ => ⟨_, he, ⟨x, rfl, hx⟩, (hw.later hB hb).put hd _⟩
end Loose
namespace Ba
open Fl Rate

theorem idx_cell {W H : Int} {x y : Nat} (hx : (x : Int) < W) (hy : (y : Int) < H) : idx W H x y = (W * (y : Int)).toNat + x := by
  unfold idx
  rw [Int.emod_eq_of_lt (by omega) hx, Int.emod_eq_of_lt (by omega) hy]
  have : 0 ≤ W * (y : Int) := Int.mul_nonneg (by omega) (by omega)
  omega
end Ba
end Go.Proofs.Ytjkkefbfhapblab
