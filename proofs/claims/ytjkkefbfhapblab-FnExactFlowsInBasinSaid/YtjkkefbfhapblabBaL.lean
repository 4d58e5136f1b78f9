/- What the laws of basins share. -/
import Derived.Test.YtjkkefbfhapblabBaV
import Derived.Test.YtjkkefbfhapblabLooseP
import Derived.Test.YtjkkefbfhapblabFrame
namespace Go.Proofs.Ytjkkefbfhapblab
set_option linter.unusedSimpArgs false
set_option linter.unusedVariables false
open Go.RowKit
set_option maxRecDepth 20000
namespace Ba
open Fl Rate

/-- A basin's value in the world as it stands. -/
def phi (W H : Int) (n : Nat) (c : Nat → Option Nat) (v : Value) (w : World) : Prop := ∃ a cap, v = bV W H a n cap ∧ IsY w a n cap c

theorem phi_stable (W H : Int) (n : Nat) (c : Nat → Option Nat) : LooseP.Stable (phi W H n c) := by
  rintro v w w' ⟨a, cap, h1, h2⟩ hb
  exact ⟨a, cap, h1, h2.later hb⟩

/-- A copy that a region makes. -/
theorem to_phi {W H : Int} {a : Option Addr} {n cap : Nat} {c : Nat → Option Nat} {w0 w : World} (h : IsY w0 a n cap c) (hb : Below w0.heap.size w0 w) (hn : n ≤ 1048576) :
    Calls Try.prog 17 #[bV W H a n cap] w (fun e w'' => ∃ v, e = .returned v ∧ (∃ a cap, v = bV W H a n cap) ∧ phi W H n c v w'' ∧ Below w.heap.size w w'') :=
  (to_basin W H a n cap c w (h.later hb) hn).mono fun e w'' ⟨a', cap', he, ho, hb'⟩ => ⟨_, he, ⟨a', cap', rfl⟩, ⟨a', cap', rfl, ho.y⟩, hb'⟩

theorem last2 {x y x' y' : Value} (h : #[x, y] = #[x', y']) : x = x' ∧ y = y' := by simpa using h

/-- The comparison with such a copy. -/
theorem eq_phi {W H : Int} {a av : Option Addr} {n cap capv : Nat} {c : Nat → Option Nat} {w0 w : World} {ds : List (Nat × (Value → World → Prop))} {a' : Act} {d : Nat} {x : Value} (h : IsY w0 a n cap c) (hcl : LooseP.Cls w0.heap.size w0 ds a' w) (hp : (d, phi W H n c) ∈ ds)
    (ha : #[x, a'.eval (.tmp d)] = #[bV W H a n cap, bV W H av n capv]) :
    Calls Try.prog 19 #[bV W H a n cap, bV W H av n capv] w (fun e w'' => ∃ v, e = .returned v ∧ v = .bool true ∧ Below w.heap.size w w'') := by
  obtain ⟨a2, cap2, h1, h2⟩ := hcl.at hp (last2 ha).2 (by simp [undef])
  obtain ⟨rfl, rfl⟩ : av = a2 ∧ capv = cap2 := by simpa using h1
  exact (eq_basin W H a av n cap capv c w (h.later hcl.1) h2).mono fun e w'' ⟨he, hb⟩ => ⟨_, he, rfl, hb⟩

section
open Go.ChangeShapes Go.WideShapes Go.ChangeAt Go.RowKit Go.Joins Go.Deep
variable {H : Type} {enc : TypeId × Value → H} {P : Program} {w : World} {base : Nat} {spare : Nat → Bool} {held : Bool}

theorem trod_int {t : TypeId} {k : IntKind} {fuel : Nat} {cs : List Value} {x : DataW H × List MemPlace} (ht : P.underlying t = some (.int k)) (h : DataW.trod enc P w base spare held fuel t cs = some x) :
    ∃ n, cs = [.int k n] := by
  cases fuel with
  | zero => simp [DataW.trod] at h
  | succ n =>
    unfold DataW.trod at h
    rw [ht] at h
    split at h <;> simp_all

theorem trod_nums {t e : TypeId} {k : FloatKind} {fuel : Nat} {v : Value} {x : DataW H × List MemPlace} (ht : P.underlying t = some (.slice e)) (he : P.underlying e = some (.float k)) (hc : P.cellsOf e = 1)
    (h : DataW.trod enc P w base spare held fuel t [v] = some x) : ∃ a len cap zs, v = .slice a len cap ∧ Frame.IsNums k w a len cap zs := by
  have hf := h
  rcases Deep.open_slice1 ht hc hf with ⟨hcs, _⟩ | ⟨y, l, c, m, n, V, D, Pl, hcs, _⟩
  · simp at hcs
    subst hcs
    exact ⟨none, 0, 0, [], rfl, rfl, Nat.le_refl _, Nat.zero_le _, by simp, 0, 0, fun h => absurd h (Nat.lt_irrefl _), fun i hi => absurd hi (Nat.not_lt_zero _)⟩
  · simp at hcs
    subst hcs
    obtain ⟨zs, hz⟩ := Frame.open_nums (a := some y) (len := l) (cap := c) (d := x.1) (p := x.2) ht he hc ⟨fuel, h⟩
    exact ⟨_, _, _, zs, rfl, hz⟩

theorem open_basin {r : Reach} {b0 : Nat} {t ti ts te : TypeId} {f0 f1 f2 : Field} {v : Value} {d : DataW H} {p : List MemPlace} (hs : P.underlying t = some (.struct #[f0, f1, f2])) (hone : oneCellFields P #[f0, f1, f2] = true) (hC : P.cellsOf t = 3)
    (h0 : f0.type = ti) (h1 : f1.type = ti) (h2 : f2.type = ts) (hi : P.underlying ti = some (.int .i64)) (hts : P.underlying ts = some (.slice te)) (he : P.underlying te = some (.float .f32)) (hc : P.cellsOf te = 1)
    (hv : Value.okWide P w r b0 t v) (h : DataW.Trod enc P w base spare held t v d p) :
    ∃ W H a len cap zs, v = .agg #[.int .i64 W, .int .i64 H, .slice a len cap] ∧ Frame.IsNums .f32 w a len cap zs := by
  obtain ⟨c0, c1, c2, y0, y1, y2, n, rfl, rfl, rfl, g0, g1, g2⟩ := open_agg3 hs hone hC hv h
  rw [h0] at g0; rw [h1] at g1; rw [h2] at g2
  obtain ⟨x, e0⟩ := trod_int hi g0
  obtain ⟨y, e1⟩ := trod_int hi g1
  obtain ⟨a, len, cap, zs, e2, hz⟩ := trod_nums hts he hc g2
  simp at e0 e1
  subst e0 e1 e2
  exact ⟨x, y, a, len, cap, zs, rfl, hz⟩
end

end Ba
end Go.Proofs.Ytjkkefbfhapblab
