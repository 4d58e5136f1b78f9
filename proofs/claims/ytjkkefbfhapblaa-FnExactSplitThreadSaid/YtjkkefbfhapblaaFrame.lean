/- How an argument is opened: a number, a vector of three numbers, a list of numbers. -/
import Derived.Test.YtjkkefbfhapblaaRows
import Derived.WalkKit
import Derived.ProofKit
import Derived.ChangeArms
import Derived.Lib.SmallJoins
import Derived.Deep.Slices
namespace Go.Proofs.Ytjkkefbfhapblaa
set_option linter.unusedSimpArgs false
set_option linter.unusedVariables false
open Go.ChangeShapes Go.WideShapes Go.ChangeAt Go.RowKit Go.Joins Go.Deep
namespace Frame

section
variable {H : Type} {enc : TypeId × Value → H} {P : Program} {w : World} {base : Nat} {spare : Nat → Bool} {held : Bool}

theorem trod_float {t : TypeId} {k : FloatKind} {fuel : Nat} {cs : List Value} {x : DataW H × List MemPlace} (ht : P.underlying t = some (.float k)) (h : DataW.trod enc P w base spare held fuel t cs = some x) :
    ∃ b, cs = [.float k b] ∧ x = (.lit (.float k b), []) ∧ (Lit.float k b).wf = true := by
  cases fuel with
  | zero => simp [DataW.trod] at h
  | succ n =>
    unfold DataW.trod at h
    rw [ht] at h
    split at h <;> simp_all

/-- A struct of three numbers by value. -/
theorem open_vec {r : Reach} {b0 : Nat} {t e : TypeId} {f0 f1 f2 : Field} {v : Value} {d : DataW H} {p : List MemPlace} (hs : P.underlying t = some (.struct #[f0, f1, f2])) (hone : oneCellFields P #[f0, f1, f2] = true) (hC : P.cellsOf t = 3)
    (h0 : f0.type = e) (h1 : f1.type = e) (h2 : f2.type = e) (he : P.underlying e = some (.float .f32))
    (hv : Value.okWide P w r b0 t v) (h : DataW.Trod enc P w base spare held t v d p) :
    ∃ x y z, v = .agg #[.float .f32 x, .float .f32 y, .float .f32 z] ∧ (Lit.float .f32 x).wf = true ∧ (Lit.float .f32 y).wf = true ∧ (Lit.float .f32 z).wf = true := by
  obtain ⟨c0, c1, c2, y0, y1, y2, n, rfl, rfl, rfl, g0, g1, g2⟩ := open_agg3 hs hone hC hv h
  rw [h0] at g0; rw [h1] at g1; rw [h2] at g2
  obtain ⟨x, e0, _, wx⟩ := trod_float he g0
  obtain ⟨y, e1, _, wy⟩ := trod_float he g1
  obtain ⟨z, e2, _, wz⟩ := trod_float he g2
  simp at e0 e1 e2
  subst e0 e1 e2
  exact ⟨x, y, z, rfl, wx, wy, wz⟩

/-- What the walk is told of a list of numbers that came in: its numbers are the words zs, each in its cell. -/
def IsNums (k : FloatKind) (w : World) (a : Option Addr) (len cap : Nat) (zs : List Nat) : Prop :=
  zs.length = len ∧ len ≤ cap ∧ cap ≤ maxLen ∧ (∀ n ∈ zs, (Lit.float k n).wf = true) ∧
  ∃ b off, (0 < len → a = some ⟨b, off, none⟩) ∧ ∀ i, i < len → w.cell? ⟨b, off + i, none⟩ = some (.float k (zs.getD i 0))

theorem IsNums.later {k : FloatKind} {w w' : World} {a : Option Addr} {len cap : Nat} {zs : List Nat} (h : IsNums k w a len cap zs) (hb : Below w.heap.size w w') : IsNums k w' a len cap zs := by
  obtain ⟨h1, h2, h3, h4, b, off, h5, h6⟩ := h
  refine ⟨h1, h2, h3, h4, b, off, h5, fun i hi => ?_⟩
  rw [hb.cell (block_lt_of_cell (h6 i hi))]; exact h6 i hi

theorem open_nums {t e : TypeId} {k : FloatKind} {a : Option Addr} {len cap : Nat} {d : DataW H} {p : List MemPlace} (ht : P.underlying t = some (.slice e)) (he : P.underlying e = some (.float k)) (hc : P.cellsOf e = 1)
    (h : DataW.Trod enc P w base spare held t (.slice a len cap) d p) : ∃ zs, IsNums k w a len cap zs := by
  obtain ⟨fuel, hf⟩ := h
  rcases Deep.open_slice1 ht hc hf with ⟨hcs, _⟩ | ⟨x, l, c, m, n, V, D, Pl, hcs, _, hl, hm, hmm, _, hV⟩
  · simp [Value.cells] at hcs
    obtain ⟨rfl, rfl, rfl⟩ := hcs
    exact ⟨[], rfl, Nat.le_refl _, Nat.zero_le _, by simp, 0, 0, fun h => absurd h (Nat.lt_irrefl _), fun i hi => absurd hi (Nat.not_lt_zero _)⟩
  · simp [Value.cells] at hcs
    obtain ⟨rfl, rfl, rfl⟩ := hcs
    have hlm : len ≤ m := by rw [hmm]; split <;> omega
    have key : ∀ i, i < len → ∃ b, V i = .float k b ∧ (Lit.float k b).wf = true := fun i hi => by
      obtain ⟨b, e1, _, wb⟩ := trod_float he (hV i (by omega)).2
      exact ⟨b, by simpa using e1, wb⟩
    obtain ⟨B, hB⟩ := Deep.choose_lt key
    obtain ⟨b, off, spot⟩ := x
    refine ⟨(List.range len).map B, by simp, hl, hm, fun n hn => ?_, b, off, fun h0 => ?_, fun i hi => ?_⟩
    · obtain ⟨i, hi, rfl⟩ := List.mem_map.1 hn
      exact (hB i (by simpa using hi)).2
    · have := World.cell?_spot (hV 0 (by omega)).1
      have hs : spot = none := by simpa [Addr.add] using this
      rw [hs]
    · have hspot := World.cell?_spot (hV 0 (by omega)).1
      have hs : spot = none := by simpa [Addr.add] using hspot
      subst hs
      have := (hV i (by omega)).1
      rw [(hB i hi).1] at this
      simp only [Addr.add_lit] at this
      rw [this]; simp [List.getD, hi]
end
end Frame
end Go.Proofs.Ytjkkefbfhapblaa
