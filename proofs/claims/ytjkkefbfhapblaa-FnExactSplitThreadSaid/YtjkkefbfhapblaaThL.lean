/- Threads as arguments; what the laws of threads share. -/
import Derived.Test.YtjkkefbfhapblaaThB
import Derived.Test.YtjkkefbfhapblaaLooseP
import Derived.Test.YtjkkefbfhapblaaFrame
import Derived.Lib.SmallJoins
import Derived.Deep.Slices
import Derived.Deep.Strs
namespace Go.Proofs.Ytjkkefbfhapblaa
set_option linter.unusedSimpArgs false
set_option linter.unusedVariables false
open Go.RowKit
set_option maxRecDepth 20000
namespace Th
open Fl Rate

section
open Go.ChangeShapes Go.WideShapes Go.ChangeAt Go.RowKit Go.Joins Go.Deep
variable {H : Type} {enc : TypeId × Value → H} {P : Program} {w : World} {base : Nat} {spare : Nat → Bool} {held : Bool}

theorem trod_f32 {t : TypeId} {fuel : Nat} {cs : List Value} {x : DataW H × List MemPlace} (ht : P.underlying t = some (.float .f32)) (h : DataW.trod enc P w base spare held fuel t cs = some x) :
    ∃ n, cs = [.float .f32 n] ∧ (Lit.float .f32 n).wf = true := by
  obtain ⟨b, e1, _, wb⟩ := Frame.trod_float ht h
  exact ⟨b, e1, wb⟩

theorem open_vecs {t e tf : TypeId} {f0 f1 f2 : Field} {fuel : Nat} {v : Value} {x : DataW H × List MemPlace} (ht : P.underlying t = some (.slice e)) (he : P.underlying e = some (.struct #[f0, f1, f2])) (hone : oneCellFields P #[f0, f1, f2] = true) (hc : P.cellsOf e = 3)
    (h0 : f0.type = tf) (h1 : f1.type = tf) (h2 : f2.type = tf) (hf : P.underlying tf = some (.float .f32)) (h : DataW.trod enc P w base spare held fuel t [v] = some x) : ∃ a len cap c, v = .slice a len cap ∧ IsV w a len cap c := by
  rcases Deep.open_slice ht h with ⟨hcs, _⟩ | ⟨a, l, cp, m, n, D, Pl, hcs, _, hl, hm, hmm, _, hx⟩
  · simp at hcs
    subst hcs
    exact ⟨none, 0, 0, fun _ => none, rfl, Nat.le_refl _, Nat.zero_le _, 0, 0, fun h => absurd h (Nat.lt_irrefl _), fun i hi => absurd hi (by omega)⟩
  · simp at hcs
    subst hcs
    have hlm : l ≤ m := by rw [hmm]; split <;> omega
    have key : ∀ j, j < l * 3 → ∃ b, w.cell? (a.add j) = some (.float .f32 b) ∧ (Lit.float .f32 b).wf = true := by
      intro j hj
      obtain ⟨cs', g1, g2⟩ := hx (j / 3) (by omega)
      rw [hc] at g1
      obtain ⟨_, hlen, hcell⟩ := World.cells?_some g1
      obtain ⟨y0, y1, y2, k, _, _, k0, k1, k2⟩ := trod_struct3 he g2
      obtain ⟨o0, q0⟩ := hone_of hone 0 f0 rfl
      obtain ⟨o1, q1⟩ := hone_of hone 1 f1 rfl
      obtain ⟨o2, q2⟩ := hone_of hone 2 f2 rfl
      match cs', hlen with
      | [v0, v1, v2], _ =>
        rw [o0, q0, h0] at k0
        rw [o1, q1, h1] at k1
        rw [o2, q2, h2] at k2
        obtain ⟨b0, e0, wb0⟩ := trod_f32 hf k0
        obtain ⟨b1, e1, wb1⟩ := trod_f32 hf k1
        obtain ⟨b2, e2, wb2⟩ := trod_f32 hf k2
        simp at e0 e1 e2
        subst e0 e1 e2
        have d0 := hcell 0 (by omega)
        have d1 := hcell 1 (by omega)
        have d2 := hcell 2 (by omega)
        rw [add_add] at d0 d1 d2
        have hj3 : j = j / 3 * 3 + 0 ∨ j = j / 3 * 3 + 1 ∨ j = j / 3 * 3 + 2 := by omega
        rcases hj3 with hj3 | hj3 | hj3
        · exact ⟨b0, by rw [hj3]; simpa using d0, wb0⟩
        · exact ⟨b1, by rw [hj3]; simpa using d1, wb1⟩
        · exact ⟨b2, by rw [hj3]; simpa using d2, wb2⟩
    obtain ⟨B, hB⟩ := Deep.choose_lt key
    obtain ⟨b, off, spot⟩ := a
    refine ⟨_, l, cp, fun j => cl .f32 (B j), rfl, hl, hm, b, off, fun h0 => ?_, fun i hi => ?_⟩
    · have := World.cell?_spot (hB 0 (by omega)).1
      have hs : spot = none := by simpa [Addr.add] using this
      rw [hs]
    · have hspot := World.cell?_spot (hB 0 (by omega)).1
      have hs : spot = none := by simpa [Addr.add] using hspot
      subst hs
      have h9 := (hB i hi).1
      simp only [Addr.add_lit] at h9
      exact ⟨B i, h9, rfl, Fl.lt32 (hB i hi).2⟩

theorem open_thread {r : Reach} {b0 : Nat} {t ts te tf : TypeId} {f0 f1 g0 g1 g2 : Field} {v : Value} {d : DataW H} {p : List MemPlace} (hs : P.underlying t = some (.struct #[f0, f1])) (hone : oneCellFields P #[f0, f1] = true) (hC : P.cellsOf t = 2)
    (h0 : f0.type = ts) (h1 : f1.type = tf) (hf : P.underlying tf = some (.float .f32)) (hts : P.underlying ts = some (.slice te)) (he : P.underlying te = some (.struct #[g0, g1, g2])) (hone' : oneCellFields P #[g0, g1, g2] = true) (hc : P.cellsOf te = 3)
    (k0 : g0.type = tf) (k1 : g1.type = tf) (k2 : g2.type = tf) (hv : Value.okWide P w r b0 t v) (h : DataW.Trod enc P w base spare held t v d p) :
    ∃ s a len cap c, v = .agg #[.slice a len cap, .float .f32 s] ∧ IsV w a len cap c ∧ (Lit.float .f32 s).wf = true := by
  obtain ⟨c0, c1, y0, y1, n, rfl, rfl, rfl, q0, q1⟩ := open_agg2 hs hone hC hv h
  rw [h0] at q0; rw [h1] at q1
  obtain ⟨a, len, cap, c, e0, hz⟩ := open_vecs hts he hone' hc k0 k1 k2 hf q0
  obtain ⟨s, e1, ws⟩ := trod_f32 hf q1
  simp at e1
  subst e0 e1
  exact ⟨s, a, len, cap, c, rfl, hz, ws⟩
end

/-- A thread's value in the world as it stands. -/
def phi (s n : Nat) (c : Nat → Option Nat) (v : Value) (w : World) : Prop := ∃ a cap, v = tV a n cap s ∧ IsV w a n cap c

theorem phi_stable (s n : Nat) (c : Nat → Option Nat) : LooseP.Stable (phi s n c) := by
  rintro v w w' ⟨a, cap, h1, h2⟩ hb
  exact ⟨a, cap, h1, h2.later hb⟩

/-- A copy that a region makes. -/
theorem to_phi {s : Nat} {a : Option Addr} {n cap : Nat} {c : Nat → Option Nat} {w0 w : World} (h : IsV w0 a n cap c) (hb : Below w0.heap.size w0 w) (hn : n ≤ 1048576) :
    Calls Try.prog 15 #[tV a n cap s] w (fun e w'' => ∃ v, e = .returned v ∧ (∃ a cap, v = tV a n cap s) ∧ phi s n c v w'' ∧ Below w.heap.size w w'') :=
  (to_thread a n cap s c w (h.later hb) hn).mono fun e w'' ⟨a', cap', he, ho, hb'⟩ => ⟨_, he, ⟨a', cap', rfl⟩, ⟨a', cap', rfl, ho.v⟩, hb'⟩

theorem last2 {x y x' y' : Value} (h : #[x, y] = #[x', y']) : x = x' ∧ y = y' := by simpa using h

/-- The comparison with such a copy. -/
theorem eq_phi {s s' : Nat} {cs : Option Nat} {a av : Option Addr} {n cap capv : Nat} {c : Nat → Option Nat} {w0 w : World} {ds : List (Nat × (Value → World → Prop))} {a' : Act} {d : Nat} {x : Value} (h : IsV w0 a n cap c) (fs : Fr .f32 s cs) (fs' : Fr .f32 s' cs) (hcl : LooseP.Cls w0.heap.size w0 ds a' w) (hp : (d, phi s' n c) ∈ ds)
    (ha : #[x, a'.eval (.tmp d)] = #[tV a n cap s, tV av n capv s']) :
    Calls Try.prog 18 #[tV a n cap s, tV av n capv s'] w (fun e w'' => ∃ v, e = .returned v ∧ v = .bool true ∧ Below w.heap.size w w'') := by
  obtain ⟨a2, cap2, h1, h2⟩ := hcl.at hp (last2 ha).2 (by simp [undef])
  obtain ⟨rfl, rfl⟩ : av = a2 ∧ capv = cap2 := by simpa using h1
  exact (eq_thread a av n cap capv s s' cs c w (h.later hcl.1) h2 fs fs').mono fun e w'' ⟨he, hb⟩ => ⟨_, he, rfl, hb⟩

end Th
end Go.Proofs.Ytjkkefbfhapblaa
