/- Two threads that one region copies. -/
import Derived.Test.YtjkkefbfhapblaaThL
namespace Go.Proofs.Ytjkkefbfhapblaa
set_option linter.unusedSimpArgs false
set_option linter.unusedVariables false
open Go.RowKit
set_option maxRecDepth 20000
namespace Th
open Fl Rate

theorem duo_stable {d d' : Nat} {φ ψ : Value → World → Prop} (h : LooseP.Stable φ) (h' : LooseP.Stable ψ) : ∀ p ∈ [(d, φ), (d', ψ)], LooseP.Stable p.2 := by
  intro p hp
  rcases List.mem_cons.1 hp with rfl | hp
  · exact h
  · rw [List.mem_singleton.1 hp]; exact h'

theorem duo_first {d d' : Nat} {φ ψ : Value → World → Prop} (h : d' ≠ d) : ∀ p ∈ [(d, φ), (d', ψ)], p.1 = d → p.2 = φ := by
  intro p hp e
  rcases List.mem_cons.1 hp with rfl | hp
  · rfl
  · rw [List.mem_singleton.1 hp] at e; exact absurd e h

theorem duo_second {d d' : Nat} {φ ψ : Value → World → Prop} (h : d ≠ d') : ∀ p ∈ [(d, φ), (d', ψ)], p.1 = d' → p.2 = ψ := by
  intro p hp e
  rcases List.mem_cons.1 hp with rfl | hp
  · exact absurd e h
  · rw [List.mem_singleton.1 hp]

/-- Both copies, where a call takes them. -/
theorem two_phi {s s' : Nat} {a b : Option Addr} {n cap m cap' : Nat} {c c' : Nat → Option Nat} {w0 w : World} {ds : List (Nat × (Value → World → Prop))} {a' : Act} {d d' : Nat} (hcl : LooseP.Cls w0.heap.size w0 ds a' w) (hp : (d, phi s n c) ∈ ds) (hp' : (d', phi s' m c') ∈ ds)
    (h0 : a'.eval (.tmp d) = tV a n cap s) (h1 : a'.eval (.tmp d') = tV b m cap' s') : IsV w a n cap c ∧ IsV w b m cap' c' := by
  obtain ⟨a2, cap2, k1, k2⟩ := hcl.at hp h0 (by simp [undef])
  obtain ⟨b2, cap3, k3, k4⟩ := hcl.at hp' h1 (by simp [undef])
  obtain ⟨rfl, rfl⟩ : a = a2 ∧ cap = cap2 := by simpa using k1
  obtain ⟨rfl, rfl⟩ : b = b2 ∧ cap' = cap3 := by simpa using k3
  exact ⟨k2, k4⟩

theorem first4 {x y x' y' : Value} {l l' : List Value} (h : (x :: y :: l).toArray = (x' :: y' :: l').toArray) : x = x' ∧ y = y' := by
  simp at h
  exact ⟨h.1, h.2.1⟩

theorem turn_in {P : Program} {ops : Array Oper} {K : Act → Prop} {a : Act} {o : Oper} {B : Nat} {w0 : World} {ds : List (Nat × (Value → World → Prop))} {V : Value → Prop} {u : Value} (hwant : Region.wanted o (yielded ops a.tmps) = true) (hd : LooseP.off o.dst ds = true)
    (hrun : ∀ w', Below B w0 w' → (execOp a.eval o).run P w' = .ok (.value u) w') (hu : V u) (hk : ∀ v, V v → K (a.put o.dst v)) : Loose.turn P ops (LooseP.Cls B w0 ds) V o K a := by
  refine Loose.turn_set hwant ⟨u, hu⟩ (fun a' w _ hw => ?_) hk
  rw [hrun w hw.1]; exact ⟨hu, hw.put hd _⟩

end Th
end Go.Proofs.Ytjkkefbfhapblaa
