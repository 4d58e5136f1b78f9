/- Two basins that one region copies. -/
import Derived.Test.YtbinjkaanbhikaaBaL
namespace Go.Proofs.Ytbinjkaanbhikaa
set_option linter.unusedSimpArgs false
set_option linter.unusedVariables false
open Go.RowKit
set_option maxRecDepth 20000
namespace Ba
open Fl Rate

theorem duo_stable {d d' : Nat} {φ ψ : Value → World → Prop} (h : LooseP.Stable φ) (h' : LooseP.Stable ψ) : ∀ p ∈ [(d, φ), (d', ψ)], LooseP.Stable p.2 := by
  intro p hp
  rcases List.mem_cons.1 hp with rfl | hp
  · exact h
  · rw [List.mem_singleton.1 hp]; exact h'

theorem duo_first {d d' : Nat} {φ ψ : Value → World → Prop} (h : d' ≠ d) : ∀ p ∈ [(d, φ), (d', ψ)], p.1 = d → p.2 = φ := by
  intro p hp e
  rcases List.mem_cons.1 hp with rfl | hp
  · rfl
  · rw [List.mem_singleton.1 hp] at e; exact absurd e h

theorem duo_second {d d' : Nat} {φ ψ : Value → World → Prop} (h : d ≠ d') : ∀ p ∈ [(d, φ), (d', ψ)], p.1 = d' → p.2 = ψ := by
  intro p hp e
  rcases List.mem_cons.1 hp with rfl | hp
  · exact absurd e h
  · rw [List.mem_singleton.1 hp]

/-- Both copies, where a call takes them. -/
theorem two_phi {W H W' H' : Int} {a b : Option Addr} {n cap m cap' : Nat} {c c' : Nat → Option Nat} {w0 w : World} {ds : List (Nat × (Value → World → Prop))} {a' : Act} {d d' : Nat} (hcl : LooseP.Cls w0.heap.size w0 ds a' w) (hp : (d, phi W H n c) ∈ ds) (hp' : (d', phi W' H' m c') ∈ ds)
    (ha : #[a'.eval (.tmp d), a'.eval (.tmp d')] = #[bV W H a n cap, bV W' H' b m cap']) : IsY w a n cap c ∧ IsY w b m cap' c' := by
  obtain ⟨a2, cap2, h1, h2⟩ := hcl.at hp (last2 ha).1 (by simp [undef])
  obtain ⟨b2, cap3, h3, h4⟩ := hcl.at hp' (last2 ha).2 (by simp [undef])
  obtain ⟨rfl, rfl⟩ : a = a2 ∧ cap = cap2 := by simpa using h1
  obtain ⟨rfl, rfl⟩ : b = b2 ∧ cap' = cap3 := by simpa using h3
  exact ⟨h2, h4⟩

end Ba
end Go.Proofs.Ytbinjkaanbhikaa
