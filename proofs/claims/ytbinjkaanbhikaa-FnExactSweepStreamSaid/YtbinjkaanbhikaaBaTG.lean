/- Two basins that one region copies and gives to a function that answers a basin. -/
import Derived.Test.YtbinjkaanbhikaaBaT
import Derived.Test.YtbinjkaanbhikaaBaOw
namespace Go.Proofs.Ytbinjkaanbhikaa
set_option linter.unusedSimpArgs false
set_option linter.unusedVariables false
open Go.RowKit
set_option maxRecDepth 20000
namespace LooseP
open Fl Loose
variable {P : Program} {ops : Array Oper} {K : Act → Prop} {a : Act} {o : Oper} {B : Nat} {w0 : World} {ds : List (Nat × (Value → World → Prop))}

theorem turn_opP {V : Value → Prop} {φ φ0 : Value → World → Prop} {d d0 : Nat} (hwant : Region.wanted o (yielded ops a.tmps) = true) (hdst : o.dst = some d) (huni : ∀ p ∈ ds, p.1 = d → p.2 = φ) (hmem : (d0, φ0) ∈ ds) (hV : ∃ v, V v)
    (hne : ∀ a' : Act, execOp a'.eval o = execOp a.eval o → a'.eval (.tmp d0) ≠ undef) (hrun : ∀ (a' : Act) (w' : World), φ0 (a'.eval (.tmp d0)) w' → ∃ u, (execOp a'.eval o).run P w' = .ok (.value u) w' ∧ V u ∧ φ u w')
    (hk : ∀ u, V u → K (a.put (some d) u)) : turn P ops (Cls B w0 ds) V o K a := by
  refine turn_set hwant hV (fun a' w he hw => ?_) (fun v hv => by rw [hdst]; exact hk v hv)
  obtain ⟨u, h1, h2, h3⟩ := hrun a' w (hw.at hmem rfl (hne a' he))
  rw [← he, h1]
  refine ⟨h2, ?_⟩
  rw [hdst]; exact hw.set huni u h3

/-- A value that is moved, of which something is said. -/
theorem turn_moveP {V : Value → Prop} {φ : Value → World → Prop} {d d0 : Nat} (hwant : Region.wanted o (yielded ops a.tmps) = true) (hdst : o.dst = some d) (huni : ∀ p ∈ ds, p.1 = d → p.2 = φ) (hmem : (d0, φ) ∈ ds) (hV : ∃ v, V v) (hop : o.op = Op.move (.tmp d0))
    (hu : a.eval (.tmp d0) ≠ undef) (hφ : ∀ u w, φ u w → V u) (hk : ∀ u, V u → K (a.put (some d) u)) : turn P ops (Cls B w0 ds) V o K a := by
  have hr : ∀ (a' : Act) (w' : World), (execOp a'.eval o).run P w' = .ok (.value (a'.eval (.tmp d0))) w' := by intro a' w'; simp [execOp, hop]
  refine turn_opP hwant hdst huni hmem hV (fun a' he => ?_) (fun a' w' h => ⟨_, hr a' w', hφ _ _ h, h⟩) hk
  have h1 := hr a' default
  rw [he, hr a default] at h1
  simp only [Result.ok.injEq, Next.value.injEq] at h1
  rw [← h1.1]; exact hu

/-- A part of a tuple of which something is said. -/
theorem turn_extractP {V : Value → Prop} {φ φ0 : Value → World → Prop} {d d0 i : Nat} (hwant : Region.wanted o (yielded ops a.tmps) = true) (hdst : o.dst = some d) (huni : ∀ p ∈ ds, p.1 = d → p.2 = φ) (hmem : (d0, φ0) ∈ ds) (hV : ∃ v, V v) (hop : o.op = Op.extract (.tmp d0) i)
    {x : Value} {xs : Array Value} (hu : a.eval (.tmp d0) = .tuple xs) (hx : xs[i]? = some x) (hφ : ∀ u w, φ0 u w → ∃ ys y, u = .tuple ys ∧ ys[i]? = some y ∧ V y ∧ φ y w) (hk : ∀ u, V u → K (a.put (some d) u)) : turn P ops (Cls B w0 ds) V o K a := by
  have hr : ∀ (a' : Act) (w' : World) (ys : Array Value) (y : Value), a'.eval (.tmp d0) = .tuple ys → ys[i]? = some y → (execOp a'.eval o).run P w' = .ok (.value y) w' := by intro a' w' ys y h1 h2; simp [execOp, hop, h1, Instr.extract, h2]
  refine turn_opP hwant hdst huni hmem hV (fun a' he h0 => ?_) (fun a' w' h => ?_) hk
  · have h1 := hr a default xs x hu hx
    rw [← he] at h1
    simp [execOp, hop, h0, undef, Instr.extract, stuck] at h1
  · obtain ⟨ys, y, h1, h2, h3, h4⟩ := hφ _ _ h
    exact ⟨y, hr a' w' ys y h1 h2, h3, h4⟩
end LooseP
namespace Ba
open Fl Rate

theorem isO_set {B L : Nat} {w : World} {a : Option Addr} {n cap i : Nat} {c : Nat → Option Nat} {u : Value} (h : IsO B L w a n cap c) {S : Nat} {cs : Array Value} {T : TypeId} (hS : w.heap[S]? = some (.cells cs T)) (hne : T ≠ 28) : IsO B L (w.setCell ⟨S, i, none⟩ u) a n cap c := by
  obtain ⟨h2, h3, g, cur, h5, h6, h7⟩ := h
  refine ⟨h2, h3, g, cur, fun h0 => ?_, h6, h7⟩
  obtain ⟨k1, k2, k3, k4⟩ := h5 h0
  refine ⟨k1, k2, k3, ?_⟩
  rw [set_keep _ _ _ (fun e => ?_)]
  · exact k4
  · subst e
    rw [k4] at hS
    simp only [Option.some.injEq, Obj.cells.injEq] at hS
    exact hne hS.2.1.symm

/-- A basin that is answered, in the world as it stands. -/
def phiG (B : Nat) (A : Bool) (W H : Int) (n : Nat) (f : Nat → Option Nat) (v : Value) (w : World) : Prop := ∃ a cap L, v = .tuple #[bV W H a n cap, .bool A] ∧ L ≤ w.heap.size ∧ IsO B L w a n cap f

theorem phiG_stable (B : Nat) (A : Bool) (W H : Int) (n : Nat) (f : Nat → Option Nat) : LooseP.Stable (phiG B A W H n f) := by
  rintro v w w' ⟨a, cap, L, h1, h2, h3⟩ hb
  exact ⟨a, cap, L, h1, Nat.le_trans h2 hb.size, h3.later hb⟩

theorem call_phi {f : FuncId} {args : Array Value} {w0 w : World} {A : Bool} {W H : Int} {n : Nat} {c : Nat → Option Nat} (h : Calls Try.prog f args w (RetB A W H n c w)) (hb : Below w0.heap.size w0 w) :
    Calls Try.prog f args w (fun e w'' => ∃ v, e = .returned v ∧ (∃ a cap, v = .tuple #[bV W H a n cap, .bool A]) ∧ phiG w0.heap.size A W H n c v w'' ∧ Below w.heap.size w w'') :=
  h.mono fun e w'' ⟨a, cap, he, ho, hb'⟩ => ⟨_, he, ⟨a, cap, rfl⟩, ⟨a, cap, _, rfl, Nat.le_refl _, ho.wider hb.size (Nat.le_refl _)⟩, hb'⟩

/-- A basin's value in a row of its own, in the world as it stands. -/
def phiO (B : Nat) (W H : Int) (n : Nat) (f : Nat → Option Nat) (v : Value) (w : World) : Prop := ∃ a cap L, v = bV W H a n cap ∧ L ≤ w.heap.size ∧ IsO B L w a n cap f

theorem phiO_stable (B : Nat) (W H : Int) (n : Nat) (f : Nat → Option Nat) : LooseP.Stable (phiO B W H n f) := by
  rintro v w w' ⟨a, cap, L, h1, h2, h3⟩ hb
  exact ⟨a, cap, L, h1, Nat.le_trans h2 hb.size, h3.later hb⟩

theorem phiG_val {B : Nat} {A : Bool} {W H : Int} {n : Nat} {f : Nat → Option Nat} (u : Value) (w : World) (h : phiG B A W H n f u w) : ∃ a cap, u = .tuple #[bV W H a n cap, .bool A] := by
  obtain ⟨a, cap, L, h1, _⟩ := h
  exact ⟨a, cap, h1⟩

theorem phiG_part {B : Nat} {A : Bool} {W H : Int} {n : Nat} {f : Nat → Option Nat} (u : Value) (w : World) (h : phiG B A W H n f u w) : ∃ ys y, u = .tuple ys ∧ ys[0]? = some y ∧ (∃ a cap, y = bV W H a n cap) ∧ phiO B W H n f y w := by
  obtain ⟨a, cap, L, h1, h2, h3⟩ := h
  exact ⟨_, _, h1, rfl, ⟨a, cap, rfl⟩, ⟨a, cap, L, rfl, h2, h3⟩⟩

theorem six_stable {φ ψ χ ξ α β : Value → World → Prop} {d1 d2 d3 d4 d5 d6 : Nat} (h1 : LooseP.Stable φ) (h2 : LooseP.Stable ψ) (h3 : LooseP.Stable χ) (h4 : LooseP.Stable α) (h5 : LooseP.Stable β) (h6 : LooseP.Stable ξ) : ∀ p ∈ [(d1, φ), (d2, ψ), (d3, χ), (d4, α), (d5, β), (d6, ξ)], LooseP.Stable p.2 := by
  intro p hp
  simp only [List.mem_cons, List.not_mem_nil, or_false] at hp
  rcases hp with rfl | rfl | rfl | rfl | rfl | rfl <;> assumption

theorem uni_of {φ : Value → World → Prop} {d : Nat} {ds : List (Nat × (Value → World → Prop))} (hmem : (d, φ) ∈ ds) (hnd : (ds.map Prod.fst).Nodup) : ∀ p ∈ ds, p.1 = d → p.2 = φ := by
  intro p hp e
  induction ds with
  | nil => cases hp
  | cons q ds ih =>
    simp only [List.map_cons, List.nodup_cons] at hnd
    rcases List.mem_cons.1 hp with rfl | hp'
    · rcases List.mem_cons.1 hmem with h | h
      · rw [← h]
      · exact absurd (List.mem_map.2 ⟨_, h, e.symm⟩) hnd.1
    · rcases List.mem_cons.1 hmem with h | h
      · exact absurd (List.mem_map.2 ⟨_, hp', by rw [e, ← h]⟩) hnd.1
      · exact ih h hnd.2 hp'

theorem four_stable {d d' d'' e : Nat} {φ ψ χ ξ : Value → World → Prop} (h : LooseP.Stable φ) (h' : LooseP.Stable ψ) (h'' : LooseP.Stable χ) (h3 : LooseP.Stable ξ) : ∀ p ∈ [(d, φ), (d', ψ), (d'', χ), (e, ξ)], LooseP.Stable p.2 := by
  intro p hp
  simp only [List.mem_cons, List.not_mem_nil, or_false] at hp
  rcases hp with rfl | rfl | rfl | rfl <;> assumption

theorem four_uni {φ ψ χ ξ : Value → World → Prop} {d d' d'' e : Nat} (h1 : d ≠ d') (h2 : d ≠ d'') (h3 : d ≠ e) (h4 : d' ≠ d'') (h5 : d' ≠ e) (h6 : d'' ≠ e) :
    (∀ p ∈ [(d, φ), (d', ψ), (d'', χ), (e, ξ)], p.1 = d → p.2 = φ) ∧ (∀ p ∈ [(d, φ), (d', ψ), (d'', χ), (e, ξ)], p.1 = d' → p.2 = ψ) ∧ (∀ p ∈ [(d, φ), (d', ψ), (d'', χ), (e, ξ)], p.1 = d'' → p.2 = χ) ∧ (∀ p ∈ [(d, φ), (d', ψ), (d'', χ), (e, ξ)], p.1 = e → p.2 = ξ) := by
  refine ⟨?_, ?_, ?_, ?_⟩ <;>
    (intro p hp he
     simp only [List.mem_cons, List.not_mem_nil, or_false] at hp
     rcases hp with rfl | rfl | rfl | rfl <;> first | rfl | (simp only at he; omega))

end Ba
end Go.Proofs.Ytbinjkaanbhikaa
