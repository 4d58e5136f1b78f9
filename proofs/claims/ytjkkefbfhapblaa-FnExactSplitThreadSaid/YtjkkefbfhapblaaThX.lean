/- A thread and a vector that one region copies and gives to a function that answers a thread; the store of it. -/
import Derived.Test.YtjkkefbfhapblaaThL
import Derived.Test.YtjkkefbfhapblaaThM
import Derived.Test.YtjkkefbfhapblaaLooseL
import Derived.Test.YtjkkefbfhapblaaVec
namespace Go.Proofs.Ytjkkefbfhapblaa
set_option linter.unusedSimpArgs false
set_option linter.unusedVariables false
open Go.RowKit
set_option maxRecDepth 20000
namespace LooseP
open Fl Loose
variable {P : Program} {ops : Array Oper} {K : Act → Prop} {a : Act} {o : Oper} {B : Nat} {w0 : World} {ds : List (Nat × (Value → World → Prop))}

theorem turn_opP {V : Value → Prop} {φ φ0 : Value → World → Prop} {d d0 : Nat} (hwant : Region.wanted o (yielded ops a.tmps) = true) (hdst : o.dst = some d) (huni : ∀ p ∈ ds, p.1 = d → p.2 = φ) (hmem : (d0, φ0) ∈ ds) (hV : ∃ v, V v)
    (hne : ∀ a' : Act, execOp a'.eval o = execOp a.eval o → a'.eval (.tmp d0) ≠ undef) (hrun : ∀ (a' : Act) (w' : World), φ0 (a'.eval (.tmp d0)) w' → ∃ u, (execOp a'.eval o).run P w' = .ok (.value u) w' ∧ V u ∧ φ u w')
    (hk : ∀ u, V u → K (a.put (some d) u)) : turn P ops (Cls B w0 ds) V o K a := by
  refine turn_set hwant hV (fun a' w he hw => ?_) (fun v hv => by rw [hdst]; exact hk v hv)
  obtain ⟨u, h1, h2, h3⟩ := hrun a' w (hw.at hmem rfl (hne a' he))
  rw [← he, h1]
  refine ⟨h2, ?_⟩
  rw [hdst]; exact hw.set huni u h3

/-- A value that is moved, of which something is said. -/
theorem turn_moveP {V : Value → Prop} {φ : Value → World → Prop} {d d0 : Nat} (hwant : Region.wanted o (yielded ops a.tmps) = true) (hdst : o.dst = some d) (huni : ∀ p ∈ ds, p.1 = d → p.2 = φ) (hmem : (d0, φ) ∈ ds) (hV : ∃ v, V v) (hop : o.op = Op.move (.tmp d0))
    (hu : a.eval (.tmp d0) ≠ undef) (hφ : ∀ u w, φ u w → V u) (hk : ∀ u, V u → K (a.put (some d) u)) : turn P ops (Cls B w0 ds) V o K a := by
  have hr : ∀ (a' : Act) (w' : World), (execOp a'.eval o).run P w' = .ok (.value (a'.eval (.tmp d0))) w' := by intro a' w'; simp [execOp, hop]
  refine turn_opP hwant hdst huni hmem hV (fun a' he => ?_) (fun a' w' h => ⟨_, hr a' w', hφ _ _ h, h⟩) hk
  have h1 := hr a' default
  rw [he, hr a default] at h1
  simp only [Result.ok.injEq, Next.value.injEq] at h1
  rw [← h1.1]; exact hu

/-- A part of a tuple of which something is said. -/
theorem turn_extractP {V : Value → Prop} {φ φ0 : Value → World → Prop} {d d0 i : Nat} (hwant : Region.wanted o (yielded ops a.tmps) = true) (hdst : o.dst = some d) (huni : ∀ p ∈ ds, p.1 = d → p.2 = φ) (hmem : (d0, φ0) ∈ ds) (hV : ∃ v, V v) (hop : o.op = Op.extract (.tmp d0) i)
    {x : Value} {xs : Array Value} (hu : a.eval (.tmp d0) = .tuple xs) (hx : xs[i]? = some x) (hφ : ∀ u w, φ0 u w → ∃ ys y, u = .tuple ys ∧ ys[i]? = some y ∧ V y ∧ φ y w) (hk : ∀ u, V u → K (a.put (some d) u)) : turn P ops (Cls B w0 ds) V o K a := by
  have hr : ∀ (a' : Act) (w' : World) (ys : Array Value) (y : Value), a'.eval (.tmp d0) = .tuple ys → ys[i]? = some y → (execOp a'.eval o).run P w' = .ok (.value y) w' := by intro a' w' ys y h1 h2; simp [execOp, hop, h1, Instr.extract, h2]
  refine turn_opP hwant hdst huni hmem hV (fun a' he h0 => ?_) (fun a' w' h => ?_) hk
  · have h1 := hr a default xs x hu hx
    rw [← he] at h1
    simp [execOp, hop, h0, undef, Instr.extract, stuck] at h1
  · obtain ⟨ys, y, h1, h2, h3, h4⟩ := hφ _ _ h
    exact ⟨y, hr a' w' ys y h1 h2, h3, h4⟩
/-- A new box. -/
theorem turn_allocP {φ : Value → World → Prop} {d : Nat} {ob : Obj} (hst : ∀ p ∈ ds, Stable p.2) (hB : B ≤ w0.heap.size) (hwant : Region.wanted o (yielded ops a.tmps) = true) (hdst : o.dst = some d) (huni : ∀ p ∈ ds, p.1 = d → p.2 = φ)
    (hrun : ∀ w', (execOp a.eval o).run P w' = .ok (.value (.pointer (some ⟨w'.heap.size, 0, none⟩))) (w'.alloc ob)) (hφ : ∀ w' : World, B ≤ w'.heap.size → φ (.pointer (some ⟨w'.heap.size, 0, none⟩)) (w'.alloc ob))
    (hk : ∀ b, B ≤ b → K (a.put (some d) (.pointer (some ⟨b, 0, none⟩)))) : turn P ops (Cls B w0 ds) (fun u => ∃ b, B ≤ b ∧ u = .pointer (some ⟨b, 0, none⟩)) o K a := by
  refine turn_set hwant ⟨_, B, Nat.le_refl _, rfl⟩ (fun a' w _ hw => ?_) (fun u hu => by obtain ⟨b, hb, rfl⟩ := hu; rw [hdst]; exact hk b hb)
  rw [hrun w]
  have hle : B ≤ w.heap.size := Nat.le_trans hB hw.1.size
  refine ⟨⟨_, hle, rfl⟩, ?_⟩
  rw [hdst]
  exact (hw.later hst hB ((Below.refl _ _).alloc (Nat.le_refl _) _)).set huni _ (hφ w hle)
end LooseP
namespace Th
open Fl Rate

theorem isR_set {B L : Nat} {w : World} {a : Option Addr} {n cap i : Nat} {c : Nat → Option Nat} {u : Value} (h : IsR B L w a n cap c) {S : Nat} {cs : Array Value} {T : TypeId} (hS : w.heap[S]? = some (.cells cs T)) (hne : T ≠ 28) : IsR B L (w.setCell ⟨S, i, none⟩ u) a n cap c := by
  obtain ⟨h2, h3, g, cur, h5, h6, h7⟩ := h
  refine ⟨h2, h3, g, cur, fun h0 => ?_, h6, h7⟩
  obtain ⟨k1, k2, k3, k4⟩ := h5 h0
  refine ⟨k1, k2, k3, ?_⟩
  rw [set_keep _ _ _ (fun e => ?_)]
  · exact k4
  · subst e
    rw [k4] at hS
    simp only [Option.some.injEq, Obj.cells.injEq] at hS
    exact hne hS.2.1.symm

/-- A thread that is answered, in the world as it stands. -/
def phiG (B : Nat) (A : Bool) (s n : Nat) (f : Nat → Option Nat) (v : Value) (w : World) : Prop := ∃ a cap L, v = .tuple #[tV a n cap s, .bool A] ∧ L ≤ w.heap.size ∧ IsR B L w a n cap f

theorem phiG_stable (B : Nat) (A : Bool) (s n : Nat) (f : Nat → Option Nat) : LooseP.Stable (phiG B A s n f) := by
  rintro v w w' ⟨a, cap, L, h1, h2, h3⟩ hb
  exact ⟨a, cap, L, h1, Nat.le_trans h2 hb.size, h3.later hb⟩

theorem call_phi {f : FuncId} {args : Array Value} {w0 w : World} {A : Bool} {s n : Nat} {c : Nat → Option Nat} (h : Calls Try.prog f args w (RetB A s n c w)) (hb : Below w0.heap.size w0 w) :
    Calls Try.prog f args w (fun e w'' => ∃ v, e = .returned v ∧ (∃ a cap, v = .tuple #[tV a n cap s, .bool A]) ∧ phiG w0.heap.size A s n c v w'' ∧ Below w.heap.size w w'') :=
  h.mono fun e w'' ⟨a, cap, he, ho, hb'⟩ => ⟨_, he, ⟨a, cap, rfl⟩, ⟨a, cap, _, rfl, Nat.le_refl _, ho.wider hb.size (Nat.le_refl _)⟩, hb'⟩

/-- A thread's value in a row of its own, in the world as it stands. -/
def phiO (B : Nat) (s n : Nat) (f : Nat → Option Nat) (v : Value) (w : World) : Prop := ∃ a cap L, v = tV a n cap s ∧ L ≤ w.heap.size ∧ IsR B L w a n cap f

theorem phiO_stable (B : Nat) (s n : Nat) (f : Nat → Option Nat) : LooseP.Stable (phiO B s n f) := by
  rintro v w w' ⟨a, cap, L, h1, h2, h3⟩ hb
  exact ⟨a, cap, L, h1, Nat.le_trans h2 hb.size, h3.later hb⟩

theorem phiG_val {B : Nat} {A : Bool} {s n : Nat} {f : Nat → Option Nat} (u : Value) (w : World) (h : phiG B A s n f u w) : ∃ a cap, u = .tuple #[tV a n cap s, .bool A] := by
  obtain ⟨a, cap, L, h1, _⟩ := h
  exact ⟨a, cap, h1⟩

theorem phiG_part {B : Nat} {A : Bool} {s n : Nat} {f : Nat → Option Nat} (u : Value) (w : World) (h : phiG B A s n f u w) : ∃ ys y, u = .tuple ys ∧ ys[0]? = some y ∧ (∃ a cap, y = tV a n cap s) ∧ phiO B s n f y w := by
  obtain ⟨a, cap, L, h1, h2, h3⟩ := h
  exact ⟨_, _, h1, rfl, ⟨a, cap, rfl⟩, ⟨a, cap, L, rfl, h2, h3⟩⟩

/-- A box that a region has made, empty; and with the thread stored. -/
def phiB (B : Nat) (v : Value) (w : World) : Prop := ∃ S, v = .pointer (some ⟨S, 0, none⟩) ∧ B ≤ S ∧ w.heap[S]? = some (.cells #[.slice none 0 0, .float .f32 0] 33)

theorem phiB_stable (B : Nat) : LooseP.Stable (phiB B) := by
  rintro v w w' ⟨S, h1, h2, h3⟩ hb
  exact ⟨S, h1, h2, keep_block hb h3⟩

def phiS (B : Nat) (s n : Nat) (f : Nat → Option Nat) (v : Value) (w : World) : Prop := ∃ S a cap L, v = .pointer (some ⟨S, 0, none⟩) ∧ B ≤ S ∧ L ≤ w.heap.size ∧ w.heap[S]? = some (.cells #[.slice a n cap, .float .f32 s] 33) ∧ IsR B L w a n cap f

theorem phiS_stable (B : Nat) (s n : Nat) (f : Nat → Option Nat) : LooseP.Stable (phiS B s n f) := by
  rintro v w w' ⟨S, a, cap, L, h1, h2, h3, h4, h5⟩ hb
  exact ⟨S, a, cap, L, h1, h2, Nat.le_trans h3 hb.size, keep_block hb h4, h5.later hb⟩

/-- The store of a thread that a region has made into a box that it has made. -/
theorem store_phi {P : Program} {o : Oper} {a a' : Act} {B d e n s : Nat} {w0 w : World} {f : Nat → Option Nat} {ds : List (Nat × (Value → World → Prop))} {S : Nat} {av : Option Addr} {cap : Nat}
    (hB : (d, phiB B) ∈ ds) (hO : (e, phiO B s n f) ∈ ds) (h1 : a'.eval (.tmp d) = .pointer (some ⟨S, 0, none⟩)) (h2 : a'.eval (.tmp e) = tV av n cap s) (hc : LooseP.Cls B w0 ds a' w)
    (hrun : ∀ w' : World, w'.cell? ⟨S, 0, none⟩ = some (.slice none 0 0) → w'.cell? ⟨S, 1, none⟩ = some (.float .f32 0) → w'.frozen? ⟨S, 0, none⟩ = false → w'.frozen? ⟨S, 1, none⟩ = false →
      (execOp a.eval o).run P w' = .ok .skip ((w'.setCell ⟨S, 0, none⟩ (.slice av n cap)).setCell ⟨S, 1, none⟩ (.float .f32 s))) :
    ∃ w1, (execOp a.eval o).run P w = .ok .skip w1 ∧ LooseP.Cls B w0 [(d, phiS B s n f)] a' w1 := by
  obtain ⟨S1, hS1, hSB, hq⟩ := hc.at hB h1 (by simp [undef])
  obtain rfl : S = S1 := by simpa using hS1
  obtain ⟨a2, cap2, L, he, hL, ho⟩ := hc.at hO h2 (by simp [undef, tV])
  obtain ⟨rfl, rfl⟩ : av = a2 ∧ cap = cap2 := by simpa [tV] using he
  refine ⟨_, hrun w ((cells_of (i := 0) hq).trans rfl) ((cells_of (i := 1) hq).trans rfl) (free_of hq 0) (free_of hq 1), Below.setCell (Below.setCell hc.1 hSB (p := ⟨S, 0, none⟩) _) hSB (p := ⟨S, 1, none⟩) _, ?_⟩
  intro p hp v hv hn
  obtain rfl := List.mem_singleton.1 hp
  have hv' : v = .pointer (some ⟨S, 0, none⟩) := by
    simp only [Act.eval, Array.getD_eq_getD_getElem?] at h1
    rw [hv] at h1
    exact h1
  subst hv'
  exact ⟨S, av, cap, L, rfl, hSB, by simpa using hL, by simpa using setCell_block (setCell_block hq 0 (.slice av n cap)) 1 (.float .f32 s), isR_set (isR_set ho hq (by decide)) (setCell_block hq 0 _) (by decide)⟩

theorem six_stable {φ ψ χ ξ α β : Value → World → Prop} {d1 d2 d3 d4 d5 d6 : Nat} (h1 : LooseP.Stable φ) (h2 : LooseP.Stable ψ) (h3 : LooseP.Stable χ) (h4 : LooseP.Stable α) (h5 : LooseP.Stable β) (h6 : LooseP.Stable ξ) : ∀ p ∈ [(d1, φ), (d2, ψ), (d3, χ), (d4, α), (d5, β), (d6, ξ)], LooseP.Stable p.2 := by
  intro p hp
  simp only [List.mem_cons, List.not_mem_nil, or_false] at hp
  rcases hp with rfl | rfl | rfl | rfl | rfl | rfl <;> assumption

theorem uni_of {φ : Value → World → Prop} {d : Nat} {ds : List (Nat × (Value → World → Prop))} (hmem : (d, φ) ∈ ds) (hnd : (ds.map Prod.fst).Nodup) : ∀ p ∈ ds, p.1 = d → p.2 = φ := by
  intro p hp e
  induction ds with
  | nil => cases hp
  | cons q ds ih =>
    simp only [List.map_cons, List.nodup_cons] at hnd
    rcases List.mem_cons.1 hp with rfl | hp'
    · rcases List.mem_cons.1 hmem with h | h
      · rw [← h]
      · exact absurd (List.mem_map.2 ⟨_, h, e.symm⟩) hnd.1
    · rcases List.mem_cons.1 hmem with h | h
      · exact absurd (List.mem_map.2 ⟨_, hp', by rw [e, ← h]⟩) hnd.1
      · exact ih h hnd.2 hp'


theorem one_phi {s n cap : Nat} {a : Option Addr} {c : Nat → Option Nat} {w0 w : World} {ds : List (Nat × (Value → World → Prop))} {a' : Act} {d : Nat} {x y : Value} (hcl : LooseP.Cls w0.heap.size w0 ds a' w) (hp : (d, phi s n c) ∈ ds) (ha : #[a'.eval (.tmp d), x] = #[tV a n cap s, y]) : IsV w a n cap c := by
  obtain ⟨a2, cap2, h1, h2⟩ := hcl.at hp (last2 ha).1 (by simp [undef, tV])
  obtain ⟨rfl, rfl⟩ : a = a2 ∧ cap = cap2 := by simpa [tV] using h1
  exact h2

theorem vec_call (a0 a1 a2 : Nat) (c0 c1 c2 : Option Nat) (w : World) (f0 : Fr .f32 a0 c0) (f1 : Fr .f32 a1 c1) (f2 : Fr .f32 a2 c2) :
    Calls Try.prog 42 #[.agg #[.float .f32 a0, .float .f32 a1, .float .f32 a2]] w (fun e w'' => ∃ v, e = .returned v ∧ (∃ x y z, v = .agg #[.float .f32 x, .float .f32 y, .float .f32 z] ∧ Fr .f32 x c0 ∧ Fr .f32 y c1 ∧ Fr .f32 z c2) ∧ Below w.heap.size w w'') :=
  (Vec.to_vector a0 a1 a2 c0 c1 c2 w f0 f1 f2).mono fun e w'' ⟨x, y, z, he, hx, hy, hz, hb⟩ => ⟨_, he, ⟨x, y, z, rfl, hx, hy, hz⟩, hb⟩

theorem five_stable {φ χ ξ α β : Value → World → Prop} {d1 d3 d4 d5 d6 : Nat} (h1 : LooseP.Stable φ) (h3 : LooseP.Stable χ) (h4 : LooseP.Stable α) (h5 : LooseP.Stable β) (h6 : LooseP.Stable ξ) : ∀ p ∈ [(d1, φ), (d3, χ), (d4, α), (d5, β), (d6, ξ)], LooseP.Stable p.2 := by
  intro p hp
  simp only [List.mem_cons, List.not_mem_nil, or_false] at hp
  rcases hp with rfl | rfl | rfl | rfl | rfl <;> assumption

theorem fours_stable {χ ξ α β : Value → World → Prop} {d3 d4 d5 d6 : Nat} (h3 : LooseP.Stable χ) (h4 : LooseP.Stable α) (h5 : LooseP.Stable β) (h6 : LooseP.Stable ξ) : ∀ p ∈ [(d3, χ), (d4, α), (d5, β), (d6, ξ)], LooseP.Stable p.2 := by
  intro p hp
  simp only [List.mem_cons, List.not_mem_nil, or_false] at hp
  rcases hp with rfl | rfl | rfl | rfl <;> assumption

/-- Bounds of an own row that leave out another block. -/
theorem isR_narrow {B L : Nat} {w : World} {a : Option Addr} {n cap : Nat} {c : Nat → Option Nat} (h : IsR B L w a n cap c) {S : Nat} {cs : Array Value} {T : TypeId} (hS : w.heap[S]? = some (.cells cs T)) (hne : T ≠ 28) (hBL : B ≤ L) : ∃ B' L', B ≤ B' ∧ B' ≤ L' ∧ L' ≤ L ∧ (S < B' ∨ L' ≤ S) ∧ IsR B' L' w a n cap c := by
  obtain ⟨h2, h3, g, cur, h5, h6, h7⟩ := h
  by_cases h0 : 0 < n
  · obtain ⟨k1, k2, k3, k4⟩ := h5 h0
    have hg : S ≠ g := by
      rintro rfl
      rw [k4] at hS
      simp only [Option.some.injEq, Obj.cells.injEq] at hS
      exact hne hS.2.1.symm
    exact ⟨g, g + 1, k2, by omega, by omega, by omega, h2, h3, g, cur, fun _ => ⟨k1, Nat.le_refl _, by omega, k4⟩, h6, h7⟩
  · exact ⟨B, B, Nat.le_refl _, Nat.le_refl _, hBL, by omega, h2, h3, g, cur, fun h => absurd h h0, h6, h7⟩

end Th
end Go.Proofs.Ytjkkefbfhapblaa
