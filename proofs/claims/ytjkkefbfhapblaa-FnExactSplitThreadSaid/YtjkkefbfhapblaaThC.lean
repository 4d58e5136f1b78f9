/- Threads of their own on both sides, and threads that are given if they are. -/
import Derived.Test.YtjkkefbfhapblaaThV
import Derived.Test.YtjkkefbfhapblaaThL
import Derived.Test.YtjkkefbfhapblaaCopy3
import Derived.ArgAppend
namespace Go.Proofs.Ytjkkefbfhapblaa
set_option linter.unusedSimpArgs false
set_option linter.unusedVariables false
open Go.RowKit
set_option maxRecDepth 20000
namespace Th
open Fl Rate

end Th
namespace LooseP
open Fl Loose
variable {P : Program} {ops : Array Oper} {K : Act → Prop} {a : Act} {o : Oper} {B : Nat} {w0 : World} {ds : List (Nat × (Value → World → Prop))}

/-- An empty row. -/
theorem turn_row0 {ob : Obj} (hst : ∀ p ∈ ds, Stable p.2) (hB : B ≤ w0.heap.size) (hwant : Region.wanted o (yielded ops a.tmps) = true) (hd : off o.dst ds = true)
    (hrun : ∀ w', (execOp a.eval o).run P w' = .ok (.value (.slice (some ⟨w'.heap.size, 0, none⟩) 0 0)) (w'.alloc ob)) (hk : ∀ b, K (a.put o.dst (.slice (some ⟨b, 0, none⟩) 0 0))) :
    turn P ops (Cls B w0 ds) (fun u => ∃ b, u = .slice (some ⟨b, 0, none⟩) 0 0) o K a := by
  refine turn_set hwant ⟨_, 0, rfl⟩ (fun a' w _ hw => ?_) (fun u hu => by obtain ⟨b, rfl⟩ := hu; exact hk b)
  rw [hrun w]
  exact ⟨⟨_, rfl⟩, (hw.later hst hB ((Below.refl _ _).alloc (Nat.le_refl _) _)).put hd _⟩

theorem grown_below {w w' : Go.World} (hg : w.grownBy w' none) : Below w.heap.size w w' := (Below.refl _ _).grown hg (Nat.le_refl _) (fun k h => by cases h)

/-- An append to an empty row: it grows. -/
theorem turn_append0 {φ : Value → World → Prop} {d : Nat} (hst : ∀ p ∈ ds, Stable p.2) (hB : B ≤ w0.heap.size) (hwant : Region.wanted o (yielded ops a.tmps) = true) (hdst : o.dst = some d) (huni : ∀ p ∈ ds, p.1 = d → p.2 = φ)
    (s x : Operand) (t : TypeId) (hop : o.op = Op.call { callee := Callee.builtin Builtin.append, args := #[s, x], argTypes := #[t, t] })
    (e : TypeId) (i : TypeInfo) (z : Value) (size bytes : Nat) (h1 : P.underlying t = some (.slice e)) (h2 : P.info? e = some i) (h3 : i.zero = some z) (h4 : i.size = size) (h5 : i.bytes = bytes) (h6 : z.cells.size = size) (h7 : 0 < size)
    (b : Addr) (hs : a.eval s = .slice (some b) 0 0) (ad : Addr) (m c : Nat) (news : List Value) (hx : a.eval x = .slice (some ad) m c) (hn : news.length = m * size) (hc : ∀ w', Below B w0 w' → ∀ j u, news[j]? = some u → w'.cell? (ad.add j) = some u)
    (hm : 0 < m) (b1 : m ≤ maxLen) (b2 : m * bytes ≤ 140737488355328)
    (hφ : ∀ (v' : Value) (w w' : World), B ≤ w.heap.size → w'.ownsRow w.heap.size e size v' m news → φ v' w') (hk : ∀ g cap, K (a.put (some d) (.slice (some ⟨g, 0, none⟩) m cap))) :
    turn P ops (Cls B w0 ds) (fun u => ∃ g cap, u = .slice (some ⟨g, 0, none⟩) m cap) o K a := by
  refine turn_set hwant ⟨_, 0, 0, rfl⟩ (fun a' w _ hw => ?_) (fun u hu => by obtain ⟨g, cap, rfl⟩ := hu; rw [hdst]; exact hk g cap)
  obtain ⟨v', w', hrun, r1, r2⟩ := run_append_arg_grows (P := P) w t o.type e i z size bytes h1 h2 h3 h4 h5 h6 h7 b 0 0 [] (by simp) (fun j u h => by simp at h) ad m c news hn (hc w hw.1) (by omega) (by omega) (by simpa using b2)
  simp only [List.nil_append, Nat.zero_add] at r1
  obtain ⟨g, cap, rfl⟩ := Joins.ownsRow_form r1 hm
  simp [execOp, hop, resolve, invoke, builtin, hs, hx, hrun, Result.andThen, Upon]
  rw [hdst]
  exact (hw.later hst hB (grown_below r2)).set huni _ (hφ _ _ _ (Nat.le_trans hB hw.1.size) r1)
end LooseP
namespace Th
open Fl Rate

/-- The row of the region's own that an append made. -/
def phiR (B n : Nat) (c : Nat → Option Nat) (v : Value) (w : World) : Prop := ∃ a cap, v = .slice a n cap ∧ IsR B w.heap.size w a n cap c

theorem phiR_stable (B n : Nat) (c : Nat → Option Nat) : LooseP.Stable (phiR B n c) := by
  rintro v w w' ⟨a, cap, h1, h2⟩ hb
  exact ⟨a, cap, h1, (h2.later hb).wider (Nat.le_refl _) hb.size⟩

theorem isR_of {w : World} {B n : Nat} {v : Value} {f : Nat → Option Nat} {xs : List Value} (h : w.ownsRow B 28 3 v n xs) (hp : ∀ i, i < n * 3 → ∃ x, xs[i]? = some (.float .f32 x) ∧ Fr .f32 x (f i)) (h0 : 0 < n) : ∃ a cap, v = .slice a n cap ∧ IsR B w.heap.size w a n cap f := by
  obtain ⟨h1, ⟨_, h⟩ | ⟨g, cap, cur, rfl, hB, hh, hn, hm, hs, ht⟩⟩ := h
  · omega
  refine ⟨some ⟨g, 0, none⟩, cap, rfl, hn, hm, g, cur, fun _ => ⟨rfl, hB, block_lt hh, hh⟩, by omega, fun i hi => ?_⟩
  obtain ⟨x, k1, k2⟩ := hp i hi
  refine ⟨x, ?_, k2⟩
  rw [← ht, List.getElem?_take_of_lt (by omega)] at k1
  simpa using k1

/-- The cells of a list of vectors. -/
theorem cells_v {w : World} {b off n : Nat} {c : Nat → Option Nat} (h6 : ∀ i, i < n * 3 → ∃ x, w.cell? ⟨b, off + i, none⟩ = some (.float .f32 x) ∧ Fr .f32 x (c i)) :
    ∃ xs : List Value, xs.length = n * 3 ∧ (∀ j u, xs[j]? = some u → w.cell? ((⟨b, off, none⟩ : Addr).add j) = some u) ∧ (∀ i, i < n * 3 → ∃ x, xs[i]? = some (.float .f32 x) ∧ Fr .f32 x (c i)) ∧ ∀ u ∈ xs, u.oneCell' = true := by
  obtain ⟨X, hX⟩ := Deep.choose_lt h6
  refine ⟨(List.range (n * 3)).map (fun i => .float .f32 (X i)), by simp, fun j u hu => ?_, fun i hi => ?_, fun u hu => ?_⟩
  · have hj : j < n * 3 := by
      have := (List.getElem?_eq_some_iff.1 hu).1; simpa using this
    simp [hj] at hu
    subst hu
    rw [show (⟨b, off, none⟩ : Addr).add j = ⟨b, off + j, none⟩ by simp [Addr.add_lit]]
    exact (hX j hj).1
  · exact ⟨X i, by simp [hi], (hX i hi).2⟩
  · obtain ⟨i, _, rfl⟩ := List.mem_map.1 hu
    rfl

end Th
end Go.Proofs.Ytjkkefbfhapblaa
