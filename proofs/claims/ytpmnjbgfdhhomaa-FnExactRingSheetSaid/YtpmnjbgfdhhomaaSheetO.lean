/- Rows that a call makes: points and spins of a sheet. -/
import Derived.Test.YtpmnjbgfdhhomaaSheet
import Derived.Test.YtpmnjbgfdhhomaaLooseS
import Derived.OwnWalk
import Derived.Laws.AppendOwn
import Derived.Lib.SmallJoins
namespace Go.Proofs.Ytpmnjbgfdhhomaa
set_option linter.unusedSimpArgs false
set_option linter.unusedVariables false
open Go.RowKit
namespace Sh
open Fl Rate

/-! ### Rows of the call's own -/

theorem own_heap {w w' : World} {B e size n : Nat} {v : Value} {xs : List Value} (h : w.ownsRow B e size v n xs) (hk : ∀ g, B ≤ g → g < w.heap.size → w'.heap[g]? = w.heap[g]?) : w'.ownsRow B e size v n xs := by
  obtain ⟨h1, h2 | ⟨g, cap, cur, h3, h4, h5, h6⟩⟩ := h
  · exact ⟨h1, .inl h2⟩
  · exact ⟨h1, .inr ⟨g, cap, cur, h3, h4, by rw [hk g h4 (Array.getElem?_eq_some_iff.1 h5).1]; exact h5, h6⟩⟩

theorem own_below {w w' : World} {B e size n : Nat} {v : Value} {xs : List Value} (h : w.ownsRow B e size v n xs) (hb : Below w.heap.size w w') : w'.ownsRow B e size v n xs := own_heap h fun g _ hg => hb.block g hg

theorem set_keep (w : World) {g b : Nat} (i : Nat) (v : Value) (h : b ≠ g) : (w.setCell ⟨g, i, none⟩ v).heap[b]? = w.heap[b]? := by
  simp [World.setCell, Array.getElem?_modify]
  intro e; exact absurd e.symm h

theorem own_set {w : World} {S e size n i : Nat} {v u : Value} {xs : List Value} (h : w.ownsRow (S + 1) e size v n xs) : (w.setCell ⟨S, i, none⟩ u).ownsRow (S + 1) e size v n xs :=
  own_heap h fun g hg _ => set_keep w i u (by omega)

/-- Rows of two types lie in two blocks. -/
theorem ne_own {w : World} {B B' e e' n n' : Nat} {v v' : Value} {xs xs' : List Value} (h : w.ownsRow B e 1 v n xs) (h' : w.ownsRow B' e' 1 v' n' xs') (he : e ≠ e') : v.ownBlock = none ∨ v.ownBlock ≠ v'.ownBlock := by
  obtain ⟨_, ⟨rfl, _⟩ | ⟨g, c, cur, rfl, _, hh, _⟩⟩ := h
  · exact .inl rfl
  obtain ⟨_, ⟨rfl, _⟩ | ⟨g', c', cur', rfl, _, hh', _⟩⟩ := h'
  · exact .inr (by simp [Value.ownBlock])
  refine .inr fun hg => ?_
  obtain rfl : g = g' := by simpa [Value.ownBlock] using hg
  rw [hh] at hh'
  simp only [Option.some.injEq, Obj.cells.injEq] at hh'
  exact he hh'.2.1

/-- A row that the call owns lies above block S. -/
theorem own_ne {w : World} {S e size n : Nat} {v : Value} {xs : List Value} (h : w.ownsRow (S + 1) e size v n xs) {b : Nat} (hb : b ≤ S) : some b ≠ v.ownBlock := by
  obtain ⟨_, ⟨rfl, _⟩ | ⟨g, c, cur, rfl, hg, _⟩⟩ := h
  · simp [Value.ownBlock]
  · simp [Value.ownBlock]; omega

theorem own_ge {w : World} {S e size n : Nat} {v : Value} {xs : List Value} (h : w.ownsRow (S + 1) e size v n xs) (k : Nat) (hk : v.ownBlock = some k) : S ≤ k := by
  obtain ⟨_, ⟨rfl, _⟩ | ⟨g, c, cur, rfl, hg, _⟩⟩ := h
  · simp [Value.ownBlock] at hk
  · simp [Value.ownBlock] at hk; omega

/-- Behind an append to one of the two rows. -/
theorem appended {w2 w4 w5 : World} {S k kk e e' : Nat} {v u : Value} {xs ys : List Value} {T : TypeId} {cells : Array Value} {o : Obj} (hb : w4.heap[S]? = some (.cells cells T)) (hv : w4.ownsRow (S + 1) e 1 v k xs) (hu : w4.ownsRow (S + 1) e' 1 u kk ys) (hB : Below S w2 w4) (hg : (w4.alloc o).grownBy w5 v.ownBlock) (he : e ≠ e') :
    w5.heap[S]? = some (.cells cells T) ∧ w5.ownsRow (S + 1) e' 1 u kk ys ∧ Below S w2 w5 := by
  have hl : S < w4.heap.size := (Array.getElem?_eq_some_iff.1 hb).1
  have hl' : S < (w4.alloc o).heap.size := by simp; omega
  refine ⟨?_, World.ownsRow.kept (World.ownsRow.alloc hu o) hg ?_, Below.grown (Below.alloc hB (Nat.le_of_lt hl) _) hg (Nat.le_of_lt hl') (own_ge hv)⟩
  · rw [hg.block S hl' (own_ne hv (Nat.le_refl _)), Below.heap_alloc _ _ _ hl]
    exact hb
  · exact ne_own hu hv (fun h => he h.symm)

theorem C_info : (Try.prog.info? 40).map (fun i => (i.zero, i.size, i.bytes)) = some (some (.complex .f32 0 0), 1, 8) := by kernel_rfl
theorem S_info : (Try.prog.info? 22).map (fun i => (i.zero, i.size, i.bytes)) = some (some (.float .f32 0), 1, 4) := by kernel_rfl

theorem appended0 {w2 w4 w5 : World} {S k kk e e' : Nat} {v u : Value} {xs ys : List Value} {T : TypeId} {cells : Array Value} (hb : w4.heap[S]? = some (.cells cells T)) (hv : w4.ownsRow (S + 1) e 1 v k xs) (hu : w4.ownsRow (S + 1) e' 1 u kk ys) (hB : Below S w2 w4) (hg : w4.grownBy w5 v.ownBlock) (he : e ≠ e') :
    w5.heap[S]? = some (.cells cells T) ∧ w5.ownsRow (S + 1) e' 1 u kk ys ∧ Below S w2 w5 := by
  have hl : S < w4.heap.size := (Array.getElem?_eq_some_iff.1 hb).1
  refine ⟨?_, World.ownsRow.kept hu hg (ne_own hu hv (fun h => he h.symm)), Below.grown hB hg (Nat.le_of_lt hl) (own_ge hv)⟩
  rw [hg.block S hl (own_ne hv (Nat.le_refl _))]
  exact hb

/-- A new row's cell. -/
theorem row_cell {w : World} {b : Nat} {x : Value} {T : TypeId} (h : w.heap[b]? = some (.cells #[x] T)) : ∀ j u, [x][j]? = some u → w.cell? ((⟨b, 0, none⟩ : Addr).add j) = some u := by
  intro j u hj
  match j, hj with
  | 0, hj => simp at hj; subst hj; simp [Addr.add, World.cell?, h]

theorem new_block (w : World) (o : Obj) : (w.alloc o).heap[w.heap.size]? = some o := by
  show (w.heap.push o)[w.heap.size]? = some o
  simp

theorem cell_one (w : World) (x : Value) (t : TypeId) : ∀ j u, [x][j]? = some u → (w.alloc (.cells #[x] t)).cell? ((⟨w.heap.size, 0, none⟩ : Addr).add j) = some u := by
  intro j u hj
  match j, hj with
  | 0, hj => simp at hj; subst hj; simp [Addr.add]

theorem cell_new (w : World) (x : Value) (t : TypeId) (b : Nat) (hb : b = w.heap.size) : ∀ j u, [x][j]? = some u → (w.alloc (.cells #[x] t)).cell? ((⟨b, 0, none⟩ : Addr).add j) = some u := by
  subst hb; exact cell_one w x t

/-- The points that stand so far. -/
def Pts (k : Nat) (cx cy : Nat → Option Nat) (xs : List Value) : Prop := xs.length = k ∧ ∀ j, j < k → ∃ x y, xs[j]? = some (.complex .f32 x y) ∧ Fr .f32 x (cx j) ∧ Fr .f32 y (cy j)

theorem Pts.next {k : Nat} {cx cy : Nat → Option Nat} {xs : List Value} (h : Pts k cx cy xs) {x y : Nat} (fx : Fr .f32 x (cx k)) (fy : Fr .f32 y (cy k)) : Pts (k + 1) cx cy (xs ++ [.complex .f32 x y]) := by
  obtain ⟨h1, h2⟩ := h
  refine ⟨by simp [h1], fun j hj => ?_⟩
  by_cases hjk : j = k
  · subst hjk
    exact ⟨x, y, by rw [List.getElem?_append_right (by omega), h1, Nat.sub_self]; rfl, fx, fy⟩
  · obtain ⟨x', y', k1, k2⟩ := h2 j (by omega)
    exact ⟨x', y', by rw [List.getElem?_append_left (by omega)]; exact k1, k2⟩

theorem isC_of {w : World} {B n : Nat} {v : Value} {cx cy : Nat → Option Nat} {xs : List Value} (h : w.ownsRow B 40 1 v n xs) (hp : Pts n cx cy xs) (h0 : 0 < n) : ∃ g cap, v = .slice (some ⟨g, 0, none⟩) n cap ∧ B ≤ g ∧ n ≤ cap ∧ cap ≤ maxLen ∧ IsC w g n cx cy := by
  obtain ⟨h1, ⟨_, h⟩ | ⟨g, cap, cur, rfl, hB, hh, hn, hm, hs, ht⟩⟩ := h
  · omega
  refine ⟨g, cap, rfl, hB, hn, hm, cur, hh, by omega, fun i hi => ?_⟩
  obtain ⟨x, y, k1, k2⟩ := hp.2 i hi
  refine ⟨x, y, ?_, k2⟩
  rw [← ht, List.getElem?_take_of_lt (by omega)] at k1
  simpa using k1

theorem isS_of {w : World} {B n s : Nat} {v : Value} (h : w.ownsRow B 22 1 v n (List.replicate n (.float .f32 s))) (h0 : 0 < n) : ∃ g cap, v = .slice (some ⟨g, 0, none⟩) n cap ∧ B ≤ g ∧ n ≤ cap ∧ cap ≤ maxLen ∧ IsS w g n s := by
  obtain ⟨h1, ⟨_, h⟩ | ⟨g, cap, cur, rfl, hB, hh, hn, hm, hs, ht⟩⟩ := h
  · omega
  refine ⟨g, cap, rfl, hB, hn, hm, cur, hh, by omega, fun i hi => ?_⟩
  have k1 : (List.replicate n (Value.float .f32 s))[i]? = some (.float .f32 s) := by rw [List.getElem?_replicate, if_pos hi]
  rw [← ht, List.getElem?_take_of_lt (by omega)] at k1
  simpa using k1

/-- What the calls that make a sheet answer. -/
def RetSh (A : Bool) (n s : Nat) (b : Bool) (cx cy : Nat → Option Nat) (w : World) (e : Ending) (w' : World) : Prop :=
  (A = true ∧ ∃ gp gs cp cs, e = .returned (.tuple #[sheetV gp gs n cp cs b, .bool true]) ∧ gp ≠ gs ∧ w.heap.size ≤ gp ∧ w.heap.size ≤ gs ∧ n ≤ cp ∧ n ≤ cs ∧ cp ≤ maxLen ∧ cs ≤ maxLen ∧ IsC w' gp n cx cy ∧ IsS w' gs n s ∧ Below w.heap.size w w') ∨
  (A = false ∧ e = .returned (.tuple #[noSheet, .bool false]) ∧ Below w.heap.size w w')

end Sh
end Go.Proofs.Ytpmnjbgfdhhomaa
