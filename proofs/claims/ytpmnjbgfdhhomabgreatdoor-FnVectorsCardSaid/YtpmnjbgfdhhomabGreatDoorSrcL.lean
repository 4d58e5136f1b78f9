/- The source of choices that draws read. -/
import Derived.Test.YtpmnjbgfdhhomabGreatDoorSrc
import Derived.Test.YtpmnjbgfdhhomabGreatDoorFList
import Derived.Test.YtpmnjbgfdhhomabGreatDoorBits
import Derived.LoopTactic
import Derived.Deep.QuietTactic
import Derived.BigQuiet
import Derived.Laws.Bits64b
namespace Go.Proofs.YtpmnjbgfdhhomabGreatDoor
set_option linter.unusedSimpArgs false
set_option linter.unusedVariables false
open Go.RowKit
namespace Src
open Fl

theorem own_keeps {G : Nat} {w w' : World} {B e size n : Nat} {v : Value} {xs : List Value} (h : w.ownsRow B e size v n xs) (hk : Keeps G w w') (hG : G < B) : w'.ownsRow B e size v n xs := by
  obtain ⟨h1, h2 | ⟨g, cap, cur, h3, h4, h5, h6⟩⟩ := h
  · exact ⟨h1, .inl h2⟩
  · refine ⟨h1, .inr ⟨g, cap, cur, h3, h4, ?_, h6⟩⟩
    rw [hk.2 g (by omega) (Array.getElem?_eq_some_iff.1 h5).1]
    exact h5

theorem Keeps.grown {G : Nat} {a w w' : World} {row : Option Nat} (h : Keeps G a w) (hg : w.grownBy w' row) (hr : ∀ r, row = some r → a.heap.size ≤ r) (hG : G < a.heap.size) : Keeps G a w' :=
  ⟨h.1.grown hg (by have := h.1.size; omega) (fun r e => by have := hr r e; omega), fun b hb hl => (hg.block b (by have := h.1.size; omega) (fun e => by have := hr b e.symm; omega)).trans (h.2 b hb hl)⟩

theorem IsSrc.grown {G K : Nat} {w w' : World} {row : Option Nat} (h : IsSrc G K w) (hg : w.grownBy w' row) (hr : ∀ r, row = some r → G < r) : IsSrc G K w' := by
  have hl := h.lt
  obtain ⟨a, len, cap, n, seed, h, hn, hs, hB⟩ := h
  exact ⟨a, len, cap, n, seed, by rw [hg.block G hl (fun e => by have := hr G e.symm; omega)]; exact h, hn, hs, hB.keep fun b hb => hg.block b (by omega) (fun e => by have := hr b e.symm; omega)⟩

/-- Drawn numbers. -/
def RetNS (G n : Nat) (w : World) (e : Ending) (w' : World) : Prop :=
  ∃ zs a cap, e = .returned (.slice a n cap) ∧ FList.IsL w' a n cap zs ∧ Keeps G w w'

/-- A new source. -/
theorem newSrc {w : World} {a : Option Addr} {len cap : Nat} (h : IsB w.heap.size w a len cap) : IsSrc w.heap.size 0 (w.alloc (.cells #[.slice a len cap, .int .i64 0, .int .u64 0] 55)) :=
  ⟨a, len, cap, 0, 0, Cut.new_block w _, Nat.le_refl _, by decide, h.keep fun b hb => ((Below.refl w.heap.size w).alloc (Nat.le_refl _) _).block b hb⟩

theorem Keeps.below {w w' : World} {ob : Obj} (h : Keeps w.heap.size (w.alloc ob) w') : Below w.heap.size w w' :=
  ((Below.refl w.heap.size w).alloc (Nat.le_refl _) _).trans h.1

def RetW (w : World) (e : Ending) (w' : World) : Prop := ∃ r : Nat, e = .returned (.float .f32 r) ∧ r < 4294967296 ∧ Below w.heap.size w w'

def RetWS (n : Nat) (w : World) (e : Ending) (w' : World) : Prop :=
  ∃ zs a cap, e = .returned (.slice a n cap) ∧ FList.IsL w' a n cap zs ∧ Below w.heap.size w w'

def RetP (G : Nat) (w : World) (e : Ending) (w' : World) : Prop := e = .returned (.pointer (some ⟨G, 0, none⟩)) ∧ IsSrc G 0 w' ∧ Below G w w'

set_option maxRecDepth 20000 in
theorem from0 (a : Option Addr) (len cap : Nat) (w : World) (h : IsB w.heap.size w a len cap) : Calls Tryz.prog 21 #[.slice a len cap] w (RetP w.heap.size w) := by
  go_enter Tryz.func21, Tryz.ntmps21
  go_wp2
  exact bodyPost_ret (by simp [results, Tryz.results21, go_sem]) rfl ⟨rfl, newSrc h, (Below.refl _ _).alloc (Nat.le_refl _) _⟩

end Src
end Go.Proofs.YtpmnjbgfdhhomabGreatDoor
