/- Two basins of a region, one of which is stored. -/
import Derived.Test.YtbinjkaanbhikaaBaTG
import Derived.Test.YtbinjkaanbhikaaLooseL
namespace Go.Proofs.Ytbinjkaanbhikaa
set_option linter.unusedSimpArgs false
set_option linter.unusedVariables false
open Go.RowKit
set_option maxRecDepth 20000
namespace Ba
open Fl Rate

def phiS (B : Nat) (W H : Int) (n : Nat) (f : Nat → Option Nat) (v : Value) (w : World) : Prop := ∃ S a cap L, v = .pointer (some ⟨S, 0, none⟩) ∧ B ≤ S ∧ L ≤ w.heap.size ∧ w.heap[S]? = some (.cells #[.int .i64 W, .int .i64 H, .slice a n cap] 40) ∧ IsO B L w a n cap f

theorem phiS_stable (B : Nat) (W H : Int) (n : Nat) (f : Nat → Option Nat) : LooseP.Stable (phiS B W H n f) := by
  rintro v w w' ⟨S, a, cap, L, h1, h2, h3, h4, h5⟩ hb
  exact ⟨S, a, cap, L, h1, h2, Nat.le_trans h3 hb.size, keep_block hb h4, h5.later hb⟩

/-- The store of a basin that a region has made into a box that it has made. -/
theorem store_phi {P : Program} {o : Oper} {a a' : Act} {B d e n : Nat} {w0 w : World} {W H : Int} {f : Nat → Option Nat} {ds : List (Nat × (Value → World → Prop))} {S : Nat} {av : Option Addr} {cap : Nat}
    (hB : (d, phiB B) ∈ ds) (hO : (e, phiO B W H n f) ∈ ds) (h1 : a'.eval (.tmp d) = .pointer (some ⟨S, 0, none⟩)) (h2 : a'.eval (.tmp e) = bV W H av n cap) (hc : LooseP.Cls B w0 ds a' w)
    (hrun : ∀ w' : World, w'.cell? ⟨S, 0, none⟩ = some (.int .i64 0) → w'.cell? ⟨S, 1, none⟩ = some (.int .i64 0) → w'.cell? ⟨S, 2, none⟩ = some (.slice none 0 0) → w'.frozen? ⟨S, 0, none⟩ = false → w'.frozen? ⟨S, 1, none⟩ = false → w'.frozen? ⟨S, 2, none⟩ = false →
      (execOp a.eval o).run P w' = .ok .skip (((w'.setCell ⟨S, 0, none⟩ (.int .i64 W)).setCell ⟨S, 1, none⟩ (.int .i64 H)).setCell ⟨S, 2, none⟩ (.slice av n cap))) :
    ∃ w1, (execOp a.eval o).run P w = .ok .skip w1 ∧ LooseP.Cls B w0 [(d, phiS B W H n f)] a' w1 := by
  obtain ⟨S1, hS1, hSB, hq⟩ := hc.at hB h1 (by simp [undef])
  obtain rfl : S = S1 := by simpa using hS1
  obtain ⟨a2, cap2, L, he, hL, ho⟩ := hc.at hO h2 (by simp [undef, bV])
  obtain ⟨rfl, rfl⟩ : av = a2 ∧ cap = cap2 := by simpa using he
  refine ⟨_, hrun w ((cells_of (i := 0) hq).trans rfl) ((cells_of (i := 1) hq).trans rfl) ((cells_of (i := 2) hq).trans rfl) (free_of hq 0) (free_of hq 1) (free_of hq 2), Below.setCell (Below.setCell (Below.setCell hc.1 hSB (p := ⟨S, 0, none⟩) _) hSB (p := ⟨S, 1, none⟩) _) hSB (p := ⟨S, 2, none⟩) _, ?_⟩
  intro p hp v hv hn
  obtain rfl := List.mem_singleton.1 hp
  have hv' : v = .pointer (some ⟨S, 0, none⟩) := by
    simp only [Act.eval, Array.getD_eq_getD_getElem?] at h1
    rw [hv] at h1
    exact h1
  subst hv'
  exact ⟨S, av, cap, L, rfl, hSB, by simpa using hL, by simpa using setCell_block (setCell_block (setCell_block hq 0 (.int .i64 W)) 1 (.int .i64 H)) 2 (.slice av n cap), isO_set (isO_set (isO_set ho hq (by decide)) (setCell_block hq 0 _) (by decide)) (setCell_block (setCell_block hq 0 _) 1 _) (by decide)⟩
end Ba
end Go.Proofs.Ytbinjkaanbhikaa
