/- The text of a vector. -/
import Derived.Test.YtpmnjbgfdhhomabGreatDoorNTC
import Derived.Test.YtpmnjbgfdhhomabGreatDoorVec
namespace Go.Proofs.YtpmnjbgfdhhomabGreatDoor
set_option linter.unusedSimpArgs false
set_option linter.unusedVariables false
open Go.RowKit
namespace NTL
open Fl _root_.Go.Proofs.YtpmnjbgfdhhomabGreatDoor.Frame Hex

theorem three (w : World) (T : TypeId) (b : Nat) (hb : b = w.heap.size) (x y z : Nat) (wx : (Lit.float .f32 x).wf = true) (wy : (Lit.float .f32 y).wf = true) (wz : (Lit.float .f32 z).wf = true) : IsNums .f32 (w.alloc (.cells #[.float .f32 x, .float .f32 y, .float .f32 z] T)) (some ⟨b, 0, none⟩) 3 3 [x, y, z] := by
  subst hb
  refine ⟨rfl, Nat.le_refl _, by unfold maxLen; omega, ?_, w.heap.size, 0, fun _ => rfl, fun i hi => ?_⟩
  · intro n hn
    simp only [List.mem_cons, List.mem_nil_iff, or_false] at hn
    rcases hn with rfl | rfl | rfl <;> assumption
  · have : i = 0 ∨ i = 1 ∨ i = 2 := by omega
    rcases this with rfl | rfl | rfl <;> simp

set_option maxRecDepth 20000 in
theorem impl_vectortext (x y z : Nat) (wx : (Lit.float .f32 x).wf = true) (wy : (Lit.float .f32 y).wf = true) (wz : (Lit.float .f32 z).wf = true) (w : World) (h64 : w.cell? ⟨6, 15, none⟩ = some (.int .u8 4)) :
    Calls Tryz.prog 18 #[.agg #[.float .f32 x, .float .f32 y, .float .f32 z]] w fun e w' => e = .returned (.string ⟨(txt [x, y, z]).toArray⟩) ∧ Below w.heap.size w w' := by
  have HT := Lib.hid (fun w' (hb : Below w.heap.size w w') => show w'.cell? ⟨6, 15, none⟩ = some (.int .u8 4) by rw [hb.cell (block_lt_of_cell h64)]; exact h64)
  clear h64
  go_enter Tryz.func18, Tryz.ntmps18
  go_wp2_with fail
  refine (impl_numberstext _ _ _ _ _ (three _ _ _ (by simp) x y z wx wy wz) (HT.out _ (by (repeat' first | exact Below.refl _ _ | (refine Below.setCell ?_ (by first | omega | (simp; omega) | simp) _) | (refine below_drewN ?_ _) | (refine Below.alloc ?_ (by first | omega | (simp; omega) | simp) _) | (refine Below.trans ?_ (Below.mono (by assumption) (by first | omega | (simp; omega) | simp))))))).mono ?_
  rintro e w1 ⟨rfl, hb1⟩
  go_wp2
  go_ret
  refine ⟨rfl, ?_⟩
  have hz1 := hb1.size
  try simp only [World.size_alloc, World.size_setCell, World.heap_drewN, World.size_drew] at hz1
  exact (by (repeat' first | exact Below.refl _ _ | (refine Below.setCell ?_ (by first | omega | (simp; omega) | simp) _) | (refine below_drewN ?_ _) | (refine Below.alloc ?_ (by first | omega | (simp; omega) | simp) _) | (refine Below.trans ?_ (Below.mono (by assumption) (by first | omega | (simp; omega) | simp)))))

theorem wf_of {x : Nat} {c : Option Nat} (h : Fr .f32 x c) : (Lit.float .f32 x).wf = true := by
  have h2 : x < 4294967296 := h.2
  simpa [Lit.wf] using h2

theorem txt_cl {x y z x' y' z' : Nat} (hx : cl .f32 x = cl .f32 x') (hy : cl .f32 y = cl .f32 y') (hz : cl .f32 z = cl .f32 z') : txt [x, y, z] = txt [x', y', z'] := by
  have e : ∀ a b, cl .f32 a = cl .f32 b → hexz a = hexz b := fun a b h => by rw [hexz, hexz, nb, nb, h]
  unfold txt
  rw [if_neg (by simp), if_neg (by simp)]
  simp only [List.map_cons, List.map_nil, e _ _ hx, e _ _ hy, e _ _ hz]
end NTL
end Go.Proofs.YtpmnjbgfdhhomabGreatDoor
