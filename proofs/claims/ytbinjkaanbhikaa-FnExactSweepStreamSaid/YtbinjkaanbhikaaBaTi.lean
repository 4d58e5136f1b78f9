/- Whether a list of one basin holds one that is not like a first one. -/
import Derived.Test.YtbinjkaanbhikaaBaTw
namespace Go.Proofs.Ytbinjkaanbhikaa
set_option linter.unusedSimpArgs false
set_option linter.unusedVariables false
open Go.RowKit
set_option maxRecDepth 20000
namespace Ba
open Fl Rate

set_option maxHeartbeats 3200000 in
theorem impl_index1 (p g : Nat) (W H W' H' : Int) (a' : Option Addr) (n' cap' : Nat) (d : Nat → Option Nat) (w : World) (h' : IsY w a' n' cap' d) (A2 : Bool) (hA2 : okB W' H' n' d = A2) (e0 : w.cell? ⟨p, 0, none⟩ = some (.int .i64 W)) (e1 : w.cell? ⟨p, 1, none⟩ = some (.int .i64 H)) (j0 : w.cell? ⟨g, 0, none⟩ = some (.int .i64 W')) (j1 : w.cell? ⟨g, 1, none⟩ = some (.int .i64 H')) (j2 : w.cell? ⟨g, 2, none⟩ = some (.slice a' n' cap')) (B : Bool) (hB : unlike A2 W H W' H' = B) :
    Calls Try.prog 177 #[.slice (some ⟨g, 0, none⟩) 1 1, .func (Fn.func 139) #[] #[.pointer (some ⟨p, 0, none⟩)]] w (RetD (.int .i64 (if B then 0 else -1)) w) := by
  have hp : p < w.heap.size := block_lt_of_cell e0
  have hg : g < w.heap.size := block_lt_of_cell j0
  have HA := Lib.hid (fun w' (hb : Below w.heap.size w w') => impl_alike1 p W H W' H' (.bool true) a' n' cap' d w' (h'.later hb) A2 hA2 ((hb.cell hp).trans e0) ((hb.cell hp).trans e1))
  rw [hB] at HA
  obtain ⟨X, hX⟩ : ∃ X : Int, (if B then (0 : Int) else -1) = X := ⟨_, rfl⟩
  rw [hX]
  have HX := Lib.hid hX
  clear h' hA2 hB e0 e1 hX
  go_enter Try.func177, Try.ntmps177
  go_wp2
  go_loopw [8] (fun i wr => ∃ k : Nat, k ≤ 1 ∧ i = .int .i64 k ∧ (k = 1 → B = false) ∧ Below w.heap.size w wr) (fun i _ => 1 - (intOf i).toNat)
  case atStart => exact ⟨0, by omega, rfl, by intro h; omega, Below.refl _ _⟩
  case round =>
    obtain ⟨k, hk, rfl, hB, hb⟩ := hrel
    have HB := Lib.hid hB
    have HW := Lib.hid hb
    have hz := hb.size
    obtain ⟨hc, hf⟩ := Fl.bcell hb
    clear hb hB
    by_cases hlt : k < 1
    · obtain rfl : k = 0 := by omega
      cases B
      all_goals
        go_wp2_with fail
        refine (HA.out _ HW.out).mono ?_
        rintro e w1 ⟨rfl, hb1⟩
        have HW1 := Lib.hid (HW.out.trans (hb1.mono hz))
        go_wp2
      · go_roundw
        case rel => exact ⟨1, by omega, by go_num, fun _ => by first | rfl | trivial, HW1.out⟩
        case measure => simp [intOf]
      · go_ret
        exact ⟨by rw [← HX.out]; rfl, HW1.out⟩
    · obtain rfl : k = 1 := by omega
      obtain rfl : B = false := HB.out (by first | rfl | trivial)
      go_wp2
      go_ret
      exact ⟨by rw [← HX.out]; rfl, HW.out⟩

theorem impl_contains1 (p g : Nat) (W H W' H' : Int) (a' : Option Addr) (n' cap' : Nat) (d : Nat → Option Nat) (w : World) (h' : IsY w a' n' cap' d) (A2 : Bool) (hA2 : okB W' H' n' d = A2) (e0 : w.cell? ⟨p, 0, none⟩ = some (.int .i64 W)) (e1 : w.cell? ⟨p, 1, none⟩ = some (.int .i64 H)) (j0 : w.cell? ⟨g, 0, none⟩ = some (.int .i64 W')) (j1 : w.cell? ⟨g, 1, none⟩ = some (.int .i64 H')) (j2 : w.cell? ⟨g, 2, none⟩ = some (.slice a' n' cap')) (B : Bool) (hB : unlike A2 W H W' H' = B) :
    Calls Try.prog 138 #[.slice (some ⟨g, 0, none⟩) 1 1, .func (Fn.func 139) #[] #[.pointer (some ⟨p, 0, none⟩)]] w (RetD (.bool B) w) := by
  have HI := Lib.hid (impl_index1 p g W H W' H' a' n' cap' d w h' A2 hA2 e0 e1 j0 j1 j2 B hB)
  clear h' hA2 hB e0 e1 j0 j1 j2
  cases B
  all_goals
    go_enter Try.func138, Try.ntmps138
    go_wp2_with fail
    refine HI.out.mono ?_
    rintro e w1 ⟨rfl, hb1⟩
    go_wp2
    go_ret
    exact ⟨rfl, hb1⟩

set_option maxHeartbeats 3200000 in
theorem impl_alike (g : Nat) (W H W' H' : Int) (a a' : Option Addr) (n n' cap cap' : Nat) (c d : Nat → Option Nat) (w : World) (h : IsY w a n cap c) (h' : IsY w a' n' cap' d) (A A2 : Bool) (hA : okB W H n c = A) (hA2 : okB W' H' n' d = A2) (j0 : w.cell? ⟨g, 0, none⟩ = some (.int .i64 W')) (j1 : w.cell? ⟨g, 1, none⟩ = some (.int .i64 H')) (j2 : w.cell? ⟨g, 2, none⟩ = some (.slice a' n' cap')) : Calls Try.prog 81 #[bV W H a n cap, .slice (some ⟨g, 0, none⟩) 1 1] w (RetD (.bool (((A && A2) && decide (W = W')) && decide (H = H'))) w) := by
  have hg : g < w.heap.size := block_lt_of_cell j0
  have HV := Lib.hid (fun w' (hb : Below w.heap.size w w') => impl_valid W H a n cap c w' (h.later hb) A hA)
  obtain ⟨B, hB⟩ : ∃ B, unlike A2 W H W' H' = B := ⟨_, rfl⟩
  have HC := Lib.hid (fun p w' (hb : Below w.heap.size w w') (e0 : w'.cell? ⟨p, 0, none⟩ = some (.int .i64 W)) (e1 : w'.cell? ⟨p, 1, none⟩ = some (.int .i64 H)) => impl_contains1 p g W H W' H' a' n' cap' d w' (h'.later hb) A2 hA2 e0 e1 ((hb.cell hg).trans j0) ((hb.cell hg).trans j1) ((hb.cell hg).trans j2) B hB)
  have e : (((A && A2) && decide (W = W')) && decide (H = H')) = (A && !B) := by rw [← hB]; unfold unlike; cases A <;> simp
  rw [e]
  clear h h' hA hA2 hB j0 j1 j2 e
  cases A
  · go_enter Try.func81, Try.ntmps81
    go_wp2_with (go_at_call 89; refine (HV.out _ (by (repeat' first | exact Below.refl _ _ | (refine Below.setCell ?_ (by first | omega | (simp; omega) | simp) _) | (refine below_drewN ?_ _) | (refine Below.alloc ?_ (by first | omega | (simp; omega) | simp) _) | (refine Below.trans ?_ (Below.mono (by assumption) (by first | omega | (simp; omega) | simp)))))).mono ?_; rintro e w1 ⟨rfl, hb1⟩)
    go_ret
    exact ⟨rfl, by (repeat' first | exact Below.refl _ _ | (refine Below.setCell ?_ (by first | omega | (simp; omega) | simp) _) | (refine below_drewN ?_ _) | (refine Below.alloc ?_ (by first | omega | (simp; omega) | simp) _) | (refine Below.trans ?_ (Below.mono (by assumption) (by first | omega | (simp; omega) | simp))))⟩
  · cases B
    all_goals
      go_enter Try.func81, Try.ntmps81
      go_wp2_with fail
      refine (HV.out _ (by (repeat' first | exact Below.refl _ _ | (refine Below.setCell ?_ (by first | omega | (simp; omega) | simp) _) | (refine below_drewN ?_ _) | (refine Below.alloc ?_ (by first | omega | (simp; omega) | simp) _) | (refine Below.trans ?_ (Below.mono (by assumption) (by first | omega | (simp; omega) | simp)))))).mono ?_
      rintro e w1 ⟨rfl, hb1⟩
      have hz1 := hb1.size
      try simp only [World.size_alloc, World.size_setCell, World.heap_drewN, World.size_drew] at hz1
      obtain ⟨hc1, hf1⟩ := Fl.bcell hb1
      try simp only [World.heap_drewN, World.cell?_drewN, World.frozen?_drewN] at hc1 hf1
      have g1_0 : w.heap.size < w1.heap.size := by omega
      go_wp2_with fail
      refine (HC.out _ _ (by (repeat' first | exact Below.refl _ _ | (refine Below.setCell ?_ (by first | omega | (simp; omega) | simp) _) | (refine below_drewN ?_ _) | (refine Below.alloc ?_ (by first | omega | (simp; omega) | simp) _) | (refine Below.trans ?_ (Below.mono (by assumption) (by first | omega | (simp; omega) | simp))))) (by rw [hc1 _ _ (by simp)]; simp) (by rw [hc1 _ _ (by simp)]; simp)).mono ?_
      rintro e w2 ⟨rfl, hb2⟩
      go_wp2
      go_ret
      exact ⟨rfl, by (repeat' first | exact Below.refl _ _ | (refine Below.setCell ?_ (by first | omega | (simp; omega) | simp) _) | (refine below_drewN ?_ _) | (refine Below.alloc ?_ (by first | omega | (simp; omega) | simp) _) | (refine Below.trans ?_ (Below.mono (by assumption) (by first | omega | (simp; omega) | simp))))⟩

end Ba
end Go.Proofs.Ytbinjkaanbhikaa
