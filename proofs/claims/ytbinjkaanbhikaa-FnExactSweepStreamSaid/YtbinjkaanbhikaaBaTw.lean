/- Basins of equal sizes. -/
import Derived.Test.YtbinjkaanbhikaaBaMi
import Derived.Test.YtbinjkaanbhikaaLooseP
import Derived.Test.YtbinjkaanbhikaaBaG
namespace Go.Proofs.Ytbinjkaanbhikaa
set_option linter.unusedSimpArgs false
set_option linter.unusedVariables false
open Go.RowKit
set_option maxRecDepth 20000
namespace LooseP
open Fl Loose
theorem none_stable : ∀ p ∈ ([] : List (Nat × (Value → World → Prop))), Stable p.2 := by intro p hp; cases hp
end LooseP
namespace Ba
open Fl Rate

set_option maxHeartbeats 6400000 in
theorem spec_two (G G' : Nat) (W H W' H' : Int) (a a' : Option Addr) (n n' cap cap' : Nat) (c d : Nat → Option Nat) (w : World) (h : IsY w a n cap c) (h' : IsY w a' n' cap' d) (A A2 : Bool) (hA : okB W H n c = A) (hA2 : okB W' H' n' d = A2) (e0 : w.cell? ⟨G, 0, none⟩ = some (.int .i64 W)) (e1 : w.cell? ⟨G, 1, none⟩ = some (.int .i64 H)) (e2 : w.cell? ⟨G, 2, none⟩ = some (.slice a n cap)) (i0 : w.cell? ⟨G', 0, none⟩ = some (.int .i64 W')) (i1 : w.cell? ⟨G', 1, none⟩ = some (.int .i64 H')) (i2 : w.cell? ⟨G', 2, none⟩ = some (.slice a' n' cap')) :
    Calls Try.prog 78 #[.pointer (some ⟨G, 0, none⟩), .pointer (some ⟨G', 0, none⟩)] w (RetD (.bool (((A && A2) && decide (W = W')) && decide (H = H'))) w) := by
  have hG : G < w.heap.size := block_lt_of_cell e0
  have hG' : G' < w.heap.size := block_lt_of_cell i0
  have HV := Lib.hid (fun w' (hb : Below w.heap.size w w') => spec_is G W H a n cap c w' ((hb.cell hG).trans e0) ((hb.cell hG).trans e1) ((hb.cell hG).trans e2) (h.later hb) A hA)
  have HV2 := Lib.hid (fun w' (hb : Below w.heap.size w w') => spec_is G' W' H' a' n' cap' d w' ((hb.cell hG').trans i0) ((hb.cell hG').trans i1) ((hb.cell hG').trans i2) (h'.later hb) A2 hA2)
  clear h h' hA hA2 e2 i2
  by_cases h1 : W = W'
  all_goals by_cases h2 : H = H'
  all_goals
    first | have d1 : (W == W') = true := by simpa using h1 | have d1 : (W == W') = false := by simpa using h1
    first | have d2 : (H == H') = true := by simpa using h2 | have d2 : (H == H') = false := by simpa using h2
    first | rw [decide_eq_true h1] | rw [decide_eq_false h1]
    first | rw [decide_eq_true h2] | rw [decide_eq_false h2]
    have HH := Lib.hid (And.intro h1 h2)
    clear h1 h2
    cases A
    all_goals cases A2
    · go_enter Try.func78, Try.ntmps78
      go_wp2
      refine LooseP.wp_region 28 [] (by kernel_rfl) (by kernel_rfl) (by intro p hp; cases hp) ?_
      apply Exists.intro
      simp only [List.take_succ_cons, List.take_zero, List.drop_succ_cons, List.drop_zero]
      repeat (first | (apply Loose.walk_step; intro K hK; apply LooseP.turn_value (hwant := rfl) (hd := rfl); (focus (intro w' hw'; obtain ⟨hc, hf⟩ := Fl.bcell hw'; go_simp; first | done | rfl | exact ⟨rfl, rfl⟩)); go_simp; refine hK _ ?_; clear hK K) | (apply Loose.walk_step; intro K hK; apply LooseP.turn_skip (hwant := rfl) (hd := rfl); go_simp; refine hK _ ?_; clear hK K) | (apply Loose.walk_step; intro K hK; refine LooseP.turn_call (f := 85) (args := fun a => #[a.eval (.tmp 5)]) (V := fun v => v = .bool false) LooseP.none_stable (Nat.le_refl _) rfl rfl (by intro a' w'; go_simp; first | done | rfl | exact ⟨rfl, rfl⟩) ⟨_, rfl⟩ ?_ ?_; (focus (intro a' w' ha hcl; go_simp; exact (HV.out w' hcl.1).mono fun e w'' ⟨he, hb⟩ => ⟨_, he, rfl, hb⟩)); (intro v hv; obtain rfl := hv; go_simp; refine hK _ ?_; clear hK K)) | (apply Loose.walk_step; intro K hK; refine LooseP.turn_call (f := 85) (args := fun a => #[a.eval (.tmp 8)]) (V := fun v => v = .bool false) LooseP.none_stable (Nat.le_refl _) rfl rfl (by intro a' w'; go_simp; first | done | rfl | exact ⟨rfl, rfl⟩) ⟨_, rfl⟩ ?_ ?_; (focus (intro a' w' ha hcl; go_simp; exact (HV2.out w' hcl.1).mono fun e w'' ⟨he, hb⟩ => ⟨_, he, rfl, hb⟩)); (intro v hv; obtain rfl := hv; go_simp; refine hK _ ?_; clear hK K)))
      refine Loose.walk_nil ?_
      intro w5 hcls5
      have hb5 := hcls5.1
      clear hcls5
      go_wp2
      go_ret
      exact ⟨rfl, hb5⟩
    · go_enter Try.func78, Try.ntmps78
      go_wp2
      refine LooseP.wp_region 28 [] (by kernel_rfl) (by kernel_rfl) (by intro p hp; cases hp) ?_
      apply Exists.intro
      simp only [List.take_succ_cons, List.take_zero, List.drop_succ_cons, List.drop_zero]
      repeat (first | (apply Loose.walk_step; intro K hK; apply LooseP.turn_value (hwant := rfl) (hd := rfl); (focus (intro w' hw'; obtain ⟨hc, hf⟩ := Fl.bcell hw'; go_simp; first | done | rfl | exact ⟨rfl, rfl⟩)); go_simp; refine hK _ ?_; clear hK K) | (apply Loose.walk_step; intro K hK; apply LooseP.turn_skip (hwant := rfl) (hd := rfl); go_simp; refine hK _ ?_; clear hK K) | (apply Loose.walk_step; intro K hK; refine LooseP.turn_call (f := 85) (args := fun a => #[a.eval (.tmp 5)]) (V := fun v => v = .bool false) LooseP.none_stable (Nat.le_refl _) rfl rfl (by intro a' w'; go_simp; first | done | rfl | exact ⟨rfl, rfl⟩) ⟨_, rfl⟩ ?_ ?_; (focus (intro a' w' ha hcl; go_simp; exact (HV.out w' hcl.1).mono fun e w'' ⟨he, hb⟩ => ⟨_, he, rfl, hb⟩)); (intro v hv; obtain rfl := hv; go_simp; refine hK _ ?_; clear hK K)) | (apply Loose.walk_step; intro K hK; refine LooseP.turn_call (f := 85) (args := fun a => #[a.eval (.tmp 8)]) (V := fun v => v = .bool true) LooseP.none_stable (Nat.le_refl _) rfl rfl (by intro a' w'; go_simp; first | done | rfl | exact ⟨rfl, rfl⟩) ⟨_, rfl⟩ ?_ ?_; (focus (intro a' w' ha hcl; go_simp; exact (HV2.out w' hcl.1).mono fun e w'' ⟨he, hb⟩ => ⟨_, he, rfl, hb⟩)); (intro v hv; obtain rfl := hv; go_simp; refine hK _ ?_; clear hK K)))
      refine Loose.walk_nil ?_
      intro w5 hcls5
      have hb5 := hcls5.1
      clear hcls5
      go_wp2
      go_ret
      exact ⟨rfl, hb5⟩
    · go_enter Try.func78, Try.ntmps78
      go_wp2
      refine LooseP.wp_region 28 [] (by kernel_rfl) (by kernel_rfl) (by intro p hp; cases hp) ?_
      apply Exists.intro
      simp only [List.take_succ_cons, List.take_zero, List.drop_succ_cons, List.drop_zero]
      repeat (first | (apply Loose.walk_step; intro K hK; apply LooseP.turn_value (hwant := rfl) (hd := rfl); (focus (intro w' hw'; obtain ⟨hc, hf⟩ := Fl.bcell hw'; go_simp; first | done | rfl | exact ⟨rfl, rfl⟩)); go_simp; refine hK _ ?_; clear hK K) | (apply Loose.walk_step; intro K hK; apply LooseP.turn_skip (hwant := rfl) (hd := rfl); go_simp; refine hK _ ?_; clear hK K) | (apply Loose.walk_step; intro K hK; refine LooseP.turn_call (f := 85) (args := fun a => #[a.eval (.tmp 5)]) (V := fun v => v = .bool true) LooseP.none_stable (Nat.le_refl _) rfl rfl (by intro a' w'; go_simp; first | done | rfl | exact ⟨rfl, rfl⟩) ⟨_, rfl⟩ ?_ ?_; (focus (intro a' w' ha hcl; go_simp; exact (HV.out w' hcl.1).mono fun e w'' ⟨he, hb⟩ => ⟨_, he, rfl, hb⟩)); (intro v hv; obtain rfl := hv; go_simp; refine hK _ ?_; clear hK K)) | (apply Loose.walk_step; intro K hK; refine LooseP.turn_call (f := 85) (args := fun a => #[a.eval (.tmp 8)]) (V := fun v => v = .bool false) LooseP.none_stable (Nat.le_refl _) rfl rfl (by intro a' w'; go_simp; first | done | rfl | exact ⟨rfl, rfl⟩) ⟨_, rfl⟩ ?_ ?_; (focus (intro a' w' ha hcl; go_simp; exact (HV2.out w' hcl.1).mono fun e w'' ⟨he, hb⟩ => ⟨_, he, rfl, hb⟩)); (intro v hv; obtain rfl := hv; go_simp; refine hK _ ?_; clear hK K)))
      refine Loose.walk_nil ?_
      intro w5 hcls5
      have hb5 := hcls5.1
      clear hcls5
      go_wp2
      go_ret
      exact ⟨rfl, hb5⟩
    · go_enter Try.func78, Try.ntmps78
      go_wp2
      refine LooseP.wp_region 28 [] (by kernel_rfl) (by kernel_rfl) (by intro p hp; cases hp) ?_
      apply Exists.intro
      simp only [List.take_succ_cons, List.take_zero, List.drop_succ_cons, List.drop_zero]
      repeat (first | (apply Loose.walk_step; intro K hK; apply LooseP.turn_value (hwant := rfl) (hd := rfl); (focus (intro w' hw'; obtain ⟨hc, hf⟩ := Fl.bcell hw'; go_simp; first | done | rfl | exact ⟨rfl, rfl⟩)); go_simp; refine hK _ ?_; clear hK K) | (apply Loose.walk_step; intro K hK; apply LooseP.turn_skip (hwant := rfl) (hd := rfl); go_simp; refine hK _ ?_; clear hK K) | (apply Loose.walk_step; intro K hK; refine LooseP.turn_call (f := 85) (args := fun a => #[a.eval (.tmp 5)]) (V := fun v => v = .bool true) LooseP.none_stable (Nat.le_refl _) rfl rfl (by intro a' w'; go_simp; first | done | rfl | exact ⟨rfl, rfl⟩) ⟨_, rfl⟩ ?_ ?_; (focus (intro a' w' ha hcl; go_simp; exact (HV.out w' hcl.1).mono fun e w'' ⟨he, hb⟩ => ⟨_, he, rfl, hb⟩)); (intro v hv; obtain rfl := hv; go_simp; refine hK _ ?_; clear hK K)) | (apply Loose.walk_step; intro K hK; refine LooseP.turn_call (f := 85) (args := fun a => #[a.eval (.tmp 8)]) (V := fun v => v = .bool true) LooseP.none_stable (Nat.le_refl _) rfl rfl (by intro a' w'; go_simp; first | done | rfl | exact ⟨rfl, rfl⟩) ⟨_, rfl⟩ ?_ ?_; (focus (intro a' w' ha hcl; go_simp; exact (HV2.out w' hcl.1).mono fun e w'' ⟨he, hb⟩ => ⟨_, he, rfl, hb⟩)); (intro v hv; obtain rfl := hv; go_simp; refine hK _ ?_; clear hK K)))
      refine Loose.walk_nil ?_
      intro w5 hcls5
      have hb5 := hcls5.1
      clear hcls5
      go_wp2
      go_ret
      exact ⟨rfl, hb5⟩


/-- Another basin is not like a first one. -/
def unlike (A2 : Bool) (W H W' H' : Int) : Bool := !((A2 && decide (W = W')) && decide (H = H'))

set_option maxHeartbeats 3200000 in
theorem impl_alike1 (G : Nat) (W H W' H' : Int) (v : Value) (a' : Option Addr) (n' cap' : Nat) (d : Nat → Option Nat) (w : World) (h' : IsY w a' n' cap' d) (A2 : Bool) (hA2 : okB W' H' n' d = A2) (e0 : w.cell? ⟨G, 0, none⟩ = some (.int .i64 W)) (e1 : w.cell? ⟨G, 1, none⟩ = some (.int .i64 H)) :
    Calls Try.prog 139 #[bV W' H' a' n' cap', .pointer (some ⟨G, 0, none⟩)] w (RetD (.bool (unlike A2 W H W' H')) w) := by
  have hG : G < w.heap.size := block_lt_of_cell e0
  have HV := Lib.hid (fun w' (hb : Below w.heap.size w w') => impl_valid W' H' a' n' cap' d w' (h'.later hb) A2 hA2)
  clear h' hA2
  unfold unlike
  by_cases h1 : W = W'
  all_goals by_cases h2 : H = H'
  all_goals
    first | have d1 : (W' != W) = false := bne_eq_false_iff_eq.2 (Eq.symm h1) | have d1 : (W' != W) = true := bne_iff_ne.2 (fun e => h1 (Eq.symm e))
    first | have d2 : (H' != H) = false := bne_eq_false_iff_eq.2 (Eq.symm h2) | have d2 : (H' != H) = true := bne_iff_ne.2 (fun e => h2 (Eq.symm e))
    first | rw [decide_eq_true h1] | rw [decide_eq_false h1]
    first | rw [decide_eq_true h2] | rw [decide_eq_false h2]
    have HH := Lib.hid (And.intro h1 h2)
    clear h1 h2
    cases A2
  all_goals
    go_enter Try.func139, Try.ntmps139
    go_wp2_with fail
    refine (HV.out _ (by (repeat' first | exact Below.refl _ _ | (refine Below.setCell ?_ (by first | omega | (simp; omega) | simp) _) | (refine below_drewN ?_ _) | (refine Below.alloc ?_ (by first | omega | (simp; omega) | simp) _) | (refine Below.trans ?_ (Below.mono (by assumption) (by first | omega | (simp; omega) | simp)))))).mono ?_
    rintro e w1 ⟨rfl, hb1⟩
    have hz1 := hb1.size
    try simp only [World.size_alloc, World.size_setCell, World.heap_drewN, World.size_drew] at hz1
    obtain ⟨hc1, hf1⟩ := Fl.bcell hb1
    try simp only [World.heap_drewN, World.cell?_drewN, World.frozen?_drewN] at hc1 hf1
    have g1_0 : w.heap.size < w1.heap.size := by omega
    have hG1 : G < w1.heap.size := by omega
    go_wp2
    go_ret
    exact ⟨rfl, by (repeat' first | exact Below.refl _ _ | (refine Below.setCell ?_ (by first | omega | (simp; omega) | simp) _) | (refine below_drewN ?_ _) | (refine Below.alloc ?_ (by first | omega | (simp; omega) | simp) _) | (refine Below.trans ?_ (Below.mono (by assumption) (by first | omega | (simp; omega) | simp))))⟩

end Ba
end Go.Proofs.Ytbinjkaanbhikaa
