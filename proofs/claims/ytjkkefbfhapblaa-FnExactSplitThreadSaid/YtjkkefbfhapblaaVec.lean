/- Vectors of three numbers: what the functions return, number by number, as classes. -/
import Derived.Test.YtjkkefbfhapblaaRows
import Derived.Test.YtjkkefbfhapblaaRet
import Derived.Test.YtjkkefbfhapblaaSame
namespace Go.Proofs.Ytjkkefbfhapblaa
set_option linter.unusedSimpArgs false
set_option linter.unusedVariables false
set_option maxRecDepth 20000
open Go.RowKit
namespace Vec
open Fl

theorem product (x y : Nat) (c d : Option Nat) (w : World) (f0 : Fr .f32 x c) (f1 : Fr .f32 y d) :
    Calls Try.prog 92 #[.float .f32 x, .float .f32 y] w (RetF .f32 (op2 .mul .f32 c d) w) := by
  go_enter Try.func92, Try.ntmps92
  go_wp2_with (first | (refine Fl.wpList_fl rfl rfl rfl rfl rfl (by assumption) (by assumption) ?_; intro r n hr))
  go_ret
  exact ⟨_, rfl, by assumption, below_drewN (Below.refl _ _) _⟩

set_option maxHeartbeats 400000 in
theorem to_vector (a0 a1 a2 : Nat) (c0 c1 c2 : Option Nat) (w : World) (f0 : Fr .f32 a0 c0) (f1 : Fr .f32 a1 c1) (f2 : Fr .f32 a2 c2) :
    Calls Try.prog 42 #[.agg #[.float .f32 a0, .float .f32 a1, .float .f32 a2]] w (RetV c0 c1 c2 w) := by
  go_enter Try.func42, Try.ntmps42
  go_wp2_with (first | (refine Fl.wpList_fl rfl rfl rfl rfl rfl (by assumption) (by assumption) ?_; intro r n hr))
  refine bodyPost_ret ?ohr rfl ⟨?ox, ?oy, ?oz, rfl, ?of0, ?of1, ?of2, ?obel⟩
  case of0 => assumption
  case of1 => assumption
  case of2 => assumption
  case ohr => simp [results, Try.results42, go_sem, *]
  case obel => (repeat' first | exact Below.refl _ _ | (refine Below.setCell ?_ (by first | omega | (simp; omega) | simp) _) | (refine below_drewN ?_ _) | (refine Below.alloc ?_ (by first | omega | (simp; omega) | simp) _) | (refine Below.trans ?_ (Below.mono (by assumption) (by first | omega | (simp; omega) | simp))))

set_option maxHeartbeats 400000 in
theorem spec_add (a0 a1 a2 b0 b1 b2 : Nat) (c0 c1 c2 d0 d1 d2 : Option Nat) (w : World) (f0 : Fr .f32 a0 c0) (f1 : Fr .f32 a1 c1) (f2 : Fr .f32 a2 c2) (g0 : Fr .f32 b0 d0) (g1 : Fr .f32 b1 d1) (g2 : Fr .f32 b2 d2) :
    Calls Try.prog 88 #[.agg #[.float .f32 a0, .float .f32 a1, .float .f32 a2], .agg #[.float .f32 b0, .float .f32 b1, .float .f32 b2]] w (RetV (op2 .add .f32 c0 d0) (op2 .add .f32 c1 d1) (op2 .add .f32 c2 d2) w) := by
  go_enter Try.func88, Try.ntmps88
  go_wp2_with (first | (refine Fl.wpList_fl rfl rfl rfl rfl rfl (by assumption) (by assumption) ?_; intro r n hr))
  refine bodyPost_ret ?ohr rfl ⟨?ox, ?oy, ?oz, rfl, ?of0, ?of1, ?of2, ?obel⟩
  case of0 => assumption
  case of1 => assumption
  case of2 => assumption
  case ohr => simp [results, Try.results88, go_sem, *]
  case obel => (repeat' first | exact Below.refl _ _ | (refine Below.setCell ?_ (by first | omega | (simp; omega) | simp) _) | (refine below_drewN ?_ _) | (refine Below.alloc ?_ (by first | omega | (simp; omega) | simp) _) | (refine Below.trans ?_ (Below.mono (by assumption) (by first | omega | (simp; omega) | simp))))

set_option maxHeartbeats 400000 in
theorem impl_add (a0 a1 a2 b0 b1 b2 : Nat) (c0 c1 c2 d0 d1 d2 : Option Nat) (w : World) (f0 : Fr .f32 a0 c0) (f1 : Fr .f32 a1 c1) (f2 : Fr .f32 a2 c2) (g0 : Fr .f32 b0 d0) (g1 : Fr .f32 b1 d1) (g2 : Fr .f32 b2 d2) :
    Calls Try.prog 121 #[.agg #[.float .f32 a0, .float .f32 a1, .float .f32 a2], .agg #[.float .f32 b0, .float .f32 b1, .float .f32 b2]] w (RetV (op2 .add .f32 c0 d0) (op2 .add .f32 c1 d1) (op2 .add .f32 c2 d2) w) := by
  go_enter Try.func121, Try.ntmps121
  go_wp2_with (first | (refine Fl.wpList_fl rfl rfl rfl rfl rfl (by assumption) (by assumption) ?_; intro r n hr))
  refine bodyPost_ret ?ohr rfl ⟨?ox, ?oy, ?oz, rfl, ?of0, ?of1, ?of2, ?obel⟩
  case of0 => assumption
  case of1 => assumption
  case of2 => assumption
  case ohr => simp [results, Try.results121, go_sem, *]
  case obel => (repeat' first | exact Below.refl _ _ | (refine Below.setCell ?_ (by first | omega | (simp; omega) | simp) _) | (refine below_drewN ?_ _) | (refine Below.alloc ?_ (by first | omega | (simp; omega) | simp) _) | (refine Below.trans ?_ (Below.mono (by assumption) (by first | omega | (simp; omega) | simp))))

set_option maxHeartbeats 400000 in
theorem spec_less (a0 a1 a2 b0 b1 b2 : Nat) (c0 c1 c2 d0 d1 d2 : Option Nat) (w : World) (f0 : Fr .f32 a0 c0) (f1 : Fr .f32 a1 c1) (f2 : Fr .f32 a2 c2) (g0 : Fr .f32 b0 d0) (g1 : Fr .f32 b1 d1) (g2 : Fr .f32 b2 d2) :
    Calls Try.prog 63 #[.agg #[.float .f32 a0, .float .f32 a1, .float .f32 a2], .agg #[.float .f32 b0, .float .f32 b1, .float .f32 b2]] w (RetV (op2 .sub .f32 c0 d0) (op2 .sub .f32 c1 d1) (op2 .sub .f32 c2 d2) w) := by
  go_enter Try.func63, Try.ntmps63
  go_wp2_with (first | (refine Fl.wpList_fl rfl rfl rfl rfl rfl (by assumption) (by assumption) ?_; intro r n hr))
  refine bodyPost_ret ?ohr rfl ⟨?ox, ?oy, ?oz, rfl, ?of0, ?of1, ?of2, ?obel⟩
  case of0 => assumption
  case of1 => assumption
  case of2 => assumption
  case ohr => simp [results, Try.results63, go_sem, *]
  case obel => (repeat' first | exact Below.refl _ _ | (refine Below.setCell ?_ (by first | omega | (simp; omega) | simp) _) | (refine below_drewN ?_ _) | (refine Below.alloc ?_ (by first | omega | (simp; omega) | simp) _) | (refine Below.trans ?_ (Below.mono (by assumption) (by first | omega | (simp; omega) | simp))))

set_option maxHeartbeats 400000 in
theorem impl_less (a0 a1 a2 b0 b1 b2 : Nat) (c0 c1 c2 d0 d1 d2 : Option Nat) (w : World) (f0 : Fr .f32 a0 c0) (f1 : Fr .f32 a1 c1) (f2 : Fr .f32 a2 c2) (g0 : Fr .f32 b0 d0) (g1 : Fr .f32 b1 d1) (g2 : Fr .f32 b2 d2) :
    Calls Try.prog 67 #[.agg #[.float .f32 a0, .float .f32 a1, .float .f32 a2], .agg #[.float .f32 b0, .float .f32 b1, .float .f32 b2]] w (RetV (op2 .sub .f32 c0 d0) (op2 .sub .f32 c1 d1) (op2 .sub .f32 c2 d2) w) := by
  go_enter Try.func67, Try.ntmps67
  go_wp2_with (first | (refine Fl.wpList_fl rfl rfl rfl rfl rfl (by assumption) (by assumption) ?_; intro r n hr))
  refine bodyPost_ret ?ohr rfl ⟨?ox, ?oy, ?oz, rfl, ?of0, ?of1, ?of2, ?obel⟩
  case of0 => assumption
  case of1 => assumption
  case of2 => assumption
  case ohr => simp [results, Try.results67, go_sem, *]
  case obel => (repeat' first | exact Below.refl _ _ | (refine Below.setCell ?_ (by first | omega | (simp; omega) | simp) _) | (refine below_drewN ?_ _) | (refine Below.alloc ?_ (by first | omega | (simp; omega) | simp) _) | (refine Below.trans ?_ (Below.mono (by assumption) (by first | omega | (simp; omega) | simp))))

set_option maxHeartbeats 400000 in
theorem spec_scale (a0 a1 a2 q : Nat) (c0 c1 c2 cq : Option Nat) (w : World) (f0 : Fr .f32 a0 c0) (f1 : Fr .f32 a1 c1) (f2 : Fr .f32 a2 c2) (fq : Fr .f32 q cq) :
    Calls Try.prog 47 #[.agg #[.float .f32 a0, .float .f32 a1, .float .f32 a2], .float .f32 q] w (RetV (op2 .mul .f32 c0 cq) (op2 .mul .f32 c1 cq) (op2 .mul .f32 c2 cq) w) := by
  go_enter Try.func47, Try.ntmps47
  go_wp2_with (first | (refine Fl.wpList_fl rfl rfl rfl rfl rfl (by assumption) (by assumption) ?_; intro r n hr))
  refine bodyPost_ret ?ohr rfl ⟨?ox, ?oy, ?oz, rfl, ?of0, ?of1, ?of2, ?obel⟩
  case of0 => assumption
  case of1 => assumption
  case of2 => assumption
  case ohr => simp [results, Try.results47, go_sem, *]
  case obel => (repeat' first | exact Below.refl _ _ | (refine Below.setCell ?_ (by first | omega | (simp; omega) | simp) _) | (refine below_drewN ?_ _) | (refine Below.alloc ?_ (by first | omega | (simp; omega) | simp) _) | (refine Below.trans ?_ (Below.mono (by assumption) (by first | omega | (simp; omega) | simp))))

set_option maxHeartbeats 400000 in
theorem impl_scale (a0 a1 a2 q : Nat) (c0 c1 c2 cq : Option Nat) (w : World) (f0 : Fr .f32 a0 c0) (f1 : Fr .f32 a1 c1) (f2 : Fr .f32 a2 c2) (fq : Fr .f32 q cq) :
    Calls Try.prog 51 #[.agg #[.float .f32 a0, .float .f32 a1, .float .f32 a2], .float .f32 q] w (RetV (op2 .mul .f32 c0 cq) (op2 .mul .f32 c1 cq) (op2 .mul .f32 c2 cq) w) := by
  go_enter Try.func51, Try.ntmps51
  go_wp2_with (first | fail)
  refine Loose.wp_region_below 12 [] (by kernel_rfl) (by kernel_rfl) (by simp [undef]) ?_
  apply Exists.intro
  simp only [List.take_succ_cons, List.take_zero, List.drop_succ_cons, List.drop_zero]
  repeat (first | (apply Loose.walk_step; intro K hK; apply Loose.turn_value (hwant := rfl) (hd := rfl); (focus (intro w' hw'; obtain ⟨hc, hf⟩ := Fl.bcell hw'; go_simp; first | done | rfl | exact ⟨rfl, rfl⟩)); go_simp; refine hK _ ?_; clear hK K) | (apply Loose.walk_step; intro K hK; apply Loose.turn_callF (Nat.le_refl _) (hwant := rfl) (hd := rfl); (focus (intro w'; go_simp; first | done | rfl | exact ⟨rfl, rfl⟩)); (focus (intro w'; go_at_call 92; exact product _ _ _ _ _ (by assumption) (by assumption))); intro r hr; go_simp; refine hK _ ?_; clear hK K))
  refine Loose.walk_nil ?_
  intro w1 hcls1
  obtain ⟨hb1, _⟩ := hcls1
  obtain ⟨hc1, hf1⟩ := Fl.bcell hb1
  have hz1 := hb1.size
  try simp only [World.size_alloc, World.size_setCell, World.heap_drewN, World.size_drew] at hz1
  go_wp2_with (first | (refine Fl.wpList_fl rfl rfl rfl rfl rfl (by assumption) (by assumption) ?_; intro r n hr))
  refine bodyPost_ret ?ohr rfl ⟨?ox, ?oy, ?oz, rfl, ?of0, ?of1, ?of2, ?obel⟩
  case of0 => assumption
  case of1 => assumption
  case of2 => assumption
  case ohr => simp [results, Try.results51, go_sem, *]
  case obel => (repeat' first | exact Below.refl _ _ | (refine Below.setCell ?_ (by first | omega | (simp; omega) | simp) _) | (refine below_drewN ?_ _) | (refine Below.alloc ?_ (by first | omega | (simp; omega) | simp) _) | (refine Below.trans ?_ (Below.mono (by assumption) (by first | omega | (simp; omega) | simp))))

set_option maxHeartbeats 400000 in
theorem spec_cross (a0 a1 a2 b0 b1 b2 : Nat) (c0 c1 c2 d0 d1 d2 : Option Nat) (w : World) (f0 : Fr .f32 a0 c0) (f1 : Fr .f32 a1 c1) (f2 : Fr .f32 a2 c2) (g0 : Fr .f32 b0 d0) (g1 : Fr .f32 b1 d1) (g2 : Fr .f32 b2 d2) :
    Calls Try.prog 71 #[.agg #[.float .f32 a0, .float .f32 a1, .float .f32 a2], .agg #[.float .f32 b0, .float .f32 b1, .float .f32 b2]] w (RetV (op2 .sub .f32 (op2 .mul .f32 c1 d2) (op2 .mul .f32 c2 d1)) (op2 .sub .f32 (op2 .mul .f32 c2 d0) (op2 .mul .f32 c0 d2)) (op2 .sub .f32 (op2 .mul .f32 c0 d1) (op2 .mul .f32 c1 d0)) w) := by
  go_enter Try.func71, Try.ntmps71
  go_wp2_with (first | (refine Fl.wpList_fl rfl rfl rfl rfl rfl (by assumption) (by assumption) ?_; intro r n hr))
  refine bodyPost_ret ?ohr rfl ⟨?ox, ?oy, ?oz, rfl, ?of0, ?of1, ?of2, ?obel⟩
  case of0 => assumption
  case of1 => assumption
  case of2 => assumption
  case ohr => simp [results, Try.results71, go_sem, *]
  case obel => (repeat' first | exact Below.refl _ _ | (refine Below.setCell ?_ (by first | omega | (simp; omega) | simp) _) | (refine below_drewN ?_ _) | (refine Below.alloc ?_ (by first | omega | (simp; omega) | simp) _) | (refine Below.trans ?_ (Below.mono (by assumption) (by first | omega | (simp; omega) | simp))))

set_option maxHeartbeats 800000 in
theorem impl_cross (a0 a1 a2 b0 b1 b2 : Nat) (c0 c1 c2 d0 d1 d2 : Option Nat) (w : World) (f0 : Fr .f32 a0 c0) (f1 : Fr .f32 a1 c1) (f2 : Fr .f32 a2 c2) (g0 : Fr .f32 b0 d0) (g1 : Fr .f32 b1 d1) (g2 : Fr .f32 b2 d2) :
    Calls Try.prog 112 #[.agg #[.float .f32 a0, .float .f32 a1, .float .f32 a2], .agg #[.float .f32 b0, .float .f32 b1, .float .f32 b2]] w (RetV (op2 .sub .f32 (op2 .mul .f32 c1 d2) (op2 .mul .f32 c2 d1)) (op2 .sub .f32 (op2 .mul .f32 c2 d0) (op2 .mul .f32 c0 d2)) (op2 .sub .f32 (op2 .mul .f32 c0 d1) (op2 .mul .f32 c1 d0)) w) := by
  go_enter Try.func112, Try.ntmps112
  go_wp2_with (first | fail)
  refine Loose.wp_region_below 33 [] (by kernel_rfl) (by kernel_rfl) (by simp [undef]) ?_
  apply Exists.intro
  simp only [List.take_succ_cons, List.take_zero, List.drop_succ_cons, List.drop_zero]
  repeat (first | (apply Loose.walk_step; intro K hK; apply Loose.turn_value (hwant := rfl) (hd := rfl); (focus (intro w' hw'; obtain ⟨hc, hf⟩ := Fl.bcell hw'; go_simp; first | done | rfl | exact ⟨rfl, rfl⟩)); go_simp; refine hK _ ?_; clear hK K) | (apply Loose.walk_step; intro K hK; apply Loose.turn_callF (Nat.le_refl _) (hwant := rfl) (hd := rfl); (focus (intro w'; go_simp; first | done | rfl | exact ⟨rfl, rfl⟩)); (focus (intro w'; go_at_call 92; exact product _ _ _ _ _ (by assumption) (by assumption))); intro r hr; go_simp; refine hK _ ?_; clear hK K) | (apply Loose.walk_step; intro K hK; refine Loose.turn_fl (Nat.le_refl _) rfl rfl rfl rfl rfl rfl (by assumption) (by assumption) ?_; intro r hr; go_simp; refine hK _ ?_; clear hK K))
  refine Loose.walk_nil ?_
  intro w1 hcls1
  obtain ⟨hb1, _⟩ := hcls1
  obtain ⟨hc1, hf1⟩ := Fl.bcell hb1
  have hz1 := hb1.size
  try simp only [World.size_alloc, World.size_setCell, World.heap_drewN, World.size_drew] at hz1
  go_wp2_with (first | (refine Fl.wpList_fl rfl rfl rfl rfl rfl (by assumption) (by assumption) ?_; intro r n hr))
  refine bodyPost_ret ?ohr rfl ⟨?ox, ?oy, ?oz, rfl, ?of0, ?of1, ?of2, ?obel⟩
  case of0 => assumption
  case of1 => assumption
  case of2 => assumption
  case ohr => simp [results, Try.results112, go_sem, *]
  case obel => (repeat' first | exact Below.refl _ _ | (refine Below.setCell ?_ (by first | omega | (simp; omega) | simp) _) | (refine below_drewN ?_ _) | (refine Below.alloc ?_ (by first | omega | (simp; omega) | simp) _) | (refine Below.trans ?_ (Below.mono (by assumption) (by first | omega | (simp; omega) | simp))))

set_option maxHeartbeats 400000 in
theorem spec_inner (a0 a1 a2 b0 b1 b2 : Nat) (c0 c1 c2 d0 d1 d2 : Option Nat) (w : World) (f0 : Fr .f32 a0 c0) (f1 : Fr .f32 a1 c1) (f2 : Fr .f32 a2 c2) (g0 : Fr .f32 b0 d0) (g1 : Fr .f32 b1 d1) (g2 : Fr .f32 b2 d2) :
    Calls Try.prog 70 #[.agg #[.float .f32 a0, .float .f32 a1, .float .f32 a2], .agg #[.float .f32 b0, .float .f32 b1, .float .f32 b2]] w (RetF .f32 (op2 .add .f32 (op2 .add .f32 (op2 .mul .f32 c0 d0) (op2 .mul .f32 c1 d1)) (op2 .mul .f32 c2 d2)) w) := by
  go_enter Try.func70, Try.ntmps70
  go_wp2_with (first | (refine Fl.wpList_fl rfl rfl rfl rfl rfl (by assumption) (by assumption) ?_; intro r n hr))
  go_ret
  exact ⟨_, rfl, by assumption, by (repeat' first | exact Below.refl _ _ | (refine Below.setCell ?_ (by first | omega | (simp; omega) | simp) _) | (refine below_drewN ?_ _) | (refine Below.alloc ?_ (by first | omega | (simp; omega) | simp) _) | (refine Below.trans ?_ (Below.mono (by assumption) (by first | omega | (simp; omega) | simp))))⟩

set_option maxHeartbeats 800000 in
theorem impl_inner (a0 a1 a2 b0 b1 b2 : Nat) (c0 c1 c2 d0 d1 d2 : Option Nat) (w : World) (f0 : Fr .f32 a0 c0) (f1 : Fr .f32 a1 c1) (f2 : Fr .f32 a2 c2) (g0 : Fr .f32 b0 d0) (g1 : Fr .f32 b1 d1) (g2 : Fr .f32 b2 d2) :
    Calls Try.prog 107 #[.agg #[.float .f32 a0, .float .f32 a1, .float .f32 a2], .agg #[.float .f32 b0, .float .f32 b1, .float .f32 b2]] w (RetF .f32 (op2 .add .f32 (op2 .add .f32 (op2 .mul .f32 c0 d0) (op2 .mul .f32 c1 d1)) (op2 .mul .f32 c2 d2)) w) := by
  go_enter Try.func107, Try.ntmps107
  go_wp2_with (first | fail)
  refine Loose.wp_region_below 17 [] (by kernel_rfl) (by kernel_rfl) (by simp [undef]) ?_
  apply Exists.intro
  simp only [List.take_succ_cons, List.take_zero, List.drop_succ_cons, List.drop_zero]
  repeat (first | (apply Loose.walk_step; intro K hK; apply Loose.turn_value (hwant := rfl) (hd := rfl); (focus (intro w' hw'; obtain ⟨hc, hf⟩ := Fl.bcell hw'; go_simp; first | done | rfl | exact ⟨rfl, rfl⟩)); go_simp; refine hK _ ?_; clear hK K) | (apply Loose.walk_step; intro K hK; apply Loose.turn_callF (Nat.le_refl _) (hwant := rfl) (hd := rfl); (focus (intro w'; go_simp; first | done | rfl | exact ⟨rfl, rfl⟩)); (focus (intro w'; go_at_call 92; exact product _ _ _ _ _ (by assumption) (by assumption))); intro r hr; go_simp; refine hK _ ?_; clear hK K) | (apply Loose.walk_step; intro K hK; refine Loose.turn_fl (Nat.le_refl _) rfl rfl rfl rfl rfl rfl (by assumption) (by assumption) ?_; intro r hr; go_simp; refine hK _ ?_; clear hK K))
  refine Loose.walk_nil ?_
  intro w1 hcls1
  obtain ⟨hb1, _⟩ := hcls1
  obtain ⟨hc1, hf1⟩ := Fl.bcell hb1
  have hz1 := hb1.size
  try simp only [World.size_alloc, World.size_setCell, World.heap_drewN, World.size_drew] at hz1
  go_wp2_with (first | (refine Fl.wpList_fl rfl rfl rfl rfl rfl (by assumption) (by assumption) ?_; intro r n hr))
  go_ret
  exact ⟨_, rfl, by assumption, by (repeat' first | exact Below.refl _ _ | (refine Below.setCell ?_ (by first | omega | (simp; omega) | simp) _) | (refine below_drewN ?_ _) | (refine Below.alloc ?_ (by first | omega | (simp; omega) | simp) _) | (refine Below.trans ?_ (Below.mono (by assumption) (by first | omega | (simp; omega) | simp))))⟩

set_option maxHeartbeats 800000 in
theorem eq_vector (a0 a1 a2 b0 b1 b2 : Nat) (c0 c1 c2 : Option Nat) (w : World) (f0 : Fr .f32 a0 c0) (f1 : Fr .f32 a1 c1) (f2 : Fr .f32 a2 c2) (g0 : Fr .f32 b0 c0) (g1 : Fr .f32 b1 c1) (g2 : Fr .f32 b2 c2) :
    Calls Try.prog 17 #[.agg #[.float .f32 a0, .float .f32 a1, .float .f32 a2], .agg #[.float .f32 b0, .float .f32 b1, .float .f32 b2]] w (RetD (.bool true) w) := by
  go_enter Try.func17, Try.ntmps17
  go_wp2_with (first | (go_at_call 27; refine (Same.same_true _ _ _ _ (by assumption) (by assumption)).mono ?_; rintro e w' ⟨n, rfl, rfl⟩) | (refine Fl.wpList_conv rfl rfl rfl (by kernel_rfl) Try.underlying45 (by assumption) (Fl.fits_wide _) ?_; intro r n hr))
  go_ret
  exact ⟨rfl, by (repeat' first | exact Below.refl _ _ | (refine Below.setCell ?_ (by first | omega | (simp; omega) | simp) _) | (refine below_drewN ?_ _) | (refine Below.alloc ?_ (by first | omega | (simp; omega) | simp) _) | (refine Below.trans ?_ (Below.mono (by assumption) (by first | omega | (simp; omega) | simp))))⟩

end Vec
end Go.Proofs.Ytjkkefbfhapblaa
