/- Flows: the classes. -/
import Derived.Test.YtjkkefbfhapblabBaC
import Derived.Test.YtjkkefbfhapblabBaLa
import Derived.Test.YtjkkefbfhapblabBaEv
import Derived.Test.YtjkkefbfhapblabBaOw
import Derived.Test.YtjkkefbfhapblabHalf
namespace Go.Proofs.Ytjkkefbfhapblab
set_option linter.unusedSimpArgs false
set_option linter.unusedVariables false
open Go.RowKit
set_option maxRecDepth 20000
namespace Ba
open Fl Rate

theorem half32 : Fr .f32 1056964608 (some 1056964608) := Fr.const (by decide +kernel) (by decide)

theorem two32 : Fr .f32 1073741824 (some 1073741824) := Fr.const (by decide +kernel) (by decide)

/-- Half of any class. -/
theorem half_all (c : Option Nat) : op2 .quo .f32 c (some 1073741824) = op2 .mul .f32 (some 1056964608) c := by
  cases c with
  | none => rfl
  | some x =>
    have d2 : FloatKind.f32.decode 1073741824 = .number false 8388608 (-22) := by decide +kernel
    have dh : FloatKind.f32.decode 1056964608 = .number false 8388608 (-24) := by decide +kernel
    have e1 : op2 .quo .f32 (some x) (some 1073741824) = ((FloatKind.f32.decode x).quotient 25 (FloatKind.f32.decode 1073741824)).map FloatKind.f32.encode := rfl
    have e2 : op2 .mul .f32 (some 1056964608) (some x) = ((FloatKind.f32.decode 1056964608).product (FloatKind.f32.decode x)).map FloatKind.f32.encode := rfl
    cases hd : FloatKind.f32.decode x with
    | nan s t => rw [e1, e2, hd, d2, dh]; rfl
    | infinity s =>
      rw [e1, e2, hd, d2, dh]
      simp [Ieee.Datum.quotient, Ieee.Datum.product]
    | number s m p =>
      by_cases hm : m = 0
      · subst hm
        rw [e1, e2, hd, d2, dh]
        simp [Ieee.Datum.quotient, Ieee.Datum.product, FloatKind.encode, Ieee.Format.write, Ieee.Format.nearest]
      · exact half_eq hd hm

def uF (W H : Int) (c : Nat → Option Nat) : Nat → Option Nat := fun k => op2 .mul .f32 (some 1056964608) (op2 .sub .f32 (c (idx W H ((k : Int) % W) ((k : Int) / W + 1))) (c (idx W H ((k : Int) % W) ((k : Int) / W - 1))))

def vF (W H : Int) (c : Nat → Option Nat) : Nat → Option Nat := fun k => op2 .mul .f32 (some 1056964608) (op2 .sub .f32 (c (idx W H ((k : Int) % W - 1) ((k : Int) / W))) (c (idx W H ((k : Int) % W + 1) ((k : Int) / W))))

/-- Two basins and whether there are. -/
def RetH (T : Bool) (W H : Int) (n : Nat) (f g : Nat → Option Nat) (w : World) (e : Ending) (w' : World) : Prop :=
  ∃ a cap b cap' L, e = .returned (.tuple #[bV W H a n cap, bV W H b n cap', .bool T]) ∧ IsO w.heap.size L w' a n cap f ∧ IsO L w'.heap.size w' b n cap' g ∧ w.heap.size ≤ L ∧ L ≤ w'.heap.size ∧ Below w.heap.size w w'

set_option maxHeartbeats 3200000 in
theorem impl_flowX (W H : Int) (a : Option Addr) (n cap : Nat) (c : Nat → Option Nat) (x y : Nat) (w : World) (h : IsY w a n cap c) (hW : sideB W = true) (hH : sideB H = true) (hn : (n : Int) = W * H) (hx : (x : Int) < W) (hy : (y : Int) < H) (s1 : 3 ≤ W ∧ W ≤ 16) (s2 : 3 ≤ H ∧ H ≤ 16) : Calls Try.prog 51 #[bV W H a n cap, .int .i64 (x : Int), .int .i64 (y : Int)] w (RetF .f32 (uF W H c ((W * (y : Int)).toNat + x)) w) := by
  have HX := Lib.hid h
  have hdm := cell_divmod (y := y) s1.1 hx
  have f2 := two32
  have e : uF W H c ((W * (y : Int)).toNat + x) = op2 .quo .f32 (op2 .sub .f32 (c (idx W H (x : Int) ((y : Int) + 1))) (c (idx W H (x : Int) ((y : Int) - 1)))) (some 1073741824) := by
    rw [half_all]; unfold uF; rw [hdm.1, hdm.2]
  rw [e]
  have hw1 : IntKind.i64.wrap ((y : Int) + 1) = (y : Int) + 1 := IntWalk.i64_in _ (by omega)
  have hw2 : IntKind.i64.wrap ((y : Int) - 1) = (y : Int) - 1 := IntWalk.i64_in _ (by omega)
  clear h hdm e
  go_enter Try.func51, Try.ntmps51
  go_wp2
  refine Loose.wp_region_below 12 [] (by kernel_rfl) (by kernel_rfl) (by simp [undef]) ?_
  apply Exists.intro
  simp only [List.take_succ_cons, List.take_zero, List.drop_succ_cons, List.drop_zero]
  repeat (first | (apply Loose.walk_step; intro K hK; apply Loose.turn_value (hwant := rfl) (hd := rfl); (focus (intro w' hw'; obtain ⟨hc, hf⟩ := Fl.bcell hw'; go_simp; first | done | rfl | exact ⟨rfl, rfl⟩)); go_simp; refine hK _ ?_; clear hK K) | (apply Loose.walk_step; intro K hK; apply Loose.turn_callFB (Nat.le_refl _) (hwant := rfl) (hd := rfl); (focus (intro w'; go_simp; first | done | rfl | exact ⟨rfl, rfl⟩)); (focus (intro w' hw'; go_at_call 92; exact impl_at W H a n cap c w' ((HX.out.alloc _).later hw') hW hH hn _ _ (by omega) (by omega))); intro r hr; go_simp; refine hK _ ?_; clear hK K) | (apply Loose.walk_step; intro K hK; refine Loose.turn_fl (Nat.le_refl _) rfl rfl rfl rfl rfl rfl (by assumption) (by assumption) ?_; intro r hr; go_simp; refine hK _ ?_; clear hK K))
  refine Loose.walk_nil ?_
  intro w1 hcls1
  obtain ⟨hb1, _⟩ := hcls1
  obtain ⟨hc1, hf1⟩ := Fl.bcell hb1
  have hz1 := hb1.size
  try simp only [World.size_alloc, World.size_setCell, World.heap_drewN, World.size_drew] at hz1
  go_wp2
  go_ret
  exact ⟨_, rfl, by assumption, by (repeat' first | exact Below.refl _ _ | (refine Below.setCell ?_ (by first | omega | (simp; omega) | simp) _) | (refine below_drewN ?_ _) | (refine Below.alloc ?_ (by first | omega | (simp; omega) | simp) _) | (refine Below.trans ?_ (Below.mono (by assumption) (by first | omega | (simp; omega) | simp))))⟩

set_option maxHeartbeats 3200000 in
theorem impl_flowY (W H : Int) (a : Option Addr) (n cap : Nat) (c : Nat → Option Nat) (x y : Nat) (w : World) (h : IsY w a n cap c) (hW : sideB W = true) (hH : sideB H = true) (hn : (n : Int) = W * H) (hx : (x : Int) < W) (hy : (y : Int) < H) (s1 : 3 ≤ W ∧ W ≤ 16) (s2 : 3 ≤ H ∧ H ≤ 16) : Calls Try.prog 52 #[bV W H a n cap, .int .i64 (x : Int), .int .i64 (y : Int)] w (RetF .f32 (vF W H c ((W * (y : Int)).toNat + x)) w) := by
  have HX := Lib.hid h
  have hdm := cell_divmod (y := y) s1.1 hx
  have f2 := two32
  have e : vF W H c ((W * (y : Int)).toNat + x) = op2 .quo .f32 (op2 .sub .f32 (c (idx W H ((x : Int) - 1) (y : Int))) (c (idx W H ((x : Int) + 1) (y : Int)))) (some 1073741824) := by
    rw [half_all]; unfold vF; rw [hdm.1, hdm.2]
  rw [e]
  have hw1 : IntKind.i64.wrap ((x : Int) + 1) = (x : Int) + 1 := IntWalk.i64_in _ (by omega)
  have hw2 : IntKind.i64.wrap ((x : Int) - 1) = (x : Int) - 1 := IntWalk.i64_in _ (by omega)
  clear h hdm e
  go_enter Try.func52, Try.ntmps52
  go_wp2
  refine Loose.wp_region_below 12 [] (by kernel_rfl) (by kernel_rfl) (by simp [undef]) ?_
  apply Exists.intro
  simp only [List.take_succ_cons, List.take_zero, List.drop_succ_cons, List.drop_zero]
  repeat (first | (apply Loose.walk_step; intro K hK; apply Loose.turn_value (hwant := rfl) (hd := rfl); (focus (intro w' hw'; obtain ⟨hc, hf⟩ := Fl.bcell hw'; go_simp; first | done | rfl | exact ⟨rfl, rfl⟩)); go_simp; refine hK _ ?_; clear hK K) | (apply Loose.walk_step; intro K hK; apply Loose.turn_callFB (Nat.le_refl _) (hwant := rfl) (hd := rfl); (focus (intro w'; go_simp; first | done | rfl | exact ⟨rfl, rfl⟩)); (focus (intro w' hw'; go_at_call 92; exact impl_at W H a n cap c w' ((HX.out.alloc _).later hw') hW hH hn _ _ (by omega) (by omega))); intro r hr; go_simp; refine hK _ ?_; clear hK K) | (apply Loose.walk_step; intro K hK; refine Loose.turn_fl (Nat.le_refl _) rfl rfl rfl rfl rfl rfl (by assumption) (by assumption) ?_; intro r hr; go_simp; refine hK _ ?_; clear hK K))
  refine Loose.walk_nil ?_
  intro w1 hcls1
  obtain ⟨hb1, _⟩ := hcls1
  obtain ⟨hc1, hf1⟩ := Fl.bcell hb1
  have hz1 := hb1.size
  try simp only [World.size_alloc, World.size_setCell, World.heap_drewN, World.size_drew] at hz1
  go_wp2
  go_ret
  exact ⟨_, rfl, by assumption, by (repeat' first | exact Below.refl _ _ | (refine Below.setCell ?_ (by first | omega | (simp; omega) | simp) _) | (refine below_drewN ?_ _) | (refine Below.alloc ?_ (by first | omega | (simp; omega) | simp) _) | (refine Below.trans ?_ (Below.mono (by assumption) (by first | omega | (simp; omega) | simp))))⟩

theorem enter_flowX (args : Array Value) (w : World) : (callFunc 51 args).run Try.prog w = .ok (.enter 51 args) w := by go_simp

theorem enter_flowY (args : Array Value) (w : World) : (callFunc 52 args).run Try.prog w = .ok (.enter 52 args) w := by go_simp

end Ba
end Go.Proofs.Ytjkkefbfhapblab
