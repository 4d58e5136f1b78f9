/- Numbers that are told of basins: the functions themselves. -/
import Derived.Test.YtjkkefbfhapblabBaN
import Derived.Test.YtjkkefbfhapblabBaA
namespace Go.Proofs.Ytjkkefbfhapblab
set_option linter.unusedSimpArgs false
set_option linter.unusedVariables false
open Go.RowKit
set_option maxRecDepth 20000
namespace Ba
open Fl Rate

set_option maxHeartbeats 1600000 in
theorem impl_TotalB (W H : Int) (a : Option Addr) (n cap : Nat) (c : Nat → Option Nat) (w : World) (h : IsY w a n cap c) (A : Bool) (hA : okB W H n c = A) : Calls Try.prog 140 #[bV W H a n cap] w (RetN (if A then Nums.accC c n else none) w) := by
  have HV := Lib.hid (fun w' (hb : Below w.heap.size w w') => impl_valid W H a n cap c w' (h.later hb) A hA)
  cases A
  · clear hA h
    go_enter Try.func140, Try.ntmps140
    go_wp2_with (go_at_call 49; refine (HV.out _ (by (repeat' first | exact Below.refl _ _ | (refine Below.setCell ?_ (by first | omega | (simp; omega) | simp) _) | (refine below_drewN ?_ _) | (refine Below.alloc ?_ (by first | omega | (simp; omega) | simp) _) | (refine Below.trans ?_ (Below.mono (by assumption) (by first | omega | (simp; omega) | simp)))))).mono ?_; rintro e w1 ⟨rfl, hb1⟩)
    go_ret2
    exact ⟨_, rfl, zero32, by (repeat' first | exact Below.refl _ _ | (refine Below.setCell ?_ (by first | omega | (simp; omega) | simp) _) | (refine below_drewN ?_ _) | (refine Below.alloc ?_ (by first | omega | (simp; omega) | simp) _) | (refine Below.trans ?_ (Below.mono (by assumption) (by first | omega | (simp; omega) | simp))))⟩
  · have hn := (okB_n hA).2
    have HS := Lib.hid (fun w' (hb : Below w.heap.size w w') => impl_finsum a n cap c w' (h.later hb) hn)
    unfold RetN at *
    simp only [if_true]
    generalize Nums.accC c n = d at *
    generalize finC d = B at *
    generalize (if B then d else some 0) = d2 at *
    clear hA h
    go_enter Try.func140, Try.ntmps140
    go_wp2_with fail
    refine (HV.out _ (by (repeat' first | exact Below.refl _ _ | (refine Below.setCell ?_ (by first | omega | (simp; omega) | simp) _) | (refine below_drewN ?_ _) | (refine Below.alloc ?_ (by first | omega | (simp; omega) | simp) _) | (refine Below.trans ?_ (Below.mono (by assumption) (by first | omega | (simp; omega) | simp)))))).mono ?_
    rintro e w1 ⟨rfl, hb1⟩
    have hz1 := hb1.size
    try simp only [World.size_alloc, World.size_setCell, World.heap_drewN, World.size_drew] at hz1
    obtain ⟨hc1, hf1⟩ := Fl.bcell hb1
    try simp only [World.heap_drewN, World.cell?_drewN, World.frozen?_drewN] at hc1 hf1
    have g1_0 : w.heap.size < w1.heap.size := by omega
    go_wp2_with fail
    refine (HS.out _ (by (repeat' first | exact Below.refl _ _ | (refine Below.setCell ?_ (by first | omega | (simp; omega) | simp) _) | (refine below_drewN ?_ _) | (refine Below.alloc ?_ (by first | omega | (simp; omega) | simp) _) | (refine Below.trans ?_ (Below.mono (by assumption) (by first | omega | (simp; omega) | simp)))))).mono ?_
    rintro e w2 ⟨r2, rfl, hr2, hb2⟩
    have hz2 := hb2.size
    try simp only [World.size_alloc, World.size_setCell, World.heap_drewN, World.size_drew] at hz2
    obtain ⟨hc2, hf2⟩ := Fl.bcell hb2
    try simp only [World.heap_drewN, World.cell?_drewN, World.frozen?_drewN] at hc2 hf2
    have g2_0 : w.heap.size < w2.heap.size := by omega
    go_wp2
    go_ret2
    exact ⟨_, rfl, hr2, by (repeat' first | exact Below.refl _ _ | (refine Below.setCell ?_ (by first | omega | (simp; omega) | simp) _) | (refine below_drewN ?_ _) | (refine Below.alloc ?_ (by first | omega | (simp; omega) | simp) _) | (refine Below.trans ?_ (Below.mono (by assumption) (by first | omega | (simp; omega) | simp))))⟩

set_option maxHeartbeats 1600000 in
theorem impl_SquaresB (W H : Int) (a : Option Addr) (n cap : Nat) (c : Nat → Option Nat) (w : World) (h : IsY w a n cap c) (A : Bool) (hA : okB W H n c = A) : Calls Try.prog 69 #[bV W H a n cap] w (RetN (if A then Nums.accC (sqC c) n else none) w) := by
  have HV := Lib.hid (fun w' (hb : Below w.heap.size w w') => impl_valid W H a n cap c w' (h.later hb) A hA)
  cases A
  · clear hA h
    go_enter Try.func69, Try.ntmps69
    go_wp2_with (go_at_call 49; refine (HV.out _ (by (repeat' first | exact Below.refl _ _ | (refine Below.setCell ?_ (by first | omega | (simp; omega) | simp) _) | (refine below_drewN ?_ _) | (refine Below.alloc ?_ (by first | omega | (simp; omega) | simp) _) | (refine Below.trans ?_ (Below.mono (by assumption) (by first | omega | (simp; omega) | simp)))))).mono ?_; rintro e w1 ⟨rfl, hb1⟩)
    go_ret2
    exact ⟨_, rfl, zero32, by (repeat' first | exact Below.refl _ _ | (refine Below.setCell ?_ (by first | omega | (simp; omega) | simp) _) | (refine below_drewN ?_ _) | (refine Below.alloc ?_ (by first | omega | (simp; omega) | simp) _) | (refine Below.trans ?_ (Below.mono (by assumption) (by first | omega | (simp; omega) | simp))))⟩
  · have hn := (okB_n hA).2
    have HS := Lib.hid (fun w' (hb : Below w.heap.size w w') => impl_doty a n cap c w' (h.later hb) hn)
    have HN := Lib.hid (fun x w f => impl_number x (Nums.accC (sqC c) n) w f)
    unfold RetN at *
    simp only [if_true]
    generalize Nums.accC (sqC c) n = d at *
    generalize finC d = B at *
    generalize (if B then d else some 0) = d2 at *
    clear hA h
    go_enter Try.func69, Try.ntmps69
    go_wp2_with fail
    refine (HV.out _ (by (repeat' first | exact Below.refl _ _ | (refine Below.setCell ?_ (by first | omega | (simp; omega) | simp) _) | (refine below_drewN ?_ _) | (refine Below.alloc ?_ (by first | omega | (simp; omega) | simp) _) | (refine Below.trans ?_ (Below.mono (by assumption) (by first | omega | (simp; omega) | simp)))))).mono ?_
    rintro e w1 ⟨rfl, hb1⟩
    have hz1 := hb1.size
    try simp only [World.size_alloc, World.size_setCell, World.heap_drewN, World.size_drew] at hz1
    obtain ⟨hc1, hf1⟩ := Fl.bcell hb1
    try simp only [World.heap_drewN, World.cell?_drewN, World.frozen?_drewN] at hc1 hf1
    have g1_0 : w.heap.size < w1.heap.size := by omega
    go_wp2_with fail
    refine (HS.out _ (by (repeat' first | exact Below.refl _ _ | (refine Below.setCell ?_ (by first | omega | (simp; omega) | simp) _) | (refine below_drewN ?_ _) | (refine Below.alloc ?_ (by first | omega | (simp; omega) | simp) _) | (refine Below.trans ?_ (Below.mono (by assumption) (by first | omega | (simp; omega) | simp)))))).mono ?_
    rintro e w2 ⟨r2, rfl, hr2, hb2⟩
    have hz2 := hb2.size
    try simp only [World.size_alloc, World.size_setCell, World.heap_drewN, World.size_drew] at hz2
    obtain ⟨hc2, hf2⟩ := Fl.bcell hb2
    try simp only [World.heap_drewN, World.cell?_drewN, World.frozen?_drewN] at hc2 hf2
    have g2_0 : w.heap.size < w2.heap.size := by omega
    go_wp2_with fail
    refine (HN.out _ _ hr2).mono ?_
    rintro e w3 ⟨r3, rfl, hr3, hb3⟩
    go_wp2
    go_ret2
    exact ⟨_, rfl, hr3, by (repeat' first | exact Below.refl _ _ | (refine Below.setCell ?_ (by first | omega | (simp; omega) | simp) _) | (refine below_drewN ?_ _) | (refine Below.alloc ?_ (by first | omega | (simp; omega) | simp) _) | (refine Below.trans ?_ (Below.mono (by assumption) (by first | omega | (simp; omega) | simp))))⟩

def loC (c : Nat → Option Nat) : Nat → Option Nat
  | 0 => c 0
  | k + 1 => if cmpC .lss (ord .f32 (c k) (loC c k)) then c k else loC c k

def hiC (c : Nat → Option Nat) : Nat → Option Nat
  | 0 => c 0
  | k + 1 => if cmpC .gtr (ord .f32 (c k) (hiC c k)) then c k else hiC c k

theorem ord_refl {r : Nat} {d : Option Nat} (f : Fr .f32 r d) : cmpC .lss (ord .f32 d d) = false ∧ cmpC .gtr (ord .f32 d d) = false := by
  cases d with
  | none => exact ⟨rfl, rfl⟩
  | some x => rw [Same.ord_self f]; exact ⟨rfl, rfl⟩

/-- Two numbers, and whether there are such. -/
def RetR (A : Bool) (lo hi : Option Nat) (w : World) (e : Ending) (w' : World) : Prop := ∃ r s, e = .returned (.tuple #[.float .f32 r, .float .f32 s, .bool A]) ∧ Fr .f32 r (if A then lo else some 0) ∧ Fr .f32 s (if A then hi else some 0) ∧ Below w.heap.size w w'

end Ba
end Go.Proofs.Ytjkkefbfhapblab
