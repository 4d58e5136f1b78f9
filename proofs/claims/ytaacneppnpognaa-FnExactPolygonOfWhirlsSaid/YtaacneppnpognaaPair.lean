/- A pair of whirls: the program's function and the model's. -/
import Derived.Test.YtaacneppnpognaaMark
import Derived.Test.YtaacneppnpognaaHalf
namespace Go.Proofs.Ytaacneppnpognaa
set_option linter.unusedSimpArgs false
set_option linter.unusedVariables false
open Go.RowKit
namespace Ws
open Fl Rate

/-- Whirls in a block of the call's own, or none. -/
def RetWs (A : Bool) (n : Nat) (cx cy cs : Nat → Option Nat) (w : World) (e : Ending) (w' : World) : Prop :=
  (A = true ∧ ∃ g cap, e = .returned (.tuple #[.slice (some ⟨g, 0, none⟩) n cap, .bool true]) ∧ w.heap.size ≤ g ∧ IsW w' g n cx cy cs ∧ Below w.heap.size w w') ∨
  (A = false ∧ e = .returned (.tuple #[.slice none 0 0, .bool false]) ∧ Below w.heap.size w w')

theorem impl_give (g n cap : Nat) (cx cy cs : Nat → Option Nat) (w : World) (h : IsW w g n cx cy cs) (hn : n ≤ 32) (A : Bool) (hA : allF cx cy cs n = A) : Calls Try.prog 50 #[.slice (some ⟨g, 0, none⟩) n cap] w (RetD (if A then .tuple #[.slice (some ⟨g, 0, none⟩) n cap, .bool true] else .tuple #[.slice none 0 0, .bool false]) w) := by
  have hc := impl_are g n cap cx cy cs w h hn
  rw [hA] at hc
  have HC := Lib.hid hc
  clear hc hA h
  cases A
  all_goals
    go_enter Try.func50, Try.ntmps50
    go_wp2_with (first | (go_at_call 70; refine (HC.out).mono ?_; rintro e w' ⟨rfl, hb⟩; have hz := hb.size; try simp only [World.size_alloc, World.size_setCell, World.heap_drewN, World.size_drew] at hz; obtain ⟨hc, hf⟩ := Fl.bcell hb; try (have g : w.heap.size < w'.heap.size := by omega); try (have g : w.heap.size ≤ w'.heap.size := by omega)))
    go_ret2
    exact ⟨rfl, by (repeat' first | exact Below.refl _ _ | (refine Below.setCell ?_ (by first | omega | (simp; omega) | simp) _) | (refine below_drewN ?_ _) | (refine Below.alloc ?_ (by first | omega | (simp; omega) | simp) _) | (refine Below.trans ?_ (Below.mono (by assumption) (by first | omega | (simp; omega) | simp))))⟩

theorem spec_give (g n cap : Nat) (cx cy cs : Nat → Option Nat) (w : World) (h : IsW w g n cx cy cs) (hn : n ≤ 32) (A : Bool) (hA : allF cx cy cs n = A) : Calls Try.prog 48 #[.slice (some ⟨g, 0, none⟩) n cap] w (RetD (if A then .tuple #[.slice (some ⟨g, 0, none⟩) n cap, .bool true] else .tuple #[.slice none 0 0, .bool false]) w) := by
  have hc := spec_are g n cap cx cy cs w h hn
  rw [hA] at hc
  have HC := Lib.hid hc
  clear hc hA h
  cases A
  all_goals
    go_enter Try.func48, Try.ntmps48
    go_wp2_with (first | (go_at_call 69; refine (HC.out).mono ?_; rintro e w' ⟨rfl, hb⟩; have hz := hb.size; try simp only [World.size_alloc, World.size_setCell, World.heap_drewN, World.size_drew] at hz; obtain ⟨hc, hf⟩ := Fl.bcell hb; try (have g : w.heap.size < w'.heap.size := by omega); try (have g : w.heap.size ≤ w'.heap.size := by omega)))
    go_ret2
    exact ⟨rfl, by (repeat' first | exact Below.refl _ _ | (refine Below.setCell ?_ (by first | omega | (simp; omega) | simp) _) | (refine below_drewN ?_ _) | (refine Below.alloc ?_ (by first | omega | (simp; omega) | simp) _) | (refine Below.trans ?_ (Below.mono (by assumption) (by first | omega | (simp; omega) | simp))))⟩

/-- Both of a pair. -/
def two (c : Option Nat) (i : Nat) : Option Nat := if i = 0 then c else c.map (Op.negFloat .f32)

theorem two_isW {w : World} {g x y s x' y' s' : Nat} {c d e : Option Nat} (h : w.heap[g]? = some (.cells #[.complex .f32 x y, .float .f32 s, .complex .f32 x' y', .float .f32 s'] 54))
    (f1 : Fr .f32 x c) (f2 : Fr .f32 y d) (f3 : Fr .f32 s e) (g1 : Fr .f32 x' (c.map (Op.negFloat .f32))) (g2 : Fr .f32 y' (d.map (Op.negFloat .f32))) (g3 : Fr .f32 s' (e.map (Op.negFloat .f32))) : IsW w g 2 (two c) (two d) (two e) := by
  refine ⟨_, h, Nat.le_refl _, fun i hi => ?_⟩
  have : i = 0 ∨ i = 1 := by omega
  rcases this with rfl | rfl
  · exact ⟨x, y, s, rfl, rfl, f1, f2, f3⟩
  · exact ⟨x', y', s', rfl, rfl, g1, g2, g3⟩

theorem new_block (w : World) (o : Obj) : (w.alloc o).heap[w.heap.size]? = some o := by
  show (w.heap.push o)[w.heap.size]? = some o
  simp

abbrev halfC (x : Nat) : Option Nat := op2 .mul .f32 (some 1056964608) (cl .f32 x)

theorem half_same {x : Nat} (h1 : fin .f32 x = true) (h2 : cmpC .gtr (ord .f32 (cl .f32 x) (some 0)) = true) : op2 .quo .f32 (cl .f32 x) (some 1073741824) = halfC x := by
  obtain ⟨s, m, p, hd⟩ := decode_fin h1
  have hc : cl .f32 x = some x := cl_some_iff.2 (by rw [hd]; rfl)
  rw [halfC, hc]
  refine half_eq hd ?_
  rintro rfl
  rw [hc, Flat.ord_zero hd] at h2
  cases h2

theorem impl_pbad (x y : Nat) (w : World) (hx : x < 4294967296) (h : (fin .f32 x && cmpC .gtr (ord .f32 (cl .f32 x) (some 0))) = false) : Calls Try.prog 21 #[.float .f32 x, .float .f32 y] w (RetWs false 2 (two (halfC x)) (two (some 0)) (two (cl .f32 y)) w) := by
  have HP := Lib.hid (fun w => impl_length x w hx)
  rw [h] at HP
  clear h
  go_enter Try.func21, Try.ntmps21
  go_wp2_with (first | (go_at_call 49; refine (HP.out _).mono ?_; rintro e w' ⟨rfl, hb⟩; have hz := hb.size; try simp only [World.size_alloc, World.size_setCell, World.heap_drewN, World.size_drew] at hz; obtain ⟨hc, hf⟩ := Fl.bcell hb; try (have g : w.heap.size < w'.heap.size := by omega); try (have g : w.heap.size ≤ w'.heap.size := by omega)))
  go_ret2
  exact .inr ⟨rfl, rfl, by (repeat' first | exact Below.refl _ _ | (refine Below.setCell ?_ (by first | omega | (simp; omega) | simp) _) | (refine below_drewN ?_ _) | (refine Below.alloc ?_ (by first | omega | (simp; omega) | simp) _) | (refine Below.trans ?_ (Below.mono (by assumption) (by first | omega | (simp; omega) | simp))))⟩

theorem spec_pbad (x y : Nat) (w : World) (wx : (Lit.float .f32 x).wf = true) (h : (fin .f32 x && cmpC .gtr (ord .f32 (cl .f32 x) (some 0))) = false) : Calls Try.prog 20 #[.float .f32 x, .float .f32 y] w (RetWs false 2 (two (halfC x)) (two (some 0)) (two (cl .f32 y)) w) := by
  have HP := Lib.hid (fun w => spec_above x w wx)
  rw [h] at HP
  clear h
  go_enter Try.func20, Try.ntmps20
  go_wp2_with (first | (go_at_call 47; refine (HP.out _).mono ?_; rintro e w' ⟨rfl, hb⟩; have hz := hb.size; try simp only [World.size_alloc, World.size_setCell, World.heap_drewN, World.size_drew] at hz; obtain ⟨hc, hf⟩ := Fl.bcell hb; try (have g : w.heap.size < w'.heap.size := by omega); try (have g : w.heap.size ≤ w'.heap.size := by omega)))
  go_ret2
  exact .inr ⟨rfl, rfl, by (repeat' first | exact Below.refl _ _ | (refine Below.setCell ?_ (by first | omega | (simp; omega) | simp) _) | (refine below_drewN ?_ _) | (refine Below.alloc ?_ (by first | omega | (simp; omega) | simp) _) | (refine Below.trans ?_ (Below.mono (by assumption) (by first | omega | (simp; omega) | simp))))⟩

set_option maxHeartbeats 800000 in
theorem impl_pgood (x y : Nat) (w : World) (wx : (Lit.float .f32 x).wf = true) (wy : (Lit.float .f32 y).wf = true) (h1 : fin .f32 x = true) (h2 : cmpC .gtr (ord .f32 (cl .f32 x) (some 0)) = true) (A : Bool) (hA : allF (two (halfC x)) (two (some 0)) (two (cl .f32 y)) 2 = A) : Calls Try.prog 21 #[.float .f32 x, .float .f32 y] w (RetWs A 2 (two (halfC x)) (two (some 0)) (two (cl .f32 y)) w) := by
  have hx := Fl.lt32 wx
  have HP := Lib.hid (fun w => impl_length x w hx)
  rw [h1, h2] at HP
  have fx : Fr .f32 x (cl .f32 x) := ⟨rfl, hx⟩
  have fy : Fr .f32 y (cl .f32 y) := ⟨rfl, Fl.lt32 wy⟩
  have fny := neg32_fr fy
  have z0 : Fr .f32 0 (some 0) := Fr.const (by decide +kernel) (by decide)
  have nz0 := neg32_fr z0
  have f2 : Fr .f32 1073741824 (some 1073741824) := Fr.const (by decide +kernel) (by decide)
  have fh : Fr .f32 1056964608 (some 1056964608) := Fr.const (by decide +kernel) (by decide)
  have HH := Lib.hid (half_same h1 h2)
  have HG := Lib.hid (fun w g cap (h : IsW w g 2 (two (halfC x)) (two (some 0)) (two (cl .f32 y))) => impl_give g 2 cap _ _ _ w h (by omega) A hA)
  clear h1 h2 hA
  go_enter Try.func21, Try.ntmps21
  go_wp2_with (first | (go_at_call 49; refine (HP.out _).mono ?_; rintro e w' ⟨rfl, hb⟩; have hz := hb.size; try simp only [World.size_alloc, World.size_setCell, World.heap_drewN, World.size_drew] at hz; obtain ⟨hc, hf⟩ := Fl.bcell hb; try (have g : w.heap.size < w'.heap.size := by omega); try (have g : w.heap.size ≤ w'.heap.size := by omega)) | (refine Fl.wpList_fl rfl rfl rfl rfl rfl (by assumption) (by assumption) ?_; intro r n hr))
  have hr' : Fr .f32 r (halfC x) := by first | exact hr | (rw [HH.out] at hr; exact hr)
  refine (HG.out _ _ _ (two_isW (new_block _ _) hr' z0 fy (neg32_fr hr') nz0 fny)).mono ?_
  rintro e w2 ⟨rfl, hb2⟩
  have hz2 := hb2.size
  simp only [World.size_alloc, World.size_setCell, World.heap_drewN, World.size_drew] at hz2
  have hI := (two_isW (new_block (w'.drewN n) _) hr' z0 fy (neg32_fr hr') nz0 fny).later hb2
  have hbw : Below w.heap.size w w2 := by (repeat' first | exact Below.refl _ _ | (refine Below.setCell ?_ (by first | omega | (simp; omega) | simp) _) | (refine below_drewN ?_ _) | (refine Below.alloc ?_ (by first | omega | (simp; omega) | simp) _) | (refine Below.trans ?_ (Below.mono (by assumption) (by first | omega | (simp; omega) | simp))))
  cases A
  · go_wp2
    go_ret2
    exact .inr ⟨rfl, rfl, hbw⟩
  · go_wp2
    go_ret2
    exact .inl ⟨rfl, _, _, rfl, hz, hI, hbw⟩

set_option maxHeartbeats 800000 in
theorem spec_pgood (x y : Nat) (w : World) (wx : (Lit.float .f32 x).wf = true) (wy : (Lit.float .f32 y).wf = true) (h1 : fin .f32 x = true) (h2 : cmpC .gtr (ord .f32 (cl .f32 x) (some 0)) = true) (A : Bool) (hA : allF (two (halfC x)) (two (some 0)) (two (cl .f32 y)) 2 = A) : Calls Try.prog 20 #[.float .f32 x, .float .f32 y] w (RetWs A 2 (two (halfC x)) (two (some 0)) (two (cl .f32 y)) w) := by
  have hx := Fl.lt32 wx
  have HP := Lib.hid (fun w => spec_above x w wx)
  rw [h1, h2] at HP
  have fx : Fr .f32 x (cl .f32 x) := ⟨rfl, hx⟩
  have fy : Fr .f32 y (cl .f32 y) := ⟨rfl, Fl.lt32 wy⟩
  have fny := neg32_fr fy
  have z0 : Fr .f32 0 (some 0) := Fr.const (by decide +kernel) (by decide)
  have nz0 := neg32_fr z0
  have f2 : Fr .f32 1073741824 (some 1073741824) := Fr.const (by decide +kernel) (by decide)
  have fh : Fr .f32 1056964608 (some 1056964608) := Fr.const (by decide +kernel) (by decide)
  have HH := Lib.hid (half_same h1 h2)
  have HG := Lib.hid (fun w g cap (h : IsW w g 2 (two (halfC x)) (two (some 0)) (two (cl .f32 y))) => spec_give g 2 cap _ _ _ w h (by omega) A hA)
  clear h1 h2 hA
  go_enter Try.func20, Try.ntmps20
  go_wp2_with (first | (go_at_call 47; refine (HP.out _).mono ?_; rintro e w' ⟨rfl, hb⟩; have hz := hb.size; try simp only [World.size_alloc, World.size_setCell, World.heap_drewN, World.size_drew] at hz; obtain ⟨hc, hf⟩ := Fl.bcell hb; try (have g : w.heap.size < w'.heap.size := by omega); try (have g : w.heap.size ≤ w'.heap.size := by omega)) | (refine Fl.wpList_fl rfl rfl rfl rfl rfl (by assumption) (by assumption) ?_; intro r n hr))
  have hr' : Fr .f32 r (halfC x) := by first | exact hr | (rw [HH.out] at hr; exact hr)
  refine (HG.out _ _ _ (two_isW (new_block _ _) hr' z0 fy (neg32_fr hr') nz0 fny)).mono ?_
  rintro e w2 ⟨rfl, hb2⟩
  have hz2 := hb2.size
  simp only [World.size_alloc, World.size_setCell, World.heap_drewN, World.size_drew] at hz2
  have hI := (two_isW (new_block (w'.drewN n) _) hr' z0 fy (neg32_fr hr') nz0 fny).later hb2
  have hbw : Below w.heap.size w w2 := by (repeat' first | exact Below.refl _ _ | (refine Below.setCell ?_ (by first | omega | (simp; omega) | simp) _) | (refine below_drewN ?_ _) | (refine Below.alloc ?_ (by first | omega | (simp; omega) | simp) _) | (refine Below.trans ?_ (Below.mono (by assumption) (by first | omega | (simp; omega) | simp))))
  cases A
  · go_wp2
    go_ret2
    exact .inr ⟨rfl, rfl, hbw⟩
  · go_wp2
    go_ret2
    exact .inl ⟨rfl, _, _, rfl, hz, hI, hbw⟩

theorem both_pair (x y : Nat) (wx : (Lit.float .f32 x).wf = true) (wy : (Lit.float .f32 y).wf = true) : ∃ A n cx cy cs, n ≤ 32 ∧ (∀ w, Calls Try.prog 20 #[.float .f32 x, .float .f32 y] w (RetWs A n cx cy cs w)) ∧ (∀ w, Calls Try.prog 21 #[.float .f32 x, .float .f32 y] w (RetWs A n cx cy cs w)) := by
  cases h : (fin .f32 x && cmpC .gtr (ord .f32 (cl .f32 x) (some 0)))
  · exact ⟨false, 2, _, _, _, by omega, fun w => spec_pbad x y w wx h, fun w => impl_pbad x y w (Fl.lt32 wx) h⟩
  · have h1 : fin .f32 x = true := by cases e : fin .f32 x <;> rw [e] at h <;> first | rfl | cases h
    have h2 : cmpC .gtr (ord .f32 (cl .f32 x) (some 0)) = true := by rw [h1] at h; exact h
    exact ⟨_, 2, _, _, _, by omega, fun w => spec_pgood x y w wx wy h1 h2 _ rfl, fun w => impl_pgood x y w wx wy h1 h2 _ rfl⟩
end Ws
end Go.Proofs.Ytaacneppnpognaa
