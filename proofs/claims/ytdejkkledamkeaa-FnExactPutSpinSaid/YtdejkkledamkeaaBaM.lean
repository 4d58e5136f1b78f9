/- Numbers that are told of basins: the functions themselves. -/
import Derived.Test.YtdejkkledamkeaaBaN
import Derived.Test.YtdejkkledamkeaaBaA
namespace Go.Proofs.Ytdejkkledamkeaa
set_option linter.unusedSimpArgs false
set_option linter.unusedVariables false
open Go.RowKit
set_option maxRecDepth 20000
namespace Ba
open Fl Rate


set_option maxHeartbeats 1600000 in
theorem spec_TotalB (W H : Int) (a : Option Addr) (n cap : Nat) (c : Nat → Option Nat) (w : World) (h : IsY w a n cap c) (A : Bool) (hA : okB W H n c = A) : Calls Try.prog 31 #[bV W H a n cap] w (RetN (if A then Nums.accC c n else none) w) := by
  have HV := Lib.hid (fun G w' (hb : Below w.heap.size w w') e0 e1 e2 => spec_is G W H a n cap c w' e0 e1 e2 (h.later hb) A hA)
  cases A
  · clear hA h
    go_enter Try.func31, Try.ntmps31
    go_wp2_with (go_at_call 46; refine (HV.out _ _ (by (repeat' first | exact Below.refl _ _ | (refine Below.setCell ?_ (by first | omega | (simp; omega) | simp) _) | (refine below_drewN ?_ _) | (refine Below.alloc ?_ (by first | omega | (simp; omega) | simp) _) | (refine Below.trans ?_ (Below.mono (by assumption) (by first | omega | (simp; omega) | simp))))) (by simp) (by simp) (by simp)).mono ?_; rintro e w1 ⟨rfl, hb1⟩)
    go_ret2
    exact ⟨_, rfl, zero32, by (repeat' first | exact Below.refl _ _ | (refine Below.setCell ?_ (by first | omega | (simp; omega) | simp) _) | (refine below_drewN ?_ _) | (refine Below.alloc ?_ (by first | omega | (simp; omega) | simp) _) | (refine Below.trans ?_ (Below.mono (by assumption) (by first | omega | (simp; omega) | simp))))⟩
  · have HT := Lib.hid (fun G w' (hb : Below w.heap.size w w') e2 => spec_total G a n cap c w' (h.later hb) e2)
    have HN := Lib.hid (fun x w f => spec_number x (Nums.accC c n) w f)
    unfold RetN at *
    simp only [if_true]
    generalize Nums.accC c n = d at *
    generalize finC d = B at *
    generalize (if B then d else some 0) = d2 at *
    clear hA h
    go_enter Try.func31, Try.ntmps31
    go_wp2_with fail
    refine (HV.out _ _ (by (repeat' first | exact Below.refl _ _ | (refine Below.setCell ?_ (by first | omega | (simp; omega) | simp) _) | (refine below_drewN ?_ _) | (refine Below.alloc ?_ (by first | omega | (simp; omega) | simp) _) | (refine Below.trans ?_ (Below.mono (by assumption) (by first | omega | (simp; omega) | simp))))) (by simp) (by simp) (by simp)).mono ?_
    rintro e w1 ⟨rfl, hb1⟩
    have hz1 := hb1.size
    try simp only [World.size_alloc, World.size_setCell, World.heap_drewN, World.size_drew] at hz1
    obtain ⟨hc1, hf1⟩ := Fl.bcell hb1
    have g1_0 : w.heap.size < w1.heap.size := by omega
    go_wp2_with fail
    refine (HT.out _ _ (by (repeat' first | exact Below.refl _ _ | (refine Below.setCell ?_ (by first | omega | (simp; omega) | simp) _) | (refine below_drewN ?_ _) | (refine Below.alloc ?_ (by first | omega | (simp; omega) | simp) _) | (refine Below.trans ?_ (Below.mono (by assumption) (by first | omega | (simp; omega) | simp))))) (by rw [hc1 _ _ (by simp)]; simp)).mono ?_
    rintro e w2 ⟨r2, rfl, hr2, hb2⟩
    have hz2 := hb2.size
    try simp only [World.size_alloc, World.size_setCell, World.heap_drewN, World.size_drew] at hz2
    obtain ⟨hc2, hf2⟩ := Fl.bcell hb2
    have g2_0 : w.heap.size < w2.heap.size := by omega
    go_wp2_with fail
    refine (HN.out _ _ hr2).mono ?_
    rintro e w3 ⟨r3, rfl, hr3, hb3⟩
    have hz3 := hb3.size
    try simp only [World.size_alloc, World.size_setCell, World.heap_drewN, World.size_drew] at hz3
    obtain ⟨hc3, hf3⟩ := Fl.bcell hb3
    have g3_0 : w.heap.size < w3.heap.size := by omega
    go_wp2
    go_ret2
    exact ⟨_, rfl, hr3, by (repeat' first | exact Below.refl _ _ | (refine Below.setCell ?_ (by first | omega | (simp; omega) | simp) _) | (refine below_drewN ?_ _) | (refine Below.alloc ?_ (by first | omega | (simp; omega) | simp) _) | (refine Below.trans ?_ (Below.mono (by assumption) (by first | omega | (simp; omega) | simp))))⟩

set_option maxHeartbeats 1600000 in
theorem spec_SquaresB (W H : Int) (a : Option Addr) (n cap : Nat) (c : Nat → Option Nat) (w : World) (h : IsY w a n cap c) (A : Bool) (hA : okB W H n c = A) : Calls Try.prog 33 #[bV W H a n cap] w (RetN (if A then Nums.accC (sqC c) n else none) w) := by
  have HV := Lib.hid (fun G w' (hb : Below w.heap.size w w') e0 e1 e2 => spec_is G W H a n cap c w' e0 e1 e2 (h.later hb) A hA)
  cases A
  · clear hA h
    go_enter Try.func33, Try.ntmps33
    go_wp2_with (go_at_call 46; refine (HV.out _ _ (by (repeat' first | exact Below.refl _ _ | (refine Below.setCell ?_ (by first | omega | (simp; omega) | simp) _) | (refine below_drewN ?_ _) | (refine Below.alloc ?_ (by first | omega | (simp; omega) | simp) _) | (refine Below.trans ?_ (Below.mono (by assumption) (by first | omega | (simp; omega) | simp))))) (by simp) (by simp) (by simp)).mono ?_; rintro e w1 ⟨rfl, hb1⟩)
    go_ret2
    exact ⟨_, rfl, zero32, by (repeat' first | exact Below.refl _ _ | (refine Below.setCell ?_ (by first | omega | (simp; omega) | simp) _) | (refine below_drewN ?_ _) | (refine Below.alloc ?_ (by first | omega | (simp; omega) | simp) _) | (refine Below.trans ?_ (Below.mono (by assumption) (by first | omega | (simp; omega) | simp))))⟩
  · have HT := Lib.hid (fun G w' (hb : Below w.heap.size w w') e2 => spec_squares G a n cap c w' (h.later hb) e2)
    have HN := Lib.hid (fun x w f => spec_number x (Nums.accC (sqC c) n) w f)
    unfold RetN at *
    simp only [if_true]
    generalize Nums.accC (sqC c) n = d at *
    generalize finC d = B at *
    generalize (if B then d else some 0) = d2 at *
    clear hA h
    go_enter Try.func33, Try.ntmps33
    go_wp2_with fail
    refine (HV.out _ _ (by (repeat' first | exact Below.refl _ _ | (refine Below.setCell ?_ (by first | omega | (simp; omega) | simp) _) | (refine below_drewN ?_ _) | (refine Below.alloc ?_ (by first | omega | (simp; omega) | simp) _) | (refine Below.trans ?_ (Below.mono (by assumption) (by first | omega | (simp; omega) | simp))))) (by simp) (by simp) (by simp)).mono ?_
    rintro e w1 ⟨rfl, hb1⟩
    have hz1 := hb1.size
    try simp only [World.size_alloc, World.size_setCell, World.heap_drewN, World.size_drew] at hz1
    obtain ⟨hc1, hf1⟩ := Fl.bcell hb1
    have g1_0 : w.heap.size < w1.heap.size := by omega
    go_wp2_with fail
    refine (HT.out _ _ (by (repeat' first | exact Below.refl _ _ | (refine Below.setCell ?_ (by first | omega | (simp; omega) | simp) _) | (refine below_drewN ?_ _) | (refine Below.alloc ?_ (by first | omega | (simp; omega) | simp) _) | (refine Below.trans ?_ (Below.mono (by assumption) (by first | omega | (simp; omega) | simp))))) (by rw [hc1 _ _ (by simp)]; simp)).mono ?_
    rintro e w2 ⟨r2, rfl, hr2, hb2⟩
    have hz2 := hb2.size
    try simp only [World.size_alloc, World.size_setCell, World.heap_drewN, World.size_drew] at hz2
    obtain ⟨hc2, hf2⟩ := Fl.bcell hb2
    have g2_0 : w.heap.size < w2.heap.size := by omega
    go_wp2_with fail
    refine (HN.out _ _ hr2).mono ?_
    rintro e w3 ⟨r3, rfl, hr3, hb3⟩
    have hz3 := hb3.size
    try simp only [World.size_alloc, World.size_setCell, World.heap_drewN, World.size_drew] at hz3
    obtain ⟨hc3, hf3⟩ := Fl.bcell hb3
    have g3_0 : w.heap.size < w3.heap.size := by omega
    go_wp2
    go_ret2
    exact ⟨_, rfl, hr3, by (repeat' first | exact Below.refl _ _ | (refine Below.setCell ?_ (by first | omega | (simp; omega) | simp) _) | (refine below_drewN ?_ _) | (refine Below.alloc ?_ (by first | omega | (simp; omega) | simp) _) | (refine Below.trans ?_ (Below.mono (by assumption) (by first | omega | (simp; omega) | simp))))⟩

set_option maxHeartbeats 1600000 in
theorem impl_TotalB (W H : Int) (a : Option Addr) (n cap : Nat) (c : Nat → Option Nat) (w : World) (h : IsY w a n cap c) (A : Bool) (hA : okB W H n c = A) : Calls Try.prog 32 #[bV W H a n cap] w (RetN (if A then Nums.accC c n else none) w) := by
  have HV := Lib.hid (fun w' (hb : Below w.heap.size w w') => impl_valid W H a n cap c w' (h.later hb) A hA)
  cases A
  · clear hA h
    go_enter Try.func32, Try.ntmps32
    go_wp2_with (go_at_call 18; refine (HV.out _ (by (repeat' first | exact Below.refl _ _ | (refine Below.setCell ?_ (by first | omega | (simp; omega) | simp) _) | (refine below_drewN ?_ _) | (refine Below.alloc ?_ (by first | omega | (simp; omega) | simp) _) | (refine Below.trans ?_ (Below.mono (by assumption) (by first | omega | (simp; omega) | simp)))))).mono ?_; rintro e w1 ⟨rfl, hb1⟩)
    go_ret2
    exact ⟨_, rfl, zero32, by (repeat' first | exact Below.refl _ _ | (refine Below.setCell ?_ (by first | omega | (simp; omega) | simp) _) | (refine below_drewN ?_ _) | (refine Below.alloc ?_ (by first | omega | (simp; omega) | simp) _) | (refine Below.trans ?_ (Below.mono (by assumption) (by first | omega | (simp; omega) | simp))))⟩
  · have hn := (okB_n hA).2
    have HS := Lib.hid (fun w' (hb : Below w.heap.size w w') => impl_finsum a n cap c w' (h.later hb) hn)
    unfold RetN at *
    simp only [if_true]
    generalize Nums.accC c n = d at *
    generalize finC d = B at *
    generalize (if B then d else some 0) = d2 at *
    clear hA h
    go_enter Try.func32, Try.ntmps32
    go_wp2_with fail
    refine (HV.out _ (by (repeat' first | exact Below.refl _ _ | (refine Below.setCell ?_ (by first | omega | (simp; omega) | simp) _) | (refine below_drewN ?_ _) | (refine Below.alloc ?_ (by first | omega | (simp; omega) | simp) _) | (refine Below.trans ?_ (Below.mono (by assumption) (by first | omega | (simp; omega) | simp)))))).mono ?_
    rintro e w1 ⟨rfl, hb1⟩
    have hz1 := hb1.size
    try simp only [World.size_alloc, World.size_setCell, World.heap_drewN, World.size_drew] at hz1
    obtain ⟨hc1, hf1⟩ := Fl.bcell hb1
    have g1_0 : w.heap.size < w1.heap.size := by omega
    go_wp2_with fail
    refine (HS.out _ (by (repeat' first | exact Below.refl _ _ | (refine Below.setCell ?_ (by first | omega | (simp; omega) | simp) _) | (refine below_drewN ?_ _) | (refine Below.alloc ?_ (by first | omega | (simp; omega) | simp) _) | (refine Below.trans ?_ (Below.mono (by assumption) (by first | omega | (simp; omega) | simp)))))).mono ?_
    rintro e w2 ⟨r2, rfl, hr2, hb2⟩
    have hz2 := hb2.size
    try simp only [World.size_alloc, World.size_setCell, World.heap_drewN, World.size_drew] at hz2
    obtain ⟨hc2, hf2⟩ := Fl.bcell hb2
    have g2_0 : w.heap.size < w2.heap.size := by omega
    go_wp2
    go_ret2
    exact ⟨_, rfl, hr2, by (repeat' first | exact Below.refl _ _ | (refine Below.setCell ?_ (by first | omega | (simp; omega) | simp) _) | (refine below_drewN ?_ _) | (refine Below.alloc ?_ (by first | omega | (simp; omega) | simp) _) | (refine Below.trans ?_ (Below.mono (by assumption) (by first | omega | (simp; omega) | simp))))⟩

set_option maxHeartbeats 1600000 in
theorem impl_SquaresB (W H : Int) (a : Option Addr) (n cap : Nat) (c : Nat → Option Nat) (w : World) (h : IsY w a n cap c) (A : Bool) (hA : okB W H n c = A) : Calls Try.prog 34 #[bV W H a n cap] w (RetN (if A then Nums.accC (sqC c) n else none) w) := by
  have HV := Lib.hid (fun w' (hb : Below w.heap.size w w') => impl_valid W H a n cap c w' (h.later hb) A hA)
  cases A
  · clear hA h
    go_enter Try.func34, Try.ntmps34
    go_wp2_with (go_at_call 18; refine (HV.out _ (by (repeat' first | exact Below.refl _ _ | (refine Below.setCell ?_ (by first | omega | (simp; omega) | simp) _) | (refine below_drewN ?_ _) | (refine Below.alloc ?_ (by first | omega | (simp; omega) | simp) _) | (refine Below.trans ?_ (Below.mono (by assumption) (by first | omega | (simp; omega) | simp)))))).mono ?_; rintro e w1 ⟨rfl, hb1⟩)
    go_ret2
    exact ⟨_, rfl, zero32, by (repeat' first | exact Below.refl _ _ | (refine Below.setCell ?_ (by first | omega | (simp; omega) | simp) _) | (refine below_drewN ?_ _) | (refine Below.alloc ?_ (by first | omega | (simp; omega) | simp) _) | (refine Below.trans ?_ (Below.mono (by assumption) (by first | omega | (simp; omega) | simp))))⟩
  · have hn := (okB_n hA).2
    have HS := Lib.hid (fun w' (hb : Below w.heap.size w w') => impl_doty a n cap c w' (h.later hb) hn)
    have HN := Lib.hid (fun x w f => impl_number x (Nums.accC (sqC c) n) w f)
    unfold RetN at *
    simp only [if_true]
    generalize Nums.accC (sqC c) n = d at *
    generalize finC d = B at *
    generalize (if B then d else some 0) = d2 at *
    clear hA h
    go_enter Try.func34, Try.ntmps34
    go_wp2_with fail
    refine (HV.out _ (by (repeat' first | exact Below.refl _ _ | (refine Below.setCell ?_ (by first | omega | (simp; omega) | simp) _) | (refine below_drewN ?_ _) | (refine Below.alloc ?_ (by first | omega | (simp; omega) | simp) _) | (refine Below.trans ?_ (Below.mono (by assumption) (by first | omega | (simp; omega) | simp)))))).mono ?_
    rintro e w1 ⟨rfl, hb1⟩
    have hz1 := hb1.size
    try simp only [World.size_alloc, World.size_setCell, World.heap_drewN, World.size_drew] at hz1
    obtain ⟨hc1, hf1⟩ := Fl.bcell hb1
    have g1_0 : w.heap.size < w1.heap.size := by omega
    go_wp2_with fail
    refine (HS.out _ (by (repeat' first | exact Below.refl _ _ | (refine Below.setCell ?_ (by first | omega | (simp; omega) | simp) _) | (refine below_drewN ?_ _) | (refine Below.alloc ?_ (by first | omega | (simp; omega) | simp) _) | (refine Below.trans ?_ (Below.mono (by assumption) (by first | omega | (simp; omega) | simp)))))).mono ?_
    rintro e w2 ⟨r2, rfl, hr2, hb2⟩
    have hz2 := hb2.size
    try simp only [World.size_alloc, World.size_setCell, World.heap_drewN, World.size_drew] at hz2
    obtain ⟨hc2, hf2⟩ := Fl.bcell hb2
    have g2_0 : w.heap.size < w2.heap.size := by omega
    go_wp2_with fail
    refine (HN.out _ _ hr2).mono ?_
    rintro e w3 ⟨r3, rfl, hr3, hb3⟩
    go_wp2
    go_ret2
    exact ⟨_, rfl, hr3, by (repeat' first | exact Below.refl _ _ | (refine Below.setCell ?_ (by first | omega | (simp; omega) | simp) _) | (refine below_drewN ?_ _) | (refine Below.alloc ?_ (by first | omega | (simp; omega) | simp) _) | (refine Below.trans ?_ (Below.mono (by assumption) (by first | omega | (simp; omega) | simp))))⟩

def loC (c : Nat → Option Nat) : Nat → Option Nat
  | 0 => c 0
  | k + 1 => if cmpC .lss (ord .f32 (c k) (loC c k)) then c k else loC c k

def hiC (c : Nat → Option Nat) : Nat → Option Nat
  | 0 => c 0
  | k + 1 => if cmpC .gtr (ord .f32 (c k) (hiC c k)) then c k else hiC c k

theorem ord_refl {r : Nat} {d : Option Nat} (f : Fr .f32 r d) : cmpC .lss (ord .f32 d d) = false ∧ cmpC .gtr (ord .f32 d d) = false := by
  cases d with
  | none => exact ⟨rfl, rfl⟩
  | some x => rw [Same.ord_self f]; exact ⟨rfl, rfl⟩

/-- Two numbers, and whether there are such. -/
def RetR (A : Bool) (lo hi : Option Nat) (w : World) (e : Ending) (w' : World) : Prop := ∃ r s, e = .returned (.tuple #[.float .f32 r, .float .f32 s, .bool A]) ∧ Fr .f32 r (if A then lo else some 0) ∧ Fr .f32 s (if A then hi else some 0) ∧ Below w.heap.size w w'

set_option maxHeartbeats 3200000 in
theorem impl_RangeB (W H : Int) (a : Option Addr) (n cap : Nat) (c : Nat → Option Nat) (w : World) (h : IsY w a n cap c) (A : Bool) (hA : okB W H n c = A) : Calls Try.prog 36 #[bV W H a n cap] w (RetR A (loC c n) (hiC c n) w) := by
  have HV := Lib.hid (fun w' (hb : Below w.heap.size w w') => impl_valid W H a n cap c w' (h.later hb) A hA)
  cases A
  · clear hA h
    go_enter Try.func36, Try.ntmps36
    go_wp2_with (go_at_call 18; refine (HV.out _ (by (repeat' first | exact Below.refl _ _ | (refine Below.setCell ?_ (by first | omega | (simp; omega) | simp) _) | (refine below_drewN ?_ _) | (refine Below.alloc ?_ (by first | omega | (simp; omega) | simp) _) | (refine Below.trans ?_ (Below.mono (by assumption) (by first | omega | (simp; omega) | simp)))))).mono ?_; rintro e w1 ⟨rfl, hb1⟩)
    go_ret3
    exact ⟨_, _, rfl, zero32, zero32, by (repeat' first | exact Below.refl _ _ | (refine Below.setCell ?_ (by first | omega | (simp; omega) | simp) _) | (refine below_drewN ?_ _) | (refine Below.alloc ?_ (by first | omega | (simp; omega) | simp) _) | (refine Below.trans ?_ (Below.mono (by assumption) (by first | omega | (simp; omega) | simp))))⟩
  · have hn := (okB_n hA).2
    have hn9 := (okB_n hA).1
    clear hA
    obtain ⟨h2, h3, b, off, h5, h6⟩ := h
    have H6 := Lib.hid h6; clear h6
    obtain rfl := h5 (by omega)
    unfold maxLen at h3
    clear h5
    go_enter Try.func36, Try.ntmps36
    go_wp2_with fail
    refine (HV.out _ (by (repeat' first | exact Below.refl _ _ | (refine Below.setCell ?_ (by first | omega | (simp; omega) | simp) _) | (refine below_drewN ?_ _) | (refine Below.alloc ?_ (by first | omega | (simp; omega) | simp) _) | (refine Below.trans ?_ (Below.mono (by assumption) (by first | omega | (simp; omega) | simp)))))).mono ?_
    rintro e w1 ⟨rfl, hb1⟩
    have hz1 := hb1.size
    try simp only [World.size_alloc, World.size_setCell, World.heap_drewN, World.size_drew] at hz1
    obtain ⟨hc1, hf1⟩ := Fl.bcell hb1
    have g1_0 : w.heap.size < w1.heap.size := by omega
    obtain ⟨v0, hv0, fv0, hbl0⟩ := at_y H6.out (show 0 < n by omega) (show Below w.heap.size w w1 by (repeat' first | exact Below.refl _ _ | (refine Below.setCell ?_ (by first | omega | (simp; omega) | simp) _) | (refine below_drewN ?_ _) | (refine Below.alloc ?_ (by first | omega | (simp; omega) | simp) _) | (refine Below.trans ?_ (Below.mono (by assumption) (by first | omega | (simp; omega) | simp)))))
    rw [Nat.add_zero] at hv0
    have hn0 : 0 < n := by omega
    have HB1 := Lib.hid (show Below w.heap.size w w1 by (repeat' first | exact Below.refl _ _ | (refine Below.setCell ?_ (by first | omega | (simp; omega) | simp) _) | (refine below_drewN ?_ _) | (refine Below.alloc ?_ (by first | omega | (simp; omega) | simp) _) | (refine Below.trans ?_ (Below.mono (by assumption) (by first | omega | (simp; omega) | simp)))))
    go_wp2
    go_quiet (fail)
    have HV0 := Lib.hid fv0; clear fv0 hv0
    go_wp2
    go_loopw [5, 6, 23] (fun p q i wr => ∃ k r s : Nat, k ≤ n ∧ i = .int .i64 k ∧ p = .float .f32 r ∧ q = .float .f32 s ∧ Fr .f32 r (loC c k) ∧ Fr .f32 s (hiC c k) ∧ Below w.heap.size w wr) (fun _ _ i _ => n - (intOf i).toNat)
    case atStart => exact ⟨0, v0, v0, Nat.zero_le _, rfl, rfl, rfl, HV0.out, HV0.out, below_drewN HB1.out _⟩
    case round =>
      clear hc1 hf1
      obtain ⟨k, r, s, hk, rfl, rfl, rfl, fr, fs, hbel⟩ := hrel
      by_cases hlt : k < n
      · obtain ⟨v, hsrc, fx, hlb⟩ := at_y H6.out hlt hbel
        have HL := Lib.hid (show loC c (k + 1) = if cmpC .lss (ord .f32 (c k) (loC c k)) then c k else loC c k from rfl)
        have HH := Lib.hid (show hiC c (k + 1) = if cmpC .gtr (ord .f32 (c k) (hiC c k)) then c k else hiC c k from rfl)
        cases hlo : cmpC .lss (ord .f32 (c k) (loC c k))
        all_goals cases hhi : cmpC .gtr (ord .f32 (c k) (hiC c k))
        all_goals
          rw [hlo] at HL
          rw [hhi] at HH
          have HLO := Lib.hid hlo
          have HHI := Lib.hid hhi
          have HB := Lib.hid hbel
          clear hlo hhi hbel
          go_wp2_with (refine Fl.wpList_cmp rfl rfl rfl rfl rfl (by assumption) (by assumption) ?_; try simp only [HLO.out, HHI.out])
          go_roundw
          case rel => exact ⟨k + 1, _, _, by omega, by go_num, rfl, rfl, by rw [HL.out]; first | exact fx | exact fr, by rw [HH.out]; first | exact fx | exact fs, HB.out⟩
          case measure => simp [intOf]; omega
      · obtain rfl : n = k := by omega
        go_wp2
        go_ret3
        exact ⟨r, s, rfl, fr, fs, hbel⟩

set_option maxHeartbeats 3200000 in
theorem spec_RangeB (W H : Int) (a : Option Addr) (n cap : Nat) (c : Nat → Option Nat) (w : World) (h : IsY w a n cap c) (A : Bool) (hA : okB W H n c = A) : Calls Try.prog 35 #[bV W H a n cap] w (RetR A (loC c n) (hiC c n) w) := by
  have HV := Lib.hid (fun G w' (hb : Below w.heap.size w w') e0 e1 e2 => spec_is G W H a n cap c w' e0 e1 e2 (h.later hb) A hA)
  cases A
  · clear hA h
    go_enter Try.func35, Try.ntmps35
    go_wp2_with (go_at_call 46; refine (HV.out _ _ (by (repeat' first | exact Below.refl _ _ | (refine Below.setCell ?_ (by first | omega | (simp; omega) | simp) _) | (refine below_drewN ?_ _) | (refine Below.alloc ?_ (by first | omega | (simp; omega) | simp) _) | (refine Below.trans ?_ (Below.mono (by assumption) (by first | omega | (simp; omega) | simp))))) (by simp) (by simp) (by simp)).mono ?_; rintro e w1 ⟨rfl, hb1⟩)
    go_ret3
    exact ⟨_, _, rfl, zero32, zero32, by (repeat' first | exact Below.refl _ _ | (refine Below.setCell ?_ (by first | omega | (simp; omega) | simp) _) | (refine below_drewN ?_ _) | (refine Below.alloc ?_ (by first | omega | (simp; omega) | simp) _) | (refine Below.trans ?_ (Below.mono (by assumption) (by first | omega | (simp; omega) | simp))))⟩
  · have hn := (okB_n hA).2
    have hn9 := (okB_n hA).1
    clear hA
    obtain ⟨h2, h3, b, off, h5, h6⟩ := h
    have H6 := Lib.hid h6; clear h6
    obtain rfl := h5 (by omega)
    unfold maxLen at h3
    clear h5
    go_enter Try.func35, Try.ntmps35
    go_wp2_with fail
    refine (HV.out _ _ (by (repeat' first | exact Below.refl _ _ | (refine Below.setCell ?_ (by first | omega | (simp; omega) | simp) _) | (refine below_drewN ?_ _) | (refine Below.alloc ?_ (by first | omega | (simp; omega) | simp) _) | (refine Below.trans ?_ (Below.mono (by assumption) (by first | omega | (simp; omega) | simp))))) (by simp) (by simp) (by simp)).mono ?_
    rintro e w1 ⟨rfl, hb1⟩
    have hz1 := hb1.size
    try simp only [World.size_alloc, World.size_setCell, World.heap_drewN, World.size_drew] at hz1
    obtain ⟨hc1, hf1⟩ := Fl.bcell hb1
    have g1_0 : w.heap.size < w1.heap.size := by omega
    obtain ⟨v0, hv0, fv0, hbl0⟩ := at_y H6.out (show 0 < n by omega) (show Below w.heap.size w w1 by (repeat' first | exact Below.refl _ _ | (refine Below.setCell ?_ (by first | omega | (simp; omega) | simp) _) | (refine below_drewN ?_ _) | (refine Below.alloc ?_ (by first | omega | (simp; omega) | simp) _) | (refine Below.trans ?_ (Below.mono (by assumption) (by first | omega | (simp; omega) | simp)))))
    rw [Nat.add_zero] at hv0
    have hn0 : 0 < n := by omega
    have HB1 := Lib.hid (show Below w.heap.size w w1 by (repeat' first | exact Below.refl _ _ | (refine Below.setCell ?_ (by first | omega | (simp; omega) | simp) _) | (refine below_drewN ?_ _) | (refine Below.alloc ?_ (by first | omega | (simp; omega) | simp) _) | (refine Below.trans ?_ (Below.mono (by assumption) (by first | omega | (simp; omega) | simp)))))
    have HE := Lib.hid (show w1.cell? ⟨w.heap.size, 2, none⟩ = some (.slice (some ⟨b, off, none⟩) n cap) by rw [hc1 _ _ (by simp)]; simp)
    have HZ := Lib.hid (show w.heap.size < w1.heap.size by omega)
    go_wp2
    have f1 : Fr .f32 v0 (loC c 1) := by
      show Fr .f32 v0 (if cmpC .lss (ord .f32 (c 0) (c 0)) then c 0 else c 0)
      split <;> exact fv0
    have f2 : Fr .f32 v0 (hiC c 1) := by
      show Fr .f32 v0 (if cmpC .gtr (ord .f32 (c 0) (c 0)) then c 0 else c 0)
      split <;> exact fv0
    have HV0 := Lib.hid (And.intro f1 f2); clear fv0 hv0 f1 f2
    go_loopw [5, 6, 7] (fun p q i wr => ∃ k r s : Nat, 1 ≤ k ∧ k ≤ n ∧ i = .int .i64 k ∧ p = .float .f32 r ∧ q = .float .f32 s ∧ Fr .f32 r (loC c k) ∧ Fr .f32 s (hiC c k) ∧ Below w1.heap.size w1 wr) (fun _ _ i _ => n - (intOf i).toNat)
    case atStart => exact ⟨1, v0, v0, Nat.le_refl _, by omega, rfl, rfl, rfl, HV0.out.1, HV0.out.2, Below.refl _ _⟩
    case round =>
      clear hc1 hf1
      obtain ⟨k, r, s, hk1, hk, rfl, rfl, rfl, fr, fs, hbel1⟩ := hrel
      have e2 : wr.cell? ⟨w.heap.size, 2, none⟩ = some (.slice (some ⟨b, off, none⟩) n cap) := by rw [hbel1.cell HZ.out]; exact HE.out
      have hbel : Below w.heap.size w wr := HB1.out.trans (hbel1.mono HB1.out.size)
      by_cases hlt : k < n
      · obtain ⟨v, hsrc, fx, hlb⟩ := at_y H6.out hlt hbel
        have HL := Lib.hid (show loC c (k + 1) = if cmpC .lss (ord .f32 (c k) (loC c k)) then c k else loC c k from rfl)
        have HH := Lib.hid (show hiC c (k + 1) = if cmpC .gtr (ord .f32 (c k) (hiC c k)) then c k else hiC c k from rfl)
        cases hlo : cmpC .lss (ord .f32 (c k) (loC c k))
        all_goals cases hhi : cmpC .gtr (ord .f32 (c k) (hiC c k))
        all_goals
          rw [hlo] at HL
          rw [hhi] at HH
          have HLO := Lib.hid hlo
          have HHI := Lib.hid hhi
          have HB := Lib.hid hbel1
          clear hlo hhi hbel hbel1
          go_wp2_with (refine Fl.wpList_cmp rfl rfl rfl rfl rfl (by assumption) (by assumption) ?_; try simp only [HLO.out, HHI.out])
          go_roundw
          case rel => exact ⟨k + 1, _, _, by omega, by omega, by go_num, rfl, rfl, by rw [HL.out]; first | exact fx | exact fr, by rw [HH.out]; first | exact fx | exact fs, HB.out⟩
          case measure => simp [intOf]; omega
      · obtain rfl : n = k := by omega
        have HB := Lib.hid hbel; clear hbel hbel1
        go_wp2
        go_ret3
        exact ⟨r, s, rfl, fr, fs, HB.out⟩

end Ba
end Go.Proofs.Ytdejkkledamkeaa
