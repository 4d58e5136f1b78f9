/- How long threads are: the program's function and the model's. -/
import Derived.Test.YtjkkefbfhapblaaThE
namespace Go.Proofs.Ytjkkefbfhapblaa
set_option linter.unusedSimpArgs false
set_option linter.unusedVariables false
open Go.RowKit
set_option maxRecDepth 20000
namespace Th
open Fl Rate

/-- The length of the first k segments. -/
def lenC (c : Nat → Option Nat) (n : Nat) : Nat → Option Nat
  | 0 => some 0
  | k + 1 => op2 .add .f32 (lenC c n k) (longC c n k)

def RetN (A : Bool) (L : Option Nat) (w : World) (e : Ending) (w' : World) : Prop := RetFB (if A && finC L then L else some 0) (A && finC L) w e w'

theorem z32 : Fr .f32 0 (some 0) := Fr.const (by decide +kernel) (by decide)

set_option maxHeartbeats 3200000 in
theorem spec_len (G : Nat) (a : Option Addr) (n cap : Nat) (c : Nat → Option Nat) (w : World) (e0 : w.cell? ⟨G, 0, none⟩ = some (.slice a n cap)) (h : IsV w a n cap c) (hn : n ≤ 32) :
    Calls Try.prog 86 #[.pointer (some ⟨G, 0, none⟩)] w (RetF .f32 (lenC c n n) w) := by
  have lG := block_lt_of_cell e0
  have HE := Lib.hid e0
  have HY := Lib.hid h
  have z0 := z32
  clear e0 h
  go_enter Try.func86, Try.ntmps86
  go_wp2
  go_loopw [4, 3] (fun i m wr => ∃ k : Nat, ∃ q : Nat, k ≤ n ∧ i = .int .i64 k ∧ m = .float .f32 q ∧ Fr .f32 q (lenC c n k) ∧ Below w.heap.size w wr) (fun i _ _ => n - (intOf i).toNat)
  case atStart => exact ⟨0, 0, Nat.zero_le _, rfl, rfl, z0, Below.refl _ _⟩
  case round =>
    obtain ⟨k, q, hk, rfl, rfl, fq, hbel⟩ := hrel
    have FQ := Lib.hid fq
    have HB := Lib.hid hbel
    have e0 : wr.cell? ⟨G, 0, none⟩ = some (.slice a n cap) := by rw [hbel.cell (p := ⟨G, 0, none⟩) lG]; exact HE.out
    have lwr : G < wr.heap.size := by have := hbel.size; omega
    clear fq hbel
    by_cases hlt : k < n
    · go_wp2_with fail
      refine (spec_ends G a n cap k c _ e0 (HY.out.later HB.out) hlt hn).mono ?_
      rintro e w1 ⟨x, y, z, x', y', z', rfl, fx, fy, fz, fx', fy', fz', hb1⟩
      have hz1 := hb1.size
      try simp only [World.size_alloc, World.size_setCell, World.heap_drewN, World.size_drew] at hz1
      obtain ⟨hc1, hf1⟩ := Fl.bcell hb1
      try simp only [World.heap_drewN, World.cell?_drewN, World.frozen?_drewN] at hc1 hf1
      clear e0
      go_wp2_with fail
      refine (Vec.spec_less _ _ _ _ _ _ _ _ _ _ _ _ _ fx' fy' fz' fx fy fz).mono ?_
      rintro e w2 ⟨x2, y2, z2, rfl, fx2, fy2, fz2, hb2⟩
      have hz2 := hb2.size
      try simp only [World.size_alloc, World.size_setCell, World.heap_drewN, World.size_drew] at hz2
      obtain ⟨hc2, hf2⟩ := Fl.bcell hb2
      try simp only [World.heap_drewN, World.cell?_drewN, World.frozen?_drewN] at hc2 hf2
      go_wp2_with fail
      refine (Size.spec_size _ _ _ _ _ _ _ fx2 fy2 fz2).mono ?_
      rintro e w3 ⟨r, rfl, hr, hb3⟩
      have hz3 := hb3.size
      try simp only [World.size_alloc, World.size_setCell, World.heap_drewN, World.size_drew] at hz3
      obtain ⟨hc3, hf3⟩ := Fl.bcell hb3
      try simp only [World.heap_drewN, World.cell?_drewN, World.frozen?_drewN] at hc3 hf3
      have fr : Fr .f32 r (longC c n k) := hr
      have fq := FQ.out
      have HBX := Lib.hid (show Below w.heap.size w w3 by have hB := HB.out; have hbz := hB.size; (repeat' first | exact Below.refl _ _ | (refine Below.setCell ?_ (by first | omega | (simp; omega) | simp) _) | (refine below_drewN ?_ _) | (refine Below.alloc ?_ (by first | omega | (simp; omega) | simp) _) | (refine Below.trans ?_ (Below.mono (by assumption) (by first | omega | (simp; omega) | simp)))))
      clear hr fx fy fz fx' fy' fz' fx2 fy2 fz2 hb1 hb2 hb3 hc1 hc2 hc3 hf1 hf2 hf3
      go_wp2_with (first | (refine Fl.wpList_fl rfl rfl rfl rfl rfl (by assumption) (by assumption) ?_; intro r n hr))
      go_roundw
      case rel => exact ⟨k + 1, _, by omega, by go_num, rfl, by assumption, by first | exact HBX.out | exact below_drewN HBX.out _⟩
      case measure => simp [intOf]; omega
    · obtain rfl : n = k := by omega
      go_wp2
      go_ret
      exact ⟨_, rfl, FQ.out, HB.out⟩

set_option maxHeartbeats 3200000 in
theorem impl_LenT (a : Option Addr) (n cap s : Nat) (cs : Option Nat) (c : Nat → Option Nat) (w : World) (h : IsV w a n cap c) (fs : Fr .f32 s cs) (A : Bool) (hA : okT n cs c = A) : Calls Try.prog 89 #[tV a n cap s] w (RetN A (lenC c n n) w) := by
  have HI2 := Lib.hid (fun w' (hb : Below w.heap.size w w') => impl_is a n cap s cs c w' (h.later hb) fs A hA)
  have z0 := z32
  cases A
  · clear hA h
    go_enter Try.func89, Try.ntmps89
    go_wp2_with fail
    refine (HI2.out _ (by (repeat' first | exact Below.refl _ _ | (refine Below.setCell ?_ (by first | omega | (simp; omega) | simp) _) | (refine below_drewN ?_ _) | (refine Below.alloc ?_ (by first | omega | (simp; omega) | simp) _) | (refine Below.trans ?_ (Below.mono (by assumption) (by first | omega | (simp; omega) | simp)))))).mono ?_
    rintro e w1 ⟨rfl, hb1⟩
    go_wp2
    go_ret2
    exact ⟨_, rfl, z0, by (repeat' first | exact Below.refl _ _ | (refine Below.setCell ?_ (by first | omega | (simp; omega) | simp) _) | (refine below_drewN ?_ _) | (refine Below.alloc ?_ (by first | omega | (simp; omega) | simp) _) | (refine Below.trans ?_ (Below.mono (by assumption) (by first | omega | (simp; omega) | simp))))⟩
  · have hn := (okT_of hA).2.1
    have HY := Lib.hid h
    have HK := Lib.hid (fun r w f => Rate.impl_checked r (lenC c n n) w f)
    clear hA h
    unfold RetN
    rw [Bool.true_and]
    obtain ⟨D, hD⟩ : ∃ D, (if finC (lenC c n n) then lenC c n n else some 0) = D := ⟨_, rfl⟩
    obtain ⟨B, hB⟩ : ∃ B, finC (lenC c n n) = B := ⟨_, rfl⟩
    rw [hD, hB] at HK
    rw [hD, hB]
    clear hD hB
    go_enter Try.func89, Try.ntmps89
    go_wp2_with fail
    refine (HI2.out _ (by (repeat' first | exact Below.refl _ _ | (refine Below.setCell ?_ (by first | omega | (simp; omega) | simp) _) | (refine below_drewN ?_ _) | (refine Below.alloc ?_ (by first | omega | (simp; omega) | simp) _) | (refine Below.trans ?_ (Below.mono (by assumption) (by first | omega | (simp; omega) | simp)))))).mono ?_
    rintro e w1 ⟨rfl, hb1⟩
    have hz1 := hb1.size
    try simp only [World.size_alloc, World.size_setCell, World.heap_drewN, World.size_drew] at hz1
    obtain ⟨hc1, hf1⟩ := Fl.bcell hb1
    try simp only [World.heap_drewN, World.cell?_drewN, World.frozen?_drewN] at hc1 hf1
    have g1_0 : w.heap.size < w1.heap.size := by omega
    have q2 := keep_block hb1 (new_block w (.cells #[.slice a n cap, .float .f32 s] 33))
    have e20 := (cells_of (i := 0) q2).trans (show _ = some (.slice a n cap) from rfl)
    have hbw : Below w.heap.size w w1 := by (repeat' first | exact Below.refl _ _ | (refine Below.setCell ?_ (by first | omega | (simp; omega) | simp) _) | (refine below_drewN ?_ _) | (refine Below.alloc ?_ (by first | omega | (simp; omega) | simp) _) | (refine Below.trans ?_ (Below.mono (by assumption) (by first | omega | (simp; omega) | simp))))
    have HBW := Lib.hid hbw
    have HE := Lib.hid e20
    have lP : w.heap.size < w1.heap.size := by omega
    clear q2 hbw hb1
    go_wp2
    clear e20
    go_loopw [12, 4] (fun i m wr => ∃ k : Nat, ∃ q : Nat, k ≤ n ∧ i = .int .i64 k ∧ m = .float .f32 q ∧ Fr .f32 q (lenC c n k) ∧ Below w1.heap.size w1 wr) (fun i _ _ => n - (intOf i).toNat)
    case atStart => exact ⟨0, 0, Nat.zero_le _, rfl, rfl, z0, Below.refl _ _⟩
    case round =>
      obtain ⟨k, q, hk, rfl, rfl, fq, hbel⟩ := hrel
      have FQ := Lib.hid fq
      have HB := Lib.hid hbel
      have e0 : wr.cell? ⟨w.heap.size, 0, none⟩ = some (.slice a n cap) := by rw [hbel.cell (p := ⟨w.heap.size, 0, none⟩) lP]; exact HE.out
      have lwr : w.heap.size < wr.heap.size := by have := hbel.size; omega
      have HBW2 := Lib.hid (HBW.out.trans (hbel.mono (by omega)))
      clear fq hbel
      by_cases hlt : k < n
      · go_wp2_with fail
        refine (segment_from w.heap.size a n cap k c _ e0 (HY.out.later HBW2.out) hlt hn).mono ?_
        rintro e w2 ⟨x, y, z, x', y', z', rfl, fx, fy, fz, fx', fy', fz', hb2⟩
        have hz2 := hb2.size
        clear e0
        go_wp2_with fail
        refine (long_run _ _ _ _ _ _ _ _ _ _ _ _ _ fx fy fz fx' fy' fz').mono ?_
        rintro e w3 ⟨r, rfl, hr, hb3⟩
        have hz3 := hb3.size
        have fr : Fr .f32 r (longC c n k) := hr
        have fq := FQ.out
        have HBX := Lib.hid (HB.out.trans ((hb2.mono HB.out.size).trans (hb3.mono (by have := HB.out.size; omega))))
        clear hr fx fy fz fx' fy' fz' hb2 hb3
        go_wp2_with (first | (refine Fl.wpList_fl rfl rfl rfl rfl rfl (by assumption) (by assumption) ?_; intro r n hr))
        go_roundw
        case rel => exact ⟨k + 1, _, by omega, by go_num, rfl, by assumption, by first | exact HBX.out | exact below_drewN HBX.out _⟩
        case measure => simp [intOf]; omega
      · obtain rfl : n = k := by omega
        clear e0
        go_wp2_with fail
        refine (HK.out _ _ FQ.out).mono ?_
        rintro e w3 ⟨r, rfl, hr, hb3⟩
        have HBX := Lib.hid (HBW2.out.trans (hb3.mono (by have := HBW2.out.size; omega)))
        go_wp2
        go_ret2
        exact ⟨_, rfl, hr, HBX.out⟩

end Th
end Go.Proofs.Ytjkkefbfhapblaa
