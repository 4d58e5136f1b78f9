/- Two threads joined: the program's function. -/
import Derived.Test.YtjkkefbfhapblaaThJo
namespace Go.Proofs.Ytjkkefbfhapblaa
set_option linter.unusedSimpArgs false
set_option linter.unusedVariables false
open Go.RowKit
set_option maxRecDepth 20000
namespace Th
open Fl Rate

set_option maxHeartbeats 6400000 in
theorem impl_JoinT (a a' : Option Addr) (n n' cap cap' s s' : Nat) (cs cs' : Option Nat) (c c' : Nat → Option Nat) (w : World) (h : IsV w a n cap c) (h' : IsV w a' n' cap' c') (fs : Fr .f32 s cs) (fs' : Fr .f32 s' cs') (i k : Int) (R : Bool) (hR : joinB n n' i k cs cs' c c' = R) :
    Calls Try.prog 36 #[tV a n cap s, tV a' n' cap' s', .int .i64 i, .int .i64 k] w (RetG R s (n + n') (joinF n n' i k c c') w) := by
  have HA0 := Lib.hid (fun A hA w' (hb : Below w.heap.size w w') => impl_is a n cap s cs c w' (h.later hb) fs A hA)
  have HA1 := Lib.hid (fun A hA w' (hb : Below w.heap.size w w') => impl_is a' n' cap' s' cs' c' w' (h'.later hb) fs' A hA)
  cases hA : okT n cs c
  · obtain rfl : R = false := by rw [← hR]; unfold joinB; rw [hA]; rfl
    have HA := Lib.hid (HA0.out false hA)
    clear hR h h' HA0 HA1 hA
    go_enter Try.func36, Try.ntmps36
    go_wp2_with fail
    obtain ⟨wc, hwc⟩ : ∃ u, u = ((w.alloc (.cells #[.slice a n cap, .float .f32 s] 33)).alloc (.cells #[.slice a' n' cap', .float .f32 s'] 33)).alloc (.cells #[.slice none 0 0, .float .f32 0] 33) := ⟨_, rfl⟩
    rw [← hwc]
    have HK := Lib.hid (show Box3 w.heap.size wc (.cells #[.slice a n cap, .float .f32 s] 33) (.cells #[.slice a' n' cap', .float .f32 s'] 33) (.cells #[.slice none 0 0, .float .f32 0] 33) from by rw [hwc]; exact three_boxes _ _ _ _)
    have HBW := Lib.hid (show Below w.heap.size w wc from by rw [hwc]; exact three_below _ _ _ _)
    clear hwc
    have e0 := (cells_of (i := 0) HK.out.1).trans (show _ = some (.slice a n cap) from rfl)
    have e1 := (cells_of (i := 1) HK.out.1).trans (show _ = some (.float .f32 s) from rfl)
    have u0 := (cells_of (i := 0) HK.out.2.1).trans (show _ = some (.slice a' n' cap') from rfl)
    have u1 := (cells_of (i := 1) HK.out.2.1).trans (show _ = some (.float .f32 s') from rfl)
    have z0 := (cells_of (i := 0) HK.out.2.2).trans (show _ = some (Value.slice none 0 0) from rfl)
    have z1 := (cells_of (i := 1) HK.out.2.2).trans (show _ = some (Value.float .f32 0) from rfl)
    have y0 := free_of HK.out.2.2 0
    have y1 := free_of HK.out.2.2 1
    have l2 := block_lt HK.out.2.2
    have l1 : w.heap.size + 1 < wc.heap.size := by omega
    have l0 : w.heap.size < wc.heap.size := by omega
    refine (HA.out _ HBW.out).mono ?_
    rintro e w1 ⟨rfl, hbw1⟩
    have hkw1 := HK.out.later hbw1
    have hbww1 : Below w.heap.size w w1 := HBW.out.trans (hbw1.mono HBW.out.size)
    clear e0 e1 u0 u1 z0 z1 y0 y1 l0 l1 l2 HK HBW
    have HK := Lib.hid hkw1
    have HBW := Lib.hid hbww1
    clear hkw1 hbww1 hbw1
    have e0 := (cells_of (i := 0) HK.out.1).trans (show _ = some (.slice a n cap) from rfl)
    have e1 := (cells_of (i := 1) HK.out.1).trans (show _ = some (.float .f32 s) from rfl)
    have u0 := (cells_of (i := 0) HK.out.2.1).trans (show _ = some (.slice a' n' cap') from rfl)
    have u1 := (cells_of (i := 1) HK.out.2.1).trans (show _ = some (.float .f32 s') from rfl)
    have z0 := (cells_of (i := 0) HK.out.2.2).trans (show _ = some (Value.slice none 0 0) from rfl)
    have z1 := (cells_of (i := 1) HK.out.2.2).trans (show _ = some (Value.float .f32 0) from rfl)
    have y0 := free_of HK.out.2.2 0
    have y1 := free_of HK.out.2.2 1
    have l2 := block_lt HK.out.2.2
    have l1 : w.heap.size + 1 < w1.heap.size := by omega
    have l0 : w.heap.size < w1.heap.size := by omega
    go_wp2
    refine bodyPost_ret ?ohr rfl (retG_no ?obel)
    case ohr => simp [results, Try.results36, go_sem, *]
    case obel => exact Below.setCell (Below.setCell HBW.out (by show w.heap.size ≤ w.heap.size + 2; omega) _) (by show w.heap.size ≤ w.heap.size + 2; omega) _
  have HA := Lib.hid (HA0.out true hA)
  obtain ⟨hn3, hn32, hsf, _⟩ := okT_of hA
  cases hA' : okT n' cs' c'
  · obtain rfl : R = false := by rw [← hR]; unfold joinB; rw [hA, hA']; rfl
    have HA' := Lib.hid (HA1.out false hA')
    clear hR h h' HA0 HA1 hA hA'
    go_enter Try.func36, Try.ntmps36
    go_wp2_with fail
    obtain ⟨wc, hwc⟩ : ∃ u, u = ((w.alloc (.cells #[.slice a n cap, .float .f32 s] 33)).alloc (.cells #[.slice a' n' cap', .float .f32 s'] 33)).alloc (.cells #[.slice none 0 0, .float .f32 0] 33) := ⟨_, rfl⟩
    rw [← hwc]
    have HK := Lib.hid (show Box3 w.heap.size wc (.cells #[.slice a n cap, .float .f32 s] 33) (.cells #[.slice a' n' cap', .float .f32 s'] 33) (.cells #[.slice none 0 0, .float .f32 0] 33) from by rw [hwc]; exact three_boxes _ _ _ _)
    have HBW := Lib.hid (show Below w.heap.size w wc from by rw [hwc]; exact three_below _ _ _ _)
    clear hwc
    have e0 := (cells_of (i := 0) HK.out.1).trans (show _ = some (.slice a n cap) from rfl)
    have e1 := (cells_of (i := 1) HK.out.1).trans (show _ = some (.float .f32 s) from rfl)
    have u0 := (cells_of (i := 0) HK.out.2.1).trans (show _ = some (.slice a' n' cap') from rfl)
    have u1 := (cells_of (i := 1) HK.out.2.1).trans (show _ = some (.float .f32 s') from rfl)
    have z0 := (cells_of (i := 0) HK.out.2.2).trans (show _ = some (Value.slice none 0 0) from rfl)
    have z1 := (cells_of (i := 1) HK.out.2.2).trans (show _ = some (Value.float .f32 0) from rfl)
    have y0 := free_of HK.out.2.2 0
    have y1 := free_of HK.out.2.2 1
    have l2 := block_lt HK.out.2.2
    have l1 : w.heap.size + 1 < wc.heap.size := by omega
    have l0 : w.heap.size < wc.heap.size := by omega
    refine (HA.out _ HBW.out).mono ?_
    rintro e w1 ⟨rfl, hbw1⟩
    have hkw1 := HK.out.later hbw1
    have hbww1 : Below w.heap.size w w1 := HBW.out.trans (hbw1.mono HBW.out.size)
    clear e0 e1 u0 u1 z0 z1 y0 y1 l0 l1 l2 HK HBW
    have HK := Lib.hid hkw1
    have HBW := Lib.hid hbww1
    clear hkw1 hbww1 hbw1
    have e0 := (cells_of (i := 0) HK.out.1).trans (show _ = some (.slice a n cap) from rfl)
    have e1 := (cells_of (i := 1) HK.out.1).trans (show _ = some (.float .f32 s) from rfl)
    have u0 := (cells_of (i := 0) HK.out.2.1).trans (show _ = some (.slice a' n' cap') from rfl)
    have u1 := (cells_of (i := 1) HK.out.2.1).trans (show _ = some (.float .f32 s') from rfl)
    have z0 := (cells_of (i := 0) HK.out.2.2).trans (show _ = some (Value.slice none 0 0) from rfl)
    have z1 := (cells_of (i := 1) HK.out.2.2).trans (show _ = some (Value.float .f32 0) from rfl)
    have y0 := free_of HK.out.2.2 0
    have y1 := free_of HK.out.2.2 1
    have l2 := block_lt HK.out.2.2
    have l1 : w.heap.size + 1 < w1.heap.size := by omega
    have l0 : w.heap.size < w1.heap.size := by omega
    go_wp2_with fail
    refine (HA'.out _ HBW.out).mono ?_
    rintro e w2 ⟨rfl, hbw2⟩
    have hkw2 := HK.out.later hbw2
    have hbww2 : Below w.heap.size w w2 := HBW.out.trans (hbw2.mono HBW.out.size)
    clear e0 e1 u0 u1 z0 z1 y0 y1 l0 l1 l2 HK HBW
    have HK := Lib.hid hkw2
    have HBW := Lib.hid hbww2
    clear hkw2 hbww2 hbw2
    have e0 := (cells_of (i := 0) HK.out.1).trans (show _ = some (.slice a n cap) from rfl)
    have e1 := (cells_of (i := 1) HK.out.1).trans (show _ = some (.float .f32 s) from rfl)
    have u0 := (cells_of (i := 0) HK.out.2.1).trans (show _ = some (.slice a' n' cap') from rfl)
    have u1 := (cells_of (i := 1) HK.out.2.1).trans (show _ = some (.float .f32 s') from rfl)
    have z0 := (cells_of (i := 0) HK.out.2.2).trans (show _ = some (Value.slice none 0 0) from rfl)
    have z1 := (cells_of (i := 1) HK.out.2.2).trans (show _ = some (Value.float .f32 0) from rfl)
    have y0 := free_of HK.out.2.2 0
    have y1 := free_of HK.out.2.2 1
    have l2 := block_lt HK.out.2.2
    have l1 : w.heap.size + 1 < w2.heap.size := by omega
    have l0 : w.heap.size < w2.heap.size := by omega
    go_wp2
    refine bodyPost_ret ?ohr rfl (retG_no ?obel)
    case ohr => simp [results, Try.results36, go_sem, *]
    case obel => exact Below.setCell (Below.setCell HBW.out (by show w.heap.size ≤ w.heap.size + 2; omega) _) (by show w.heap.size ≤ w.heap.size + 2; omega) _
  have HA' := Lib.hid (HA1.out true hA')
  obtain ⟨hn3', hn32', hsf', _⟩ := okT_of hA'
  have HPA := Lib.hid (fun G w' (e0 : w'.cell? ⟨G, 0, none⟩ = some (.slice a n cap)) => impl_point G a n cap i w' e0 hn32)
  have HPB := Lib.hid (fun G w' (e0 : w'.cell? ⟨G, 0, none⟩ = some (.slice a' n' cap')) => impl_point G a' n' cap' k w' e0 hn32')
  clear HA0 HA1
  cases hB : ptB n i
  · obtain rfl : R = false := by rw [← hR]; unfold joinB; rw [hA, hA', hB]; rfl
    rw [hB] at HPA
    clear hR h h' hA hA' hB
    go_enter Try.func36, Try.ntmps36
    go_wp2_with fail
    obtain ⟨wc, hwc⟩ : ∃ u, u = ((w.alloc (.cells #[.slice a n cap, .float .f32 s] 33)).alloc (.cells #[.slice a' n' cap', .float .f32 s'] 33)).alloc (.cells #[.slice none 0 0, .float .f32 0] 33) := ⟨_, rfl⟩
    rw [← hwc]
    have HK := Lib.hid (show Box3 w.heap.size wc (.cells #[.slice a n cap, .float .f32 s] 33) (.cells #[.slice a' n' cap', .float .f32 s'] 33) (.cells #[.slice none 0 0, .float .f32 0] 33) from by rw [hwc]; exact three_boxes _ _ _ _)
    have HBW := Lib.hid (show Below w.heap.size w wc from by rw [hwc]; exact three_below _ _ _ _)
    clear hwc
    have e0 := (cells_of (i := 0) HK.out.1).trans (show _ = some (.slice a n cap) from rfl)
    have e1 := (cells_of (i := 1) HK.out.1).trans (show _ = some (.float .f32 s) from rfl)
    have u0 := (cells_of (i := 0) HK.out.2.1).trans (show _ = some (.slice a' n' cap') from rfl)
    have u1 := (cells_of (i := 1) HK.out.2.1).trans (show _ = some (.float .f32 s') from rfl)
    have z0 := (cells_of (i := 0) HK.out.2.2).trans (show _ = some (Value.slice none 0 0) from rfl)
    have z1 := (cells_of (i := 1) HK.out.2.2).trans (show _ = some (Value.float .f32 0) from rfl)
    have y0 := free_of HK.out.2.2 0
    have y1 := free_of HK.out.2.2 1
    have l2 := block_lt HK.out.2.2
    have l1 : w.heap.size + 1 < wc.heap.size := by omega
    have l0 : w.heap.size < wc.heap.size := by omega
    refine (HA.out _ HBW.out).mono ?_
    rintro e w1 ⟨rfl, hbw1⟩
    have hkw1 := HK.out.later hbw1
    have hbww1 : Below w.heap.size w w1 := HBW.out.trans (hbw1.mono HBW.out.size)
    clear e0 e1 u0 u1 z0 z1 y0 y1 l0 l1 l2 HK HBW
    have HK := Lib.hid hkw1
    have HBW := Lib.hid hbww1
    clear hkw1 hbww1 hbw1
    have e0 := (cells_of (i := 0) HK.out.1).trans (show _ = some (.slice a n cap) from rfl)
    have e1 := (cells_of (i := 1) HK.out.1).trans (show _ = some (.float .f32 s) from rfl)
    have u0 := (cells_of (i := 0) HK.out.2.1).trans (show _ = some (.slice a' n' cap') from rfl)
    have u1 := (cells_of (i := 1) HK.out.2.1).trans (show _ = some (.float .f32 s') from rfl)
    have z0 := (cells_of (i := 0) HK.out.2.2).trans (show _ = some (Value.slice none 0 0) from rfl)
    have z1 := (cells_of (i := 1) HK.out.2.2).trans (show _ = some (Value.float .f32 0) from rfl)
    have y0 := free_of HK.out.2.2 0
    have y1 := free_of HK.out.2.2 1
    have l2 := block_lt HK.out.2.2
    have l1 : w.heap.size + 1 < w1.heap.size := by omega
    have l0 : w.heap.size < w1.heap.size := by omega
    go_wp2_with fail
    refine (HA'.out _ HBW.out).mono ?_
    rintro e w2 ⟨rfl, hbw2⟩
    have hkw2 := HK.out.later hbw2
    have hbww2 : Below w.heap.size w w2 := HBW.out.trans (hbw2.mono HBW.out.size)
    clear e0 e1 u0 u1 z0 z1 y0 y1 l0 l1 l2 HK HBW
    have HK := Lib.hid hkw2
    have HBW := Lib.hid hbww2
    clear hkw2 hbww2 hbw2
    have e0 := (cells_of (i := 0) HK.out.1).trans (show _ = some (.slice a n cap) from rfl)
    have e1 := (cells_of (i := 1) HK.out.1).trans (show _ = some (.float .f32 s) from rfl)
    have u0 := (cells_of (i := 0) HK.out.2.1).trans (show _ = some (.slice a' n' cap') from rfl)
    have u1 := (cells_of (i := 1) HK.out.2.1).trans (show _ = some (.float .f32 s') from rfl)
    have z0 := (cells_of (i := 0) HK.out.2.2).trans (show _ = some (Value.slice none 0 0) from rfl)
    have z1 := (cells_of (i := 1) HK.out.2.2).trans (show _ = some (Value.float .f32 0) from rfl)
    have y0 := free_of HK.out.2.2 0
    have y1 := free_of HK.out.2.2 1
    have l2 := block_lt HK.out.2.2
    have l1 : w.heap.size + 1 < w2.heap.size := by omega
    have l0 : w.heap.size < w2.heap.size := by omega
    go_wp2_with fail
    refine (HPA.out _ _ e0).mono ?_
    rintro e w3 ⟨rfl, rfl⟩
    go_wp2
    refine bodyPost_ret ?ohr rfl (retG_no ?obel)
    case ohr => simp [results, Try.results36, go_sem, *]
    case obel => exact Below.setCell (Below.setCell HBW.out (by show w.heap.size ≤ w.heap.size + 2; omega) _) (by show w.heap.size ≤ w.heap.size + 2; omega) _
  cases hB' : ptB n' k
  · obtain rfl : R = false := by rw [← hR]; unfold joinB; rw [hA, hA', hB, hB']; rfl
    rw [hB] at HPA
    rw [hB'] at HPB
    clear hR h h' hA hA' hB hB'
    go_enter Try.func36, Try.ntmps36
    go_wp2_with fail
    obtain ⟨wc, hwc⟩ : ∃ u, u = ((w.alloc (.cells #[.slice a n cap, .float .f32 s] 33)).alloc (.cells #[.slice a' n' cap', .float .f32 s'] 33)).alloc (.cells #[.slice none 0 0, .float .f32 0] 33) := ⟨_, rfl⟩
    rw [← hwc]
    have HK := Lib.hid (show Box3 w.heap.size wc (.cells #[.slice a n cap, .float .f32 s] 33) (.cells #[.slice a' n' cap', .float .f32 s'] 33) (.cells #[.slice none 0 0, .float .f32 0] 33) from by rw [hwc]; exact three_boxes _ _ _ _)
    have HBW := Lib.hid (show Below w.heap.size w wc from by rw [hwc]; exact three_below _ _ _ _)
    clear hwc
    have e0 := (cells_of (i := 0) HK.out.1).trans (show _ = some (.slice a n cap) from rfl)
    have e1 := (cells_of (i := 1) HK.out.1).trans (show _ = some (.float .f32 s) from rfl)
    have u0 := (cells_of (i := 0) HK.out.2.1).trans (show _ = some (.slice a' n' cap') from rfl)
    have u1 := (cells_of (i := 1) HK.out.2.1).trans (show _ = some (.float .f32 s') from rfl)
    have z0 := (cells_of (i := 0) HK.out.2.2).trans (show _ = some (Value.slice none 0 0) from rfl)
    have z1 := (cells_of (i := 1) HK.out.2.2).trans (show _ = some (Value.float .f32 0) from rfl)
    have y0 := free_of HK.out.2.2 0
    have y1 := free_of HK.out.2.2 1
    have l2 := block_lt HK.out.2.2
    have l1 : w.heap.size + 1 < wc.heap.size := by omega
    have l0 : w.heap.size < wc.heap.size := by omega
    refine (HA.out _ HBW.out).mono ?_
    rintro e w1 ⟨rfl, hbw1⟩
    have hkw1 := HK.out.later hbw1
    have hbww1 : Below w.heap.size w w1 := HBW.out.trans (hbw1.mono HBW.out.size)
    clear e0 e1 u0 u1 z0 z1 y0 y1 l0 l1 l2 HK HBW
    have HK := Lib.hid hkw1
    have HBW := Lib.hid hbww1
    clear hkw1 hbww1 hbw1
    have e0 := (cells_of (i := 0) HK.out.1).trans (show _ = some (.slice a n cap) from rfl)
    have e1 := (cells_of (i := 1) HK.out.1).trans (show _ = some (.float .f32 s) from rfl)
    have u0 := (cells_of (i := 0) HK.out.2.1).trans (show _ = some (.slice a' n' cap') from rfl)
    have u1 := (cells_of (i := 1) HK.out.2.1).trans (show _ = some (.float .f32 s') from rfl)
    have z0 := (cells_of (i := 0) HK.out.2.2).trans (show _ = some (Value.slice none 0 0) from rfl)
    have z1 := (cells_of (i := 1) HK.out.2.2).trans (show _ = some (Value.float .f32 0) from rfl)
    have y0 := free_of HK.out.2.2 0
    have y1 := free_of HK.out.2.2 1
    have l2 := block_lt HK.out.2.2
    have l1 : w.heap.size + 1 < w1.heap.size := by omega
    have l0 : w.heap.size < w1.heap.size := by omega
    go_wp2_with fail
    refine (HA'.out _ HBW.out).mono ?_
    rintro e w2 ⟨rfl, hbw2⟩
    have hkw2 := HK.out.later hbw2
    have hbww2 : Below w.heap.size w w2 := HBW.out.trans (hbw2.mono HBW.out.size)
    clear e0 e1 u0 u1 z0 z1 y0 y1 l0 l1 l2 HK HBW
    have HK := Lib.hid hkw2
    have HBW := Lib.hid hbww2
    clear hkw2 hbww2 hbw2
    have e0 := (cells_of (i := 0) HK.out.1).trans (show _ = some (.slice a n cap) from rfl)
    have e1 := (cells_of (i := 1) HK.out.1).trans (show _ = some (.float .f32 s) from rfl)
    have u0 := (cells_of (i := 0) HK.out.2.1).trans (show _ = some (.slice a' n' cap') from rfl)
    have u1 := (cells_of (i := 1) HK.out.2.1).trans (show _ = some (.float .f32 s') from rfl)
    have z0 := (cells_of (i := 0) HK.out.2.2).trans (show _ = some (Value.slice none 0 0) from rfl)
    have z1 := (cells_of (i := 1) HK.out.2.2).trans (show _ = some (Value.float .f32 0) from rfl)
    have y0 := free_of HK.out.2.2 0
    have y1 := free_of HK.out.2.2 1
    have l2 := block_lt HK.out.2.2
    have l1 : w.heap.size + 1 < w2.heap.size := by omega
    have l0 : w.heap.size < w2.heap.size := by omega
    go_wp2_with fail
    refine (HPA.out _ _ e0).mono ?_
    rintro e w3 ⟨rfl, rfl⟩
    go_wp2_with fail
    refine (HPB.out _ _ u0).mono ?_
    rintro e w4 ⟨rfl, rfl⟩
    go_wp2
    refine bodyPost_ret ?ohr rfl (retG_no ?obel)
    case ohr => simp [results, Try.results36, go_sem, *]
    case obel => exact Below.setCell (Below.setCell HBW.out (by show w.heap.size ≤ w.heap.size + 2; omega) _) (by show w.heap.size ≤ w.heap.size + 2; omega) _
  rw [hB] at HPA
  rw [hB'] at HPB
  cases hE : cmpC .neq (ord .f32 cs cs')
  case true =>
    obtain rfl : R = false := by rw [← hR]; unfold joinB; rw [hA, hA', hB, hB', hE]; rfl
    clear hR h h' hA hA' hB hB'
    go_enter Try.func36, Try.ntmps36
    go_wp2_with fail
    obtain ⟨wc, hwc⟩ : ∃ u, u = ((w.alloc (.cells #[.slice a n cap, .float .f32 s] 33)).alloc (.cells #[.slice a' n' cap', .float .f32 s'] 33)).alloc (.cells #[.slice none 0 0, .float .f32 0] 33) := ⟨_, rfl⟩
    rw [← hwc]
    have HK := Lib.hid (show Box3 w.heap.size wc (.cells #[.slice a n cap, .float .f32 s] 33) (.cells #[.slice a' n' cap', .float .f32 s'] 33) (.cells #[.slice none 0 0, .float .f32 0] 33) from by rw [hwc]; exact three_boxes _ _ _ _)
    have HBW := Lib.hid (show Below w.heap.size w wc from by rw [hwc]; exact three_below _ _ _ _)
    clear hwc
    have e0 := (cells_of (i := 0) HK.out.1).trans (show _ = some (.slice a n cap) from rfl)
    have e1 := (cells_of (i := 1) HK.out.1).trans (show _ = some (.float .f32 s) from rfl)
    have u0 := (cells_of (i := 0) HK.out.2.1).trans (show _ = some (.slice a' n' cap') from rfl)
    have u1 := (cells_of (i := 1) HK.out.2.1).trans (show _ = some (.float .f32 s') from rfl)
    have z0 := (cells_of (i := 0) HK.out.2.2).trans (show _ = some (Value.slice none 0 0) from rfl)
    have z1 := (cells_of (i := 1) HK.out.2.2).trans (show _ = some (Value.float .f32 0) from rfl)
    have y0 := free_of HK.out.2.2 0
    have y1 := free_of HK.out.2.2 1
    have l2 := block_lt HK.out.2.2
    have l1 : w.heap.size + 1 < wc.heap.size := by omega
    have l0 : w.heap.size < wc.heap.size := by omega
    refine (HA.out _ HBW.out).mono ?_
    rintro e w1 ⟨rfl, hbw1⟩
    have hkw1 := HK.out.later hbw1
    have hbww1 : Below w.heap.size w w1 := HBW.out.trans (hbw1.mono HBW.out.size)
    clear e0 e1 u0 u1 z0 z1 y0 y1 l0 l1 l2 HK HBW
    have HK := Lib.hid hkw1
    have HBW := Lib.hid hbww1
    clear hkw1 hbww1 hbw1
    have e0 := (cells_of (i := 0) HK.out.1).trans (show _ = some (.slice a n cap) from rfl)
    have e1 := (cells_of (i := 1) HK.out.1).trans (show _ = some (.float .f32 s) from rfl)
    have u0 := (cells_of (i := 0) HK.out.2.1).trans (show _ = some (.slice a' n' cap') from rfl)
    have u1 := (cells_of (i := 1) HK.out.2.1).trans (show _ = some (.float .f32 s') from rfl)
    have z0 := (cells_of (i := 0) HK.out.2.2).trans (show _ = some (Value.slice none 0 0) from rfl)
    have z1 := (cells_of (i := 1) HK.out.2.2).trans (show _ = some (Value.float .f32 0) from rfl)
    have y0 := free_of HK.out.2.2 0
    have y1 := free_of HK.out.2.2 1
    have l2 := block_lt HK.out.2.2
    have l1 : w.heap.size + 1 < w1.heap.size := by omega
    have l0 : w.heap.size < w1.heap.size := by omega
    go_wp2_with fail
    refine (HA'.out _ HBW.out).mono ?_
    rintro e w2 ⟨rfl, hbw2⟩
    have hkw2 := HK.out.later hbw2
    have hbww2 : Below w.heap.size w w2 := HBW.out.trans (hbw2.mono HBW.out.size)
    clear e0 e1 u0 u1 z0 z1 y0 y1 l0 l1 l2 HK HBW
    have HK := Lib.hid hkw2
    have HBW := Lib.hid hbww2
    clear hkw2 hbww2 hbw2
    have e0 := (cells_of (i := 0) HK.out.1).trans (show _ = some (.slice a n cap) from rfl)
    have e1 := (cells_of (i := 1) HK.out.1).trans (show _ = some (.float .f32 s) from rfl)
    have u0 := (cells_of (i := 0) HK.out.2.1).trans (show _ = some (.slice a' n' cap') from rfl)
    have u1 := (cells_of (i := 1) HK.out.2.1).trans (show _ = some (.float .f32 s') from rfl)
    have z0 := (cells_of (i := 0) HK.out.2.2).trans (show _ = some (Value.slice none 0 0) from rfl)
    have z1 := (cells_of (i := 1) HK.out.2.2).trans (show _ = some (Value.float .f32 0) from rfl)
    have y0 := free_of HK.out.2.2 0
    have y1 := free_of HK.out.2.2 1
    have l2 := block_lt HK.out.2.2
    have l1 : w.heap.size + 1 < w2.heap.size := by omega
    have l0 : w.heap.size < w2.heap.size := by omega
    go_wp2_with fail
    refine (HPA.out _ _ e0).mono ?_
    rintro e w3 ⟨rfl, rfl⟩
    go_wp2_with fail
    refine (HPB.out _ _ u0).mono ?_
    rintro e w4 ⟨rfl, rfl⟩
    go_wp2_with (first | (refine Fl.wpList_cmp rfl rfl rfl rfl rfl fs fs' ?_; try simp only [hE]))
    refine bodyPost_ret ?ohr rfl (retG_no ?obel)
    case ohr => simp [results, Try.results36, go_sem, *]
    case obel => exact Below.setCell (Below.setCell HBW.out (by show w.heap.size ≤ w.heap.size + 2; omega) _) (by show w.heap.size ≤ w.heap.size + 2; omega) _
  have hok : okT (n + n') cs (joinF n n' i k c c') = R := by rw [← hR]; unfold joinB; rw [hA, hA', hB, hB', hE]; rfl
  unfold ptB at hB hB'
  simp only [Bool.and_eq_true, decide_eq_true_eq] at hB hB'
  obtain ⟨j, rfl⟩ : ∃ j : Nat, i = (j : Int) := ⟨i.toNat, by omega⟩
  obtain ⟨m, rfl⟩ : ∃ m : Nat, k = (m : Int) := ⟨k.toNat, by omega⟩
  have hj : j + 1 ≤ n := by omega
  have hm : m + 1 ≤ n' := by omega
  have HFP := Lib.hid (fun xs ys (h : FP (n * 3) (rotC n (j + 1) c) xs) (h' : FP (n' * 3) (rotC n' (m + 1) c') ys) => (show FP ((n + n') * 3) (joinF n n' j m c c') (xs ++ ys) from by unfold joinF; rw [show ((j : Int) + 1).toNat = j + 1 by omega, show ((m : Int) + 1).toNat = m + 1 by omega]; exact FP.append h h'))
  have HPF := Lib.hid (fun G w' (e0 : w'.cell? ⟨G, 0, none⟩ = some (.slice a n cap)) (hb : Below w.heap.size w w') => (show Calls Try.prog 81 #[.pointer (some ⟨G, 0, none⟩), .int .i64 ((j : Int) + 1)] w' (RetO n (rotC n (j + 1) c) w') from by have := points_own G a n cap (j + 1) c w' e0 (h.later hb) ⟨hn3, hn32⟩ hj; rwa [show ((j + 1 : Nat) : Int) = (j : Int) + 1 from by omega] at this))
  have HPF' := Lib.hid (fun G w' (e0 : w'.cell? ⟨G, 0, none⟩ = some (.slice a' n' cap')) (hb : Below w.heap.size w w') => (show Calls Try.prog 81 #[.pointer (some ⟨G, 0, none⟩), .int .i64 ((m : Int) + 1)] w' (RetO n' (rotC n' (m + 1) c') w') from by have := points_own G a' n' cap' (m + 1) c' w' e0 (h'.later hb) ⟨hn3', hn32'⟩ hm; rwa [show ((m + 1 : Nat) : Int) = (m : Int) + 1 from by omega] at this))
  have hw1 : IntKind.i64.wrap ((j : Int) + 1) = (j : Int) + 1 := IntWalk.i64_in _ (by omega)
  have hw2 : IntKind.i64.wrap ((m : Int) + 1) = (m : Int) + 1 := IntWalk.i64_in _ (by omega)
  generalize joinF n n' j m c c' = F at *
  have HCH := Lib.hid (fun a cap w (h : IsV w a (n + n') cap F) => impl_checked a (n + n') cap s cs _ w h fs R hok)
  obtain ⟨sR, hsR⟩ : ∃ x, (if R then s else 0) = x := ⟨_, rfl⟩
  obtain ⟨nR, hnR⟩ : ∃ x, (if R then n + n' else 0) = x := ⟨_, rfl⟩
  show Calls _ _ _ w (RetB R _ _ _ w)
  rw [hsR, hnR]
  have HR := Lib.hid (And.intro hsR hnR)
  obtain ⟨i0, hI, hI0, hI1, hI2⟩ := info_v
  clear hA hA' hB hB' hR hok hsR hnR h h'
  go_enter Try.func36, Try.ntmps36
  go_wp2_with fail
  obtain ⟨wc, hwc⟩ : ∃ u, u = ((w.alloc (.cells #[.slice a n cap, .float .f32 s] 33)).alloc (.cells #[.slice a' n' cap', .float .f32 s'] 33)).alloc (.cells #[.slice none 0 0, .float .f32 0] 33) := ⟨_, rfl⟩
  rw [← hwc]
  have HK := Lib.hid (show Box3 w.heap.size wc (.cells #[.slice a n cap, .float .f32 s] 33) (.cells #[.slice a' n' cap', .float .f32 s'] 33) (.cells #[.slice none 0 0, .float .f32 0] 33) from by rw [hwc]; exact three_boxes _ _ _ _)
  have HBW := Lib.hid (show Below w.heap.size w wc from by rw [hwc]; exact three_below _ _ _ _)
  clear hwc
  have e0 := (cells_of (i := 0) HK.out.1).trans (show _ = some (.slice a n cap) from rfl)
  have e1 := (cells_of (i := 1) HK.out.1).trans (show _ = some (.float .f32 s) from rfl)
  have u0 := (cells_of (i := 0) HK.out.2.1).trans (show _ = some (.slice a' n' cap') from rfl)
  have u1 := (cells_of (i := 1) HK.out.2.1).trans (show _ = some (.float .f32 s') from rfl)
  have z0 := (cells_of (i := 0) HK.out.2.2).trans (show _ = some (Value.slice none 0 0) from rfl)
  have z1 := (cells_of (i := 1) HK.out.2.2).trans (show _ = some (Value.float .f32 0) from rfl)
  have y0 := free_of HK.out.2.2 0
  have y1 := free_of HK.out.2.2 1
  have l2 := block_lt HK.out.2.2
  have l1 : w.heap.size + 1 < wc.heap.size := by omega
  have l0 : w.heap.size < wc.heap.size := by omega
  refine (HA.out _ HBW.out).mono ?_
  rintro e w1 ⟨rfl, hbw1⟩
  have hkw1 := HK.out.later hbw1
  have hbww1 : Below w.heap.size w w1 := HBW.out.trans (hbw1.mono HBW.out.size)
  clear e0 e1 u0 u1 z0 z1 y0 y1 l0 l1 l2 HK HBW
  have HK := Lib.hid hkw1
  have HBW := Lib.hid hbww1
  clear hkw1 hbww1 hbw1
  have e0 := (cells_of (i := 0) HK.out.1).trans (show _ = some (.slice a n cap) from rfl)
  have e1 := (cells_of (i := 1) HK.out.1).trans (show _ = some (.float .f32 s) from rfl)
  have u0 := (cells_of (i := 0) HK.out.2.1).trans (show _ = some (.slice a' n' cap') from rfl)
  have u1 := (cells_of (i := 1) HK.out.2.1).trans (show _ = some (.float .f32 s') from rfl)
  have z0 := (cells_of (i := 0) HK.out.2.2).trans (show _ = some (Value.slice none 0 0) from rfl)
  have z1 := (cells_of (i := 1) HK.out.2.2).trans (show _ = some (Value.float .f32 0) from rfl)
  have y0 := free_of HK.out.2.2 0
  have y1 := free_of HK.out.2.2 1
  have l2 := block_lt HK.out.2.2
  have l1 : w.heap.size + 1 < w1.heap.size := by omega
  have l0 : w.heap.size < w1.heap.size := by omega
  go_wp2_with fail
  refine (HA'.out _ HBW.out).mono ?_
  rintro e w2 ⟨rfl, hbw2⟩
  have hkw2 := HK.out.later hbw2
  have hbww2 : Below w.heap.size w w2 := HBW.out.trans (hbw2.mono HBW.out.size)
  clear e0 e1 u0 u1 z0 z1 y0 y1 l0 l1 l2 HK HBW
  have HK := Lib.hid hkw2
  have HBW := Lib.hid hbww2
  clear hkw2 hbww2 hbw2
  have e0 := (cells_of (i := 0) HK.out.1).trans (show _ = some (.slice a n cap) from rfl)
  have e1 := (cells_of (i := 1) HK.out.1).trans (show _ = some (.float .f32 s) from rfl)
  have u0 := (cells_of (i := 0) HK.out.2.1).trans (show _ = some (.slice a' n' cap') from rfl)
  have u1 := (cells_of (i := 1) HK.out.2.1).trans (show _ = some (.float .f32 s') from rfl)
  have z0 := (cells_of (i := 0) HK.out.2.2).trans (show _ = some (Value.slice none 0 0) from rfl)
  have z1 := (cells_of (i := 1) HK.out.2.2).trans (show _ = some (Value.float .f32 0) from rfl)
  have y0 := free_of HK.out.2.2 0
  have y1 := free_of HK.out.2.2 1
  have l2 := block_lt HK.out.2.2
  have l1 : w.heap.size + 1 < w2.heap.size := by omega
  have l0 : w.heap.size < w2.heap.size := by omega
  go_wp2_with fail
  refine (HPA.out _ _ e0).mono ?_
  rintro e w3 ⟨rfl, rfl⟩
  go_wp2_with fail
  refine (HPB.out _ _ u0).mono ?_
  rintro e w4 ⟨rfl, rfl⟩
  go_wp2_with (first | (refine Fl.wpList_cmp rfl rfl rfl rfl rfl fs fs' ?_; try simp only [hE]))
  have HK2 := Lib.hid HK.out
  have hl22 := l2
  have HBW2 := Lib.hid HBW.out
  refine (HPF.out _ _ e0 HBW.out).mono ?_
  rintro e w3 ⟨g3, cap3, xs3, rfl, own3, fp3, hb3⟩
  have hkw3 := HK.out.later hb3
  have hbww3 : Below w.heap.size w w3 := HBW.out.trans (hb3.mono HBW.out.size)
  clear e0 e1 u0 u1 z0 z1 y0 y1 l0 l1 l2 HK HBW
  have HK := Lib.hid hkw3
  have HBW := Lib.hid hbww3
  clear hkw3 hbww3
  have e0 := (cells_of (i := 0) HK.out.1).trans (show _ = some (.slice a n cap) from rfl)
  have e1 := (cells_of (i := 1) HK.out.1).trans (show _ = some (.float .f32 s) from rfl)
  have u0 := (cells_of (i := 0) HK.out.2.1).trans (show _ = some (.slice a' n' cap') from rfl)
  have u1 := (cells_of (i := 1) HK.out.2.1).trans (show _ = some (.float .f32 s') from rfl)
  have z0 := (cells_of (i := 0) HK.out.2.2).trans (show _ = some (Value.slice none 0 0) from rfl)
  have z1 := (cells_of (i := 1) HK.out.2.2).trans (show _ = some (Value.float .f32 0) from rfl)
  have y0 := free_of HK.out.2.2 0
  have y1 := free_of HK.out.2.2 1
  have l2 := block_lt HK.out.2.2
  have l1 : w.heap.size + 1 < w3.heap.size := by omega
  have l0 : w.heap.size < w3.heap.size := by omega
  have HO3 := Lib.hid own3
  have HF3 := Lib.hid fp3
  have HB3 := Lib.hid hb3
  clear own3 fp3 hb3
  go_wp2_with fail
  refine (HPF'.out _ _ u0 HBW.out).mono ?_
  rintro e w4 ⟨g4, cap4, xs4, rfl, own4, fp4, hb4⟩
  have hkw4 := HK.out.later hb4
  have hbww4 : Below w.heap.size w w4 := HBW.out.trans (hb4.mono HBW.out.size)
  clear e0 e1 u0 u1 z0 z1 y0 y1 l0 l1 l2 HK HBW
  have HK := Lib.hid hkw4
  have HBW := Lib.hid hbww4
  clear hkw4 hbww4
  have e0 := (cells_of (i := 0) HK.out.1).trans (show _ = some (.slice a n cap) from rfl)
  have e1 := (cells_of (i := 1) HK.out.1).trans (show _ = some (.float .f32 s) from rfl)
  have u0 := (cells_of (i := 0) HK.out.2.1).trans (show _ = some (.slice a' n' cap') from rfl)
  have u1 := (cells_of (i := 1) HK.out.2.1).trans (show _ = some (.float .f32 s') from rfl)
  have z0 := (cells_of (i := 0) HK.out.2.2).trans (show _ = some (Value.slice none 0 0) from rfl)
  have z1 := (cells_of (i := 1) HK.out.2.2).trans (show _ = some (Value.float .f32 0) from rfl)
  have y0 := free_of HK.out.2.2 0
  have y1 := free_of HK.out.2.2 1
  have l2 := block_lt HK.out.2.2
  have l1 : w.heap.size + 1 < w4.heap.size := by omega
  have l0 : w.heap.size < w4.heap.size := by omega
  have HO4 := Lib.hid own4
  have HOO := Lib.hid (own_below HO3.out hb4)
  have HF4 := Lib.hid fp4
  have HB4 := Lib.hid (HB3.out.trans (hb4.mono HB3.out.size))
  have hz24 := HB4.out.size
  clear own4 fp4 hb4
  go_wp2_with (first
    | (
      at_builtin
      refine wpList_append_own _ rfl (.tmp 39) (.tmp 42) 31 rfl w2.heap.size 28 i0 (.agg #[.float .f32 0, .float .f32 0, .float .f32 0]) 3 12 Try.underlying31 hI hI0 hI1 hI2 rfl (by decide) _ n xs3 rfl HOO.out ⟨g4, 0, none⟩ n' cap4 xs4 rfl HF4.out.1 (HO4.out.cells rfl) HF4.out.cell (by unfold maxLen; omega) (by omega) (by omega) ?_
      intro v5 w5 hown5 hgrow5 hnil5
      have hb5 : Below w2.heap.size w2 w5 := Below.grown HB4.out hgrow5 hz24 (own_ge HOO.out (Nat.le_refl _))
      obtain ⟨a9, cap9, rfl, hio⟩ := isR_own hown5 (HFP.out _ _ HF3.out HF4.out) (by omega)
      have HIO := Lib.hid hio
      have hk5 := HK2.out.later hb5
      have hbw5 : Below w.heap.size w w5 := HBW2.out.trans (hb5.mono HBW2.out.size)
      clear e0 e1 u0 u1 z0 z1 y0 y1 l0 l1 l2 HK HBW
      have HK := Lib.hid hk5
      have HBW := Lib.hid hbw5
      clear hown5 hgrow5 hnil5 hb5 hk5 hbw5 hio
      have e0 := (cells_of (i := 0) HK.out.1).trans (show _ = some (.slice a n cap) from rfl)
      have e1 := (cells_of (i := 1) HK.out.1).trans (show _ = some (.float .f32 s) from rfl)
      have u0 := (cells_of (i := 0) HK.out.2.1).trans (show _ = some (.slice a' n' cap') from rfl)
      have u1 := (cells_of (i := 1) HK.out.2.1).trans (show _ = some (.float .f32 s') from rfl)
      have z0 := (cells_of (i := 0) HK.out.2.2).trans (show _ = some (Value.slice none 0 0) from rfl)
      have z1 := (cells_of (i := 1) HK.out.2.2).trans (show _ = some (Value.float .f32 0) from rfl)
      have y0 := free_of HK.out.2.2 0
      have y1 := free_of HK.out.2.2 1
      have l2 := block_lt HK.out.2.2
      have l1 : w.heap.size + 1 < w5.heap.size := by omega
      have l0 : w.heap.size < w5.heap.size := by omega
      skip))
  refine (HCH.out _ _ _ HIO.out.v).mono ?_
  rintro e w9 ⟨rfl, hb9⟩
  have HIO9 := Lib.hid (HIO.out.later hb9)
  have hz9 := hb9.size
  have hkw9 := HK.out.later hb9
  have hbww9 : Below w.heap.size w w9 := HBW.out.trans (hb9.mono HBW.out.size)
  clear e0 e1 u0 u1 z0 z1 y0 y1 l0 l1 l2 HK HBW
  have HK := Lib.hid hkw9
  have HBW := Lib.hid hbww9
  clear hkw9 hbww9
  have e0 := (cells_of (i := 0) HK.out.1).trans (show _ = some (.slice a n cap) from rfl)
  have e1 := (cells_of (i := 1) HK.out.1).trans (show _ = some (.float .f32 s) from rfl)
  have u0 := (cells_of (i := 0) HK.out.2.1).trans (show _ = some (.slice a' n' cap') from rfl)
  have u1 := (cells_of (i := 1) HK.out.2.1).trans (show _ = some (.float .f32 s') from rfl)
  have z0 := (cells_of (i := 0) HK.out.2.2).trans (show _ = some (Value.slice none 0 0) from rfl)
  have z1 := (cells_of (i := 1) HK.out.2.2).trans (show _ = some (Value.float .f32 0) from rfl)
  have y0 := free_of HK.out.2.2 0
  have y1 := free_of HK.out.2.2 1
  have l2 := block_lt HK.out.2.2
  have l1 : w.heap.size + 1 < w9.heap.size := by omega
  have l0 : w.heap.size < w9.heap.size := by omega
  clear hb9
  cases R
  all_goals
    go_wp2
    have hR := HR.out
    simp only [Bool.false_eq_true, if_false, if_true] at hR
    obtain ⟨rfl, rfl⟩ := hR
  · refine bodyPost_ret ?ohr rfl ⟨none, 0, rfl, isR_nil _ _ _ _, ?obel⟩
    case ohr => simp [results, Try.results36, go_sem, *]
    case obel => exact Below.setCell (Below.setCell HBW.out (by show w.heap.size ≤ w.heap.size + 2; omega) _) (by show w.heap.size ≤ w.heap.size + 2; omega) _
  · refine bodyPost_ret ?ohr rfl ⟨a9, cap9, rfl, ?oio, ?obel⟩
    case ohr => simp [results, Try.results36, go_sem, *]
    case oio =>
      refine (HIO9.out.keep fun g hg _ _ => ?_).wider (by omega) (by simp; omega)
      rw [set_keep _ _ _ (by show g ≠ w.heap.size + 2; omega), set_keep _ _ _ (by show g ≠ w.heap.size + 2; omega)]
    case obel => exact Below.setCell (Below.setCell HBW.out (by show w.heap.size ≤ w.heap.size + 2; omega) _) (by show w.heap.size ≤ w.heap.size + 2; omega) _

end Th
end Go.Proofs.Ytjkkefbfhapblaa
