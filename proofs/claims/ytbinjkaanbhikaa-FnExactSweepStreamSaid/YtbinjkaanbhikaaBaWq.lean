/- Sweeps: the program, whole. -/
import Derived.Test.YtbinjkaanbhikaaBaWp
namespace Go.Proofs.Ytbinjkaanbhikaa
set_option linter.unusedSimpArgs false
set_option linter.unusedVariables false
open Go.RowKit
set_option maxRecDepth 20000
namespace Ba
open Fl Rate


set_option maxHeartbeats 12800000 in
theorem impl_SweepB (W H W' H' : Int) (a a' : Option Addr) (n n' cap cap' : Nat) (c d : Nat → Option Nat) (w : World) (h : IsY w a n cap c) (h' : IsY w a' n' cap' d) (A A2 : Bool) (hA : okB W H n c = A) (hA2 : okB W' H' n' d = A2) (s : Int) : Calls Try.prog 47 #[bV W H a n cap, bV W' H' a' n' cap', .int .i64 s] w (RetG (sweB W H W' H' n c d A A2 s) W H n (swS W H (evC n c) n d s.toNat) w) := by
  obtain ⟨RE, hRE⟩ : ∃ RE, (A && (finC (Nums.accC c n) && allF (evC n c) n)) = RE := ⟨_, rfl⟩
  have HE := Lib.hid (show ∀ w', Below w.heap.size w w' → Calls Try.prog 102 #[bV W H a n cap] w' (RetG RE W H n (evC n c) w') from fun w' hb => hRE ▸ impl_EvenB W H a n cap c w' (h.later hb) A hA _ _ rfl rfl)
  unfold RetG at HE
  cases RE
  · rw [swe_ev hRE]
    simp only [Bool.false_eq_true, if_false] at HE
    clear h h' hA hA2 hRE
    show Calls _ _ _ w (RetG false W H n _ w)
    go_enter Try.func47, Try.ntmps47
    go_wp2
    go_step3
    go_wp2_with fail
    refine (HE.out _ (by (repeat' first | exact Below.refl _ _ | (refine Below.setCell ?_ (by first | omega | (simp; omega) | simp) _) | (refine below_drewN ?_ _) | (refine Below.alloc ?_ (by first | omega | (simp; omega) | simp) _) | (refine Below.trans ?_ (Below.mono (by assumption) (by first | omega | (simp; omega) | simp)))))).mono ?_
    rintro e w1 ⟨ae, ce, rfl, hoe, hb1⟩
    have hz1 := hb1.size
    try simp only [World.size_alloc, World.size_setCell, World.heap_drewN, World.size_drew] at hz1
    obtain ⟨hc1, hf1⟩ := Fl.bcell hb1
    try simp only [World.heap_drewN, World.cell?_drewN, World.frozen?_drewN] at hc1 hf1
    have g1_0 : w.heap.size < w1.heap.size := by omega
    have g1_1 : w.heap.size + 1 < w1.heap.size := by omega
    have g1_2 : w.heap.size + 1 + 1 < w1.heap.size := by omega
    go_wp2
    rw [Exit.noGoto_ret]
    refine bodyPost_ret ?ohr rfl (retG_no ?obel)
    case ohr => simp [results, Try.results47, go_sem, *]
    case obel => (repeat' first | exact Below.refl _ _ | (refine Below.setCell ?_ (by first | omega | (simp; omega) | simp) _) | (refine below_drewN ?_ _) | (refine Below.alloc ?_ (by first | omega | (simp; omega) | simp) _) | (refine Below.trans ?_ (Below.mono (by assumption) (by first | omega | (simp; omega) | simp))))
  simp only [if_true] at HE
  have HT := Lib.hid (fun g w' (hb : Below w.heap.size w w') j0 j1 j2 => impl_alike g W H W' H' a a' n n' cap cap' c d w' (h.later hb) (h'.later hb) A A2 hA hA2 j0 j1 j2)
  have HX := Lib.hid (fun w => impl_sweepsD s w)
  obtain ⟨L, hL⟩ : ∃ L, (((A && A2) && decide (W = W')) && decide (H = H')) = L := ⟨_, rfl⟩
  rw [hL] at HT
  cases L
  · rw [swe_two hL]
    clear h h' hA hA2 hL hRE
    show Calls _ _ _ w (RetG false W H n _ w)
    go_enter Try.func47, Try.ntmps47
    go_wp2
    go_step3
    go_wp2_with fail
    refine (HE.out _ (by (repeat' first | exact Below.refl _ _ | (refine Below.setCell ?_ (by first | omega | (simp; omega) | simp) _) | (refine below_drewN ?_ _) | (refine Below.alloc ?_ (by first | omega | (simp; omega) | simp) _) | (refine Below.trans ?_ (Below.mono (by assumption) (by first | omega | (simp; omega) | simp)))))).mono ?_
    rintro e w1 ⟨ae, ce, rfl, hoe, hb1⟩
    have hz1 := hb1.size
    try simp only [World.size_alloc, World.size_setCell, World.heap_drewN, World.size_drew] at hz1
    obtain ⟨hc1, hf1⟩ := Fl.bcell hb1
    try simp only [World.heap_drewN, World.cell?_drewN, World.frozen?_drewN] at hc1 hf1
    have g1_0 : w.heap.size < w1.heap.size := by omega
    have g1_1 : w.heap.size + 1 < w1.heap.size := by omega
    have g1_2 : w.heap.size + 1 + 1 < w1.heap.size := by omega
    go_wp2_with fail
    refine (HT.out _ _ (by (repeat' first | exact Below.refl _ _ | (refine Below.setCell ?_ (by first | omega | (simp; omega) | simp) _) | (refine below_drewN ?_ _) | (refine Below.alloc ?_ (by first | omega | (simp; omega) | simp) _) | (refine Below.trans ?_ (Below.mono (by assumption) (by first | omega | (simp; omega) | simp))))) (by go_simp) (by go_simp) (by go_simp)).mono ?_
    rintro e w2 ⟨rfl, hb2⟩
    have hz2 := hb2.size
    try simp only [World.size_alloc, World.size_setCell, World.heap_drewN, World.size_drew] at hz2
    obtain ⟨hc2, hf2⟩ := Fl.bcell hb2
    try simp only [World.heap_drewN, World.cell?_drewN, World.frozen?_drewN] at hc2 hf2
    have g2_0 : w.heap.size < w2.heap.size := by omega
    have g2_1 : w.heap.size + 1 < w2.heap.size := by omega
    have g2_2 : w.heap.size + 1 + 1 < w2.heap.size := by omega
    go_wp2
    rw [Exit.noGoto_ret]
    refine bodyPost_ret ?ohr rfl (retG_no ?obel)
    case ohr => simp [results, Try.results47, go_sem, *]
    case obel => (repeat' first | exact Below.refl _ _ | (refine Below.setCell ?_ (by first | omega | (simp; omega) | simp) _) | (refine below_drewN ?_ _) | (refine Below.alloc ?_ (by first | omega | (simp; omega) | simp) _) | (refine Below.trans ?_ (Below.mono (by assumption) (by first | omega | (simp; omega) | simp))))
  cases hx : inB s 0 200
  · rw [swe_in hx]
    rw [hx] at HX
    clear h h' hA hA2 hL hRE
    show Calls _ _ _ w (RetG false W H n _ w)
    go_enter Try.func47, Try.ntmps47
    go_wp2
    go_step3
    go_wp2_with fail
    refine (HE.out _ (by (repeat' first | exact Below.refl _ _ | (refine Below.setCell ?_ (by first | omega | (simp; omega) | simp) _) | (refine below_drewN ?_ _) | (refine Below.alloc ?_ (by first | omega | (simp; omega) | simp) _) | (refine Below.trans ?_ (Below.mono (by assumption) (by first | omega | (simp; omega) | simp)))))).mono ?_
    rintro e w1 ⟨ae, ce, rfl, hoe, hb1⟩
    have hz1 := hb1.size
    try simp only [World.size_alloc, World.size_setCell, World.heap_drewN, World.size_drew] at hz1
    obtain ⟨hc1, hf1⟩ := Fl.bcell hb1
    try simp only [World.heap_drewN, World.cell?_drewN, World.frozen?_drewN] at hc1 hf1
    have g1_0 : w.heap.size < w1.heap.size := by omega
    have g1_1 : w.heap.size + 1 < w1.heap.size := by omega
    have g1_2 : w.heap.size + 1 + 1 < w1.heap.size := by omega
    go_wp2_with fail
    refine (HT.out _ _ (by (repeat' first | exact Below.refl _ _ | (refine Below.setCell ?_ (by first | omega | (simp; omega) | simp) _) | (refine below_drewN ?_ _) | (refine Below.alloc ?_ (by first | omega | (simp; omega) | simp) _) | (refine Below.trans ?_ (Below.mono (by assumption) (by first | omega | (simp; omega) | simp))))) (by go_simp) (by go_simp) (by go_simp)).mono ?_
    rintro e w2 ⟨rfl, hb2⟩
    have hz2 := hb2.size
    try simp only [World.size_alloc, World.size_setCell, World.heap_drewN, World.size_drew] at hz2
    obtain ⟨hc2, hf2⟩ := Fl.bcell hb2
    try simp only [World.heap_drewN, World.cell?_drewN, World.frozen?_drewN] at hc2 hf2
    have g2_0 : w.heap.size < w2.heap.size := by omega
    have g2_1 : w.heap.size + 1 < w2.heap.size := by omega
    have g2_2 : w.heap.size + 1 + 1 < w2.heap.size := by omega
    go_wp2_with fail
    refine (HX.out _).mono ?_
    rintro e w3 ⟨rfl, hb3⟩
    have hz3 := hb3.size
    try simp only [World.size_alloc, World.size_setCell, World.heap_drewN, World.size_drew] at hz3
    obtain ⟨hc3, hf3⟩ := Fl.bcell hb3
    try simp only [World.heap_drewN, World.cell?_drewN, World.frozen?_drewN] at hc3 hf3
    have g3_0 : w.heap.size < w3.heap.size := by omega
    have g3_1 : w.heap.size + 1 < w3.heap.size := by omega
    have g3_2 : w.heap.size + 1 + 1 < w3.heap.size := by omega
    go_wp2
    rw [Exit.noGoto_ret]
    refine bodyPost_ret ?ohr rfl (retG_no ?obel)
    case ohr => simp [results, Try.results47, go_sem, *]
    case obel => (repeat' first | exact Below.refl _ _ | (refine Below.setCell ?_ (by first | omega | (simp; omega) | simp) _) | (refine below_drewN ?_ _) | (refine Below.alloc ?_ (by first | omega | (simp; omega) | simp) _) | (refine Below.trans ?_ (Below.mono (by assumption) (by first | omega | (simp; omega) | simp))))
  simp only [Bool.and_eq_true, decide_eq_true_eq] at hL
  obtain ⟨⟨⟨rfl, rfl⟩, rfl⟩, rfl⟩ := hL
  obtain rfl : n = n' := by
    have h1 := (okB_of hA).2.2.1
    have h2 := (okB_of hA2).2.2.1
    omega
  have hs0 : 0 ≤ s ∧ s ≤ 200 := by
    unfold inB at hx
    simpa [Bool.and_eq_true] using hx
  obtain ⟨N, rfl⟩ : ∃ N : Nat, s = (N : Int) := ⟨s.toNat, by omega⟩
  have hN : N ≤ 200 := by omega
  rw [Bool.true_and] at hRE
  rw [swe_good hN, Int.toNat_natCast, hRE, Bool.true_and]
  exact impl_sweepgood W H a a' n cap cap' c d w h h' hA hA2 N hN hRE _ rfl

end Ba
end Go.Proofs.Ytbinjkaanbhikaa
