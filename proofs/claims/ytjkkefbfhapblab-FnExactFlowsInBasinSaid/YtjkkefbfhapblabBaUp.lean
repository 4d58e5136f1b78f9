/- Flows: the program. -/
import Derived.Test.YtjkkefbfhapblabBaUf
namespace Go.Proofs.Ytjkkefbfhapblab
set_option linter.unusedSimpArgs false
set_option linter.unusedVariables false
open Go.RowKit
set_option maxRecDepth 20000
namespace Ba
open Fl Rate


set_option maxHeartbeats 12800000 in
theorem impl_FlowsB (W H : Int) (a : Option Addr) (n cap : Nat) (c : Nat → Option Nat) (w : World) (h : IsY w a n cap c) (A : Bool) (hA : okB W H n c = A) (T : Bool) (hT : ((A && allF (uF W H c) n) && allF (vF W H c) n) = T) : Calls Try.prog 18 #[bV W H a n cap] w (RetH T (if T then W else 0) (if T then H else 0) (if T then n else 0) (uF W H c) (vF W H c) w) := by
  have HV := Lib.hid (fun w' (hb : Below w.heap.size w w') => impl_valid W H a n cap c w' (h.later hb) A hA)
  cases A
  · obtain rfl : T = false := by rw [← hT]; rfl
    simp only [Bool.false_eq_true, if_false]
    clear hA h hT
    go_enter Try.func18, Try.ntmps18
    go_wp2_with fail
    refine (HV.out _ (by (repeat' first | exact Below.refl _ _ | (refine Below.setCell ?_ (by first | omega | (simp; omega) | simp) _) | (refine below_drewN ?_ _) | (refine Below.alloc ?_ (by first | omega | (simp; omega) | simp) _) | (refine Below.trans ?_ (Below.mono (by assumption) (by first | omega | (simp; omega) | simp)))))).mono ?_
    rintro e w1 ⟨rfl, hb1⟩
    have hz1 := hb1.size
    try simp only [World.size_alloc, World.size_setCell, World.heap_drewN, World.size_drew] at hz1
    obtain ⟨hc1, hf1⟩ := Fl.bcell hb1
    try simp only [World.heap_drewN, World.cell?_drewN, World.frozen?_drewN] at hc1 hf1
    have g1_0 : w.heap.size < w1.heap.size := by omega
    have g1_1 : w.heap.size + 1 < w1.heap.size := by omega
    have g1_2 : w.heap.size + 1 + 1 < w1.heap.size := by omega
    go_wp2
    refine bodyPost_ret ?ohr rfl ⟨none, 0, none, 0, w.heap.size, rfl, isO_nil _ _ _ _, isO_nil _ _ _ _, Nat.le_refl _, ?osz, ?obel⟩
    case ohr => simp [results, Try.results18, go_sem, *]
    case osz => (simp; omega)
    case obel => (repeat' first | exact Below.refl _ _ | (refine Below.setCell ?_ (by first | omega | (simp; omega) | simp) _) | (refine below_drewN ?_ _) | (refine Below.alloc ?_ (by first | omega | (simp; omega) | simp) _) | (refine Below.trans ?_ (Below.mono (by assumption) (by first | omega | (simp; omega) | simp))))
  have hs := okB_of hA
  have hn9 := okB_n hA
  have hNn : (W * H).toNat = n := by omega
  obtain ⟨R1, hR1⟩ : ∃ R, allF (uF W H c) n = R := ⟨_, rfl⟩
  obtain ⟨R2, hR2⟩ : ∃ R, allF (vF W H c) n = R := ⟨_, rfl⟩
  have HEU := Lib.hid (fun (w' : World) (hb : Below w.heap.size w w') => each_cell W H a n cap 51 #[] (uF W H c) w' enter_flowX (fun x1 y1 w'' hx hy s1 s2 hb' => by simpa using impl_flowX W H a n cap c x1 y1 w'' ((h.later hb).later hb') hs.1 hs.2.1 hs.2.2.1 hx hy s1 s2) R1 (by rw [hs.1, hs.2.1, hNn]; exact hR1))
  have HEV := Lib.hid (fun (w' : World) (hb : Below w.heap.size w w') => each_cell W H a n cap 52 #[] (vF W H c) w' enter_flowY (fun x1 y1 w'' hx hy s1 s2 hb' => by simpa using impl_flowY W H a n cap c x1 y1 w'' ((h.later hb).later hb') hs.1 hs.2.1 hs.2.2.1 hx hy s1 s2) R2 (by rw [hs.1, hs.2.1, hNn]; exact hR2))
  rw [hNn] at HEU HEV
  rw [hR1, hR2, Bool.true_and] at hT
  obtain ⟨W1, hW1⟩ : ∃ W1 : Int, (if R1 then W else 0) = W1 := ⟨_, rfl⟩
  obtain ⟨H1, hH1⟩ : ∃ H1 : Int, (if R1 then H else 0) = H1 := ⟨_, rfl⟩
  obtain ⟨N1, hN1⟩ : ∃ N1 : Nat, (if R1 then n else 0) = N1 := ⟨_, rfl⟩
  obtain ⟨W2, hW2⟩ : ∃ W2 : Int, (if R2 then W else 0) = W2 := ⟨_, rfl⟩
  obtain ⟨H2, hH2⟩ : ∃ H2 : Int, (if R2 then H else 0) = H2 := ⟨_, rfl⟩
  obtain ⟨N2, hN2⟩ : ∃ N2 : Nat, (if R2 then n else 0) = N2 := ⟨_, rfl⟩
  obtain ⟨W3, hW3⟩ : ∃ W3 : Int, (if T then W else 0) = W3 := ⟨_, rfl⟩
  obtain ⟨H3, hH3⟩ : ∃ H3 : Int, (if T then H else 0) = H3 := ⟨_, rfl⟩
  obtain ⟨N3, hN3⟩ : ∃ N3 : Nat, (if T then n else 0) = N3 := ⟨_, rfl⟩
  rw [hW1, hH1, hN1] at HEU
  rw [hW2, hH2, hN2] at HEV
  rw [hW3, hH3, hN3]
  have HR := Lib.hid (And.intro hW1 (And.intro hH1 (And.intro hN1 (And.intro hW2 (And.intro hH2 (And.intro hN2 (And.intro hW3 (And.intro hH3 hN3))))))))
  have HTT := Lib.hid hT
  clear h hA hs hNn hR1 hR2 hT hW1 hH1 hN1 hW2 hH2 hN2 hW3 hH3 hN3
  go_enter Try.func18, Try.ntmps18
  go_wp2_with fail
  refine (HV.out _ (by (repeat' first | exact Below.refl _ _ | (refine Below.setCell ?_ (by first | omega | (simp; omega) | simp) _) | (refine below_drewN ?_ _) | (refine Below.alloc ?_ (by first | omega | (simp; omega) | simp) _) | (refine Below.trans ?_ (Below.mono (by assumption) (by first | omega | (simp; omega) | simp)))))).mono ?_
  rintro e w1 ⟨rfl, hb1⟩
  have hz1 := hb1.size
  try simp only [World.size_alloc, World.size_setCell, World.heap_drewN, World.size_drew] at hz1
  obtain ⟨hc1, hf1⟩ := Fl.bcell hb1
  try simp only [World.heap_drewN, World.cell?_drewN, World.frozen?_drewN] at hc1 hf1
  have g1_0 : w.heap.size < w1.heap.size := by omega
  have g1_1 : w.heap.size + 1 < w1.heap.size := by omega
  have g1_2 : w.heap.size + 1 + 1 < w1.heap.size := by omega
  go_wp2_with fail
  refine (HEU.out _ (by (repeat' first | exact Below.refl _ _ | (refine Below.setCell ?_ (by first | omega | (simp; omega) | simp) _) | (refine below_drewN ?_ _) | (refine Below.alloc ?_ (by first | omega | (simp; omega) | simp) _) | (refine Below.trans ?_ (Below.mono (by assumption) (by first | omega | (simp; omega) | simp)))))).mono ?_
  rintro e w2 ⟨av, cv, rfl, hou, hb2⟩
  have hz2 := hb2.size
  try simp only [World.size_alloc, World.size_setCell, World.heap_drewN, World.size_drew] at hz2
  obtain ⟨hc2, hf2⟩ := Fl.bcell hb2
  try simp only [World.heap_drewN, World.cell?_drewN, World.frozen?_drewN] at hc2 hf2
  have g2_0 : w.heap.size < w2.heap.size := by omega
  have g2_1 : w.heap.size + 1 < w2.heap.size := by omega
  have g2_2 : w.heap.size + 1 + 1 < w2.heap.size := by omega
  have HOU := Lib.hid hou
  clear hou
  go_wp2_with fail
  refine (HEV.out _ (by (repeat' first | exact Below.refl _ _ | (refine Below.setCell ?_ (by first | omega | (simp; omega) | simp) _) | (refine below_drewN ?_ _) | (refine Below.alloc ?_ (by first | omega | (simp; omega) | simp) _) | (refine Below.trans ?_ (Below.mono (by assumption) (by first | omega | (simp; omega) | simp)))))).mono ?_
  rintro e w3 ⟨bv, cw, rfl, hov, hb3⟩
  have hz3 := hb3.size
  try simp only [World.size_alloc, World.size_setCell, World.heap_drewN, World.size_drew] at hz3
  obtain ⟨hc3, hf3⟩ := Fl.bcell hb3
  try simp only [World.heap_drewN, World.cell?_drewN, World.frozen?_drewN] at hc3 hf3
  have g3_0 : w.heap.size < w3.heap.size := by omega
  have g3_1 : w.heap.size + 1 < w3.heap.size := by omega
  have g3_2 : w.heap.size + 1 + 1 < w3.heap.size := by omega
  have HOV := Lib.hid hov
  have hb5 := keep_block hb3 (new_block w2 (.cells #[.int .i64 W1, .int .i64 H1, .slice av N1 cv] 33))
  have H5 := Lib.hid hb5
  have lb5 := block_lt hb5
  clear hov hb5
  have HB3 := Lib.hid (show Below w.heap.size w w3 by (repeat' first | exact Below.refl _ _ | (refine Below.setCell ?_ (by first | omega | (simp; omega) | simp) _) | (refine below_drewN ?_ _) | (refine Below.alloc ?_ (by first | omega | (simp; omega) | simp) _) | (refine Below.trans ?_ (Below.mono (by assumption) (by first | omega | (simp; omega) | simp)))))
  cases R1
  · obtain rfl : T = false := by rw [← HTT.out]; rfl
    go_wp2
    have hR := HR.out.2.2.2.2.2.2
    simp only [Bool.false_eq_true, if_false] at hR
    obtain ⟨rfl, rfl, rfl⟩ := hR
    clear hb1 hb2 hb3 HR HTT HV HEU HEV
    refine bodyPost_ret ?ohr rfl ⟨none, 0, none, 0, w.heap.size, rfl, isO_nil _ _ _ _, isO_nil _ _ _ _, Nat.le_refl _, ?osz, ?obel⟩
    case osz =>
      simp only [World.size_setCell, World.size_alloc]
      omega
    case obel =>
      have HBX := HB3.out
      clear hc1 hc2 hc3 hf1 hf2 hf3 HOU HOV H5 HB3
      try refine Below.alloc ?_ (by simp only [World.size_setCell]; omega) _
      iterate 6 (refine Below.setCell ?_ (by first | omega | (simp; omega) | simp) _)
      first | exact HBX | exact HBX.alloc (by omega) _
    case ohr =>
      clear HOU HOV H5 HB3
      simp [results, Try.results18, go_sem, *]
  cases R2
  · obtain rfl : T = false := by rw [← HTT.out]; rfl
    go_wp2
    have hR := HR.out.2.2.2.2.2.2
    simp only [Bool.false_eq_true, if_false] at hR
    obtain ⟨rfl, rfl, rfl⟩ := hR
    clear hb1 hb2 hb3 HR HTT HV HEU HEV
    refine bodyPost_ret ?ohr rfl ⟨none, 0, none, 0, w.heap.size, rfl, isO_nil _ _ _ _, isO_nil _ _ _ _, Nat.le_refl _, ?osz, ?obel⟩
    case osz =>
      simp only [World.size_setCell, World.size_alloc]
      omega
    case obel =>
      have HBX := HB3.out
      clear hc1 hc2 hc3 hf1 hf2 hf3 HOU HOV H5 HB3
      try refine Below.alloc ?_ (by simp only [World.size_setCell]; omega) _
      iterate 6 (refine Below.setCell ?_ (by first | omega | (simp; omega) | simp) _)
      first | exact HBX | exact HBX.alloc (by omega) _
    case ohr =>
      clear HOU HOV H5 HB3
      simp [results, Try.results18, go_sem, *]
  · obtain rfl : T = true := by rw [← HTT.out]; rfl
    have hR := HR.out
    simp only [if_true] at hR
    obtain ⟨rfl, rfl, rfl, rfl, rfl, rfl, rfl, rfl, rfl⟩ := hR
    go_wp2
    obtain ⟨wq, hwq⟩ : ∃ x, x = w3.alloc (.cells #[.int .i64 W, .int .i64 H, .slice bv n cw] 33) := ⟨_, rfl⟩
    rw [← hwq]
    have q5 : wq.heap[w2.heap.size]? = some (.cells #[.int .i64 W, .int .i64 H, .slice av n cv] 33) := by rw [hwq]; exact alloc_block H5.out
    have q7 : wq.heap[w3.heap.size]? = some (.cells #[.int .i64 W, .int .i64 H, .slice bv n cw] 33) := by rw [hwq]; exact new_block _ _
    have qZ2 : wq.heap[w.heap.size + 1]? = some (.cells #[.int .i64 0, .int .i64 0, .slice none 0 0] 33) := by rw [hwq]; exact alloc_block (keep_block hb3 (alloc_block (keep_block hb2 (keep_block hb1 (alloc_block (by simpa using new_block (w.alloc (.cells #[.int .i64 W, .int .i64 H, .slice a n cap] 33)) (.cells #[.int .i64 0, .int .i64 0, .slice none 0 0] 33)))))))
    have qZ3 : wq.heap[w.heap.size + 1 + 1]? = some (.cells #[.int .i64 0, .int .i64 0, .slice none 0 0] 33) := by rw [hwq]; exact alloc_block (keep_block hb3 (alloc_block (keep_block hb2 (keep_block hb1 (by simpa using new_block ((w.alloc (.cells #[.int .i64 W, .int .i64 H, .slice a n cap] 33)).alloc (.cells #[.int .i64 0, .int .i64 0, .slice none 0 0] 33)) (.cells #[.int .i64 0, .int .i64 0, .slice none 0 0] 33))))))
    clear hc1 hc2 hc3 hf1 hf2 hf3 HV HEU HEV
    have s0 := (cells_of (i := 0) q5).trans (show _ = some (.int .i64 W) from rfl)
    have s1 := (cells_of (i := 1) q5).trans (show _ = some (.int .i64 H) from rfl)
    have s2 := (cells_of (i := 2) q5).trans (show _ = some (.slice av n cv) from rfl)
    have u0 := (cells_of (i := 0) q7).trans (show _ = some (.int .i64 W) from rfl)
    have u1 := (cells_of (i := 1) q7).trans (show _ = some (.int .i64 H) from rfl)
    have u2 := (cells_of (i := 2) q7).trans (show _ = some (.slice bv n cw) from rfl)
    have z0 := (cells_of (i := 0) qZ2).trans (show _ = some (.int .i64 0) from rfl)
    have z1 := (cells_of (i := 1) qZ2).trans (show _ = some (.int .i64 0) from rfl)
    have z2 := (cells_of (i := 2) qZ2).trans (show _ = some (.slice none 0 0) from rfl)
    have y0 := free_of qZ2 0
    have y1 := free_of qZ2 1
    have y2 := free_of qZ2 2
    have x0 := (cells_of (i := 0) qZ3).trans (show _ = some (.int .i64 0) from rfl)
    have x1 := (cells_of (i := 1) qZ3).trans (show _ = some (.int .i64 0) from rfl)
    have x2 := (cells_of (i := 2) qZ3).trans (show _ = some (.slice none 0 0) from rfl)
    have v0 := free_of qZ3 0
    have v1 := free_of qZ3 1
    have v2 := free_of qZ3 2
    have k1 := block_lt q5
    have k2 := block_lt q7
    have k3 := block_lt qZ2
    have k4 := block_lt qZ3
    have n1 : ¬ w2.heap.size = w.heap.size + 1 := by omega
    have n2 : ¬ w2.heap.size = w.heap.size + 1 + 1 := by omega
    have n3 : ¬ w3.heap.size = w.heap.size + 1 := by omega
    have n4 : ¬ w3.heap.size = w.heap.size + 1 + 1 := by omega
    have HO1 := Lib.hid (show IsO (w.heap.size + 3) w2.heap.size wq av n cv (uF W H c) by
      rw [hwq]; exact (((HOU.out.alloc _).later hb3).alloc _).wider (by first | omega | (simp; omega)) (Nat.le_refl _))
    have HO2 := Lib.hid (show IsO w2.heap.size w3.heap.size wq bv n cw (vF W H c) by
      rw [hwq]; exact (HOV.out.alloc _).wider (by first | omega | simp) (Nat.le_refl _))
    have HBQ := Lib.hid (show Below w.heap.size w wq by rw [hwq]; exact HB3.out.alloc (by omega) _)
    have hq3 : w3.heap.size < wq.heap.size := k2
    have hb12 : w.heap.size + 3 ≤ w2.heap.size := by omega
    clear hb1 hb2 hb3 hwq q5 q7 qZ2 qZ3 HOU HOV HB3 H5 HTT HR
    go_region
    go_wp2
    refine bodyPost_ret ?ohr rfl ⟨av, cv, bv, cw, w2.heap.size, rfl, ?o1, ?o2, by omega, ?osz, ?obel⟩
    case osz =>
      simp only [World.size_drew, World.size_setCell]
      omega
    case o1 =>
      refine (HO1.out.keep fun g hg _ _ => ?_).wider (by omega) (Nat.le_refl _)
      rw [show ∀ (u : World) (i : Nat), u.drew.heap[i]? = u.heap[i]? from fun _ _ => rfl, set_keep _ _ _ (by omega), set_keep _ _ _ (by omega), set_keep _ _ _ (by omega), set_keep _ _ _ (by omega), set_keep _ _ _ (by omega), set_keep _ _ _ (by omega)]
    case o2 =>
      refine (HO2.out.keep fun g hg _ _ => ?_).wider (Nat.le_refl _) (by simp only [World.size_drew, World.size_setCell]; omega)
      rw [show ∀ (u : World) (i : Nat), u.drew.heap[i]? = u.heap[i]? from fun _ _ => rfl, set_keep _ _ _ (by omega), set_keep _ _ _ (by omega), set_keep _ _ _ (by omega), set_keep _ _ _ (by omega), set_keep _ _ _ (by omega), set_keep _ _ _ (by omega)]
    case obel =>
      have HBX := HBQ.out
      clear HO1 HO2 HBQ
      refine (show ∀ {u : World}, Below w.heap.size w u → Below w.heap.size w u.drew from fun h => below_drewN h 1) ?_
      iterate 6 (refine Below.setCell ?_ (by first | omega | (simp; omega) | simp) _)
      exact HBX
    case ohr =>
      clear HO1 HO2 HBQ
      simp [results, Try.results18, go_sem, *]

end Ba
end Go.Proofs.Ytjkkefbfhapblab
