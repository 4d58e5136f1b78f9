/- Flows: the model. -/
import Derived.Test.YtjkkefbfhapblabBaUf
import Derived.Test.YtjkkefbfhapblabBaMi
import Derived.Test.YtjkkefbfhapblabLooseP
import Derived.Test.YtjkkefbfhapblabBaLa
import Derived.Maps.AppendAt
namespace Go.Proofs.Ytjkkefbfhapblab
set_option linter.unusedSimpArgs false
set_option linter.unusedVariables false
open Go.RowKit
set_option maxRecDepth 20000
namespace Ba
open Fl Rate

/-- Two basins, and whether there are; nothing is said of how their rows lie. -/
def RetHW (T : Bool) (W H : Int) (n : Nat) (f g : Nat → Option Nat) (w : World) (e : Ending) (w' : World) : Prop :=
  ∃ a cap b cap', e = .returned (.tuple #[bV W H a n cap, bV W H b n cap', .bool T]) ∧ IsO w.heap.size w'.heap.size w' a n cap f ∧ IsO w.heap.size w'.heap.size w' b n cap' g ∧ Below w.heap.size w w'

/-- Two new basins in their boxes, the rows of which are collected. -/
structure Two (w : World) (B Sb Sc : Nat) (W H : Int) (v v' : Value) (k k' : Nat) (xs ys : List Value) : Prop where
  b : w.heap[Sb]? = some (.cells #[.int .i64 W, .int .i64 H, v] 33)
  c : w.heap[Sc]? = some (.cells #[.int .i64 W, .int .i64 H, v'] 33)
  o : w.ownsRow B 22 1 v k xs
  p : w.ownsRow B 22 1 v' k' ys
  ne : v.ownBlock ≠ v'.ownBlock
  sn : Sb ≠ Sc

theorem Two.later {w w' : World} {B Sb Sc : Nat} {W H : Int} {v v' : Value} {k k' : Nat} {xs ys : List Value} (h : Two w B Sb Sc W H v v' k k' xs ys) (hb : Below w.heap.size w w') : Two w' B Sb Sc W H v v' k k' xs ys :=
  ⟨keep_block hb h.b, keep_block hb h.c, own_below h.o hb, own_below h.p hb, h.ne, h.sn⟩

theorem Two.symm {w : World} {B Sb Sc : Nat} {W H : Int} {v v' : Value} {k k' : Nat} {xs ys : List Value} (h : Two w B Sb Sc W H v v' k k' xs ys) : Two w B Sc Sb W H v' v k' k ys xs :=
  ⟨h.c, h.b, h.p, h.o, h.ne.symm, h.sn.symm⟩

theorem Two.app {w w' : World} {B Sb Sc : Nat} {W H : Int} {v v' u : Value} {k k' m : Nat} {xs ys zs : List Value} (h : Two w B Sb Sc W H v v' k k' xs ys) (hg : w.grownBy w' v.ownBlock) (ho : w'.ownsRow B 22 1 u m zs) (hu : u.ownBlock = v.ownBlock ∨ u.ownBlock = some w.heap.size) :
    w'.heap[Sb]? = some (.cells #[.int .i64 W, .int .i64 H, v] 33) ∧ Two (w'.setCell ⟨Sb, 2, none⟩ u) B Sb Sc W H u v' m k' zs ys := by
  have hb : w'.heap[Sb]? = some (.cells #[.int .i64 W, .int .i64 H, v] 33) := by rw [hg.block Sb (block_lt h.b) (own_off h.o h.b (by decide))]; exact h.b
  have hc : w'.heap[Sc]? = some (.cells #[.int .i64 W, .int .i64 H, v'] 33) := by rw [hg.block Sc (block_lt h.c) (own_off h.o h.c (by decide))]; exact h.c
  have hp : w'.ownsRow B 22 1 v' k' ys := own_heap h.p fun g hg' hlt => hg.block g hlt (by rw [hg']; exact h.ne.symm)
  refine ⟨hb, by simpa using setCell_block hb 2 u, by rw [set_keep _ _ _ h.sn.symm]; exact hc, own_set ho hb (by decide), own_set hp hb (by decide), ?_, h.sn⟩
  rcases hu with e | e
  · rw [e]; exact h.ne
  · rw [e]
    intro e2
    exact absurd (h.p.lt _ e2.symm).2 (Nat.lt_irrefl _)

theorem own_wider {w : World} {B B' e size n : Nat} {v : Value} {xs : List Value} (h : w.ownsRow B e size v n xs) (hB : B' ≤ B) : w.ownsRow B' e size v n xs := by
  obtain ⟨h1, h2 | ⟨g, cap, cur, rfl, h4, h5⟩⟩ := h
  · exact ⟨h1, .inl h2⟩
  · exact ⟨h1, .inr ⟨g, cap, cur, rfl, Nat.le_trans hB h4, h5⟩⟩

set_option maxHeartbeats 12800000 in
theorem spec_flows (G : Nat) (W H : Int) (a : Option Addr) (n cap : Nat) (c : Nat → Option Nat) (w : World) (h : IsY w a n cap c) (hG : w.heap[G]? = some (.cells #[.int .i64 W, .int .i64 H, .slice a n cap] 33)) (hA : okB W H n c = true) (T : Bool) (hT : (allF (uF W H c) n && allF (vF W H c) n) = T) :
    Calls Try.prog 48 #[.pointer (some ⟨G, 0, none⟩)] w (RetHW T (if T then W else 0) (if T then H else 0) (if T then n else 0) (uF W H c) (vF W H c) w) := by
  have hs := okB_of hA
  have hn9 := okB_n hA
  have sW := side_of hs.1
  have sH := side_of hs.2.1
  have hmul := mul_bd hs.1 hs.2.1
  have HN := Lib.hid hs.2.2.1
  have HSS := Lib.hid hs
  have lG := block_lt hG
  have HQ := Lib.hid hG
  have fh := half32
  obtain ⟨R1, hR1⟩ : ∃ R, allF (uF W H c) n = R := ⟨_, rfl⟩
  obtain ⟨R2, hR2⟩ : ∃ R, allF (vF W H c) n = R := ⟨_, rfl⟩
  have hok1 : okB W H n (uF W H c) = R1 := by unfold okB; rw [hs.1, hs.2.1, hR1, decide_eq_true hs.2.2.1]; rfl
  have hok2 : okB W H n (vF W H c) = R2 := by unfold okB; rw [hs.1, hs.2.1, hR2, decide_eq_true hs.2.2.1]; rfl
  rw [hR1, hR2] at hT
  have HG1 := Lib.hid (fun G a cap w e0 e1 e2 (h : IsY w a n cap (uF W H c)) => spec_is G W H a n cap _ w e0 e1 e2 h R1 hok1)
  have HG2 := Lib.hid (fun G a cap w e0 e1 e2 (h : IsY w a n cap (vF W H c)) => spec_is G W H a n cap _ w e0 e1 e2 h R2 hok2)
  obtain ⟨W', hW'⟩ : ∃ W' : Int, (if T then W else 0) = W' := ⟨_, rfl⟩
  obtain ⟨H', hH'⟩ : ∃ H' : Int, (if T then H else 0) = H' := ⟨_, rfl⟩
  obtain ⟨N', hN'⟩ : ∃ N' : Nat, (if T then n else 0) = N' := ⟨_, rfl⟩
  rw [hW', hH', hN']
  have HR := Lib.hid (And.intro hT (And.intro hW' (And.intro hH' hN')))
  have H6 := Lib.hid h
  clear h hs hG hA hR1 hR2 hok1 hok2 hT hW' hH' hN'
  go_enter Try.func48, Try.ntmps48
  go_wp2
  obtain ⟨wc1, hwc⟩ : ∃ x, x = (w.alloc (.cells #[.int .i64 0, .int .i64 0, .slice none 0 0] 33)).alloc (.cells #[.int .i64 0, .int .i64 0, .slice none 0 0] 33) := ⟨_, rfl⟩
  rw [← hwc]
  have q2 : wc1.heap[G]? = some (.cells #[.int .i64 W, .int .i64 H, .slice a n cap] 33) := by rw [hwc]; exact alloc_block (alloc_block HQ.out)
  have QZ := Lib.hid (show wc1.heap[w.heap.size]? = some (.cells #[.int .i64 0, .int .i64 0, .slice none 0 0] 33) ∧ wc1.heap[w.heap.size + 1]? = some (.cells #[.int .i64 0, .int .i64 0, .slice none 0 0] 33) by rw [hwc]; exact ⟨alloc_block (new_block _ _), by simpa using new_block (w.alloc (.cells #[.int .i64 0, .int .i64 0, .slice none 0 0] 33)) (.cells #[.int .i64 0, .int .i64 0, .slice none 0 0] 33)⟩)
  have HBW := Lib.hid (show Below w.heap.size w wc1 by rw [hwc]; exact ((Below.refl _ _).alloc (Nat.le_refl _) _).alloc (by simp) _)
  have hzc1 : w.heap.size + 2 ≤ wc1.heap.size := by rw [hwc]; simp
  clear hwc
  have QG := Lib.hid q2
  have lGc := block_lt q2
  have e20 := (cells_of (i := 0) q2).trans (show _ = some (.int .i64 W) from rfl)
  have e21 := (cells_of (i := 1) q2).trans (show _ = some (.int .i64 H) from rfl)
  have e22 := (cells_of (i := 2) q2).trans (show _ = some (.slice a n cap) from rfl)
  have l2 := block_lt q2
  clear q2
  refine LooseP.wp_region 10 [((18 : Nat), phiN W H wc1.heap.size), ((5 : Nat), phiB wc1.heap.size)] (by kernel_rfl) (by kernel_rfl) (by simp [undef]) ?_
  apply Exists.intro
  simp only [List.take_succ_cons, List.take_zero, List.drop_succ_cons, List.drop_zero]
  have hst : ∀ p ∈ [((18 : Nat), phiN W H wc1.heap.size), ((5 : Nat), phiB wc1.heap.size)], LooseP.Stable p.2 := two_stable (phiN_stable _ _ _) (phiB_stable _)
  repeat (first | (apply Loose.walk_step; intro K hK; apply LooseP.turn_value (hwant := rfl) (hd := rfl); (focus (intro w' hw'; obtain ⟨hc, hf⟩ := Fl.bcell hw'; go_simp; first | done | rfl | exact ⟨rfl, rfl⟩)); go_simp; refine hK _ ?_; clear hK K) | (apply Loose.walk_step; intro K hK; refine LooseP.turn_callP (f := 87) (args := fun a => #[a.eval (.tmp 13), a.eval (.tmp 17)]) (V := fun v => ∃ g, v = bV W H (some ⟨g, 0, none⟩) 0 0) (φ := phiN W H wc1.heap.size) (d := 18) hst (Nat.le_refl _) rfl rfl (two_first (by decide)) (by intro a' w'; go_simp; first | done | rfl | exact ⟨rfl, rfl⟩) ⟨_, 0, rfl⟩ ?_ ?_; (focus (intro a' w' _ hcl; go_simp; exact new_phi hcl.1)); (intro v hv; obtain ⟨gv, rfl⟩ := hv; go_simp; refine hK _ ?_; clear hK K)) | (apply Loose.walk_step; intro K hK; refine LooseP.turn_allocP (φ := phiB wc1.heap.size) (d := 5) (ob := .cells #[.int .i64 0, .int .i64 0, .slice none 0 0] 33) hst (Nat.le_refl _) rfl rfl (two_second (by decide)) (by intro w'; go_simp; first | done | rfl | exact ⟨rfl, rfl⟩) (fun w' hw' => ⟨_, rfl, hw', new_block _ _⟩) ?_; (intro Sb hSb; go_simp; refine hK _ ?_; clear hK K)))
  refine Loose.walk_nil ?_
  intro w3 hcls3
  have hb3 := hcls3.1
  obtain ⟨g3, hg3, ho3⟩ := hcls3.at (v := bV W H (some ⟨gv, 0, none⟩) 0 0) (List.mem_cons_self ..) rfl (by simp [undef])
  obtain rfl : gv = g3 := by simpa using hg3
  obtain ⟨S3, hS3, _, hq3⟩ := hcls3.at (v := .pointer (some ⟨Sb, 0, none⟩)) (List.mem_cons_of_mem _ (List.mem_singleton.2 rfl)) rfl (by simp [undef])
  obtain rfl : Sb = S3 := by simpa using hS3
  clear hcls3 hst hg3 hS3
  have c30 := (cells_of (i := 0) hq3).trans (show _ = some (.int .i64 0) from rfl)
  have c31 := (cells_of (i := 1) hq3).trans (show _ = some (.int .i64 0) from rfl)
  have c32 := (cells_of (i := 2) hq3).trans (show _ = some (.slice none 0 0) from rfl)
  have f30 := free_of hq3 0
  have f31 := free_of hq3 1
  have f32 := free_of hq3 2
  have lS3 := block_lt hq3
  have HQ3 := Lib.hid hq3
  have HO3 := Lib.hid ho3
  have HB3 := Lib.hid hb3
  clear ho3 hb3 e20 e21 e22 hq3
  go_wp2_with fail
  obtain ⟨w4, hw4⟩ : ∃ u, u = ((w3.setCell ⟨Sb, 0, none⟩ (.int .i64 W)).setCell ⟨Sb, 1, none⟩ (.int .i64 H)).setCell ⟨Sb, 2, none⟩ (.slice (some ⟨gv, 0, none⟩) 0 0) := ⟨_, rfl⟩
  rw [← hw4]
  have hS4 : w4.heap[Sb]? = some (.cells #[.int .i64 W, .int .i64 H, .slice (some ⟨gv, 0, none⟩) 0 0] 33) := by rw [hw4]; simpa using setCell_block (setCell_block (setCell_block HQ3.out 0 (.int .i64 W)) 1 (.int .i64 H)) 2 (.slice (some ⟨gv, 0, none⟩) 0 0)
  have hO4 : w4.ownsRow wc1.heap.size 22 1 (.slice (some ⟨gv, 0, none⟩) 0 0) 0 [] := by rw [hw4]; exact own_set (i := 2) (u := .slice (some ⟨gv, 0, none⟩) 0 0) (own_set (i := 1) (u := .int .i64 H) (own_set (i := 0) (u := .int .i64 W) HO3.out HQ3.out (by decide)) (setCell_block HQ3.out 0 _) (by decide)) (setCell_block (setCell_block HQ3.out 0 _) 1 _) (by decide)
  have HB := Lib.hid (show Below wc1.heap.size wc1 w4 by rw [hw4]; exact Below.setCell (Below.setCell (Below.setCell HB3.out hSb (p := ⟨Sb, 0, none⟩) _) hSb (p := ⟨Sb, 1, none⟩) _) hSb (p := ⟨Sb, 2, none⟩) _)
  have HS4 := Lib.hid hS4
  have HO4 := Lib.hid hO4
  have lS4 := block_lt hS4
  have hz4 := HB.out.size
  clear hw4 hS4 hO4 HB3 HQ3 HO3 c30 c31 c32 f30 f31 f32 lS3
  have q2 : w4.heap[G]? = some (.cells #[.int .i64 W, .int .i64 H, .slice a n cap] 33) := by rw [HB.out.block _ lGc]; exact QG.out
  have Q2 := Lib.hid q2
  have l2 := block_lt q2
  have e20 := (cells_of (i := 0) q2).trans (show _ = some (.int .i64 W) from rfl)
  have e21 := (cells_of (i := 1) q2).trans (show _ = some (.int .i64 H) from rfl)
  have e22 := (cells_of (i := 2) q2).trans (show _ = some (.slice a n cap) from rfl)
  clear q2
  refine LooseP.wp_region 10 [((27 : Nat), phiN W H w4.heap.size), ((6 : Nat), phiB w4.heap.size)] (by kernel_rfl) (by kernel_rfl) (by simp [undef]) ?_
  apply Exists.intro
  simp only [List.take_succ_cons, List.take_zero, List.drop_succ_cons, List.drop_zero]
  have hst : ∀ p ∈ [((27 : Nat), phiN W H w4.heap.size), ((6 : Nat), phiB w4.heap.size)], LooseP.Stable p.2 := two_stable (phiN_stable _ _ _) (phiB_stable _)
  repeat (first | (apply Loose.walk_step; intro K hK; apply LooseP.turn_value (hwant := rfl) (hd := rfl); (focus (intro w' hw'; obtain ⟨hc, hf⟩ := Fl.bcell hw'; go_simp; first | done | rfl | exact ⟨rfl, rfl⟩)); go_simp; refine hK _ ?_; clear hK K) | (apply Loose.walk_step; intro K hK; refine LooseP.turn_callP (f := 87) (args := fun a => #[a.eval (.tmp 22), a.eval (.tmp 26)]) (V := fun v => ∃ g, v = bV W H (some ⟨g, 0, none⟩) 0 0) (φ := phiN W H w4.heap.size) (d := 27) hst (Nat.le_refl _) rfl rfl (two_first (by decide)) (by intro a' w'; go_simp; first | done | rfl | exact ⟨rfl, rfl⟩) ⟨_, 0, rfl⟩ ?_ ?_; (focus (intro a' w' _ hcl; go_simp; exact new_phi hcl.1)); (intro v hv; obtain ⟨gx, rfl⟩ := hv; go_simp; refine hK _ ?_; clear hK K)) | (apply Loose.walk_step; intro K hK; refine LooseP.turn_allocP (φ := phiB w4.heap.size) (d := 6) (ob := .cells #[.int .i64 0, .int .i64 0, .slice none 0 0] 33) hst (Nat.le_refl _) rfl rfl (two_second (by decide)) (by intro w'; go_simp; first | done | rfl | exact ⟨rfl, rfl⟩) (fun w' hw' => ⟨_, rfl, hw', new_block _ _⟩) ?_; (intro Sc hSc; go_simp; refine hK _ ?_; clear hK K)))
  refine Loose.walk_nil ?_
  intro w7 hcls7
  have hb7 := hcls7.1
  obtain ⟨g7, hg7, ho7⟩ := hcls7.at (v := bV W H (some ⟨gx, 0, none⟩) 0 0) (List.mem_cons_self ..) rfl (by simp [undef])
  obtain rfl : gx = g7 := by simpa using hg7
  obtain ⟨S7, hS7, _, hq7⟩ := hcls7.at (v := .pointer (some ⟨Sc, 0, none⟩)) (List.mem_cons_of_mem _ (List.mem_singleton.2 rfl)) rfl (by simp [undef])
  obtain rfl : Sc = S7 := by simpa using hS7
  clear hcls7 hst hg7 hS7
  have c30 := (cells_of (i := 0) hq7).trans (show _ = some (.int .i64 0) from rfl)
  have c31 := (cells_of (i := 1) hq7).trans (show _ = some (.int .i64 0) from rfl)
  have c32 := (cells_of (i := 2) hq7).trans (show _ = some (.slice none 0 0) from rfl)
  have f30 := free_of hq7 0
  have f31 := free_of hq7 1
  have f32 := free_of hq7 2
  have lS7 := block_lt hq7
  have HQ7 := Lib.hid hq7
  have HO7 := Lib.hid ho7
  have HB7 := Lib.hid hb7
  clear ho7 hb7 e20 e21 e22 hq7
  have hz7 := HB7.out.size
  have hT0 : Two (((w7.setCell ⟨Sc, 0, none⟩ (.int .i64 W)).setCell ⟨Sc, 1, none⟩ (.int .i64 H)).setCell ⟨Sc, 2, none⟩ (.slice (some ⟨gx, 0, none⟩) 0 0)) wc1.heap.size Sb Sc W H (.slice (some ⟨gv, 0, none⟩) 0 0) (.slice (some ⟨gx, 0, none⟩) 0 0) 0 0 [] [] := by
    have hgv := (HO4.out.lt gv rfl).2
    have hgx := (HO7.out.lt gx rfl).1
    refine ⟨?_, by simpa using setCell_block (setCell_block (setCell_block HQ7.out 0 (.int .i64 W)) 1 (.int .i64 H)) 2 (.slice (some ⟨gx, 0, none⟩) 0 0), ?_, ?_, by simp [Value.ownBlock]; omega, by omega⟩
    · rw [set_keep _ _ _ (by omega), set_keep _ _ _ (by omega), set_keep _ _ _ (by omega)]; exact keep_block HB7.out HS4.out
    · exact own_set (own_set (own_set (own_below HO4.out HB7.out) HQ7.out (by decide)) (setCell_block HQ7.out 0 _) (by decide)) (setCell_block (setCell_block HQ7.out 0 _) 1 _) (by decide)
    · exact own_set (own_set (own_set (own_wider HO7.out hz4) HQ7.out (by decide)) (setCell_block HQ7.out 0 _) (by decide)) (setCell_block (setCell_block HQ7.out 0 _) 1 _) (by decide)
  have hB0 : Below wc1.heap.size wc1 (((w7.setCell ⟨Sc, 0, none⟩ (.int .i64 W)).setCell ⟨Sc, 1, none⟩ (.int .i64 H)).setCell ⟨Sc, 2, none⟩ (.slice (some ⟨gx, 0, none⟩) 0 0)) := Below.setCell (Below.setCell (Below.setCell (HB.out.trans (HB7.out.mono hz4)) (show wc1.heap.size ≤ Sc by omega) (p := ⟨Sc, 0, none⟩) _) (show wc1.heap.size ≤ Sc by omega) (p := ⟨Sc, 1, none⟩) _) (show wc1.heap.size ≤ Sc by omega) (p := ⟨Sc, 2, none⟩) _
  have HT0 := Lib.hid hT0
  have HB0 := Lib.hid hB0
  clear hT0 hB0
  obtain ⟨i0, hi, hz0, hz1, hz2⟩ := info_parts Nums.A_info32
  go_wp2
  go_loopw [7, 67, 84] (fun i s s' wr => ∃ (k : Nat) (v v' : Value) (xs ys : List Value), (∀ b, s = .slice (some ⟨b, 0, none⟩) 1 1 → b < wr.heap.size) ∧ (∀ b, s' = .slice (some ⟨b, 0, none⟩) 1 1 → b < wr.heap.size) ∧ k ≤ n ∧ i = .int .i64 (k : Int) ∧ Two wr wc1.heap.size Sb Sc W H v v' k k xs ys ∧ FPts k (uF W H c) xs ∧ FPts k (vF W H c) ys ∧ Below wc1.heap.size wc1 wr)
    (fun i _ _ _ => n - (intOf i).toNat)
  case atStart => exact ⟨0, _, _, [], [], by intro b hb; simp [undef] at hb, by intro b hb; simp [undef] at hb, Nat.zero_le _, rfl, HT0.out, FPts.nil _, FPts.nil _, HB0.out⟩
  case round =>
    clear HT0 HB0 HB7 HQ7 HO7 HS4 HO4 HB c30 c31 c32 f30 f31 f32 lS7
    obtain ⟨k, v, v', xs, ys, hsl, hsl', hk, rfl, htwo, hpx, hpy, hbel⟩ := hrel
    have HSL := Lib.hid (And.intro hsl hsl')
    have HT := Lib.hid htwo
    have HPX := Lib.hid hpx
    have HPY := Lib.hid hpy
    have HB := Lib.hid hbel
    have hbs := hbel.size
    clear hsl hsl' htwo hpx hpy hbel
    have q2 : wr.heap[G]? = some (.cells #[.int .i64 W, .int .i64 H, .slice a n cap] 33) := by rw [HB.out.block _ lGc]; exact QG.out
    have Q2 := Lib.hid q2
    have l2 := block_lt q2
    have e20 := (cells_of (i := 0) q2).trans (show _ = some (.int .i64 W) from rfl)
    have e21 := (cells_of (i := 1) q2).trans (show _ = some (.int .i64 H) from rfl)
    have e22 := (cells_of (i := 2) q2).trans (show _ = some (.slice a n cap) from rfl)
    clear q2
    by_cases hlt : k < n
    · have hN := HN.out
      have hkN : (k : Int) < W * H := by omega
      have hwm : IntKind.i64.wrap (W * H) = W * H := IntWalk.i64_in _ (by omega)
      clear hN
      go_wp2
      go_quiet (fail)
      obtain ⟨wr', hwr⟩ : ∃ x, x = wr.drewN nq := ⟨_, rfl⟩
      rw [← hwr]
      have hbq : Below wr.heap.size wr wr' := by rw [hwr]; exact below_drewN (Below.refl _ _) _
      have hzq := hbq.size
      have HTq := Lib.hid (HT.out.later hbq)
      have HSq := Lib.hid (show (∀ b, u67 = .slice (some ⟨b, 0, none⟩) 1 1 → b < wr'.heap.size) ∧ (∀ b, u84 = .slice (some ⟨b, 0, none⟩) 1 1 → b < wr'.heap.size) from ⟨fun b hb => Nat.lt_of_lt_of_le (HSL.out.1 b hb) hzq, fun b hb => Nat.lt_of_lt_of_le (HSL.out.2 b hb) hzq⟩)
      have HBq := Lib.hid (HB.out.trans (hbq.mono hbs))
      clear e20 e21 e22 l2 Q2 HT HSL HB hbs hzq hbq hwr
      have HT := HTq
      have HSL := HSq
      have HB := HBq
      clear HTq HSq HBq
      obtain ⟨wr, hwr⟩ : ∃ x, x = wr' := ⟨_, rfl⟩
      subst hwr
      have hbs := HB.out.size
      have q2 : wr.heap[G]? = some (.cells #[.int .i64 W, .int .i64 H, .slice a n cap] 33) := by rw [HB.out.block _ lGc]; exact QG.out
      have Q2 := Lib.hid q2
      have l2 := block_lt q2
      have e20 := (cells_of (i := 0) q2).trans (show _ = some (.int .i64 W) from rfl)
      have e21 := (cells_of (i := 1) q2).trans (show _ = some (.int .i64 H) from rfl)
      have e22 := (cells_of (i := 2) q2).trans (show _ = some (.slice a n cap) from rfl)
      clear q2
      have hN := HN.out
      have HX := Lib.hid (H6.out.later (HBW.out.trans (HB.out.mono (by omega))))
      have hkN : (k : Int) < W * H := by omega
      have hwW : 0 < W := by omega
      have hm0 := Int.emod_nonneg (k : Int) (show W ≠ 0 by omega)
      have hm1 := Int.emod_lt_of_pos (k : Int) hwW
      have hd0 : 0 ≤ (k : Int) / W := Int.ediv_nonneg (by omega) (by omega)
      have hd1 : (k : Int) / W ≤ (k : Int) := Int.ediv_le_self _ (by omega)
      have hWz : (W == 0) = false := by simp; omega
      have ht : (k : Int).tmod W = (k : Int) % W := Int.tmod_eq_emod_of_nonneg (by omega)
      have hq : (k : Int).tdiv W = (k : Int) / W := Int.tdiv_eq_ediv_of_nonneg (by omega)
      have hw1 : IntKind.i64.wrap ((k : Int) % W) = (k : Int) % W := IntWalk.i64_in _ (by omega)
      have hw2 : IntKind.i64.wrap ((k : Int) / W) = (k : Int) / W := IntWalk.i64_in _ (by omega)
      have hwz : W ≠ 0 := by omega
      have hw3 : IntKind.i64.wrap ((k : Int) / W + 1) = (k : Int) / W + 1 := IntWalk.i64_in _ (by omega)
      have hw4 : IntKind.i64.wrap ((k : Int) / W - 1) = (k : Int) / W - 1 := IntWalk.i64_in _ (by omega)
      have hw5 : IntKind.i64.wrap ((k : Int) % W - 1) = (k : Int) % W - 1 := IntWalk.i64_in _ (by omega)
      have hw6 : IntKind.i64.wrap ((k : Int) % W + 1) = (k : Int) % W + 1 := IntWalk.i64_in _ (by omega)
      clear hN
      have s2 := (cells_of (i := 2) HT.out.b).trans (show _ = some v from rfl)
      have lSb := block_lt HT.out.b
      go_wp2_with fail
      refine LooseS.wp_region 15 67 (fun ob => ∃ r, ob = .cells #[.float .f32 r] 22 ∧ Fr .f32 r (op2 .mul .f32 (some 1056964608) (op2 .sub .f32 (c (idx W H ((k : Int) % W) ((k : Int) / W + 1))) (c (idx W H ((k : Int) % W) ((k : Int) / W - 1)))))) (by kernel_rfl) (by kernel_rfl) (by intro b hb; exact HSL.out.1 b (by simpa using hb)) ?_
      apply Exists.intro
      simp only [List.take_succ_cons, List.take_zero, List.drop_succ_cons, List.drop_zero]
      repeat (first | (apply Loose.walk_step; intro K hK; apply LooseS.turn_value (hwant := rfl) (hd := rfl); (focus (intro w' hw'; obtain ⟨hc, hf⟩ := Fl.bcell hw'; go_simp; first | done | rfl | exact ⟨rfl, rfl⟩)); go_simp; refine hK _ ?_; clear hK K) | (apply Loose.walk_step; intro K hK; apply LooseS.turn_callF (Nat.le_refl _) (hwant := rfl) (hd := rfl); (focus (intro w'; go_simp; first | done | rfl | exact ⟨rfl, rfl⟩)); (focus (intro w' hw'; go_at_call 88; exact spec_at G W H _ n cap c w' (HX.out.later hw') HSS.out.1 HSS.out.2.1 HSS.out.2.2.1 _ _ (by omega) (by omega) ((hw'.cell l2).trans e20) ((hw'.cell l2).trans e21) ((hw'.cell l2).trans e22))); intro r hr; go_simp; refine hK _ ?_; clear hK K) | (apply Loose.walk_step; intro K hK; refine LooseS.turn_fl (Nat.le_refl _) rfl rfl rfl rfl rfl rfl (by assumption) (by assumption) ?_; intro r hr; go_simp; refine hK _ ?_; clear hK K) | (apply Loose.walk_step; intro K hK; apply LooseS.turn_row (Nat.le_refl _) (hwant := rfl) (hdst := rfl) (hφ := ⟨_, rfl, by assumption⟩); (focus (intro w'; go_simp; first | done | rfl | exact ⟨rfl, rfl⟩)); intro b4 hb4B; go_simp; refine hK _ ?_; clear hK K))
      refine Loose.walk_nil ?_
      intro w4 hcls
      obtain ⟨hbw4, hrow⟩ := hcls
      obtain ⟨ob, hobw4, q, rfl, fq⟩ := hrow _ hb4B rfl
      clear hrow
      have HT4 := Lib.hid (HT.out.later hbw4)
      have HB4 := Lib.hid (HB.out.trans (hbw4.mono hbs))
      have HOB4 := Lib.hid hobw4
      have HFQ := Lib.hid (show Fr .f32 q (uF W H c k) from fq)
      have hz4 := hbw4.size
      have lb4 := block_lt hobw4
      have lSb4 := block_lt HT4.out.b
      have hzb4 := HB4.out.size
      clear hbw4 hobw4 fq e20 e21 e22 s2 HX Q2
      go_wp2_with (first
        | (
          at_builtin
          refine wpList_append_own_at _ rfl (.tmp 54) (.tmp 67) 29 rfl wc1.heap.size 22 i0 (.float .f32 0) 1 4 Try.underlying29 hi hz0 hz1 hz2 rfl (by decide) v k xs rfl HT4.out.o ⟨b4, 0, none⟩ 1 1 [.float .f32 q] rfl rfl (row_cell HOB4.out) (by intro u hu; rw [List.mem_singleton.1 hu]; rfl) (by unfold maxLen; omega) (by omega) (by omega) ?_
          intro v5 w5 hown5 hgrow5 hnil5 hat5
          obtain ⟨g5, cap5, rfl⟩ := Joins.ownsRow_form hown5 (by omega)
          have hz45 := hgrow5.size
          have hap := HT4.out.app hgrow5 hown5 hat5
          have d50 := (cells_of (i := 2) hap.1).trans (show _ = some v from rfl)
          have f50 := free_of hap.1 2
          have l5 := block_lt hap.1
          have hb5 : Below wc1.heap.size wc1 w5 := Below.grown HB4.out hgrow5 hzb4 (own_ge HT4.out.o (Nat.le_refl _))
          have HAP := Lib.hid hap
          have HB5 := Lib.hid hb5
          clear hown5 hgrow5 hnil5 hat5 hap hb5
          skip))
      obtain ⟨w6, hw6⟩ : ∃ u, u = w5.setCell ⟨Sb, 2, none⟩ (.slice (some ⟨g5, 0, none⟩) (k + 1) cap5) := ⟨_, rfl⟩
      rw [← hw6]
      have hz56 : w5.heap.size ≤ w6.heap.size := by rw [hw6]; simp
      have HT6 := Lib.hid (show Two w6 wc1.heap.size Sb Sc W H (.slice (some ⟨g5, 0, none⟩) (k + 1) cap5) v' (k + 1) k (xs ++ [.float .f32 q]) ys from by rw [hw6]; exact HAP.out.2)
      have HB6 := Lib.hid (show Below wc1.heap.size wc1 w6 from by rw [hw6]; exact Below.setCell HB5.out (show wc1.heap.size ≤ Sb by omega) (p := ⟨Sb, 2, none⟩) _)
      have HSL6 := Lib.hid (show ∀ b, u84 = .slice (some ⟨b, 0, none⟩) 1 1 → b < w6.heap.size from fun b hb => by have := HSL.out.2 b hb; omega)
      have lb46 : b4 < w6.heap.size := by omega
      clear hw6 d50 f50 l5 HB4 HT4 HB5 HAP HB HT HSL HOB4 hbs l2
      have HB := HB6
      clear HB6
      have hbs := HB.out.size
      have q2 : w6.heap[G]? = some (.cells #[.int .i64 W, .int .i64 H, .slice a n cap] 33) := by rw [HB.out.block _ lGc]; exact QG.out
      have Q2 := Lib.hid q2
      have l2 := block_lt q2
      have e20 := (cells_of (i := 0) q2).trans (show _ = some (.int .i64 W) from rfl)
      have e21 := (cells_of (i := 1) q2).trans (show _ = some (.int .i64 H) from rfl)
      have e22 := (cells_of (i := 2) q2).trans (show _ = some (.slice a n cap) from rfl)
      clear q2
      have HX := Lib.hid (H6.out.later (HBW.out.trans (HB.out.mono (by omega))))
      have s2 := (cells_of (i := 2) HT6.out.c).trans (show _ = some v' from rfl)
      have lSc := block_lt HT6.out.c
      refine LooseS.wp_region 15 84 (fun ob => ∃ r, ob = .cells #[.float .f32 r] 22 ∧ Fr .f32 r (op2 .mul .f32 (some 1056964608) (op2 .sub .f32 (c (idx W H ((k : Int) % W - 1) ((k : Int) / W))) (c (idx W H ((k : Int) % W + 1) ((k : Int) / W)))))) (by kernel_rfl) (by kernel_rfl) (by intro b hb; exact HSL6.out b (by simpa using hb)) ?_
      apply Exists.intro
      simp only [List.take_succ_cons, List.take_zero, List.drop_succ_cons, List.drop_zero]
      repeat (first | (apply Loose.walk_step; intro K hK; apply LooseS.turn_value (hwant := rfl) (hd := rfl); (focus (intro w' hw'; obtain ⟨hc, hf⟩ := Fl.bcell hw'; go_simp; first | done | rfl | exact ⟨rfl, rfl⟩)); go_simp; refine hK _ ?_; clear hK K) | (apply Loose.walk_step; intro K hK; apply LooseS.turn_callF (Nat.le_refl _) (hwant := rfl) (hd := rfl); (focus (intro w'; go_simp; first | done | rfl | exact ⟨rfl, rfl⟩)); (focus (intro w' hw'; go_at_call 88; exact spec_at G W H _ n cap c w' (HX.out.later hw') HSS.out.1 HSS.out.2.1 HSS.out.2.2.1 _ _ (by omega) (by omega) ((hw'.cell l2).trans e20) ((hw'.cell l2).trans e21) ((hw'.cell l2).trans e22))); intro r hr; go_simp; refine hK _ ?_; clear hK K) | (apply Loose.walk_step; intro K hK; refine LooseS.turn_fl (Nat.le_refl _) rfl rfl rfl rfl rfl rfl (by assumption) (by assumption) ?_; intro r hr; go_simp; refine hK _ ?_; clear hK K) | (apply Loose.walk_step; intro K hK; apply LooseS.turn_row (Nat.le_refl _) (hwant := rfl) (hdst := rfl) (hφ := ⟨_, rfl, by assumption⟩); (focus (intro w'; go_simp; first | done | rfl | exact ⟨rfl, rfl⟩)); intro b7 hb7B; go_simp; refine hK _ ?_; clear hK K))
      refine Loose.walk_nil ?_
      intro w7 hcls
      obtain ⟨hbw7, hrow⟩ := hcls
      obtain ⟨ob, hobw7, p, rfl, fp⟩ := hrow _ hb7B rfl
      clear hrow
      have HT7 := Lib.hid (HT6.out.later hbw7).symm
      have HB7 := Lib.hid (HB.out.trans (hbw7.mono hbs))
      have HOB7 := Lib.hid hobw7
      have HFP := Lib.hid (show Fr .f32 p (vF W H c k) from fp)
      have hz7 := hbw7.size
      have lb7 := block_lt hobw7
      have lSc7 := block_lt HT7.out.b
      have hzb7 := HB7.out.size
      clear hbw7 hobw7 fp e20 e21 e22 s2 HX Q2
      go_wp2_with (first
        | (
          at_builtin
          refine wpList_append_own_at _ rfl (.tmp 71) (.tmp 84) 29 rfl wc1.heap.size 22 i0 (.float .f32 0) 1 4 Try.underlying29 hi hz0 hz1 hz2 rfl (by decide) v' k ys rfl HT7.out.o ⟨b7, 0, none⟩ 1 1 [.float .f32 p] rfl rfl (row_cell HOB7.out) (by intro u hu; rw [List.mem_singleton.1 hu]; rfl) (by unfold maxLen; omega) (by omega) (by omega) ?_
          intro v8 w8 hown8 hgrow8 hnil8 hat8
          obtain ⟨g8, cap8, rfl⟩ := Joins.ownsRow_form hown8 (by omega)
          have hz78 := hgrow8.size
          have hap := HT7.out.app hgrow8 hown8 hat8
          have d50 := (cells_of (i := 2) hap.1).trans (show _ = some v' from rfl)
          have f50 := free_of hap.1 2
          have l8 := block_lt hap.1
          have hb8 : Below wc1.heap.size wc1 w8 := Below.grown HB7.out hgrow8 hzb7 (own_ge HT7.out.o (Nat.le_refl _))
          have HAP := Lib.hid hap
          have HB8 := Lib.hid hb8
          clear hown8 hgrow8 hnil8 hat8 hap hb8
          skip))
      go_roundw
      case rel => exact ⟨k + 1, _, _, _, _, by intro b hb; simp at hb; subst hb; simp; omega, by intro b hb; simp at hb; subst hb; simp; omega, by omega, by go_num, HAP.out.2.symm, HPX.out.next HFQ.out, HPY.out.next HFP.out, Below.setCell HB8.out (show wc1.heap.size ≤ Sc by omega) (p := ⟨Sc, 2, none⟩) _⟩
      case measure => simp [intOf]; omega
    · obtain rfl : n = k := by omega
      have hN := HN.out
      have hge : ¬ (n : Int) < W * H := by omega
      have hwm : IntKind.i64.wrap (W * H) = W * H := IntWalk.i64_in _ (by omega)
      clear hN
      go_wp2
      go_quiet (fail)
      obtain ⟨wr', hwr⟩ : ∃ x, x = wr.drewN nq := ⟨_, rfl⟩
      rw [← hwr]
      have hbq : Below wr.heap.size wr wr' := by rw [hwr]; exact below_drewN (Below.refl _ _) _
      have hzq := hbq.size
      have HTq := Lib.hid (HT.out.later hbq)
      have HSq := Lib.hid (show (∀ b, u67 = .slice (some ⟨b, 0, none⟩) 1 1 → b < wr'.heap.size) ∧ (∀ b, u84 = .slice (some ⟨b, 0, none⟩) 1 1 → b < wr'.heap.size) from ⟨fun b hb => Nat.lt_of_lt_of_le (HSL.out.1 b hb) hzq, fun b hb => Nat.lt_of_lt_of_le (HSL.out.2 b hb) hzq⟩)
      have HBq := Lib.hid (HB.out.trans (hbq.mono hbs))
      clear e20 e21 e22 l2 Q2 HT HSL HB hbs hzq hbq hwr
      have HT := HTq
      have HSL := HSq
      have HB := HBq
      clear HTq HSq HBq
      obtain ⟨wr, hwr⟩ : ∃ x, x = wr' := ⟨_, rfl⟩
      subst hwr
      have hbs := HB.out.size
      have q2 : wr.heap[G]? = some (.cells #[.int .i64 W, .int .i64 H, .slice a n cap] 33) := by rw [HB.out.block _ lGc]; exact QG.out
      have Q2 := Lib.hid q2
      have l2 := block_lt q2
      have e20 := (cells_of (i := 0) q2).trans (show _ = some (.int .i64 W) from rfl)
      have e21 := (cells_of (i := 1) q2).trans (show _ = some (.int .i64 H) from rfl)
      have e22 := (cells_of (i := 2) q2).trans (show _ = some (.slice a n cap) from rfl)
      clear q2
      obtain ⟨av, capv, rfl, hio⟩ := isO_of HT.out.o HPX.out (by omega)
      obtain ⟨bv, capw, rfl, hip⟩ := isO_of HT.out.p HPY.out (by omega)
      have HIO := Lib.hid hio
      have HIP := Lib.hid hip
      have hsn := HT.out.sn
      clear hio hip e20 e21 e22 l2 Q2 HSL
      have s0 := (cells_of (i := 0) HT.out.b).trans (show _ = some (.int .i64 W) from rfl)
      have s1 := (cells_of (i := 1) HT.out.b).trans (show _ = some (.int .i64 H) from rfl)
      have s2 := (cells_of (i := 2) HT.out.b).trans (show _ = some (.slice av n capv) from rfl)
      have r0 := (cells_of (i := 0) HT.out.c).trans (show _ = some (.int .i64 W) from rfl)
      have r1 := (cells_of (i := 1) HT.out.c).trans (show _ = some (.int .i64 H) from rfl)
      have r2 := (cells_of (i := 2) HT.out.c).trans (show _ = some (.slice bv n capw) from rfl)
      have lSb := block_lt HT.out.b
      have lSc := block_lt HT.out.c
      have qz := (HB.out.block _ (show w.heap.size < wc1.heap.size by omega)).trans QZ.out.1
      have qx := (HB.out.block _ (show w.heap.size + 1 < wc1.heap.size by omega)).trans QZ.out.2
      have z0 := (cells_of (i := 0) qz).trans (show _ = some (Value.int .i64 0) from rfl)
      have z1 := (cells_of (i := 1) qz).trans (show _ = some (Value.int .i64 0) from rfl)
      have z2 := (cells_of (i := 2) qz).trans (show _ = some (Value.slice none 0 0) from rfl)
      have y0 := free_of qz 0
      have y1 := free_of qz 1
      have y2 := free_of qz 2
      have x0 := (cells_of (i := 0) qx).trans (show _ = some (Value.int .i64 0) from rfl)
      have x1 := (cells_of (i := 1) qx).trans (show _ = some (Value.int .i64 0) from rfl)
      have x2 := (cells_of (i := 2) qx).trans (show _ = some (Value.slice none 0 0) from rfl)
      have t0 := free_of qx 0
      have t1 := free_of qx 1
      have t2 := free_of qx 2
      have lz := block_lt qz
      have lx := block_lt qx
      clear qz qx
      go_wp2_with fail
      refine (HG1.out Sb av capv _ s0 s1 s2 HIO.out.y).mono ?_
      rintro e w9 ⟨rfl, hbw9⟩
      have HTn := Lib.hid (HT.out.later hbw9)
      have HBn := Lib.hid (HB.out.trans (hbw9.mono HB.out.size))
      have HIOn := Lib.hid (HIO.out.later hbw9)
      have HIPn := Lib.hid (HIP.out.later hbw9)
      have hzw9 := hbw9.size
      clear hbw9 HIO HIP
      clear s0 s1 s2 r0 r1 r2 z0 z1 z2 x0 x1 x2 y0 y1 y2 t0 t1 t2 lSb lSc lz lx HT HB
      have HT := HTn
      have HB := HBn
      have HIO := HIOn
      have HIP := HIPn
      clear HTn HBn HIOn HIPn
      have s0 := (cells_of (i := 0) HT.out.b).trans (show _ = some (.int .i64 W) from rfl)
      have s1 := (cells_of (i := 1) HT.out.b).trans (show _ = some (.int .i64 H) from rfl)
      have s2 := (cells_of (i := 2) HT.out.b).trans (show _ = some (.slice av n capv) from rfl)
      have r0 := (cells_of (i := 0) HT.out.c).trans (show _ = some (.int .i64 W) from rfl)
      have r1 := (cells_of (i := 1) HT.out.c).trans (show _ = some (.int .i64 H) from rfl)
      have r2 := (cells_of (i := 2) HT.out.c).trans (show _ = some (.slice bv n capw) from rfl)
      have lSb := block_lt HT.out.b
      have lSc := block_lt HT.out.c
      have qz := (HB.out.block _ (show w.heap.size < wc1.heap.size by omega)).trans QZ.out.1
      have qx := (HB.out.block _ (show w.heap.size + 1 < wc1.heap.size by omega)).trans QZ.out.2
      have z0 := (cells_of (i := 0) qz).trans (show _ = some (Value.int .i64 0) from rfl)
      have z1 := (cells_of (i := 1) qz).trans (show _ = some (Value.int .i64 0) from rfl)
      have z2 := (cells_of (i := 2) qz).trans (show _ = some (Value.slice none 0 0) from rfl)
      have y0 := free_of qz 0
      have y1 := free_of qz 1
      have y2 := free_of qz 2
      have x0 := (cells_of (i := 0) qx).trans (show _ = some (Value.int .i64 0) from rfl)
      have x1 := (cells_of (i := 1) qx).trans (show _ = some (Value.int .i64 0) from rfl)
      have x2 := (cells_of (i := 2) qx).trans (show _ = some (Value.slice none 0 0) from rfl)
      have t0 := free_of qx 0
      have t1 := free_of qx 1
      have t2 := free_of qx 2
      have lz := block_lt qz
      have lx := block_lt qx
      clear qz qx
      cases R1
      · have hT : T = false := by rw [← HR.out.1]; rfl
        subst hT
        have hR := HR.out.2
        simp only [Bool.false_eq_true, if_false] at hR
        obtain ⟨rfl, rfl, rfl⟩ := hR
        go_wp2
        refine bodyPost_ret ?ohr rfl ⟨none, 0, none, 0, rfl, isO_nil _ _ _ _, isO_nil _ _ _ _, ?obel⟩
        case ohr => simp [results, Try.results48, go_sem, *]
        case obel =>
          have HBX := HBW.out.trans (HB.out.mono (by omega))
          iterate 6 (refine Below.setCell ?_ (by first | exact Nat.le_refl _ | (show w.heap.size ≤ w.heap.size + 1; omega) | omega | (simp; omega) | simp) _)
          exact HBX
      go_wp2_with fail
      refine (HG2.out Sc bv capw _ r0 r1 r2 HIP.out.y).mono ?_
      rintro e wA ⟨rfl, hbwA⟩
      have HTn := Lib.hid (HT.out.later hbwA)
      have HBn := Lib.hid (HB.out.trans (hbwA.mono HB.out.size))
      have HIOn := Lib.hid (HIO.out.later hbwA)
      have HIPn := Lib.hid (HIP.out.later hbwA)
      have hzwA := hbwA.size
      clear hbwA HIO HIP
      clear s0 s1 s2 r0 r1 r2 z0 z1 z2 x0 x1 x2 y0 y1 y2 t0 t1 t2 lSb lSc lz lx HT HB
      have HT := HTn
      have HB := HBn
      have HIO := HIOn
      have HIP := HIPn
      clear HTn HBn HIOn HIPn
      have s0 := (cells_of (i := 0) HT.out.b).trans (show _ = some (.int .i64 W) from rfl)
      have s1 := (cells_of (i := 1) HT.out.b).trans (show _ = some (.int .i64 H) from rfl)
      have s2 := (cells_of (i := 2) HT.out.b).trans (show _ = some (.slice av n capv) from rfl)
      have r0 := (cells_of (i := 0) HT.out.c).trans (show _ = some (.int .i64 W) from rfl)
      have r1 := (cells_of (i := 1) HT.out.c).trans (show _ = some (.int .i64 H) from rfl)
      have r2 := (cells_of (i := 2) HT.out.c).trans (show _ = some (.slice bv n capw) from rfl)
      have lSb := block_lt HT.out.b
      have lSc := block_lt HT.out.c
      have qz := (HB.out.block _ (show w.heap.size < wc1.heap.size by omega)).trans QZ.out.1
      have qx := (HB.out.block _ (show w.heap.size + 1 < wc1.heap.size by omega)).trans QZ.out.2
      have z0 := (cells_of (i := 0) qz).trans (show _ = some (Value.int .i64 0) from rfl)
      have z1 := (cells_of (i := 1) qz).trans (show _ = some (Value.int .i64 0) from rfl)
      have z2 := (cells_of (i := 2) qz).trans (show _ = some (Value.slice none 0 0) from rfl)
      have y0 := free_of qz 0
      have y1 := free_of qz 1
      have y2 := free_of qz 2
      have x0 := (cells_of (i := 0) qx).trans (show _ = some (Value.int .i64 0) from rfl)
      have x1 := (cells_of (i := 1) qx).trans (show _ = some (Value.int .i64 0) from rfl)
      have x2 := (cells_of (i := 2) qx).trans (show _ = some (Value.slice none 0 0) from rfl)
      have t0 := free_of qx 0
      have t1 := free_of qx 1
      have t2 := free_of qx 2
      have lz := block_lt qz
      have lx := block_lt qx
      clear qz qx
      cases R2
      · have hT : T = false := by rw [← HR.out.1]; rfl
        subst hT
        have hR := HR.out.2
        simp only [Bool.false_eq_true, if_false] at hR
        obtain ⟨rfl, rfl, rfl⟩ := hR
        go_wp2
        refine bodyPost_ret ?ohr rfl ⟨none, 0, none, 0, rfl, isO_nil _ _ _ _, isO_nil _ _ _ _, ?obel⟩
        case ohr => simp [results, Try.results48, go_sem, *]
        case obel =>
          have HBX := HBW.out.trans (HB.out.mono (by omega))
          iterate 6 (refine Below.setCell ?_ (by first | exact Nat.le_refl _ | (show w.heap.size ≤ w.heap.size + 1; omega) | omega | (simp; omega) | simp) _)
          exact HBX
      have hT : T = true := by rw [← HR.out.1]; rfl
      subst hT
      have hR := HR.out.2
      simp only [if_true] at hR
      obtain ⟨rfl, rfl, rfl⟩ := hR
      go_wp2
      have n1 : ¬ Sb = w.heap.size := by omega
      have n2 : ¬ Sb = w.heap.size + 1 := by omega
      have n3 : ¬ Sc = w.heap.size := by omega
      have n4 : ¬ Sc = w.heap.size + 1 := by omega
      have HBX := Lib.hid (HBW.out.trans (HB.out.mono (show w.heap.size ≤ wc1.heap.size by omega)))
      clear HT HB HSS HR HG1 HG2 H6 HBW QZ QG
      go_region
      go_wp2
      refine bodyPost_ret ?ohr rfl ⟨av, capv, bv, capw, rfl, ?o1, ?o2, ?obel⟩
      case o1 =>
        refine (HIO.out.keep fun g hg _ _ => ?_).wider (by omega) (by simp only [World.size_drew, World.size_setCell]; omega)
        rw [show ∀ (u : World) (i : Nat), u.drew.heap[i]? = u.heap[i]? from fun _ _ => rfl, set_keep _ _ _ (by omega), set_keep _ _ _ (by omega), set_keep _ _ _ (by omega), set_keep _ _ _ (by omega), set_keep _ _ _ (by omega), set_keep _ _ _ (by omega)]
      case o2 =>
        refine (HIP.out.keep fun g hg _ _ => ?_).wider (by omega) (by simp only [World.size_drew, World.size_setCell]; omega)
        rw [show ∀ (u : World) (i : Nat), u.drew.heap[i]? = u.heap[i]? from fun _ _ => rfl, set_keep _ _ _ (by omega), set_keep _ _ _ (by omega), set_keep _ _ _ (by omega), set_keep _ _ _ (by omega), set_keep _ _ _ (by omega), set_keep _ _ _ (by omega)]
      case obel =>
        refine (show ∀ {u : World}, Below w.heap.size w u → Below w.heap.size w u.drew from fun h => below_drewN h 1) ?_
        iterate 6 (refine Below.setCell ?_ (by first | exact Nat.le_refl _ | (show w.heap.size ≤ w.heap.size + 1; omega) | omega | (simp; omega) | simp) _)
        exact HBX.out
      case ohr =>
        clear HIO HIP HBX
        simp [results, Try.results48, go_sem, *]

end Ba
end Go.Proofs.Ytjkkefbfhapblab
