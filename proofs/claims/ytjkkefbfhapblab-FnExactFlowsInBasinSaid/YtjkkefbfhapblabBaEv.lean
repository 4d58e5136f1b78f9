/- Basins without their mean. -/
import Derived.Test.YtjkkefbfhapblabBaMi
import Derived.Test.YtjkkefbfhapblabBaM
import Derived.Test.YtjkkefbfhapblabLooseP
import Derived.Test.YtjkkefbfhapblabBaOw
namespace Go.Proofs.Ytjkkefbfhapblab
set_option linter.unusedSimpArgs false
set_option linter.unusedVariables false
open Go.RowKit
set_option maxRecDepth 20000
namespace Ba
open Fl Rate

set_option maxHeartbeats 6400000 in
theorem spec_even (G : Nat) (W H : Int) (a : Option Addr) (n cap : Nat) (c : Nat → Option Nat) (w : World) (h : IsY w a n cap c) (hG : w.heap[G]? = some (.cells #[.int .i64 W, .int .i64 H, .slice a n cap] 33)) (hA : okB W H n c = true) (tot m : Option Nat) (ht : Nums.accC c n = tot) (hm : op2 .quo .f32 tot (Mks.msC (n : Int)) = m) :
    Calls Try.prog 137 #[.pointer (some ⟨G, 0, none⟩)] w (RetG (finC tot && allF (fun k => op2 .sub .f32 (c k) m) n) W H n (fun k => op2 .sub .f32 (c k) m) w) := by
  have hs := okB_of hA
  have hn9 := okB_n hA
  have HT := Lib.hid (fun w' (hb : Below w.heap.size w w') e2 => spec_total G a n cap c w' (h.later hb) e2)
  rw [ht] at HT
  have HF := Lib.hid (fun x w f => spec_fin x tot w f)
  have e20 := (cells_of (i := 0) hG).trans (show _ = some (.int .i64 W) from rfl)
  have e21 := (cells_of (i := 1) hG).trans (show _ = some (.int .i64 H) from rfl)
  have e22 := (cells_of (i := 2) hG).trans (show _ = some (.slice a n cap) from rfl)
  have lG := block_lt hG
  have HQ := Lib.hid hG
  have HM := Lib.hid hm
  clear hG ht hm hA
  cases hf : finC tot
  · rw [hf] at HF
    clear hs h
    show Calls _ _ _ w (RetG false W H n _ w)
    go_enter Try.func137, Try.ntmps137
    go_wp2_with fail
    refine (HT.out _ (by (repeat' first | exact Below.refl _ _ | (refine Below.setCell ?_ (by first | omega | (simp; omega) | simp) _) | (refine below_drewN ?_ _) | (refine Below.alloc ?_ (by first | omega | (simp; omega) | simp) _) | (refine Below.trans ?_ (Below.mono (by assumption) (by first | omega | (simp; omega) | simp))))) (by go_simp)).mono ?_
    rintro e w1 ⟨r1, rfl, hr1, hb1⟩
    have hz1 := hb1.size
    try simp only [World.size_alloc, World.size_setCell, World.heap_drewN, World.size_drew] at hz1
    obtain ⟨hc1, hf1⟩ := Fl.bcell hb1
    try simp only [World.heap_drewN, World.cell?_drewN, World.frozen?_drewN] at hc1 hf1
    have g1_0 : w.heap.size < w1.heap.size := by omega
    go_wp2_with fail
    refine (HF.out _ _ hr1).mono ?_
    rintro e w2 ⟨rfl, hb2⟩
    have hz2 := hb2.size
    try simp only [World.size_alloc, World.size_setCell, World.heap_drewN, World.size_drew] at hz2
    obtain ⟨hc2, hf2⟩ := Fl.bcell hb2
    try simp only [World.heap_drewN, World.cell?_drewN, World.frozen?_drewN] at hc2 hf2
    have g2_0 : w.heap.size < w2.heap.size := by omega
    go_wp2
    refine bodyPost_ret ?ohr rfl (retG_no ?obel)
    case ohr => simp [results, Try.results137, go_sem, *]
    case obel => (repeat' first | exact Below.refl _ _ | (refine Below.setCell ?_ (by first | omega | (simp; omega) | simp) _) | (refine below_drewN ?_ _) | (refine Below.alloc ?_ (by first | omega | (simp; omega) | simp) _) | (refine Below.trans ?_ (Below.mono (by assumption) (by first | omega | (simp; omega) | simp))))
  rw [hf] at HF
  clear hf
  show Calls _ _ _ w (RetG (allF (fun k => op2 .sub .f32 (c k) m) n) W H n _ w)
  obtain ⟨R, hR0⟩ : ∃ R, allF (fun k => op2 .sub .f32 (c k) m) n = R := ⟨_, rfl⟩
  have hok : okB W H n (fun k => op2 .sub .f32 (c k) m) = R := by
    unfold okB
    rw [hs.1, hs.2.1, hR0, decide_eq_true hs.2.2.1]; rfl
  have HG := Lib.hid (fun a cap w (h : IsY w a n cap (fun k => op2 .sub .f32 (c k) m)) => spec_give W H a n cap _ w h R hok)
  rw [hR0]
  unfold RetG
  obtain ⟨W', hW'⟩ : ∃ W' : Int, (if R then W else 0) = W' := ⟨_, rfl⟩
  obtain ⟨H', hH'⟩ : ∃ H' : Int, (if R then H else 0) = H' := ⟨_, rfl⟩
  obtain ⟨N', hN'⟩ : ∃ N' : Nat, (if R then n else 0) = N' := ⟨_, rfl⟩
  rw [hW', hH', hN']
  have HR := Lib.hid (And.intro hW' (And.intro hH' hN'))
  clear hR0 hok hW' hH' hN'
  have H6 := Lib.hid h
  clear h hs
  go_enter Try.func137, Try.ntmps137
  go_wp2_with fail
  refine (HT.out _ (by (repeat' first | exact Below.refl _ _ | (refine Below.setCell ?_ (by first | omega | (simp; omega) | simp) _) | (refine below_drewN ?_ _) | (refine Below.alloc ?_ (by first | omega | (simp; omega) | simp) _) | (refine Below.trans ?_ (Below.mono (by assumption) (by first | omega | (simp; omega) | simp))))) (by go_simp)).mono ?_
  rintro e wc1 ⟨r1, rfl, hr1, hb1⟩
  have hzc1 := hb1.size
  simp only [World.size_alloc] at hzc1
  have q2 := keep_block hb1 (alloc_block (o' := .cells #[.int .i64 0, .int .i64 0, .slice none 0 0] 33) HQ.out)
  have q4 : wc1.heap[w.heap.size]? = some (.cells #[.int .i64 0, .int .i64 0, .slice none 0 0] 33) := keep_block hb1 (new_block _ _)
  have HBW := Lib.hid (show Below w.heap.size w wc1 by (repeat' first | exact Below.refl _ _ | (refine Below.setCell ?_ (by first | omega | (simp; omega) | simp) _) | (refine below_drewN ?_ _) | (refine Below.alloc ?_ (by first | omega | (simp; omega) | simp) _) | (refine Below.trans ?_ (Below.mono (by assumption) (by first | omega | (simp; omega) | simp)))))
  clear e20 e21 e22
  have Q2 := Lib.hid q2
  have l2 := block_lt q2
  have e20 := (cells_of (i := 0) q2).trans (show _ = some (.int .i64 W) from rfl)
  have e21 := (cells_of (i := 1) q2).trans (show _ = some (.int .i64 H) from rfl)
  have e22 := (cells_of (i := 2) q2).trans (show _ = some (.slice a n cap) from rfl)
  clear q2
  have Q4 := Lib.hid q4
  have l4 := block_lt q4
  clear q4
  clear hb1
  go_wp2_with fail
  refine (HF.out _ _ hr1).mono ?_
  rintro e wc2 ⟨rfl, hb2⟩
  have hzc2 := hb2.size
  clear e20 e21 e22
  have q2 := keep_block hb2 Q2.out
  have q4 := keep_block hb2 Q4.out
  have hbw := HBW.out.trans (hb2.mono HBW.out.size)
  clear Q2 Q4 l2 l4 HBW
  have HBW := Lib.hid hbw
  have Q2 := Lib.hid q2
  have l2 := block_lt q2
  have e20 := (cells_of (i := 0) q2).trans (show _ = some (.int .i64 W) from rfl)
  have e21 := (cells_of (i := 1) q2).trans (show _ = some (.int .i64 H) from rfl)
  have e22 := (cells_of (i := 2) q2).trans (show _ = some (.slice a n cap) from rfl)
  clear q2
  have Q4 := Lib.hid q4
  have l4 := block_lt q4
  clear q4
  clear hb2 hbw
  have hmi : (n : Int) ≤ 9223372036854775807 := by omega
  have fn := (Mks.ms_facts (n : Int)).2
  generalize Mks.msC (n : Int) = ms at *
  go_wp2_with (refine Fl.wpList_fl rfl rfl rfl rfl rfl (by assumption) (by assumption) ?_; intro rm nm hrm)
  rw [HM.out] at hrm
  obtain ⟨wc3, hwc3⟩ : ∃ x, x = wc2.drewN nm := ⟨_, rfl⟩
  rw [← hwc3]
  have q2 : wc3.heap[G]? = some (.cells #[.int .i64 W, .int .i64 H, .slice a n cap] 33) := by rw [hwc3]; exact Q2.out
  have q4 : wc3.heap[w.heap.size]? = some (.cells #[.int .i64 0, .int .i64 0, .slice none 0 0] 33) := by rw [hwc3]; exact Q4.out
  have hbw : Below w.heap.size w wc3 := by rw [hwc3]; exact below_drewN HBW.out _
  have hzc3 : wc2.heap.size ≤ wc3.heap.size := by rw [hwc3]; exact Nat.le_refl _
  clear Q2 Q4 l2 l4 HBW e20 e21 e22 hwc3
  have HBW := Lib.hid hbw
  have Q2 := Lib.hid q2
  have l2 := block_lt q2
  have e20 := (cells_of (i := 0) q2).trans (show _ = some (.int .i64 W) from rfl)
  have e21 := (cells_of (i := 1) q2).trans (show _ = some (.int .i64 H) from rfl)
  have e22 := (cells_of (i := 2) q2).trans (show _ = some (.slice a n cap) from rfl)
  clear q2
  have Q4 := Lib.hid q4
  have l4 := block_lt q4
  clear q4
  clear hbw
  go_wp2_with fail
  refine LooseP.wp_region 10 [((30 : Nat), phiN W H wc3.heap.size), ((6 : Nat), phiB wc3.heap.size)] (by kernel_rfl) (by kernel_rfl) (by simp [undef]) ?_
  apply Exists.intro
  simp only [List.take_succ_cons, List.take_zero, List.drop_succ_cons, List.drop_zero]
  have hst : ∀ p ∈ [((30 : Nat), phiN W H wc3.heap.size), ((6 : Nat), phiB wc3.heap.size)], LooseP.Stable p.2 := two_stable (phiN_stable _ _ _) (phiB_stable _)
  repeat (first | (apply Loose.walk_step; intro K hK; apply LooseP.turn_value (hwant := rfl) (hd := rfl); (focus (intro w' hw'; obtain ⟨hc, hf⟩ := Fl.bcell hw'; go_simp; first | done | rfl | exact ⟨rfl, rfl⟩)); go_simp; refine hK _ ?_; clear hK K) | (apply Loose.walk_step; intro K hK; refine LooseP.turn_callP (f := 87) (args := fun a => #[a.eval (.tmp 25), a.eval (.tmp 29)]) (V := fun v => ∃ g, v = bV W H (some ⟨g, 0, none⟩) 0 0) (φ := phiN W H wc3.heap.size) (d := 30) hst (Nat.le_refl _) rfl rfl (two_first (by decide)) (by intro a' w'; go_simp; first | done | rfl | exact ⟨rfl, rfl⟩) ⟨_, 0, rfl⟩ ?_ ?_; (focus (intro a' w' _ hcl; go_simp; exact new_phi hcl.1)); (intro v hv; obtain ⟨gv, rfl⟩ := hv; go_simp; refine hK _ ?_; clear hK K)) | (apply Loose.walk_step; intro K hK; refine LooseP.turn_allocP (φ := phiB wc3.heap.size) (d := 6) (ob := .cells #[.int .i64 0, .int .i64 0, .slice none 0 0] 33) hst (Nat.le_refl _) rfl rfl (two_second (by decide)) (by intro w'; go_simp; first | done | rfl | exact ⟨rfl, rfl⟩) (fun w' hw' => ⟨_, rfl, hw', new_block _ _⟩) ?_; (intro Sb hSb; go_simp; refine hK _ ?_; clear hK K)))
  refine Loose.walk_nil ?_
  intro w3 hcls3
  have hb3 := hcls3.1
  obtain ⟨g3, hg3, ho3⟩ := hcls3.at (v := bV W H (some ⟨gv, 0, none⟩) 0 0) (List.mem_cons_self ..) rfl (by simp [undef])
  obtain rfl : gv = g3 := by simpa using hg3
  obtain ⟨S3, hS3, _, hq3⟩ := hcls3.at (v := .pointer (some ⟨Sb, 0, none⟩)) (List.mem_cons_of_mem _ (List.mem_singleton.2 rfl)) rfl (by simp [undef])
  obtain rfl : Sb = S3 := by simpa using hS3
  clear hcls3 hst hg3 hS3
  have c30 := (cells_of (i := 0) hq3).trans (show _ = some (.int .i64 0) from rfl)
  have c31 := (cells_of (i := 1) hq3).trans (show _ = some (.int .i64 0) from rfl)
  have c32 := (cells_of (i := 2) hq3).trans (show _ = some (.slice none 0 0) from rfl)
  have f30 := free_of hq3 0
  have f31 := free_of hq3 1
  have f32 := free_of hq3 2
  have lS3 := block_lt hq3
  have HQ3 := Lib.hid hq3
  have HO3 := Lib.hid ho3
  have HB3 := Lib.hid hb3
  clear ho3 hb3 e20 e21 e22 hq3
  obtain ⟨i0, hi, hz0, hz1, hz2⟩ := info_parts Nums.A_info32
  have HS0 := Lib.hid (show ((((w3.setCell ⟨Sb, 0, none⟩ (.int .i64 W)).setCell ⟨Sb, 1, none⟩ (.int .i64 H)).setCell ⟨Sb, 2, none⟩ (.slice (some ⟨gv, 0, none⟩) 0 0)).heap[Sb]? = some (.cells #[.int .i64 W, .int .i64 H, .slice (some ⟨gv, 0, none⟩) 0 0] 33)) from by simpa using setCell_block (setCell_block (setCell_block HQ3.out 0 (.int .i64 W)) 1 (.int .i64 H)) 2 (.slice (some ⟨gv, 0, none⟩) 0 0))
  have HO0 := Lib.hid (own_set (i := 2) (u := .slice (some ⟨gv, 0, none⟩) 0 0) (own_set (i := 1) (u := .int .i64 H) (own_set (i := 0) (u := .int .i64 W) HO3.out HQ3.out (by decide)) (setCell_block HQ3.out 0 _) (by decide)) (setCell_block (setCell_block HQ3.out 0 _) 1 _) (by decide))
  have HB0 := Lib.hid (show Below wc3.heap.size wc3 (((w3.setCell ⟨Sb, 0, none⟩ (.int .i64 W)).setCell ⟨Sb, 1, none⟩ (.int .i64 H)).setCell ⟨Sb, 2, none⟩ (.slice (some ⟨gv, 0, none⟩) 0 0)) from Below.setCell (Below.setCell (Below.setCell HB3.out hSb (p := ⟨Sb, 0, none⟩) _) hSb (p := ⟨Sb, 1, none⟩) _) hSb (p := ⟨Sb, 2, none⟩) _)
  have hz3 := HB3.out.size
  go_wp2
  go_loopw [7, 51] (fun i s wr => ∃ (k : Nat) (v : Value) (xs : List Value), (∀ b, s = .slice (some ⟨b, 0, none⟩) 1 1 → b < wr.heap.size) ∧ k ≤ n ∧ i = .int .i64 k ∧ wr.heap[Sb]? = some (.cells #[.int .i64 W, .int .i64 H, v] 33) ∧ wr.ownsRow wc3.heap.size 22 1 v k xs ∧ FPts k (fun k => op2 .sub .f32 (c k) m) xs ∧ Below wc3.heap.size wc3 wr)
    (fun i _ _ => n - (intOf i).toNat)
  case atStart => exact ⟨0, _, [], by intro b hb; simp [undef] at hb, Nat.zero_le _, rfl, HS0.out, HO0.out, FPts.nil _, HB0.out⟩
  case round =>
    obtain ⟨k, v, xs, hsl, hk, rfl, hblk, hown, hpts, hbel⟩ := hrel
    have HSL := Lib.hid hsl
    have HBK := Lib.hid hblk
    have HO := Lib.hid hown
    have HP := Lib.hid hpts
    have HB := Lib.hid hbel
    have hSl := block_lt hblk
    have s0 := (cells_of (i := 0) hblk).trans (show _ = some (.int .i64 W) from rfl)
    have s1 := (cells_of (i := 1) hblk).trans (show _ = some (.int .i64 H) from rfl)
    have s2 := (cells_of (i := 2) hblk).trans (show _ = some v from rfl)
    have fS := free_of hblk 2
    have hbs := hbel.size
    have q2 : wr.heap[G]? = some (.cells #[.int .i64 W, .int .i64 H, .slice a n cap] 33) := by rw [hbel.block _ (by omega)]; exact Q2.out
    have Q2 := Lib.hid q2
    have l2 := block_lt q2
    have e20 := (cells_of (i := 0) q2).trans (show _ = some (.int .i64 W) from rfl)
    have e21 := (cells_of (i := 1) q2).trans (show _ = some (.int .i64 H) from rfl)
    have e22 := (cells_of (i := 2) q2).trans (show _ = some (.slice a n cap) from rfl)
    clear q2
    clear hsl hblk hown hpts hbel
    by_cases hlt : k < n
    · clear s0 s1
      obtain ⟨h2, h3, b, off, h5, h6⟩ := H6.out
      obtain rfl := h5 (by omega)
      obtain ⟨x, hsrc, fx, hlb⟩ := at_y h6 hlt (HBW.out.trans (HB.out.mono (by omega)))
      clear h5 h6
      go_wp2_with fail
      refine LooseS.wp_region 12 51 (fun ob => ∃ r, ob = .cells #[.float .f32 r] 22 ∧ Fr .f32 r (op2 .sub .f32 (c k) m)) (by kernel_rfl) (by kernel_rfl) (by intro b hb; exact HSL.out b (by simpa using hb)) ?_
      apply Exists.intro
      simp only [List.take_succ_cons, List.take_zero, List.drop_succ_cons, List.drop_zero]
      repeat (first | (apply Loose.walk_step; intro K hK; apply LooseS.turn_value (hwant := rfl) (hd := rfl); (focus (intro w' hw'; obtain ⟨hc, hf⟩ := Fl.bcell hw'; go_simp; first | done | rfl | exact ⟨rfl, rfl⟩)); go_simp; refine hK _ ?_; clear hK K) | (apply Loose.walk_step; intro K hK; refine LooseS.turn_fl (Nat.le_refl _) rfl rfl rfl rfl rfl rfl (by assumption) (by assumption) ?_; intro r hr; go_simp; refine hK _ ?_; clear hK K) | (apply Loose.walk_step; intro K hK; apply LooseS.turn_row (Nat.le_refl _) (hwant := rfl) (hdst := rfl) (hφ := ⟨_, rfl, by assumption⟩); (focus (intro w'; go_simp; first | done | rfl | exact ⟨rfl, rfl⟩)); intro b4 hb4B; go_simp; refine hK _ ?_; clear hK K))
      refine Loose.walk_nil ?_
      intro w4 hcls4
      obtain ⟨hb4, hrow4⟩ := hcls4
      obtain ⟨ob4, hob4, q, rfl, fq⟩ := hrow4 _ hb4B rfl
      have hz4 := hb4.size
      have hS4 : w4.heap[Sb]? = some (.cells #[.int .i64 W, .int .i64 H, v] 33) := by rw [hb4.block _ hSl]; exact HBK.out
      have HS4 := Lib.hid hS4
      have HO4 := Lib.hid (own_below HO.out hb4)
      have HB4 := Lib.hid (HB.out.trans (hb4.mono HB.out.size))
      have HOB4 := Lib.hid hob4
      have hb4l := block_lt hob4
      have l4 := block_lt hS4
      clear hS4 hb4 hrow4 hob4 e20 e21 e22 s2 fS
      go_wp2_with (first
        | (
          at_builtin
          refine wpList_append_own _ rfl (.tmp 41) (.tmp 51) 29 rfl wc3.heap.size 22 i0 (.float .f32 0) 1 4 Try.underlying29 hi hz0 hz1 hz2 rfl (by decide) v k xs rfl HO4.out ⟨b4, 0, none⟩ 1 1 [.float .f32 q] rfl rfl (row_cell HOB4.out) (by intro u hu; rw [List.mem_singleton.1 hu]; rfl) (by unfold maxLen; omega) (by omega) (by omega) ?_
          intro v5 w5 hown5 hgrow5 hnil5
          obtain ⟨g5, cap5, rfl⟩ := Joins.ownsRow_form hown5 (by omega)
          have hz45 := hgrow5.size
          obtain ⟨hS5, hb5⟩ := appended HS4.out HO4.out HB4.out (by omega) hgrow5 (by decide)
          have d50 := (cells_of (i := 2) hS5).trans (show _ = some v from rfl)
          have f50 := free_of hS5 2
          have l5 := block_lt hS5
          have HS5 := Lib.hid hS5
          have HO5 := Lib.hid hown5
          have HB5 := Lib.hid hb5
          clear hS5 hown5 hgrow5 hnil5 hb5
          skip))
      go_roundw
      case rel => exact ⟨k + 1, _, _, by intro b hb; simp at hb; subst hb; simp; omega, by omega, by go_num, setCell_block HS5.out 2 _, own_set HO5.out HS5.out (by decide), HP.out.next fq, Below.setCell HB5.out (by omega) (p := ⟨Sb, 2, none⟩) _⟩
      case measure => simp [intOf]; omega
    · obtain rfl : n = k := by omega
      obtain ⟨av, capv, rfl, hio⟩ := isO_of HO.out HP.out (by omega)
      have HIO := Lib.hid hio
      clear hio
      have q4 : wr.heap[w.heap.size]? = some (.cells #[.int .i64 0, .int .i64 0, .slice none 0 0] 33) := by rw [HB.out.block _ (by omega)]; exact Q4.out
      have Q4r := Lib.hid q4
      have l4 := block_lt q4
      clear q4
      go_wp2_with fail
      refine (HG.out _ _ _ HIO.out.y).mono ?_
      rintro e w9 ⟨rfl, hb9⟩
      have hz9 := hb9.size
      have hq9 := keep_block hb9 Q4r.out
      have c90 := (cells_of (i := 0) hq9).trans (show _ = some (.int .i64 0) from rfl)
      have c91 := (cells_of (i := 1) hq9).trans (show _ = some (.int .i64 0) from rfl)
      have c92 := (cells_of (i := 2) hq9).trans (show _ = some (.slice none 0 0) from rfl)
      have f90 := free_of hq9 0
      have f91 := free_of hq9 1
      have f92 := free_of hq9 2
      have HIO9 := Lib.hid (HIO.out.later hb9)
      have HB9 := Lib.hid ((HBW.out.trans (HB.out.mono (by omega))).trans (hb9.mono (by omega)))
      clear hq9 hb9 e20 e21 e22 s0 s1 s2
      cases R
      all_goals
        go_wp2
        have hR := HR.out
        simp only [Bool.false_eq_true, if_false, if_true] at hR
        obtain ⟨rfl, rfl, rfl⟩ := hR
      · refine bodyPost_ret ?ohr rfl ⟨none, 0, rfl, isO_nil _ _ _ _, ?obel⟩
        case ohr => simp [results, Try.results137, go_sem, *]
        case obel => exact Below.setCell (Below.setCell (Below.setCell HB9.out (by simp) (p := ⟨w.heap.size, 0, none⟩) _) (by simp) (p := ⟨w.heap.size, 1, none⟩) _) (by simp) (p := ⟨w.heap.size, 2, none⟩) _
      · refine bodyPost_ret ?ohr rfl ⟨av, capv, rfl, ?oio, ?obel⟩
        case ohr => simp [results, Try.results137, go_sem, *]
        case oio =>
          refine (HIO9.out.keep fun g hg _ _ => ?_).wider (by omega) (by simp; omega)
          rw [set_keep _ _ _ (by omega), set_keep _ _ _ (by omega), set_keep _ _ _ (by omega)]
        case obel => exact Below.setCell (Below.setCell (Below.setCell HB9.out (by simp) (p := ⟨w.heap.size, 0, none⟩) _) (by simp) (p := ⟨w.heap.size, 1, none⟩) _) (by simp) (p := ⟨w.heap.size, 2, none⟩) _

theorem impl_TotalE (W H : Int) (a : Option Addr) (n cap : Nat) (c : Nat → Option Nat) (w : World) (h : IsY w a n cap c) (A : Bool) (hA : okB W H n c = A) (tot : Option Nat) (ht : Nums.accC c n = tot) : Calls Try.prog 140 #[bV W H a n cap] w fun e w' => ∃ r, e = .returned (.tuple #[.float .f32 r, .bool (A && finC tot)]) ∧ ((A && finC tot) = true → Fr .f32 r tot) ∧ Below w.heap.size w w' := by
  refine (impl_TotalB W H a n cap c w h A hA).mono ?_
  rintro e w' ⟨r, he, hr, hb⟩
  rw [ht] at he hr
  cases A
  · exact ⟨r, he, by simp, hb⟩
  · refine ⟨r, by simpa using he, fun hf => ?_, hb⟩
    simp only [Bool.true_and] at hf
    simpa [hf] using hr

set_option maxHeartbeats 1600000 in
theorem impl_even1 (W H : Int) (a : Option Addr) (n cap : Nat) (c : Nat → Option Nat) (x y p0 v : Nat) (d : Option Nat) (w : World) (h : IsY w a n cap c) (hW : sideB W = true) (hH : sideB H = true) (hn : (n : Int) = W * H) (hx : (x : Int) < W) (hy : (y : Int) < H) (fv : Fr .f32 v d) (e0 : w.cell? ⟨p0, 0, none⟩ = some (.float .f32 v)) :
    Calls Try.prog 141 #[bV W H a n cap, .int .i64 (x : Int), .int .i64 (y : Int), .pointer (some ⟨p0, 0, none⟩)] w (RetF .f32 (op2 .sub .f32 (c ((W * (y : Int)).toNat + x)) d) w) := by
  have HI := Lib.hid (idx_cell hx hy)
  have sW := side_of hW
  have sH := side_of hH
  have HX := Lib.hid h
  have hp := block_lt_of_cell e0
  clear h
  go_enter Try.func141, Try.ntmps141
  go_wp2
  refine Loose.wp_region_below 6 [] (by kernel_rfl) (by kernel_rfl) (by simp [undef]) ?_
  apply Exists.intro
  simp only [List.take_succ_cons, List.take_zero, List.drop_succ_cons, List.drop_zero]
  repeat (first | (apply Loose.walk_step; intro K hK; apply Loose.turn_value (hwant := rfl) (hd := rfl); (focus (intro w' hw'; obtain ⟨hc, hf⟩ := Fl.bcell hw'; go_simp; first | done | rfl | exact ⟨rfl, rfl⟩)); go_simp; refine hK _ ?_; clear hK K) | (apply Loose.walk_step; intro K hK; apply Loose.turn_callFB (Nat.le_refl _) (hwant := rfl) (hd := rfl); (focus (intro w'; go_simp; first | done | rfl | exact ⟨rfl, rfl⟩)); (focus (intro w' hw'; go_at_call 92; exact impl_at W H a n cap c w' ((HX.out.alloc _).later hw') hW hH hn (x : Int) (y : Int) (by omega) (by omega))); intro r hr; go_simp; refine hK _ ?_; clear hK K) | (apply Loose.walk_step; intro K hK; refine Loose.turn_fl (Nat.le_refl _) rfl rfl rfl rfl rfl rfl (by assumption) (by assumption) ?_; intro r hr; go_simp; refine hK _ ?_; clear hK K))
  refine Loose.walk_nil ?_
  intro w1 hcls1
  obtain ⟨hb1, _⟩ := hcls1
  obtain ⟨hc1, hf1⟩ := Fl.bcell hb1
  have hz1 := hb1.size
  try simp only [World.size_alloc, World.size_setCell, World.heap_drewN, World.size_drew] at hz1
  go_wp2
  go_ret
  exact ⟨_, rfl, by rw [← HI.out]; assumption, by (repeat' first | exact Below.refl _ _ | (refine Below.setCell ?_ (by first | omega | (simp; omega) | simp) _) | (refine below_drewN ?_ _) | (refine Below.alloc ?_ (by first | omega | (simp; omega) | simp) _) | (refine Below.trans ?_ (Below.mono (by assumption) (by first | omega | (simp; omega) | simp))))⟩

theorem enter_even1 (args : Array Value) (w : World) : (callFunc 141 args).run Try.prog w = .ok (.enter 141 args) w := by go_simp

set_option maxHeartbeats 3200000 in
theorem impl_EvenB (W H : Int) (a : Option Addr) (n cap : Nat) (c : Nat → Option Nat) (w : World) (h : IsY w a n cap c) (A : Bool) (hA : okB W H n c = A) (tot m : Option Nat) (ht : Nums.accC c n = tot) (hm : op2 .quo .f32 tot (Mks.msC (n : Int)) = m) : Calls Try.prog 104 #[bV W H a n cap] w (RetG (A && (finC tot && allF (fun k => op2 .sub .f32 (c k) m) n)) W H n (fun k => op2 .sub .f32 (c k) m) w) := by
  have HV := Lib.hid (fun w' (hb : Below w.heap.size w w') => impl_TotalE W H a n cap c w' (h.later hb) A hA tot ht)
  cases hB : (A && finC tot)
  · rw [hB] at HV
    have e : (A && (finC tot && allF (fun k => op2 .sub .f32 (c k) m) n)) = false := by rw [← Bool.and_assoc, hB]; rfl
    rw [e]
    clear hA h e hB
    go_enter Try.func104, Try.ntmps104
    go_wp2_with fail
    refine (HV.out _ (by (repeat' first | exact Below.refl _ _ | (refine Below.setCell ?_ (by first | omega | (simp; omega) | simp) _) | (refine below_drewN ?_ _) | (refine Below.alloc ?_ (by first | omega | (simp; omega) | simp) _) | (refine Below.trans ?_ (Below.mono (by assumption) (by first | omega | (simp; omega) | simp)))))).mono ?_
    rintro e w1 ⟨r, rfl, _, hb1⟩
    have hz1 := hb1.size
    try simp only [World.size_alloc, World.size_setCell, World.heap_drewN, World.size_drew] at hz1
    obtain ⟨hc1, hf1⟩ := Fl.bcell hb1
    try simp only [World.heap_drewN, World.cell?_drewN, World.frozen?_drewN] at hc1 hf1
    have g1_0 : w.heap.size < w1.heap.size := by omega
    have g1_1 : w.heap.size + 1 < w1.heap.size := by omega
    go_wp2
    refine bodyPost_ret ?ohr rfl (retG_no ?obel)
    case ohr => simp [results, Try.results104, go_sem, *]
    case obel => (repeat' first | exact Below.refl _ _ | (refine Below.setCell ?_ (by first | omega | (simp; omega) | simp) _) | (refine below_drewN ?_ _) | (refine Below.alloc ?_ (by first | omega | (simp; omega) | simp) _) | (refine Below.trans ?_ (Below.mono (by assumption) (by first | omega | (simp; omega) | simp))))
  rw [hB] at HV
  have e : (A && (finC tot && allF (fun k => op2 .sub .f32 (c k) m) n)) = allF (fun k => op2 .sub .f32 (c k) m) n := by rw [← Bool.and_assoc, hB]; rfl
  rw [e]
  rw [Bool.and_eq_true] at hB
  obtain ⟨rfl, hf⟩ := hB
  have hs := okB_of hA
  have hn9 := okB_n hA
  have hNn : (W * H).toNat = n := by omega
  obtain ⟨R, hR0⟩ : ∃ R, allF (fun k => op2 .sub .f32 (c k) m) n = R := ⟨_, rfl⟩
  have HE := Lib.hid (fun (w' : World) (hb : Below w.heap.size w w') (p0 v : Nat) (fv : Fr .f32 v m) (e0 : w'.cell? ⟨p0, 0, none⟩ = some (.float .f32 v)) => each_cell W H a n cap 141 #[.pointer (some ⟨p0, 0, none⟩)] (fun k => op2 .sub .f32 (c k) m) w' enter_even1 (fun x1 y1 w'' hx hy _ _ hb' => impl_even1 W H a n cap c x1 y1 p0 v m w'' ((h.later hb).later hb') hs.1 hs.2.1 hs.2.2.1 hx hy fv ((hb'.cell (block_lt_of_cell e0)).trans e0)) R (by rw [hs.1, hs.2.1, hNn]; exact hR0))
  rw [hNn] at HE
  rw [hR0]
  unfold RetG
  generalize (if R then W else 0) = W' at *
  generalize (if R then H else 0) = H' at *
  generalize (if R then n else 0) = N' at *
  have HM := Lib.hid hm
  have fn := (Mks.ms_facts (n : Int)).2
  generalize Mks.msC (n : Int) = ms at *
  have hmi : (n : Int) ≤ 9223372036854775807 := by omega
  clear hR0 hs hNn h hA e hf ht hm
  go_enter Try.func104, Try.ntmps104
  go_wp2_with fail
  refine (HV.out _ (by (repeat' first | exact Below.refl _ _ | (refine Below.setCell ?_ (by first | omega | (simp; omega) | simp) _) | (refine below_drewN ?_ _) | (refine Below.alloc ?_ (by first | omega | (simp; omega) | simp) _) | (refine Below.trans ?_ (Below.mono (by assumption) (by first | omega | (simp; omega) | simp)))))).mono ?_
  rintro e w1 ⟨r, rfl, hr, hb1⟩
  have fr := hr (by first | trivial | rfl)
  clear hr
  have hz1 := hb1.size
  try simp only [World.size_alloc, World.size_setCell, World.heap_drewN, World.size_drew] at hz1
  obtain ⟨hc1, hf1⟩ := Fl.bcell hb1
  try simp only [World.heap_drewN, World.cell?_drewN, World.frozen?_drewN] at hc1 hf1
  have g1_0 : w.heap.size < w1.heap.size := by omega
  have g1_1 : w.heap.size + 1 < w1.heap.size := by omega
  go_wp2_with (refine Fl.wpList_fl rfl rfl rfl rfl rfl (by assumption) (by assumption) ?_; intro rm nm hrm; obtain ⟨wq, hwq⟩ : ∃ x, x = w1.drewN nm := ⟨_, rfl⟩; rw [← hwq]; have hcq : ∀ b o, wq.cell? ⟨b, o, none⟩ = w1.cell? ⟨b, o, none⟩ := (by intro b o; rw [hwq]; rfl); have hfq : ∀ b o, wq.frozen? ⟨b, o, none⟩ = w1.frozen? ⟨b, o, none⟩ := (by intro b o; rw [hwq]; rfl); have hzq : w1.heap.size ≤ wq.heap.size := (by rw [hwq]; exact Nat.le_refl _); have gq0 : w.heap.size < wq.heap.size := (by omega); have gq1 : w.heap.size + 1 < wq.heap.size := (by omega); have hbq : Below w.heap.size w wq := (by rw [hwq]; (repeat' first | exact Below.refl _ _ | (refine Below.setCell ?_ (by first | omega | (simp; omega) | simp) _) | (refine below_drewN ?_ _) | (refine Below.alloc ?_ (by first | omega | (simp; omega) | simp) _) | (refine Below.trans ?_ (Below.mono (by assumption) (by first | omega | (simp; omega) | simp))))); clear hwq)
  rw [HM.out] at hrm
  refine (HE.out _ (by exact hbq.alloc (by omega) _) _ _ hrm (by go_simp)).mono ?_
  rintro e w2 ⟨av, capv, rfl, ho, hb2⟩
  have hz2 := hb2.size
  try simp only [World.size_alloc, World.size_setCell, World.heap_drewN, World.size_drew] at hz2
  obtain ⟨hc2, hf2⟩ := Fl.bcell hb2
  try simp only [World.heap_drewN, World.cell?_drewN, World.frozen?_drewN] at hc2 hf2
  have g2_0 : w.heap.size < w2.heap.size := by omega
  have g2_1 : w.heap.size + 1 < w2.heap.size := by omega
  have HO := Lib.hid ho
  clear ho
  go_wp2
  refine bodyPost_ret ?ohr rfl ⟨av, capv, rfl, ?oio, ?obel⟩
  case ohr => simp [results, Try.results104, go_sem, *]
  case oio =>
    refine (HO.out.keep fun g hg _ _ => ?_).wider (by simp; omega) (by simp)
    simp at hg
    rw [set_keep _ _ _ (by omega), set_keep _ _ _ (by omega), set_keep _ _ _ (by omega)]
  case obel => (repeat' first | exact Below.refl _ _ | (refine Below.setCell ?_ (by first | omega | (simp; omega) | simp) _) | (refine below_drewN ?_ _) | (refine Below.alloc ?_ (by first | omega | (simp; omega) | simp) _) | (refine Below.trans ?_ (Below.mono (by assumption) (by first | omega | (simp; omega) | simp))))

end Ba
end Go.Proofs.Ytjkkefbfhapblab
