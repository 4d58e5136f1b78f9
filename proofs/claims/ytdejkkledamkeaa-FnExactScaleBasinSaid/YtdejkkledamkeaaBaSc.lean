/- Products with a number. -/
import Derived.Test.YtdejkkledamkeaaBaR
namespace Go.Proofs.Ytdejkkledamkeaa
set_option linter.unusedSimpArgs false
set_option linter.unusedVariables false
open Go.RowKit
set_option maxRecDepth 20000
namespace Ba
open Fl Rate

set_option maxHeartbeats 6400000 in
theorem spec_ScaleB (W H : Int) (a : Option Addr) (n cap : Nat) (c : Nat → Option Nat) (w : World) (h : IsY w a n cap c) (A : Bool) (hA : okB W H n c = A) (y : Nat) (d : Option Nat) (fy : Fr .f32 y d) : Calls Try.prog 39 #[bV W H a n cap, .float .f32 y] w (RetG ((A && finC d) && allF (fun k => op2 .mul .f32 (c k) d) n) W H n (fun k => op2 .mul .f32 (c k) d) w) := by
  have HV := Lib.hid (fun G w' (hb : Below w.heap.size w w') e0 e1 e2 => spec_is G W H a n cap c w' e0 e1 e2 (h.later hb) A hA)
  have HF := Lib.hid (fun w => spec_fin y d w fy)
  cases A
  · clear hA h
    show Calls _ _ _ w (RetG false W H n _ w)
    go_enter Try.func39, Try.ntmps39
    go_wp2_with fail
    refine (HV.out _ _ (by (repeat' first | exact Below.refl _ _ | (refine Below.setCell ?_ (by first | omega | (simp; omega) | simp) _) | (refine below_drewN ?_ _) | (refine Below.alloc ?_ (by first | omega | (simp; omega) | simp) _) | (refine Below.trans ?_ (Below.mono (by assumption) (by first | omega | (simp; omega) | simp))))) (by simp) (by simp) (by simp)).mono ?_
    rintro e w1 ⟨rfl, hb1⟩
    have hz1 := hb1.size
    try simp only [World.size_alloc, World.size_setCell, World.heap_drewN, World.size_drew] at hz1
    obtain ⟨hc1, hf1⟩ := Fl.bcell hb1
    try simp only [World.heap_drewN, World.cell?_drewN, World.frozen?_drewN] at hc1 hf1
    have g1_0 : w.heap.size < w1.heap.size := by omega
    have g1' : w.heap.size + 1 < w1.heap.size := by omega
    go_wp2
    refine bodyPost_ret ?ohr rfl (retG_no ?obel)
    case ohr => simp [results, Try.results39, go_sem, *]
    case obel => (repeat' first | exact Below.refl _ _ | (refine Below.setCell ?_ (by first | omega | (simp; omega) | simp) _) | (refine below_drewN ?_ _) | (refine Below.alloc ?_ (by first | omega | (simp; omega) | simp) _) | (refine Below.trans ?_ (Below.mono (by assumption) (by first | omega | (simp; omega) | simp))))
  cases hf : finC d
  · rw [hf] at HF
    clear hA h
    show Calls _ _ _ w (RetG false W H n _ w)
    go_enter Try.func39, Try.ntmps39
    go_wp2_with fail
    refine (HV.out _ _ (by (repeat' first | exact Below.refl _ _ | (refine Below.setCell ?_ (by first | omega | (simp; omega) | simp) _) | (refine below_drewN ?_ _) | (refine Below.alloc ?_ (by first | omega | (simp; omega) | simp) _) | (refine Below.trans ?_ (Below.mono (by assumption) (by first | omega | (simp; omega) | simp))))) (by simp) (by simp) (by simp)).mono ?_
    rintro e w1 ⟨rfl, hb1⟩
    have hz1 := hb1.size
    try simp only [World.size_alloc, World.size_setCell, World.heap_drewN, World.size_drew] at hz1
    obtain ⟨hc1, hf1⟩ := Fl.bcell hb1
    try simp only [World.heap_drewN, World.cell?_drewN, World.frozen?_drewN] at hc1 hf1
    have g1_0 : w.heap.size < w1.heap.size := by omega
    have g1' : w.heap.size + 1 < w1.heap.size := by omega
    go_wp2_with fail
    refine (HF.out _).mono ?_
    rintro e w2 ⟨rfl, hb2⟩
    have hz2 := hb2.size
    try simp only [World.size_alloc, World.size_setCell, World.heap_drewN, World.size_drew] at hz2
    obtain ⟨hc2, hf2⟩ := Fl.bcell hb2
    try simp only [World.heap_drewN, World.cell?_drewN, World.frozen?_drewN] at hc2 hf2
    have g2_0 : w.heap.size < w2.heap.size := by omega
    have g2' : w.heap.size + 1 < w2.heap.size := by omega
    go_wp2
    refine bodyPost_ret ?ohr rfl (retG_no ?obel)
    case ohr => simp [results, Try.results39, go_sem, *]
    case obel => (repeat' first | exact Below.refl _ _ | (refine Below.setCell ?_ (by first | omega | (simp; omega) | simp) _) | (refine below_drewN ?_ _) | (refine Below.alloc ?_ (by first | omega | (simp; omega) | simp) _) | (refine Below.trans ?_ (Below.mono (by assumption) (by first | omega | (simp; omega) | simp))))
  have hs := okB_of hA
  have hn9 := okB_n hA
  rw [hf] at HF
  clear hf hA
  show Calls _ _ _ w (RetG (allF (fun k => op2 .mul .f32 (c k) d) n) W H n _ w)
  obtain ⟨R, hR0⟩ : ∃ R, allF (fun k => op2 .mul .f32 (c k) d) n = R := ⟨_, rfl⟩
  have hok : okB W H n (fun k => op2 .mul .f32 (c k) d) = R := by
    unfold okB
    rw [hs.1, hs.2.1, hR0, decide_eq_true hs.2.2.1]; rfl
  have HG := Lib.hid (fun a cap w (h : IsY w a n cap (fun k => op2 .mul .f32 (c k) d)) => spec_give W H a n cap _ w h R hok)
  rw [hR0]
  unfold RetG
  obtain ⟨W', hW'⟩ : ∃ W' : Int, (if R then W else 0) = W' := ⟨_, rfl⟩
  obtain ⟨H', hH'⟩ : ∃ H' : Int, (if R then H else 0) = H' := ⟨_, rfl⟩
  obtain ⟨N', hN'⟩ : ∃ N' : Nat, (if R then n else 0) = N' := ⟨_, rfl⟩
  rw [hW', hH', hN']
  have HR := Lib.hid (And.intro hW' (And.intro hH' hN'))
  clear hR0 hok hW' hH' hN'
  have H6 := Lib.hid h
  clear h hs
  go_enter Try.func39, Try.ntmps39
  go_wp2_with fail
  refine (HV.out _ _ (by (repeat' first | exact Below.refl _ _ | (refine Below.setCell ?_ (by first | omega | (simp; omega) | simp) _) | (refine below_drewN ?_ _) | (refine Below.alloc ?_ (by first | omega | (simp; omega) | simp) _) | (refine Below.trans ?_ (Below.mono (by assumption) (by first | omega | (simp; omega) | simp))))) (by simp) (by simp) (by simp)).mono ?_
  rintro e w1 ⟨rfl, hb1⟩
  have hz1 := hb1.size
  simp only [World.size_alloc] at hz1
  have q2 := keep_block hb1 (alloc_block (o' := .cells #[.int .i64 0, .int .i64 0, .slice none 0 0] 27) (new_block w (.cells #[.int .i64 W, .int .i64 H, .slice a n cap] 27)))
  have q4 : w1.heap[w.heap.size + 1]? = some (.cells #[.int .i64 0, .int .i64 0, .slice none 0 0] 27) := keep_block hb1 (by simpa using new_block (w.alloc (.cells #[.int .i64 W, .int .i64 H, .slice a n cap] 27)) (.cells #[.int .i64 0, .int .i64 0, .slice none 0 0] 27))
  have HBW1 := Lib.hid (show Below w.heap.size w w1 by (repeat' first | exact Below.refl _ _ | (refine Below.setCell ?_ (by first | omega | (simp; omega) | simp) _) | (refine below_drewN ?_ _) | (refine Below.alloc ?_ (by first | omega | (simp; omega) | simp) _) | (refine Below.trans ?_ (Below.mono (by assumption) (by first | omega | (simp; omega) | simp)))))
  have Q2 := Lib.hid q2
  have l2 := block_lt q2
  have e20 := (cells_of (i := 0) q2).trans (show _ = some (.int .i64 W) from rfl)
  have e21 := (cells_of (i := 1) q2).trans (show _ = some (.int .i64 H) from rfl)
  have e22 := (cells_of (i := 2) q2).trans (show _ = some (.slice a n cap) from rfl)
  clear q2
  have Q4 := Lib.hid q4
  have l4 := block_lt q4
  clear q4
  clear hb1
  go_wp2_with fail
  refine (HF.out _).mono ?_
  rintro e w2 ⟨rfl, hb2⟩
  have hz2 := hb2.size
  clear e20 e21 e22
  have q2 := keep_block hb2 Q2.out
  have q4 := keep_block hb2 Q4.out
  have HBW := Lib.hid (HBW1.out.trans (hb2.mono HBW1.out.size))
  clear Q2 Q4 l2 l4
  have Q2 := Lib.hid q2
  have l2 := block_lt q2
  have e20 := (cells_of (i := 0) q2).trans (show _ = some (.int .i64 W) from rfl)
  have e21 := (cells_of (i := 1) q2).trans (show _ = some (.int .i64 H) from rfl)
  have e22 := (cells_of (i := 2) q2).trans (show _ = some (.slice a n cap) from rfl)
  clear q2
  have Q4 := Lib.hid q4
  have l4 := block_lt q4
  clear q4
  clear hb2
  go_wp2_with fail
  refine (spec_new _ _ _).mono ?_
  rintro e w3 ⟨g3, rfl, ho3, hb3⟩
  have HO3 := Lib.hid ho3
  have HB3 := Lib.hid hb3
  clear ho3 hb3 e20 e21 e22
  obtain ⟨i0, hi, hz0, hz1, hz2⟩ := info_parts Nums.A_info32
  have HS0 := Lib.hid (new_block w3 (.cells #[.int .i64 W, .int .i64 H, .slice (some ⟨g3, 0, none⟩) 0 0] 27))
  have HO0 := Lib.hid (World.ownsRow.alloc HO3.out (.cells #[.int .i64 W, .int .i64 H, .slice (some ⟨g3, 0, none⟩) 0 0] 27))
  have HB0 := Lib.hid (show Below w2.heap.size w2 (w3.alloc (.cells #[.int .i64 W, .int .i64 H, .slice (some ⟨g3, 0, none⟩) 0 0] 27)) from HB3.out.alloc HB3.out.size _)
  have hz3 := HB3.out.size
  go_wp2
  go_loopw [7, 37] (fun i s wr => ∃ (k : Nat) (v : Value) (xs : List Value), (∀ b, s = .slice (some ⟨b, 0, none⟩) 1 1 → b < wr.heap.size) ∧ k ≤ n ∧ i = .int .i64 k ∧ wr.heap[w3.heap.size]? = some (.cells #[.int .i64 W, .int .i64 H, v] 27) ∧ wr.ownsRow w2.heap.size 32 1 v k xs ∧ FPts k (fun k => op2 .mul .f32 (c k) d) xs ∧ Below w2.heap.size w2 wr)
    (fun i _ _ => n - (intOf i).toNat)
  case atStart => exact ⟨0, _, [], by intro b hb; simp [undef] at hb, Nat.zero_le _, rfl, HS0.out, HO0.out, FPts.nil _, HB0.out⟩
  case round =>
    obtain ⟨k, v, xs, hsl, hk, rfl, hblk, hown, hpts, hbel⟩ := hrel
    have HSL := Lib.hid hsl
    have HBK := Lib.hid hblk
    have HO := Lib.hid hown
    have HP := Lib.hid hpts
    have HB := Lib.hid hbel
    have hSl := block_lt hblk
    have s0 := (cells_of (i := 0) hblk).trans (show _ = some (.int .i64 W) from rfl)
    have s1 := (cells_of (i := 1) hblk).trans (show _ = some (.int .i64 H) from rfl)
    have s2 := (cells_of (i := 2) hblk).trans (show _ = some v from rfl)
    have fS := free_of hblk 2
    have hbs := hbel.size
    have q2 : wr.heap[w.heap.size]? = some (.cells #[.int .i64 W, .int .i64 H, .slice a n cap] 27) := by rw [hbel.block _ (by omega)]; exact Q2.out
    have Q2 := Lib.hid q2
    have l2 := block_lt q2
    have e20 := (cells_of (i := 0) q2).trans (show _ = some (.int .i64 W) from rfl)
    have e21 := (cells_of (i := 1) q2).trans (show _ = some (.int .i64 H) from rfl)
    have e22 := (cells_of (i := 2) q2).trans (show _ = some (.slice a n cap) from rfl)
    clear q2
    clear hsl hblk hown hpts hbel
    by_cases hlt : k < n
    · clear s0 s1
      obtain ⟨h2, h3, b, off, h5, h6⟩ := H6.out
      obtain rfl := h5 (by omega)
      obtain ⟨x, hsrc, fx, hlb⟩ := at_y h6 hlt (HBW.out.trans (HB.out.mono (by omega)))
      have hmi : n ≤ 9223372036854775807 := by omega
      clear h5 h6
      go_wp2_with fail
      refine LooseS.wp_region 10 37 (fun ob => ∃ r, ob = .cells #[.float .f32 r] 32 ∧ Fr .f32 r (op2 .mul .f32 (c k) d)) (by kernel_rfl) (by kernel_rfl) (by intro b hb; exact HSL.out b (by simpa using hb)) ?_
      apply Exists.intro
      simp only [List.take_succ_cons, List.take_zero, List.drop_succ_cons, List.drop_zero]
      repeat (first | (apply Loose.walk_step; intro K hK; apply LooseS.turn_value (hwant := rfl) (hd := rfl); (focus (intro w' hw'; obtain ⟨hc, hf⟩ := Fl.bcell hw'; go_simp; first | done | rfl | exact ⟨rfl, rfl⟩)); go_simp; refine hK _ ?_; clear hK K) | (apply Loose.walk_step; intro K hK; refine LooseS.turn_fl (Nat.le_refl _) rfl rfl rfl rfl rfl rfl (by assumption) (by assumption) ?_; intro r hr; go_simp; refine hK _ ?_; clear hK K) | (apply Loose.walk_step; intro K hK; apply LooseS.turn_row (Nat.le_refl _) (hwant := rfl) (hdst := rfl) (hφ := ⟨_, rfl, by assumption⟩); (focus (intro w'; go_simp; first | done | rfl | exact ⟨rfl, rfl⟩)); intro b4 hb4B; go_simp; refine hK _ ?_; clear hK K))
      refine Loose.walk_nil ?_
      intro w4 hcls4
      obtain ⟨hb4, hrow4⟩ := hcls4
      obtain ⟨ob4, hob4, q, rfl, fq⟩ := hrow4 _ hb4B rfl
      have hz4 := hb4.size
      have hS4 : w4.heap[w3.heap.size]? = some (.cells #[.int .i64 W, .int .i64 H, v] 27) := by rw [hb4.block _ hSl]; exact HBK.out
      have HS4 := Lib.hid hS4
      have HO4 := Lib.hid (own_below HO.out hb4)
      have HB4 := Lib.hid (HB.out.trans (hb4.mono HB.out.size))
      have HOB4 := Lib.hid hob4
      have hb4l := block_lt hob4
      have l4 := block_lt hS4
      clear hS4 hb4 hrow4 hob4 e20 e21 e22 s2 fS
      go_wp2_with (first
        | (
          at_builtin
          refine wpList_append_own _ rfl (.tmp 29) (.tmp 37) 22 rfl w2.heap.size 32 i0 (.float .f32 0) 1 4 Try.underlying22 hi hz0 hz1 hz2 rfl (by decide) v k xs rfl HO4.out ⟨b4, 0, none⟩ 1 1 [.float .f32 q] rfl rfl (row_cell HOB4.out) (by intro u hu; rw [List.mem_singleton.1 hu]; rfl) (by unfold maxLen; omega) (by omega) (by omega) ?_
          intro v5 w5 hown5 hgrow5 hnil5
          obtain ⟨g5, cap5, rfl⟩ := Joins.ownsRow_form hown5 (by omega)
          have hz45 := hgrow5.size
          obtain ⟨hS5, hb5⟩ := appended HS4.out HO4.out HB4.out (by omega) hgrow5 (by decide)
          have d50 := (cells_of (i := 2) hS5).trans (show _ = some v from rfl)
          have f50 := free_of hS5 2
          have l5 := block_lt hS5
          have HS5 := Lib.hid hS5
          have HO5 := Lib.hid hown5
          have HB5 := Lib.hid hb5
          clear hS5 hown5 hgrow5 hnil5 hb5
          skip))
      go_roundw
      case rel => exact ⟨k + 1, _, _, by intro b hb; simp at hb; subst hb; simp; omega, by omega, by go_num, setCell_block HS5.out 2 _, own_set HO5.out HS5.out (by decide), HP.out.next fq, Below.setCell HB5.out (by omega) (p := ⟨w3.heap.size, 2, none⟩) _⟩
      case measure => simp [intOf]; omega
    · obtain rfl : n = k := by omega
      obtain ⟨av, capv, rfl, hio⟩ := isO_of HO.out HP.out (by omega)
      have HIO := Lib.hid hio
      clear hio
      have q4 : wr.heap[w.heap.size + 1]? = some (.cells #[.int .i64 0, .int .i64 0, .slice none 0 0] 27) := by rw [HB.out.block _ (by omega)]; exact Q4.out
      have Q4r := Lib.hid q4
      have l4 := block_lt q4
      clear q4
      go_wp2_with fail
      refine (HG.out _ _ _ HIO.out.y).mono ?_
      rintro e w9 ⟨rfl, hb9⟩
      have hz9 := hb9.size
      have hq9 := keep_block hb9 Q4r.out
      have c90 := (cells_of (i := 0) hq9).trans (show _ = some (.int .i64 0) from rfl)
      have c91 := (cells_of (i := 1) hq9).trans (show _ = some (.int .i64 0) from rfl)
      have c92 := (cells_of (i := 2) hq9).trans (show _ = some (.slice none 0 0) from rfl)
      have f90 := free_of hq9 0
      have f91 := free_of hq9 1
      have f92 := free_of hq9 2
      have HIO9 := Lib.hid (HIO.out.later hb9)
      have HB9 := Lib.hid ((HBW.out.trans (HB.out.mono (by omega))).trans (hb9.mono (by omega)))
      clear hq9 hb9 e20 e21 e22 s0 s1 s2
      cases R
      all_goals
        go_wp2
        have hR := HR.out
        simp only [Bool.false_eq_true, if_false, if_true] at hR
        obtain ⟨rfl, rfl, rfl⟩ := hR
      · refine bodyPost_ret ?ohr rfl ⟨none, 0, rfl, isO_nil _ _ _ _, ?obel⟩
        case ohr => simp [results, Try.results39, go_sem, *]
        case obel => exact Below.setCell (Below.setCell (Below.setCell HB9.out (by simp) (p := ⟨w.heap.size + 1, 0, none⟩) _) (by simp) (p := ⟨w.heap.size + 1, 1, none⟩) _) (by simp) (p := ⟨w.heap.size + 1, 2, none⟩) _
      · refine bodyPost_ret ?ohr rfl ⟨av, capv, rfl, ?oio, ?obel⟩
        case ohr => simp [results, Try.results39, go_sem, *]
        case oio =>
          refine (HIO9.out.keep fun g hg _ _ => ?_).wider (by omega) (by simp; omega)
          rw [set_keep _ _ _ (by omega), set_keep _ _ _ (by omega), set_keep _ _ _ (by omega)]
        case obel => exact Below.setCell (Below.setCell (Below.setCell HB9.out (by simp) (p := ⟨w.heap.size + 1, 0, none⟩) _) (by simp) (p := ⟨w.heap.size + 1, 1, none⟩) _) (by simp) (p := ⟨w.heap.size + 1, 2, none⟩) _

set_option maxHeartbeats 1600000 in
theorem impl_scale1 (W H : Int) (a : Option Addr) (n cap : Nat) (c : Nat → Option Nat) (x y p0 v : Nat) (d : Option Nat) (w : World) (h : IsY w a n cap c) (hW : sideB W = true) (hH : sideB H = true) (hn : (n : Int) = W * H) (hx : (x : Int) < W) (hy : (y : Int) < H) (fv : Fr .f32 v d) (e0 : w.cell? ⟨p0, 0, none⟩ = some (.float .f32 v)) :
    Calls Try.prog 81 #[bV W H a n cap, .int .i64 (x : Int), .int .i64 (y : Int), .pointer (some ⟨p0, 0, none⟩)] w (RetF .f32 (op2 .mul .f32 (c ((W * (y : Int)).toNat + x)) d) w) := by
  have HI := Lib.hid (idx_cell hx hy)
  have sW := side_of hW
  have sH := side_of hH
  have HX := Lib.hid h
  have hp := block_lt_of_cell e0
  clear h
  go_enter Try.func81, Try.ntmps81
  go_wp2
  refine Loose.wp_region_below 6 [] (by kernel_rfl) (by kernel_rfl) (by simp [undef]) ?_
  apply Exists.intro
  simp only [List.take_succ_cons, List.take_zero, List.drop_succ_cons, List.drop_zero]
  repeat (first | (apply Loose.walk_step; intro K hK; apply Loose.turn_value (hwant := rfl) (hd := rfl); (focus (intro w' hw'; obtain ⟨hc, hf⟩ := Fl.bcell hw'; go_simp; first | done | rfl | exact ⟨rfl, rfl⟩)); go_simp; refine hK _ ?_; clear hK K) | (apply Loose.walk_step; intro K hK; apply Loose.turn_callFB (Nat.le_refl _) (hwant := rfl) (hd := rfl); (focus (intro w'; go_simp; first | done | rfl | exact ⟨rfl, rfl⟩)); (focus (intro w' hw'; go_at_call 65; exact impl_at W H a n cap c w' ((HX.out.alloc _).later hw') hW hH hn (x : Int) (y : Int) (by omega) (by omega))); intro r hr; go_simp; refine hK _ ?_; clear hK K) | (apply Loose.walk_step; intro K hK; apply Loose.turn_callF (Nat.le_refl _) (hwant := rfl) (hd := rfl); (focus (intro w'; go_simp; first | done | rfl | exact ⟨rfl, rfl⟩)); (focus (intro w'; go_at_call 82; exact product_run _ _ _ _ _ (by assumption) (by assumption))); intro r hr; go_simp; refine hK _ ?_; clear hK K))
  refine Loose.walk_nil ?_
  intro w1 hcls1
  obtain ⟨hb1, _⟩ := hcls1
  obtain ⟨hc1, hf1⟩ := Fl.bcell hb1
  have hz1 := hb1.size
  try simp only [World.size_alloc, World.size_setCell, World.heap_drewN, World.size_drew] at hz1
  go_wp2
  go_ret
  exact ⟨_, rfl, by rw [← HI.out]; assumption, by (repeat' first | exact Below.refl _ _ | (refine Below.setCell ?_ (by first | omega | (simp; omega) | simp) _) | (refine below_drewN ?_ _) | (refine Below.alloc ?_ (by first | omega | (simp; omega) | simp) _) | (refine Below.trans ?_ (Below.mono (by assumption) (by first | omega | (simp; omega) | simp))))⟩

theorem enter_scale1 (args : Array Value) (w : World) : (callFunc 81 args).run Try.prog w = .ok (.enter 81 args) w := by go_simp

set_option maxHeartbeats 3200000 in
theorem impl_ScaleB (W H : Int) (a : Option Addr) (n cap : Nat) (c : Nat → Option Nat) (w : World) (h : IsY w a n cap c) (A : Bool) (hA : okB W H n c = A) (y : Nat) (d : Option Nat) (fy : Fr .f32 y d) : Calls Try.prog 40 #[bV W H a n cap, .float .f32 y] w (RetG ((A && finC d) && allF (fun k => op2 .mul .f32 (c k) d) n) W H n (fun k => op2 .mul .f32 (c k) d) w) := by
  have HV := Lib.hid (fun w' (hb : Below w.heap.size w w') => impl_valid W H a n cap c w' (h.later hb) A hA)
  have HF := Lib.hid (fun w => impl_fin y d w fy)
  cases A
  · clear hA h
    show Calls _ _ _ w (RetG false W H n _ w)
    go_enter Try.func40, Try.ntmps40
    go_wp2_with fail
    refine (HV.out _ (by (repeat' first | exact Below.refl _ _ | (refine Below.setCell ?_ (by first | omega | (simp; omega) | simp) _) | (refine below_drewN ?_ _) | (refine Below.alloc ?_ (by first | omega | (simp; omega) | simp) _) | (refine Below.trans ?_ (Below.mono (by assumption) (by first | omega | (simp; omega) | simp)))))).mono ?_
    rintro e w1 ⟨rfl, hb1⟩
    have hz1 := hb1.size
    try simp only [World.size_alloc, World.size_setCell, World.heap_drewN, World.size_drew] at hz1
    obtain ⟨hc1, hf1⟩ := Fl.bcell hb1
    try simp only [World.heap_drewN, World.cell?_drewN, World.frozen?_drewN] at hc1 hf1
    have g1_0 : w.heap.size < w1.heap.size := by omega
    have g1' : w.heap.size + 1 + 1 < w1.heap.size := by omega
    go_wp2
    refine bodyPost_ret ?ohr rfl (retG_no ?obel)
    case ohr => simp [results, Try.results40, go_sem, *]
    case obel => (repeat' first | exact Below.refl _ _ | (refine Below.setCell ?_ (by first | omega | (simp; omega) | simp) _) | (refine below_drewN ?_ _) | (refine Below.alloc ?_ (by first | omega | (simp; omega) | simp) _) | (refine Below.trans ?_ (Below.mono (by assumption) (by first | omega | (simp; omega) | simp))))
  cases hf : finC d
  · rw [hf] at HF
    clear hA h
    show Calls _ _ _ w (RetG false W H n _ w)
    go_enter Try.func40, Try.ntmps40
    go_wp2_with fail
    refine (HV.out _ (by (repeat' first | exact Below.refl _ _ | (refine Below.setCell ?_ (by first | omega | (simp; omega) | simp) _) | (refine below_drewN ?_ _) | (refine Below.alloc ?_ (by first | omega | (simp; omega) | simp) _) | (refine Below.trans ?_ (Below.mono (by assumption) (by first | omega | (simp; omega) | simp)))))).mono ?_
    rintro e w1 ⟨rfl, hb1⟩
    have hz1 := hb1.size
    try simp only [World.size_alloc, World.size_setCell, World.heap_drewN, World.size_drew] at hz1
    obtain ⟨hc1, hf1⟩ := Fl.bcell hb1
    try simp only [World.heap_drewN, World.cell?_drewN, World.frozen?_drewN] at hc1 hf1
    have g1_0 : w.heap.size < w1.heap.size := by omega
    have g1' : w.heap.size + 1 + 1 < w1.heap.size := by omega
    have g1'' : w.heap.size + 1 < w1.heap.size := by omega
    go_wp2_with fail
    refine (HF.out _).mono ?_
    rintro e w2 ⟨rfl, hb2⟩
    have hz2 := hb2.size
    try simp only [World.size_alloc, World.size_setCell, World.heap_drewN, World.size_drew] at hz2
    obtain ⟨hc2, hf2⟩ := Fl.bcell hb2
    try simp only [World.heap_drewN, World.cell?_drewN, World.frozen?_drewN] at hc2 hf2
    have g2_0 : w.heap.size < w2.heap.size := by omega
    have g2' : w.heap.size + 1 + 1 < w2.heap.size := by omega
    go_wp2
    refine bodyPost_ret ?ohr rfl (retG_no ?obel)
    case ohr => simp [results, Try.results40, go_sem, *]
    case obel => (repeat' first | exact Below.refl _ _ | (refine Below.setCell ?_ (by first | omega | (simp; omega) | simp) _) | (refine below_drewN ?_ _) | (refine Below.alloc ?_ (by first | omega | (simp; omega) | simp) _) | (refine Below.trans ?_ (Below.mono (by assumption) (by first | omega | (simp; omega) | simp))))
  have hs := okB_of hA
  rw [hf] at HF
  have hNn : (W * H).toNat = n := by omega
  clear hf hA
  show Calls _ _ _ w (RetG (allF (fun k => op2 .mul .f32 (c k) d) n) W H n _ w)
  obtain ⟨R, hR0⟩ : ∃ R, allF (fun k => op2 .mul .f32 (c k) d) n = R := ⟨_, rfl⟩
  have HE := Lib.hid (fun (w' : World) (hb : Below w.heap.size w w') (p0 : Nat) (e0 : w'.cell? ⟨p0, 0, none⟩ = some (.float .f32 y)) => each_cell W H a n cap 81 #[.pointer (some ⟨p0, 0, none⟩)] (fun k => op2 .mul .f32 (c k) d) w' enter_scale1 (fun x1 y1 w'' hx hy _ _ hb' => impl_scale1 W H a n cap c x1 y1 p0 y d w'' ((h.later hb).later hb') hs.1 hs.2.1 hs.2.2.1 hx hy fy ((hb'.cell (block_lt_of_cell e0)).trans e0)) R (by rw [hs.1, hs.2.1, hNn]; exact hR0))
  rw [hNn] at HE
  rw [hR0]
  unfold RetG
  obtain ⟨W', hW'⟩ : ∃ W' : Int, (if R then W else 0) = W' := ⟨_, rfl⟩
  obtain ⟨H', hH'⟩ : ∃ H' : Int, (if R then H else 0) = H' := ⟨_, rfl⟩
  obtain ⟨N', hN'⟩ : ∃ N' : Nat, (if R then n else 0) = N' := ⟨_, rfl⟩
  rw [hW', hH', hN'] at HE ⊢
  clear hR0 hW' hH' hN' hs hNn h
  go_enter Try.func40, Try.ntmps40
  go_wp2_with fail
  refine (HV.out _ (by (repeat' first | exact Below.refl _ _ | (refine Below.setCell ?_ (by first | omega | (simp; omega) | simp) _) | (refine below_drewN ?_ _) | (refine Below.alloc ?_ (by first | omega | (simp; omega) | simp) _) | (refine Below.trans ?_ (Below.mono (by assumption) (by first | omega | (simp; omega) | simp)))))).mono ?_
  rintro e w1 ⟨rfl, hb1⟩
  have hz1 := hb1.size
  try simp only [World.size_alloc, World.size_setCell, World.heap_drewN, World.size_drew] at hz1
  obtain ⟨hc1, hf1⟩ := Fl.bcell hb1
  try simp only [World.heap_drewN, World.cell?_drewN, World.frozen?_drewN] at hc1 hf1
  have g1_0 : w.heap.size < w1.heap.size := by omega
  have g1' : w.heap.size + 1 + 1 < w1.heap.size := by omega
  have g1'' : w.heap.size + 1 < w1.heap.size := by omega
  go_wp2_with fail
  refine (HF.out _).mono ?_
  rintro e w2 ⟨rfl, hb2⟩
  have hz2 := hb2.size
  try simp only [World.size_alloc, World.size_setCell, World.heap_drewN, World.size_drew] at hz2
  obtain ⟨hc2, hf2⟩ := Fl.bcell hb2
  try simp only [World.heap_drewN, World.cell?_drewN, World.frozen?_drewN] at hc2 hf2
  have g2_0 : w.heap.size < w2.heap.size := by omega
  have g2' : w.heap.size + 1 + 1 < w2.heap.size := by omega
  have g2'' : w.heap.size + 1 < w2.heap.size := by omega
  go_wp2_with fail
  refine (HE.out _ (by (repeat' first | exact Below.refl _ _ | (refine Below.setCell ?_ (by first | omega | (simp; omega) | simp) _) | (refine below_drewN ?_ _) | (refine Below.alloc ?_ (by first | omega | (simp; omega) | simp) _) | (refine Below.trans ?_ (Below.mono (by assumption) (by first | omega | (simp; omega) | simp))))) _ (by refine (hc2 _ _ g1'').trans ((hc1 _ _ (by simp)).trans ?_); go_simp)).mono ?_
  rintro e w3 ⟨av, capv, rfl, ho3, hb3⟩
  have hz3 := hb3.size
  try simp only [World.size_alloc, World.size_setCell, World.heap_drewN, World.size_drew] at hz3
  obtain ⟨hc3, hf3⟩ := Fl.bcell hb3
  try simp only [World.heap_drewN, World.cell?_drewN, World.frozen?_drewN] at hc3 hf3
  have g3_0 : w.heap.size < w3.heap.size := by omega
  have g3' : w.heap.size + 1 + 1 < w3.heap.size := by omega
  have HO3 := Lib.hid ho3
  clear ho3
  go_wp2
  refine bodyPost_ret ?ohr rfl ⟨av, capv, rfl, ?oio, ?obel⟩
  case ohr => simp [results, Try.results40, go_sem, *]
  case oio =>
    refine (HO3.out.keep fun g hg _ _ => ?_).wider (by omega) (by simp)
    rw [set_keep _ _ _ (by omega), set_keep _ _ _ (by omega), set_keep _ _ _ (by omega)]
  case obel => (repeat' first | exact Below.refl _ _ | (refine Below.setCell ?_ (by first | omega | (simp; omega) | simp) _) | (refine below_drewN ?_ _) | (refine Below.alloc ?_ (by first | omega | (simp; omega) | simp) _) | (refine Below.trans ?_ (Below.mono (by assumption) (by first | omega | (simp; omega) | simp))))

end Ba
end Go.Proofs.Ytdejkkledamkeaa
