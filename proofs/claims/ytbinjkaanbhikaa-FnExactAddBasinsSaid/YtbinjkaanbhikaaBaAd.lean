/- Sums of basins. -/
import Derived.Test.YtbinjkaanbhikaaBaTi
namespace Go.Proofs.Ytbinjkaanbhikaa
set_option linter.unusedSimpArgs false
set_option linter.unusedVariables false
open Go.RowKit
set_option maxRecDepth 20000
namespace Ba
open Fl Rate

set_option maxHeartbeats 6400000 in
theorem spec_AddB (W H W' H' : Int) (a a' : Option Addr) (n n' cap cap' : Nat) (c d : Nat → Option Nat) (w : World) (h : IsY w a n cap c) (h' : IsY w a' n' cap' d) (A A2 : Bool) (hA : okB W H n c = A) (hA2 : okB W' H' n' d = A2) : Calls Try.prog 29 #[bV W H a n cap, bV W' H' a' n' cap'] w (RetG ((((A && A2) && decide (W = W')) && decide (H = H')) && allF (fun k => op2 .add .f32 (c k) (d k)) n) W H n (fun k => op2 .add .f32 (c k) (d k)) w) := by
  have HT := Lib.hid (fun G G' w' (hb : Below w.heap.size w w') e0 e1 e2 i0 i1 i2 => spec_two G G' W H W' H' a a' n n' cap cap' c d w' (h.later hb) (h'.later hb) A A2 hA hA2 e0 e1 e2 i0 i1 i2)
  obtain ⟨L, hL⟩ : ∃ L, (((A && A2) && decide (W = W')) && decide (H = H')) = L := ⟨_, rfl⟩
  rw [hL] at HT ⊢
  cases L
  · clear h h' hA hA2 hL
    show Calls _ _ _ w (RetG false W H n _ w)
    go_enter Try.func29, Try.ntmps29
    go_wp2_with fail
    refine (HT.out _ _ _ (by (repeat' first | exact Below.refl _ _ | (refine Below.setCell ?_ (by first | omega | (simp; omega) | simp) _) | (refine below_drewN ?_ _) | (refine Below.alloc ?_ (by first | omega | (simp; omega) | simp) _) | (refine Below.trans ?_ (Below.mono (by assumption) (by first | omega | (simp; omega) | simp))))) (by go_simp) (by go_simp) (by go_simp) (by go_simp) (by go_simp) (by go_simp)).mono ?_
    rintro e w1 ⟨rfl, hb1⟩
    have hz1 := hb1.size
    try simp only [World.size_alloc, World.size_setCell, World.heap_drewN, World.size_drew] at hz1
    obtain ⟨hc1, hf1⟩ := Fl.bcell hb1
    try simp only [World.heap_drewN, World.cell?_drewN, World.frozen?_drewN] at hc1 hf1
    have g1_0 : w.heap.size < w1.heap.size := by omega
    have g1_1 : w.heap.size + 1 < w1.heap.size := by omega
    have g1_2 : w.heap.size + 1 + 1 < w1.heap.size := by omega
    go_wp2
    refine bodyPost_ret ?ohr rfl (retG_no ?obel)
    case ohr => simp [results, Try.results29, go_sem, *]
    case obel => (repeat' first | exact Below.refl _ _ | (refine Below.setCell ?_ (by first | omega | (simp; omega) | simp) _) | (refine below_drewN ?_ _) | (refine Below.alloc ?_ (by first | omega | (simp; omega) | simp) _) | (refine Below.trans ?_ (Below.mono (by assumption) (by first | omega | (simp; omega) | simp))))
  simp only [Bool.and_eq_true, decide_eq_true_eq] at hL
  obtain ⟨⟨⟨rfl, rfl⟩, rfl⟩, rfl⟩ := hL
  have hs := okB_of hA
  have hs2 := okB_of hA2
  have hn9 := okB_n hA
  obtain rfl : n = n' := by have h1 := hs.2.2.1; have h2 := hs2.2.2.1; omega
  show Calls _ _ _ w (RetG (allF (fun k => op2 .add .f32 (c k) (d k)) n) W H n _ w)
  obtain ⟨R, hR0⟩ : ∃ R, allF (fun k => op2 .add .f32 (c k) (d k)) n = R := ⟨_, rfl⟩
  have hok : okB W H n (fun k => op2 .add .f32 (c k) (d k)) = R := by
    unfold okB
    rw [hs.1, hs.2.1, hR0, decide_eq_true hs.2.2.1]; rfl
  have HG := Lib.hid (fun a cap w (h : IsY w a n cap (fun k => op2 .add .f32 (c k) (d k))) => spec_give W H a n cap _ w h R hok)
  rw [hR0]
  unfold RetG
  obtain ⟨W', hW'⟩ : ∃ W' : Int, (if R then W else 0) = W' := ⟨_, rfl⟩
  obtain ⟨H', hH'⟩ : ∃ H' : Int, (if R then H else 0) = H' := ⟨_, rfl⟩
  obtain ⟨N', hN'⟩ : ∃ N' : Nat, (if R then n else 0) = N' := ⟨_, rfl⟩
  rw [hW', hH', hN']
  have HR := Lib.hid (And.intro hW' (And.intro hH' hN'))
  clear hR0 hok hW' hH' hN'
  have H6 := Lib.hid h
  have H7 := Lib.hid h'
  have HN := Lib.hid hs.2.2.1
  clear h h' hs hs2 hA hA2
  go_enter Try.func29, Try.ntmps29
  go_wp2_with fail
  refine (HT.out _ _ _ (by (repeat' first | exact Below.refl _ _ | (refine Below.setCell ?_ (by first | omega | (simp; omega) | simp) _) | (refine below_drewN ?_ _) | (refine Below.alloc ?_ (by first | omega | (simp; omega) | simp) _) | (refine Below.trans ?_ (Below.mono (by assumption) (by first | omega | (simp; omega) | simp))))) (by go_simp) (by go_simp) (by go_simp) (by go_simp) (by go_simp) (by go_simp)).mono ?_
  rintro e wc1 ⟨rfl, hb1⟩
  have hz1 := hb1.size
  simp only [World.size_alloc] at hz1
  have q2 := keep_block hb1 (alloc_block (o' := .cells #[.int .i64 0, .int .i64 0, .slice none 0 0] 40) (alloc_block (o' := .cells #[.int .i64 W, .int .i64 H, .slice a' n cap'] 40) (new_block w (.cells #[.int .i64 W, .int .i64 H, .slice a n cap] 40))))
  have q3 : wc1.heap[w.heap.size + 1]? = some (.cells #[.int .i64 W, .int .i64 H, .slice a' n cap'] 40) := keep_block hb1 (alloc_block (by simpa using new_block (w.alloc (.cells #[.int .i64 W, .int .i64 H, .slice a n cap] 40)) (.cells #[.int .i64 W, .int .i64 H, .slice a' n cap'] 40)))
  have q4 : wc1.heap[w.heap.size + 1 + 1]? = some (.cells #[.int .i64 0, .int .i64 0, .slice none 0 0] 40) := keep_block hb1 (by simpa using new_block ((w.alloc (.cells #[.int .i64 W, .int .i64 H, .slice a n cap] 40)).alloc (.cells #[.int .i64 W, .int .i64 H, .slice a' n cap'] 40)) (.cells #[.int .i64 0, .int .i64 0, .slice none 0 0] 40))
  have HBW := Lib.hid (show Below w.heap.size w wc1 by (repeat' first | exact Below.refl _ _ | (refine Below.setCell ?_ (by first | omega | (simp; omega) | simp) _) | (refine below_drewN ?_ _) | (refine Below.alloc ?_ (by first | omega | (simp; omega) | simp) _) | (refine Below.trans ?_ (Below.mono (by assumption) (by first | omega | (simp; omega) | simp)))))
  have Q2 := Lib.hid q2
  have l2 := block_lt q2
  have e20 := (cells_of (i := 0) q2).trans (show _ = some (.int .i64 W) from rfl)
  have e21 := (cells_of (i := 1) q2).trans (show _ = some (.int .i64 H) from rfl)
  have e22 := (cells_of (i := 2) q2).trans (show _ = some (.slice a n cap) from rfl)
  clear q2
  have Q3 := Lib.hid q3
  have l3 := block_lt q3
  clear q3
  have Q4 := Lib.hid q4
  have l4 := block_lt q4
  clear q4
  clear hb1
  go_wp2_with fail
  refine (spec_new _ _ _).mono ?_
  rintro e w3 ⟨g3, rfl, ho3, hb3⟩
  have HO3 := Lib.hid ho3
  have HB3 := Lib.hid hb3
  clear ho3 hb3 e20 e21 e22
  obtain ⟨i0, hi, hz0, hz1, hz2⟩ := info_parts Nums.A_info32
  have HS0 := Lib.hid (new_block w3 (.cells #[.int .i64 W, .int .i64 H, .slice (some ⟨g3, 0, none⟩) 0 0] 40))
  have HO0 := Lib.hid (World.ownsRow.alloc HO3.out (.cells #[.int .i64 W, .int .i64 H, .slice (some ⟨g3, 0, none⟩) 0 0] 40))
  have HB0 := Lib.hid (show Below wc1.heap.size wc1 (w3.alloc (.cells #[.int .i64 W, .int .i64 H, .slice (some ⟨g3, 0, none⟩) 0 0] 40)) from HB3.out.alloc HB3.out.size _)
  have hz3 := HB3.out.size
  go_wp2
  go_loopw [7, 36] (fun i s wr => ∃ (k : Nat) (v : Value) (xs : List Value), (∀ b, s = .slice (some ⟨b, 0, none⟩) 1 1 → b < wr.heap.size) ∧ k ≤ n ∧ i = .int .i64 k ∧ wr.heap[w3.heap.size]? = some (.cells #[.int .i64 W, .int .i64 H, v] 40) ∧ wr.ownsRow wc1.heap.size 28 1 v k xs ∧ FPts k (fun k => op2 .add .f32 (c k) (d k)) xs ∧ Below wc1.heap.size wc1 wr)
    (fun i _ _ => n - (intOf i).toNat)
  case atStart => exact ⟨0, _, [], by intro b hb; simp [undef] at hb, Nat.zero_le _, rfl, HS0.out, HO0.out, FPts.nil _, HB0.out⟩
  case round =>
    obtain ⟨k, v, xs, hsl, hk, rfl, hblk, hown, hpts, hbel⟩ := hrel
    have HSL := Lib.hid hsl
    have HBK := Lib.hid hblk
    have HO := Lib.hid hown
    have HP := Lib.hid hpts
    have HB := Lib.hid hbel
    have hSl := block_lt hblk
    have s0 := (cells_of (i := 0) hblk).trans (show _ = some (.int .i64 W) from rfl)
    have s1 := (cells_of (i := 1) hblk).trans (show _ = some (.int .i64 H) from rfl)
    have s2 := (cells_of (i := 2) hblk).trans (show _ = some v from rfl)
    have fS := free_of hblk 2
    have hbs := hbel.size
    have q2 : wr.heap[w.heap.size]? = some (.cells #[.int .i64 W, .int .i64 H, .slice a n cap] 40) := by rw [hbel.block _ (by omega)]; exact Q2.out
    have Q2 := Lib.hid q2
    have l2 := block_lt q2
    have e20 := (cells_of (i := 0) q2).trans (show _ = some (.int .i64 W) from rfl)
    have e21 := (cells_of (i := 1) q2).trans (show _ = some (.int .i64 H) from rfl)
    have e22 := (cells_of (i := 2) q2).trans (show _ = some (.slice a n cap) from rfl)
    clear q2
    clear hsl hblk hown hpts hbel
    by_cases hlt : k < n
    · clear s0 s1
      have q3 : wr.heap[w.heap.size + 1]? = some (.cells #[.int .i64 W, .int .i64 H, .slice a' n cap'] 40) := by rw [HB.out.block _ (by omega)]; exact Q3.out
      have Q3 := Lib.hid q3
      have l3 := block_lt q3
      have e30 := (cells_of (i := 0) q3).trans (show _ = some (.int .i64 W) from rfl)
      have e31 := (cells_of (i := 1) q3).trans (show _ = some (.int .i64 H) from rfl)
      have e32 := (cells_of (i := 2) q3).trans (show _ = some (.slice a' n cap') from rfl)
      clear q3
      obtain ⟨h2, h3, b, off, h5, h6⟩ := H6.out
      obtain rfl := h5 (by omega)
      obtain ⟨x, hsrc, fx, hlb⟩ := at_y h6 hlt (HBW.out.trans (HB.out.mono (by omega)))
      obtain ⟨h2', h3', b', off', h5', h6'⟩ := H7.out
      obtain rfl := h5' (by omega)
      obtain ⟨x', hsrc', fx', hlb'⟩ := at_y h6' hlt (HBW.out.trans (HB.out.mono (by omega)))
      have hmi : n ≤ 9223372036854775807 := by omega
      clear h5 h6 h5' h6'
      go_wp2_with fail
      refine LooseS.wp_region 14 36 (fun ob => ∃ r, ob = .cells #[.float .f32 r] 28 ∧ Fr .f32 r (op2 .add .f32 (c k) (d k))) (by kernel_rfl) (by kernel_rfl) (by intro b hb; exact HSL.out b (by simpa using hb)) ?_
      apply Exists.intro
      simp only [List.take_succ_cons, List.take_zero, List.drop_succ_cons, List.drop_zero]
      repeat (first | (apply Loose.walk_step; intro K hK; apply LooseS.turn_value (hwant := rfl) (hd := rfl); (focus (intro w' hw'; obtain ⟨hc, hf⟩ := Fl.bcell hw'; go_simp; first | done | rfl | exact ⟨rfl, rfl⟩)); go_simp; refine hK _ ?_; clear hK K) | (apply Loose.walk_step; intro K hK; refine LooseS.turn_fl (Nat.le_refl _) rfl rfl rfl rfl rfl rfl (by assumption) (by assumption) ?_; intro r hr; go_simp; refine hK _ ?_; clear hK K) | (apply Loose.walk_step; intro K hK; apply LooseS.turn_row (Nat.le_refl _) (hwant := rfl) (hdst := rfl) (hφ := ⟨_, rfl, by assumption⟩); (focus (intro w'; go_simp; first | done | rfl | exact ⟨rfl, rfl⟩)); intro b4 hb4B; go_simp; refine hK _ ?_; clear hK K))
      refine Loose.walk_nil ?_
      intro w4 hcls4
      obtain ⟨hb4, hrow4⟩ := hcls4
      obtain ⟨ob4, hob4, q, rfl, fq⟩ := hrow4 _ hb4B rfl
      have hz4 := hb4.size
      have hS4 : w4.heap[w3.heap.size]? = some (.cells #[.int .i64 W, .int .i64 H, v] 40) := by rw [hb4.block _ hSl]; exact HBK.out
      have HS4 := Lib.hid hS4
      have HO4 := Lib.hid (own_below HO.out hb4)
      have HB4 := Lib.hid (HB.out.trans (hb4.mono HB.out.size))
      have HOB4 := Lib.hid hob4
      have hb4l := block_lt hob4
      have l4 := block_lt hS4
      clear hS4 hb4 hrow4 hob4 e20 e21 e22 s2 fS
      go_wp2_with (first
        | (
          at_builtin
          refine wpList_append_own _ rfl (.tmp 24) (.tmp 36) 22 rfl wc1.heap.size 28 i0 (.float .f32 0) 1 4 Try.underlying22 hi hz0 hz1 hz2 rfl (by decide) v k xs rfl HO4.out ⟨b4, 0, none⟩ 1 1 [.float .f32 q] rfl rfl (row_cell HOB4.out) (by intro u hu; rw [List.mem_singleton.1 hu]; rfl) (by unfold maxLen; omega) (by omega) (by omega) ?_
          intro v5 w5 hown5 hgrow5 hnil5
          obtain ⟨g5, cap5, rfl⟩ := Joins.ownsRow_form hown5 (by omega)
          have hz45 := hgrow5.size
          obtain ⟨hS5, hb5⟩ := appended HS4.out HO4.out HB4.out (by omega) hgrow5 (by decide)
          have d50 := (cells_of (i := 2) hS5).trans (show _ = some v from rfl)
          have f50 := free_of hS5 2
          have l5 := block_lt hS5
          have HS5 := Lib.hid hS5
          have HO5 := Lib.hid hown5
          have HB5 := Lib.hid hb5
          clear hS5 hown5 hgrow5 hnil5 hb5
          skip))
      go_roundw
      case rel => exact ⟨k + 1, _, _, by intro b hb; simp at hb; subst hb; simp; omega, by omega, by go_num, setCell_block HS5.out 2 _, own_set HO5.out HS5.out (by decide), HP.out.next fq, Below.setCell HB5.out (by omega) (p := ⟨w3.heap.size, 2, none⟩) _⟩
      case measure => simp [intOf]; omega
    · obtain rfl : n = k := by omega
      obtain ⟨av, capv, rfl, hio⟩ := isO_of HO.out HP.out (by omega)
      have HIO := Lib.hid hio
      clear hio
      have q4 : wr.heap[w.heap.size + 1 + 1]? = some (.cells #[.int .i64 0, .int .i64 0, .slice none 0 0] 40) := by rw [HB.out.block _ (by omega)]; exact Q4.out
      have Q4r := Lib.hid q4
      have l4 := block_lt q4
      clear q4
      go_wp2_with fail
      refine (HG.out _ _ _ HIO.out.y).mono ?_
      rintro e w9 ⟨rfl, hb9⟩
      have hz9 := hb9.size
      have hq9 := keep_block hb9 Q4r.out
      have c90 := (cells_of (i := 0) hq9).trans (show _ = some (.int .i64 0) from rfl)
      have c91 := (cells_of (i := 1) hq9).trans (show _ = some (.int .i64 0) from rfl)
      have c92 := (cells_of (i := 2) hq9).trans (show _ = some (.slice none 0 0) from rfl)
      have f90 := free_of hq9 0
      have f91 := free_of hq9 1
      have f92 := free_of hq9 2
      have HIO9 := Lib.hid (HIO.out.later hb9)
      have HB9 := Lib.hid ((HBW.out.trans (HB.out.mono (by omega))).trans (hb9.mono (by omega)))
      clear hq9 hb9 e20 e21 e22 s0 s1 s2
      cases R
      all_goals
        go_wp2
        have hR := HR.out
        simp only [Bool.false_eq_true, if_false, if_true] at hR
        obtain ⟨rfl, rfl, rfl⟩ := hR
      · refine bodyPost_ret ?ohr rfl ⟨none, 0, rfl, isO_nil _ _ _ _, ?obel⟩
        case ohr => simp [results, Try.results29, go_sem, *]
        case obel => exact Below.setCell (Below.setCell (Below.setCell HB9.out (by show w.heap.size ≤ w.heap.size + 1 + 1; omega) (p := ⟨w.heap.size + 1 + 1, 0, none⟩) _) (by show w.heap.size ≤ w.heap.size + 1 + 1; omega) (p := ⟨w.heap.size + 1 + 1, 1, none⟩) _) (by show w.heap.size ≤ w.heap.size + 1 + 1; omega) (p := ⟨w.heap.size + 1 + 1, 2, none⟩) _
      · refine bodyPost_ret ?ohr rfl ⟨av, capv, rfl, ?oio, ?obel⟩
        case ohr => simp [results, Try.results29, go_sem, *]
        case oio =>
          refine (HIO9.out.keep fun g hg _ _ => ?_).wider (by omega) (by simp; omega)
          rw [set_keep _ _ _ (by omega), set_keep _ _ _ (by omega), set_keep _ _ _ (by omega)]
        case obel => exact Below.setCell (Below.setCell (Below.setCell HB9.out (by show w.heap.size ≤ w.heap.size + 1 + 1; omega) (p := ⟨w.heap.size + 1 + 1, 0, none⟩) _) (by show w.heap.size ≤ w.heap.size + 1 + 1; omega) (p := ⟨w.heap.size + 1 + 1, 1, none⟩) _) (by show w.heap.size ≤ w.heap.size + 1 + 1; omega) (p := ⟨w.heap.size + 1 + 1, 2, none⟩) _

end Ba
end Go.Proofs.Ytbinjkaanbhikaa
