/- Sweeps: the model. -/
import Derived.Test.YtbinjkaanbhikaaBaWf
import Derived.Test.YtbinjkaanbhikaaBaRo
import Derived.Test.YtbinjkaanbhikaaBaTw
namespace Go.Proofs.Ytbinjkaanbhikaa
set_option linter.unusedSimpArgs false
set_option linter.unusedVariables false
open Go.RowKit
set_option maxRecDepth 20000
namespace Ba
open Fl Rate

set_option maxHeartbeats 25600000 in
theorem spec_sweep (G G' : Nat) (W H : Int) (a a' : Option Addr) (n cap cap' : Nat) (c d : Nat → Option Nat) (w : World) (h : IsY w a n cap c) (h' : IsY w a' n cap' d) (hG : w.heap[G]? = some (.cells #[.int .i64 W, .int .i64 H, .slice a n cap] 40)) (hG' : w.heap[G']? = some (.cells #[.int .i64 W, .int .i64 H, .slice a' n cap'] 40)) (hA : okB W H n c = true) (hA2 : okB W H n d = true) (N : Nat) (hN : N ≤ 200)
    (RE R T : Bool) (hRE : (finC (Nums.accC c n) && allF (evC n c) n) = RE) (hR : allF (swS W H (evC n c) n d N) n = R) (hT : (RE && R) = T) :
    Calls Try.prog 107 #[.pointer (some ⟨G, 0, none⟩), .pointer (some ⟨G', 0, none⟩), .int .i64 (N : Int)] w (RetG T W H n (swS W H (evC n c) n d N) w) := by
  have hn9 := okB_n hA
  have hs := okB_of hA
  have HE := Lib.hid (show ∀ w', Below w.heap.size w w' → Calls Try.prog 99 #[.pointer (some ⟨G, 0, none⟩)] w' (RetG RE W H n (evC n c) w') from fun w' hb => hRE ▸ spec_even G W H a n cap c w' (h.later hb) (keep_block hb hG) hA _ _ rfl rfl)
  have HOW := Lib.hid (fun w' (hb : Below w.heap.size w w') => spec_own G' W H a' n cap' d w' (h'.later hb) (keep_block hb hG') hn9)
  have hok : okB W H n (swS W H (evC n c) n d N) = R := by
    unfold okB; rw [hs.1, hs.2.1, hR, decide_eq_true hs.2.2.1]; rfl
  have HG := Lib.hid (fun a cap w (h : IsY w a n cap (swS W H (evC n c) n d N)) => spec_give W H a n cap _ w h R hok)
  have HOK := Lib.hid hs
  have hmul := mul_bd hs.1 hs.2.1
  have sW := side_of hs.1
  have q32 := quarter32
  have HTT := Lib.hid hT
  unfold RetG at HE ⊢
  obtain ⟨W2, hW2⟩ : ∃ W2 : Int, (if RE then W else 0) = W2 := ⟨_, rfl⟩
  obtain ⟨H2, hH2⟩ : ∃ H2 : Int, (if RE then H else 0) = H2 := ⟨_, rfl⟩
  obtain ⟨N2, hN2⟩ : ∃ N2 : Nat, (if RE then n else 0) = N2 := ⟨_, rfl⟩
  rw [hW2, hH2, hN2] at HE
  have HRR := Lib.hid (And.intro hW2 (And.intro hH2 hN2))
  obtain ⟨W', hW'⟩ : ∃ W' : Int, (if T then W else 0) = W' := ⟨_, rfl⟩
  obtain ⟨H', hH'⟩ : ∃ H' : Int, (if T then H else 0) = H' := ⟨_, rfl⟩
  obtain ⟨N', hN'⟩ : ∃ N' : Nat, (if T then n else 0) = N' := ⟨_, rfl⟩
  rw [hW', hH', hN']
  have HR := Lib.hid (And.intro hW' (And.intro hH' hN'))
  clear h h' hA hA2 hG hG' hs hok hRE hR hT hW2 hH2 hN2 hW' hH' hN'
  go_enter Try.func107, Try.ntmps107
  go_wp2_with fail
  refine (HE.out _ (by (repeat' first | exact Below.refl _ _ | (refine Below.setCell ?_ (by first | omega | (simp; omega) | simp) _) | (refine below_drewN ?_ _) | (refine Below.alloc ?_ (by first | omega | (simp; omega) | simp) _) | (refine Below.trans ?_ (Below.mono (by assumption) (by first | omega | (simp; omega) | simp)))))).mono ?_
  rintro e w2 ⟨ae, ce, rfl, hoe, hb2⟩
  have hz2 := hb2.size
  simp only [World.size_alloc] at hz2 hoe
  have qz : w2.heap[w.heap.size]? = some (.cells #[.int .i64 0, .int .i64 0, .slice none 0 0] 40) := keep_block hb2 (new_block _ _)
  have QZ := Lib.hid qz
  have HBW := Lib.hid (show Below w.heap.size w w2 by (repeat' first | exact Below.refl _ _ | (refine Below.setCell ?_ (by first | omega | (simp; omega) | simp) _) | (refine below_drewN ?_ _) | (refine Below.alloc ?_ (by first | omega | (simp; omega) | simp) _) | (refine Below.trans ?_ (Below.mono (by assumption) (by first | omega | (simp; omega) | simp)))))
  have HOE := Lib.hid hoe
  have z0 := (cells_of (i := 0) qz).trans (show _ = some (.int .i64 0) from rfl)
  have z1 := (cells_of (i := 1) qz).trans (show _ = some (.int .i64 0) from rfl)
  have z2 := (cells_of (i := 2) qz).trans (show _ = some (.slice none 0 0) from rfl)
  have y0 := free_of qz 0
  have y1 := free_of qz 1
  have y2 := free_of qz 2
  have lz2 := block_lt qz
  clear hb2 qz hoe
  cases RE
  · obtain rfl : T = false := by rw [← HTT.out]; rfl
    have hRR := HRR.out
    simp only [Bool.false_eq_true, if_false] at hRR
    obtain ⟨rfl, rfl, rfl⟩ := hRR
    go_wp2
    have hR := HR.out
    simp only [Bool.false_eq_true, if_false, if_true] at hR
    obtain ⟨rfl, rfl, rfl⟩ := hR
    refine bodyPost_ret ?ohr rfl ⟨none, 0, rfl, isO_nil _ _ _ _, ?obel⟩
    case ohr => simp [results, Try.results107, go_sem, *]
    case obel =>
      have HBX := HBW.out
      (repeat' first | exact HBX | (refine Below.setCell ?_ (by first | omega | (simp; omega) | simp) _) | (refine Below.alloc ?_ (by first | omega | (simp; omega) | simp) _))
  obtain rfl : R = T := by rw [← HTT.out]; rfl
  have hRR := HRR.out
  simp only [if_true] at hRR
  obtain ⟨rfl, rfl, rfl⟩ := hRR
  clear z0 z1 z2 y0 y1 y2
  go_wp2_with fail
  refine (HOW.out _ (HBW.out.alloc (by omega) _)).mono ?_
  rintro e w3 ⟨a3, cap3, rfl, ho3, hb3⟩
  have hz3 := hb3.size
  simp only [World.size_alloc] at hz3 ho3
  have qe : w3.heap[w2.heap.size]? = some (.cells #[.int .i64 W, .int .i64 H, .slice ae n ce] 40) := keep_block hb3 (new_block _ _)
  have qz3 : w3.heap[w.heap.size]? = some (.cells #[.int .i64 0, .int .i64 0, .slice none 0 0] 40) := keep_block hb3 (alloc_block QZ.out)
  have QE := Lib.hid qe
  have QZ3 := Lib.hid qz3
  have HOE3 := Lib.hid ((HOE.out.alloc (.cells #[.int .i64 W, .int .i64 H, .slice ae n ce] 40)).later hb3)
  have HO3 := Lib.hid ho3
  have HB3 := Lib.hid ((HBW.out.alloc (by omega) (.cells #[.int .i64 W, .int .i64 H, .slice ae n ce] 40)).trans (hb3.mono (by simp; omega)))
  clear hb3 qe qz3 ho3
  go_wp2
  go_loopw [11] (fun i wr => ∃ (k : Nat) (ak : Option Addr) (ck : Nat), k ≤ N ∧ i = .int .i64 (k : Int) ∧ wr.heap[w3.heap.size]? = some (.cells #[.int .i64 W, .int .i64 H, .slice ak n ck] 40) ∧ wr.heap[w2.heap.size]? = some (.cells #[.int .i64 W, .int .i64 H, .slice ae n ce] 40) ∧ wr.heap[w.heap.size]? = some (.cells #[.int .i64 0, .int .i64 0, .slice none 0 0] 40) ∧ IsO (w2.heap.size + 1) w3.heap.size wr ak n ck (swS W H (evC n c) n d k) ∧ IsO (w.heap.size + 1) w2.heap.size wr ae n ce (evC n c) ∧ Below w.heap.size w wr)
    (fun i _ => N - (intOf i).toNat)
  case atStart => exact ⟨0, a3, cap3, Nat.zero_le _, rfl, new_block _ _, alloc_block QE.out, alloc_block QZ3.out, HO3.out.alloc _, HOE3.out.alloc _, HB3.out.alloc (by omega) _⟩
  case round =>
    obtain ⟨k, ak, ck, hk, rfl, hS, hE, hZ, hO, hOE, hB⟩ := hrel
    have HS := Lib.hid hS
    have HEb := Lib.hid hE
    have HZ := Lib.hid hZ
    have HO := Lib.hid hO
    have HOEk := Lib.hid hOE
    have HB := Lib.hid hB
    clear hS hE hZ hO hOE hB
    by_cases hlt : k < N
    · go_wp2
      go_loopw [12] (fun j wj => ∃ (m : Nat), m ≤ n ∧ j = .int .i64 (m : Int) ∧ wj.heap[w3.heap.size]? = some (.cells #[.int .i64 W, .int .i64 H, .slice ak n ck] 40) ∧ wj.heap[w2.heap.size]? = some (.cells #[.int .i64 W, .int .i64 H, .slice ae n ce] 40) ∧ wj.heap[w.heap.size]? = some (.cells #[.int .i64 0, .int .i64 0, .slice none 0 0] 40) ∧ IsO (w2.heap.size + 1) w3.heap.size wj ak n ck (swP W H (evC n c) (swS W H (evC n c) n d k) m) ∧ IsO (w.heap.size + 1) w2.heap.size wj ae n ce (evC n c) ∧ Below w.heap.size w wj)
        (fun j _ => n - (intOf j).toNat)
      case atStart => exact ⟨0, Nat.zero_le _, rfl, HS.out, HEb.out, HZ.out, HO.out, HOEk.out, HB.out⟩
      case round =>
        obtain ⟨m, hm, rfl, hS, hD, hZ, hO, hL, hB⟩ := hrel
        have hSj := block_lt hS
        have hDj := block_lt hD
        have hZj := block_lt hZ
        have hBs := hB.size
        have HSj := Lib.hid hS
        have HDj := Lib.hid hD
        have HZj := Lib.hid hZ
        have HOj := Lib.hid hO
        have HLj := Lib.hid hL
        have HBj := Lib.hid hB
        have hwm : IntKind.i64.wrap (W * H) = W * H := IntWalk.i64_in _ (by omega)
        have u0 := (cells_of (i := 0) hS).trans (show _ = some (.int .i64 W) from rfl)
        have u1 := (cells_of (i := 1) hS).trans (show _ = some (.int .i64 H) from rfl)
        have u2 := (cells_of (i := 2) hS).trans (show _ = some (.slice ak n ck) from rfl)
        have v0 := (cells_of (i := 0) hD).trans (show _ = some (.int .i64 W) from rfl)
        have v1 := (cells_of (i := 1) hD).trans (show _ = some (.int .i64 H) from rfl)
        have v2 := (cells_of (i := 2) hD).trans (show _ = some (.slice ae n ce) from rfl)
        clear hS hD hZ hO hL hB
        by_cases hmn : m < n
        · have HX := Lib.hid HOj.out.y
          obtain ⟨h2, h3, g, cur, h5, h6, h7⟩ := HOj.out
          obtain ⟨rfl, hBg, hgL, hcur⟩ := h5 (by omega)
          obtain ⟨xk, hxk, fxk⟩ := h7 m hmn
          obtain ⟨i2, i3, gl, curl, i5, i6, i7⟩ := HLj.out
          obtain ⟨rfl, hBl, hLl, hcurl⟩ := i5 (by omega)
          obtain ⟨xl, hxl, fxl⟩ := i7 m hmn
          have ek := (cells_of (i := m) hcur).trans hxk
          have el := (cells_of (i := m) hcurl).trans hxl
          have lg := block_lt hcur
          have lgl := block_lt hcurl
          have HCur := Lib.hid hcur
          have fg := free_of hcur m
          have HSg := Lib.hid (ne_row HSj.out hcur (by decide))
          have HDg := Lib.hid (ne_row HDj.out hcur (by decide))
          have HZg := Lib.hid (ne_row HZj.out hcur (by decide))
          have hmd : decide ((m : Int) < (n : Int)) = true := decide_eq_true (by omega)
          have hmi : 0 ≤ (m : Int) := by omega
          have hkN : (m : Int) < W * H := by have := HOK.out.2.2.1; omega
          have hwW : 0 < W := by omega
          have hm0 := Int.emod_nonneg (m : Int) (show W ≠ 0 by omega)
          have hm1 := Int.emod_lt_of_pos (m : Int) hwW
          have hd0 : 0 ≤ (m : Int) / W := Int.ediv_nonneg (by omega) (by omega)
          have hd1 : (m : Int) / W ≤ (m : Int) := Int.ediv_le_self _ (by omega)
          have hWz : (W == 0) = false := by simp; omega
          have ht : (m : Int).tmod W = (m : Int) % W := Int.tmod_eq_emod_of_nonneg (by omega)
          have hq : (m : Int).tdiv W = (m : Int) / W := Int.tdiv_eq_ediv_of_nonneg (by omega)
          have hw1 : IntKind.i64.wrap ((m : Int) % W) = (m : Int) % W := IntWalk.i64_in _ (by omega)
          have hw2 : IntKind.i64.wrap ((m : Int) / W) = (m : Int) / W := IntWalk.i64_in _ (by omega)
          have hwz : W ≠ 0 := by omega
          have fX := (Mks.ms_facts ((m : Int) % W)).2
          have fY := (Mks.ms_facts ((m : Int) / W)).2
          unfold maxLen at h3 i3
          clear h5 h6 h7 i5 i6 i7 hxk hxl hcur hcurl
          go_wp2
          refine Loose.wp_region_below 15 [] (by kernel_rfl) (by kernel_rfl) (by simp [undef]) ?_
          apply Exists.intro
          simp only [List.take_succ_cons, List.take_zero, List.drop_succ_cons, List.drop_zero]
          repeat (first | (apply Loose.walk_step; intro K hK; apply Loose.turn_value (hwant := rfl) (hd := rfl); (focus (intro w' hw'; obtain ⟨hc, hf⟩ := Fl.bcell hw'; go_simp; first | done | rfl | exact ⟨rfl, rfl⟩)); go_simp; refine hK _ ?_; clear hK K) | (apply Loose.walk_step; intro K hK; refine Loose.turn_fl (Nat.le_refl _) rfl rfl rfl rfl rfl rfl (by assumption) (by assumption) ?_; intro r hr; go_simp; refine hK _ ?_; clear hK K) | (apply Loose.walk_step; intro K hK; apply Loose.turn_callFB (Nat.le_refl _) (hwant := rfl) (hd := rfl); (focus (intro w'; go_simp; first | done | rfl | exact ⟨rfl, rfl⟩)); (focus (intro w' hw'; go_at_call 148; exact spec_four w3.heap.size W H _ n ck (swP W H (evC n c) (swS W H (evC n c) n d k) m) w' (HX.out.later hw') HOK.out.1 HOK.out.2.1 HOK.out.2.2.1 ((m : Int) % W) ((m : Int) / W) (by omega) (by omega) ((hw'.cell hSj).trans u0) ((hw'.cell hSj).trans u1) ((hw'.cell hSj).trans u2))); intro r hr; go_simp; refine hK _ ?_; clear hK K))
          refine Loose.walk_nil ?_
          intro w7 hcls7
          obtain ⟨hb7, _⟩ := hcls7
          obtain ⟨hc7, hf7⟩ := Fl.bcell hb7
          have hz7 := hb7.size
          try simp only [World.size_alloc, World.size_setCell, World.heap_drewN, World.size_drew] at hz7
          have l7 : g < w7.heap.size := by omega
          go_wp2_with (refine Fl.wpList_fl rfl rfl rfl rfl rfl (by assumption) (by assumption) ?_; intro r9 n9 hr9; have l9 : g < (w7.drewN n9).heap.size := by (simp only [World.heap_drewN]; omega))
          go_roundw
          case rel =>
            have HOP := HOj.out.later (below_drewN hb7 n9)
            have HLP := HLj.out.later (below_drewN hb7 n9)
            exact ⟨m + 1, by omega, by go_num, by rw [set_keep _ _ _ HSg.out]; exact keep_block (below_drewN hb7 n9) HSj.out, by rw [set_keep _ _ _ HDg.out]; exact keep_block (below_drewN hb7 n9) HDj.out, by rw [set_keep _ _ _ HZg.out]; exact keep_block (below_drewN hb7 n9) HZj.out, isO_put HOP (show Fr .f32 r9 (cellW W H (evC n c) (swP W H (evC n c) (swS W H (evC n c) n d k) m) m) from hr9) hmn, HLP.keep fun g' hg' _ _ => set_keep _ _ _ (by omega), Below.setCell (HBj.out.trans ((below_drewN hb7 n9).mono hBs)) (show w.heap.size ≤ g by omega) (p := ⟨g, m, none⟩) _⟩
          case measure => simp [intOf]; omega
        · obtain rfl : n = m := by omega
          have hge : ¬ (n : Int) < W * H := by have := HOK.out.2.2.1; omega
          go_wp2
          go_roundw
          case rel => exact ⟨k + 1, ak, ck, by omega, by go_num, HSj.out, HDj.out, HZj.out, HOj.out, HLj.out, HBj.out⟩
          case measure => simp [intOf]; omega
    · obtain rfl : N = k := by omega
      have u0 := (cells_of (i := 0) HS.out).trans (show _ = some (.int .i64 W) from rfl)
      have u1 := (cells_of (i := 1) HS.out).trans (show _ = some (.int .i64 H) from rfl)
      have u2 := (cells_of (i := 2) HS.out).trans (show _ = some (.slice ak n ck) from rfl)
      have hZk := HZ.out
      have hSk := block_lt HS.out
      have lz := block_lt HZ.out
      have z0 := (cells_of (i := 0) hZk).trans (show _ = some (.int .i64 0) from rfl)
      have z1 := (cells_of (i := 1) hZk).trans (show _ = some (.int .i64 0) from rfl)
      have z2 := (cells_of (i := 2) hZk).trans (show _ = some (.slice none 0 0) from rfl)
      have y0 := free_of hZk 0
      have y1 := free_of hZk 1
      have y2 := free_of hZk 2
      have HGK := Lib.hid (fun w' (hb : Below wr.heap.size wr w') => HG.out ak ck w' (HO.out.y.later hb))
      clear hZk
      go_wp2_with fail
      refine (HGK.out _ (by (repeat' first | exact Below.refl _ _ | (refine Below.setCell ?_ (by first | omega | (simp; omega) | simp) _) | (refine below_drewN ?_ _) | (refine Below.alloc ?_ (by first | omega | (simp; omega) | simp) _) | (refine Below.trans ?_ (Below.mono (by assumption) (by first | omega | (simp; omega) | simp)))))).mono ?_
      rintro e w9 ⟨rfl, hb9⟩
      have hz9 := hb9.size
      have hZ9 := keep_block hb9 HZ.out
      have HO9 := Lib.hid (HO.out.later hb9)
      have HB9 := Lib.hid (HB.out.trans (hb9.mono (by have := HB.out.size; omega)))
      have lz9 := block_lt hZ9
      clear hb9 z0 z1 z2 y0 y1 y2
      have z0 := (cells_of (i := 0) hZ9).trans (show _ = some (.int .i64 0) from rfl)
      have z1 := (cells_of (i := 1) hZ9).trans (show _ = some (.int .i64 0) from rfl)
      have z2 := (cells_of (i := 2) hZ9).trans (show _ = some (.slice none 0 0) from rfl)
      have y0 := free_of hZ9 0
      have y1 := free_of hZ9 1
      have y2 := free_of hZ9 2
      clear hZ9
      cases R
      · go_wp2
        have hR := HR.out
        simp only [Bool.false_eq_true, if_false, if_true] at hR
        obtain ⟨rfl, rfl, rfl⟩ := hR
        refine bodyPost_ret ?ohr rfl ⟨none, 0, rfl, isO_nil _ _ _ _, ?obel⟩
        case ohr => simp [results, Try.results107, go_sem, *]
        case obel =>
          have HBX := HB9.out
          (repeat' first | exact HBX | (refine Below.setCell ?_ (by first | omega | (simp; omega) | simp) _) | (refine Below.alloc ?_ (by first | omega | (simp; omega) | simp) _))
      · go_wp2
        have hR := HR.out
        simp only [Bool.false_eq_true, if_false, if_true] at hR
        obtain ⟨rfl, rfl, rfl⟩ := hR
        refine bodyPost_ret ?ohr rfl ⟨ak, ck, rfl, ?oio, ?obel⟩
        case ohr => simp [results, Try.results107, go_sem, *]
        case oio =>
          refine (HO9.out.keep fun g hg _ _ => ?_).wider (by omega) (by simp; omega)
          rw [set_keep _ _ _ (by omega), set_keep _ _ _ (by omega), set_keep _ _ _ (by omega)]
        case obel =>
          have HBX := HB9.out
          (repeat' first | exact HBX | (refine Below.setCell ?_ (by first | omega | (simp; omega) | simp) _) | (refine Below.alloc ?_ (by first | omega | (simp; omega) | simp) _))

set_option maxHeartbeats 6400000 in
theorem spec_SweepB (W H W' H' : Int) (a a' : Option Addr) (n n' cap cap' : Nat) (c d : Nat → Option Nat) (w : World) (h : IsY w a n cap c) (h' : IsY w a' n' cap' d) (A A2 : Bool) (hA : okB W H n c = A) (hA2 : okB W' H' n' d = A2) (s : Int) : Calls Try.prog 46 #[bV W H a n cap, bV W' H' a' n' cap', .int .i64 s] w (RetG (sweB W H W' H' n c d A A2 s) W H n (swS W H (evC n c) n d s.toNat) w) := by
  have HT := Lib.hid (fun G G' w' (hb : Below w.heap.size w w') e0 e1 e2 i0 i1 i2 => spec_two G G' W H W' H' a a' n n' cap cap' c d w' (h.later hb) (h'.later hb) A A2 hA hA2 e0 e1 e2 i0 i1 i2)
  have HX := Lib.hid (fun w => spec_inD s 0 200 w)
  obtain ⟨L, hL⟩ : ∃ L, (((A && A2) && decide (W = W')) && decide (H = H')) = L := ⟨_, rfl⟩
  rw [hL] at HT
  cases L
  · rw [swe_two hL]
    clear h h' hA hA2 hL
    show Calls _ _ _ w (RetG false W H n _ w)
    go_enter Try.func46, Try.ntmps46
    go_wp2_with fail
    refine (HT.out _ _ _ (by (repeat' first | exact Below.refl _ _ | (refine Below.setCell ?_ (by first | omega | (simp; omega) | simp) _) | (refine below_drewN ?_ _) | (refine Below.alloc ?_ (by first | omega | (simp; omega) | simp) _) | (refine Below.trans ?_ (Below.mono (by assumption) (by first | omega | (simp; omega) | simp))))) (by go_simp) (by go_simp) (by go_simp) (by go_simp) (by go_simp) (by go_simp)).mono ?_
    rintro e w1 ⟨rfl, hb1⟩
    have hz1 := hb1.size
    try simp only [World.size_alloc, World.size_setCell, World.heap_drewN, World.size_drew] at hz1
    obtain ⟨hc1, hf1⟩ := Fl.bcell hb1
    try simp only [World.heap_drewN, World.cell?_drewN, World.frozen?_drewN] at hc1 hf1
    have g1_0 : w.heap.size < w1.heap.size := by omega
    have g1_1 : w.heap.size + 1 < w1.heap.size := by omega
    have g1_2 : w.heap.size + 1 + 1 < w1.heap.size := by omega
    go_wp2
    refine bodyPost_ret ?ohr rfl (retG_no ?obel)
    case ohr => simp [results, Try.results46, go_sem, *]
    case obel => (repeat' first | exact Below.refl _ _ | (refine Below.setCell ?_ (by first | omega | (simp; omega) | simp) _) | (refine below_drewN ?_ _) | (refine Below.alloc ?_ (by first | omega | (simp; omega) | simp) _) | (refine Below.trans ?_ (Below.mono (by assumption) (by first | omega | (simp; omega) | simp))))
  cases hx : inB s 0 200
  · rw [swe_in hx]
    rw [hx] at HX
    clear h h' hA hA2 hL
    show Calls _ _ _ w (RetG false W H n _ w)
    go_enter Try.func46, Try.ntmps46
    go_wp2_with fail
    refine (HT.out _ _ _ (by (repeat' first | exact Below.refl _ _ | (refine Below.setCell ?_ (by first | omega | (simp; omega) | simp) _) | (refine below_drewN ?_ _) | (refine Below.alloc ?_ (by first | omega | (simp; omega) | simp) _) | (refine Below.trans ?_ (Below.mono (by assumption) (by first | omega | (simp; omega) | simp))))) (by go_simp) (by go_simp) (by go_simp) (by go_simp) (by go_simp) (by go_simp)).mono ?_
    rintro e w1 ⟨rfl, hb1⟩
    have hz1 := hb1.size
    try simp only [World.size_alloc, World.size_setCell, World.heap_drewN, World.size_drew] at hz1
    obtain ⟨hc1, hf1⟩ := Fl.bcell hb1
    try simp only [World.heap_drewN, World.cell?_drewN, World.frozen?_drewN] at hc1 hf1
    have g1_0 : w.heap.size < w1.heap.size := by omega
    have g1_1 : w.heap.size + 1 < w1.heap.size := by omega
    have g1_2 : w.heap.size + 1 + 1 < w1.heap.size := by omega
    go_wp2_with fail
    refine (HX.out _).mono ?_
    rintro e w2 ⟨rfl, hb2⟩
    have hz2 := hb2.size
    try simp only [World.size_alloc, World.size_setCell, World.heap_drewN, World.size_drew] at hz2
    obtain ⟨hc2, hf2⟩ := Fl.bcell hb2
    try simp only [World.heap_drewN, World.cell?_drewN, World.frozen?_drewN] at hc2 hf2
    have g2_0 : w.heap.size < w2.heap.size := by omega
    have g2_1 : w.heap.size + 1 < w2.heap.size := by omega
    have g2_2 : w.heap.size + 1 + 1 < w2.heap.size := by omega
    go_wp2
    refine bodyPost_ret ?ohr rfl (retG_no ?obel)
    case ohr => simp [results, Try.results46, go_sem, *]
    case obel => (repeat' first | exact Below.refl _ _ | (refine Below.setCell ?_ (by first | omega | (simp; omega) | simp) _) | (refine below_drewN ?_ _) | (refine Below.alloc ?_ (by first | omega | (simp; omega) | simp) _) | (refine Below.trans ?_ (Below.mono (by assumption) (by first | omega | (simp; omega) | simp))))
  rw [hx] at HX
  simp only [Bool.and_eq_true, decide_eq_true_eq] at hL
  obtain ⟨⟨⟨rfl, rfl⟩, rfl⟩, rfl⟩ := hL
  have hn9 := okB_n hA
  obtain rfl : n = n' := by
    have h1 := (okB_of hA).2.2.1
    have h2 := (okB_of hA2).2.2.1
    omega
  have hs0 : 0 ≤ s ∧ s ≤ 200 := by
    unfold inB at hx
    simpa [Bool.and_eq_true] using hx
  obtain ⟨N, rfl⟩ : ∃ N : Nat, s = (N : Int) := ⟨s.toNat, by omega⟩
  have hN : N ≤ 200 := by omega
  rw [swe_good hN, Int.toNat_natCast]
  obtain ⟨T, hT⟩ : ∃ T, ((finC (Nums.accC c n) && allF (evC n c) n) && allF (swS W H (evC n c) n d N) n) = T := ⟨_, rfl⟩
  rw [hT]
  have HE := Lib.hid (fun (w' : World) (hb : Below w.heap.size w w') (hG : w'.heap[w.heap.size]? = some (.cells #[.int .i64 W, .int .i64 H, .slice a n cap] 40)) (hG' : w'.heap[w.heap.size + 1]? = some (.cells #[.int .i64 W, .int .i64 H, .slice a' n cap'] 40)) => spec_sweep w.heap.size (w.heap.size + 1) W H a a' n cap cap' c d w' (h.later hb) (h'.later hb) hG hG' hA hA2 N hN _ _ T rfl rfl hT)
  clear hT hs0 hx hA hA2 h h' hN
  unfold RetG at HE ⊢
  generalize (if T then W else 0) = W' at *
  generalize (if T then H else 0) = H' at *
  generalize (if T then n else 0) = N' at *
  go_enter Try.func46, Try.ntmps46
  go_wp2_with fail
  refine (HT.out _ _ _ (by (repeat' first | exact Below.refl _ _ | (refine Below.setCell ?_ (by first | omega | (simp; omega) | simp) _) | (refine below_drewN ?_ _) | (refine Below.alloc ?_ (by first | omega | (simp; omega) | simp) _) | (refine Below.trans ?_ (Below.mono (by assumption) (by first | omega | (simp; omega) | simp))))) (by go_simp) (by go_simp) (by go_simp) (by go_simp) (by go_simp) (by go_simp)).mono ?_
  rintro e w1 ⟨rfl, hb1⟩
  have hz1 := hb1.size
  try simp only [World.size_alloc, World.size_setCell, World.heap_drewN, World.size_drew] at hz1
  obtain ⟨hc1, hf1⟩ := Fl.bcell hb1
  try simp only [World.heap_drewN, World.cell?_drewN, World.frozen?_drewN] at hc1 hf1
  have g1_0 : w.heap.size < w1.heap.size := by omega
  have g1_1 : w.heap.size + 1 < w1.heap.size := by omega
  have g1_2 : w.heap.size + 1 + 1 < w1.heap.size := by omega
  go_wp2_with fail
  refine (HX.out _).mono ?_
  rintro e w2 ⟨rfl, hb2⟩
  have hz2 := hb2.size
  try simp only [World.size_alloc, World.size_setCell, World.heap_drewN, World.size_drew] at hz2
  obtain ⟨hc2, hf2⟩ := Fl.bcell hb2
  try simp only [World.heap_drewN, World.cell?_drewN, World.frozen?_drewN] at hc2 hf2
  have g2_0 : w.heap.size < w2.heap.size := by omega
  have g2_1 : w.heap.size + 1 < w2.heap.size := by omega
  have g2_2 : w.heap.size + 1 + 1 < w2.heap.size := by omega
  go_wp2_with fail
  refine (HE.out _ (by (repeat' first | exact Below.refl _ _ | (refine Below.setCell ?_ (by first | omega | (simp; omega) | simp) _) | (refine below_drewN ?_ _) | (refine Below.alloc ?_ (by first | omega | (simp; omega) | simp) _) | (refine Below.trans ?_ (Below.mono (by assumption) (by first | omega | (simp; omega) | simp))))) (keep_block hb2 (keep_block hb1 (alloc_block (alloc_block (new_block _ _))))) (keep_block hb2 (keep_block hb1 (alloc_block (by simpa using new_block (w.alloc (.cells #[.int .i64 W, .int .i64 H, .slice a n cap] 40)) (.cells #[.int .i64 W, .int .i64 H, .slice a' n cap'] 40)))))).mono ?_
  rintro e w3 ⟨av, capv, rfl, ho, hb3⟩
  have hz3 := hb3.size
  try simp only [World.size_alloc, World.size_setCell, World.heap_drewN, World.size_drew] at hz3
  obtain ⟨hc3, hf3⟩ := Fl.bcell hb3
  try simp only [World.heap_drewN, World.cell?_drewN, World.frozen?_drewN] at hc3 hf3
  have g3_0 : w.heap.size < w3.heap.size := by omega
  have g3_1 : w.heap.size + 1 < w3.heap.size := by omega
  have g3_2 : w.heap.size + 1 + 1 < w3.heap.size := by omega
  have HO := Lib.hid ho
  clear ho
  go_wp2
  refine bodyPost_ret ?ohr rfl ⟨av, capv, rfl, ?oio, ?obel⟩
  case ohr => simp [results, Try.results46, go_sem, *]
  case oio =>
    refine (HO.out.keep fun g hg _ _ => ?_).wider (by omega) (by simp)
    try simp only [World.size_alloc] at hg
    rw [set_keep _ _ _ (by omega), set_keep _ _ _ (by omega), set_keep _ _ _ (by omega)]
  case obel => (repeat' first | exact Below.refl _ _ | (refine Below.setCell ?_ (by first | omega | (simp; omega) | simp) _) | (refine below_drewN ?_ _) | (refine Below.alloc ?_ (by first | omega | (simp; omega) | simp) _) | (refine Below.trans ?_ (Below.mono (by assumption) (by first | omega | (simp; omega) | simp))))

end Ba
end Go.Proofs.Ytbinjkaanbhikaa
