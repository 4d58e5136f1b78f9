/- Sweeps: the program. -/
import Derived.Test.YtbinjkaanbhikaaBaWo
import Derived.Test.YtbinjkaanbhikaaBaTi
import Derived.Test.YtbinjkaanbhikaaBaWs
namespace Go.Proofs.Ytbinjkaanbhikaa
set_option linter.unusedSimpArgs false
set_option linter.unusedVariables false
open Go.RowKit
set_option maxRecDepth 20000
namespace Ba
open Fl Rate

theorem jump_ret {l : Nat} {J : Act → World → Prop} {Q : Exit → Act → World → Prop} {a : Act} {w : World} : Exit.jump l J Q .ret a w = Q .ret a w := rfl

theorem impl_sweepsD (n : Int) (w : World) : Calls Try.prog 108 #[.int .i64 n] w (RetD (.bool (inB n 0 200)) w) := by
  by_cases h1 : 0 ≤ n
  all_goals by_cases h2 : n ≤ 200
  all_goals
    first | have d1 : decide (0 ≤ n) = true := decide_eq_true h1 | have d1 : decide (0 ≤ n) = false := decide_eq_false h1
    first | have d2 : decide (n ≤ 200) = true := decide_eq_true h2 | have d2 : decide (n ≤ 200) = false := decide_eq_false h2
    have D := Lib.hid (And.intro d1 d2)
    clear d1 d2
    unfold inB
    rw [D.out.1, D.out.2]
    go_enter Try.func108, Try.ntmps108
    go_wp2
    go_ret
    exact ⟨rfl, by (repeat' first | exact Below.refl _ _ | (refine Below.setCell ?_ (by first | omega | (simp; omega) | simp) _) | (refine below_drewN ?_ _) | (refine Below.alloc ?_ (by first | omega | (simp; omega) | simp) _) | (refine Below.trans ?_ (Below.mono (by assumption) (by first | omega | (simp; omega) | simp))))⟩

set_option maxHeartbeats 25600000 in
theorem impl_sweepgood (W H : Int) (a a' : Option Addr) (n cap cap' : Nat) (c d : Nat → Option Nat) (w : World) (h : IsY w a n cap c) (h' : IsY w a' n cap' d) (hA : okB W H n c = true) (hA2 : okB W H n d = true) (N : Nat) (hN : N ≤ 200)
    (hRE : (finC (Nums.accC c n) && allF (evC n c) n) = true) (R : Bool) (hR : allF (swS W H (evC n c) n d N) n = R) :
    Calls Try.prog 47 #[bV W H a n cap, bV W H a' n cap', .int .i64 (N : Int)] w (RetG R W H n (swS W H (evC n c) n d N) w) := by
  have hn9 := okB_n hA
  have hs := okB_of hA
  have HE := Lib.hid (show ∀ w', Below w.heap.size w w' → Calls Try.prog 102 #[bV W H a n cap] w' (RetG true W H n (evC n c) w') from fun w' hb => hRE ▸ impl_EvenB W H a n cap c w' (h.later hb) true hA _ _ rfl rfl)
  unfold RetG at HE ⊢
  simp only [if_true] at HE
  have HT := Lib.hid (fun g w' (hb : Below w.heap.size w w') j0 j1 j2 => impl_alike g W H W H a a' n n cap cap' c d w' (h.later hb) (h'.later hb) true true hA hA2 j0 j1 j2)
  have hw : (((true && true) && decide (W = W)) && decide (H = H)) = true := by rw [decide_eq_true rfl, decide_eq_true rfl]; rfl
  rw [hw] at HT
  have HX := Lib.hid (fun w => impl_sweepsD (N : Int) w)
  have hx : inB (N : Int) 0 200 = true := by unfold inB; rw [decide_eq_true (show (0 : Int) ≤ (N : Int) by omega), decide_eq_true (show (N : Int) ≤ 200 by omega)]; rfl
  rw [hx] at HX
  have HCL := Lib.hid (fun w' (hb : Below w.heap.size w w') => impl_clone W H a' n cap' d w' (h'.later hb) hn9)
  have hok : okB W H n (swS W H (evC n c) n d N) = R := by
    unfold okB; rw [hs.1, hs.2.1, hR, decide_eq_true hs.2.2.1]; rfl
  have HCK := Lib.hid (fun a cap w (h : IsY w a n cap (swS W H (evC n c) n d N)) => impl_checked W H a n cap _ w h R hok)
  have HSD := Lib.hid hs
  obtain ⟨W', hW'⟩ : ∃ W' : Int, (if R then W else 0) = W' := ⟨_, rfl⟩
  obtain ⟨H', hH'⟩ : ∃ H' : Int, (if R then H else 0) = H' := ⟨_, rfl⟩
  obtain ⟨N', hN'⟩ : ∃ N' : Nat, (if R then n else 0) = N' := ⟨_, rfl⟩
  rw [hW', hH', hN']
  have HR := Lib.hid (And.intro hW' (And.intro hH' hN'))
  clear h h' hA hA2 hRE hR hw hx hok hs hW' hH' hN'
  go_enter Try.func47, Try.ntmps47
  go_wp2
  refine wp_scope_jumps 0 (fun x wr => ∃ (k m : Nat) (v : Int) (p8 p10 : Nat) (ae a3 : Option Addr) (ce cap3 B L B' L' : Nat) (u0 u1 u2 u3 u4 u5 u7 u9 u12 u13 u14 u15 u16 u17 u18 u19 u20 u21 u22 u23 u24 u25 u26 u27 u28 u29 u30 u31 u32 u33 u34 u35 u36 u37 u38 u39 u40 u41 u42 u43 u44 u45 : Value), x = { tmps := #[u0, u1, u2, u3, u4, u5, .pointer (some ⟨w.heap.size + 1 + 1, 0, none⟩), u7, .pointer (some ⟨p8, 0, none⟩), u9, .pointer (some ⟨p10, 0, none⟩), .int .i64 v, u12, u13, u14, u15, u16, u17, u18, u19, u20, u21, u22, u23, u24, u25, u26, u27, u28, u29, u30, u31, u32, u33, u34, u35, u36, u37, u38, u39, u40, u41, u42, u43, u44, u45], defers := [] } ∧ k + m = N ∧ v = (m : Int) ∧ wr.heap[w.heap.size + 1 + 1]? = some (.cells #[.int .i64 0, .int .i64 0, .slice none 0 0] 40) ∧ wr.heap[p8]? = some (.cells #[.int .i64 W, .int .i64 H, .slice ae n ce] 40) ∧ wr.heap[p10]? = some (.cells #[.int .i64 W, .int .i64 H, .slice a3 n cap3] 40) ∧ IsO B L wr a3 n cap3 (swS W H (evC n c) n d k) ∧ IsO B' L' wr ae n ce (evC n c) ∧ L' ≤ B ∧ w.heap.size + 3 ≤ B ∧ L ≤ wr.heap.size ∧ Below w.heap.size w wr) (fun x _ => (intOf (x.tmps.getD 11 undef)).toNat) rfl ?_ ?_
  · go_wp2_with fail
    refine (HE.out _ (by (repeat' first | exact Below.refl _ _ | (refine Below.setCell ?_ (by first | omega | (simp; omega) | simp) _) | (refine below_drewN ?_ _) | (refine Below.alloc ?_ (by first | omega | (simp; omega) | simp) _) | (refine Below.trans ?_ (Below.mono (by assumption) (by first | omega | (simp; omega) | simp)))))).mono ?_
    rintro e w1 ⟨ae, ce, rfl, hoe, hb1⟩
    have hz1 := hb1.size
    try simp only [World.size_alloc, World.size_setCell, World.heap_drewN, World.size_drew] at hz1
    obtain ⟨hc1, hf1⟩ := Fl.bcell hb1
    try simp only [World.heap_drewN, World.cell?_drewN, World.frozen?_drewN] at hc1 hf1
    have g1_0 : w.heap.size < w1.heap.size := by omega
    have g1_1 : w.heap.size + 1 < w1.heap.size := by omega
    have g1_2 : w.heap.size + 1 + 1 < w1.heap.size := by omega
    have z1' : w1.heap[w.heap.size + 1 + 1]? = some (.cells #[.int .i64 0, .int .i64 0, .slice none 0 0] 40) := keep_block hb1 (by simpa using new_block ((w.alloc (.cells #[.int .i64 W, .int .i64 H, .slice a n cap] 40)).alloc (.cells #[.int .i64 W, .int .i64 H, .slice a' n cap'] 40)) (.cells #[.int .i64 0, .int .i64 0, .slice none 0 0] 40))
    have HZ1 := Lib.hid z1'
    have HOE := Lib.hid hoe
    clear z1' hoe
    go_wp2_with fail
    refine (HT.out _ _ (by (repeat' first | exact Below.refl _ _ | (refine Below.setCell ?_ (by first | omega | (simp; omega) | simp) _) | (refine below_drewN ?_ _) | (refine Below.alloc ?_ (by first | omega | (simp; omega) | simp) _) | (refine Below.trans ?_ (Below.mono (by assumption) (by first | omega | (simp; omega) | simp))))) (by go_simp) (by go_simp) (by go_simp)).mono ?_
    rintro e w2 ⟨rfl, hb2⟩
    have hz2 := hb2.size
    try simp only [World.size_alloc, World.size_setCell, World.heap_drewN, World.size_drew] at hz2
    obtain ⟨hc2, hf2⟩ := Fl.bcell hb2
    try simp only [World.heap_drewN, World.cell?_drewN, World.frozen?_drewN] at hc2 hf2
    have g2_0 : w.heap.size < w2.heap.size := by omega
    have g2_1 : w.heap.size + 1 < w2.heap.size := by omega
    have g2_2 : w.heap.size + 1 + 1 < w2.heap.size := by omega
    go_wp2_with fail
    refine (HX.out _).mono ?_
    rintro e w3 ⟨rfl, hb3⟩
    have hz3 := hb3.size
    try simp only [World.size_alloc, World.size_setCell, World.heap_drewN, World.size_drew] at hz3
    obtain ⟨hc3, hf3⟩ := Fl.bcell hb3
    try simp only [World.heap_drewN, World.cell?_drewN, World.frozen?_drewN] at hc3 hf3
    have g3_0 : w.heap.size < w3.heap.size := by omega
    have g3_1 : w.heap.size + 1 < w3.heap.size := by omega
    have g3_2 : w.heap.size + 1 + 1 < w3.heap.size := by omega
    go_wp2_with fail
    refine (HCL.out _ (by (repeat' first | exact Below.refl _ _ | (refine Below.setCell ?_ (by first | omega | (simp; omega) | simp) _) | (refine below_drewN ?_ _) | (refine Below.alloc ?_ (by first | omega | (simp; omega) | simp) _) | (refine Below.trans ?_ (Below.mono (by assumption) (by first | omega | (simp; omega) | simp)))))).mono ?_
    rintro e w4 ⟨a3, cap3, rfl, ho4, hb4⟩
    have hz4 := hb4.size
    have h8' : w2.heap[w1.heap.size]? = some (.cells #[.int .i64 W, .int .i64 H, .slice ae n ce] 40) := keep_block hb2 (alloc_block (new_block _ _))
    have hZ : (w4.alloc (.cells #[.int .i64 W, .int .i64 H, .slice a3 n cap3] 40)).heap[w.heap.size + 1 + 1]? = some (.cells #[.int .i64 0, .int .i64 0, .slice none 0 0] 40) := alloc_block (keep_block hb4 (keep_block hb3 (keep_block hb2 (alloc_block (alloc_block HZ1.out)))))
    have h8 : (w4.alloc (.cells #[.int .i64 W, .int .i64 H, .slice a3 n cap3] 40)).heap[w1.heap.size]? = some (.cells #[.int .i64 W, .int .i64 H, .slice ae n ce] 40) := alloc_block (keep_block hb4 (keep_block hb3 h8'))
    have h10 : (w4.alloc (.cells #[.int .i64 W, .int .i64 H, .slice a3 n cap3] 40)).heap[w4.heap.size]? = some (.cells #[.int .i64 W, .int .i64 H, .slice a3 n cap3] 40) := new_block _ _
    have hE' := (((((HOE.out.alloc (.cells #[.int .i64 W, .int .i64 H, .slice ae n ce] 40)).alloc _).later hb2).later hb3).later hb4).alloc (.cells #[.int .i64 W, .int .i64 H, .slice a3 n cap3] 40)
    have hO' := ho4.alloc (.cells #[.int .i64 W, .int .i64 H, .slice a3 n cap3] 40)
    have hB : Below w.heap.size w (w4.alloc (.cells #[.int .i64 W, .int .i64 H, .slice a3 n cap3] 40)) := by (repeat' first | exact Below.refl _ _ | (refine Below.setCell ?_ (by first | omega | (simp; omega) | simp) _) | (refine below_drewN ?_ _) | (refine Below.alloc ?_ (by first | omega | (simp; omega) | simp) _) | (refine Below.trans ?_ (Below.mono (by assumption) (by first | omega | (simp; omega) | simp))))
    have hLs : w4.heap.size ≤ (w4.alloc (.cells #[.int .i64 W, .int .i64 H, .slice a3 n cap3] 40)).heap.size := by simp
    obtain ⟨wr, hwr⟩ : ∃ x, x = w4.alloc (.cells #[.int .i64 W, .int .i64 H, .slice a3 n cap3] 40) := ⟨_, rfl⟩
    rw [← hwr] at hZ h8 h10 hE' hO' hB hLs
    have hbb := hb3.size
    have hLB : w1.heap.size ≤ w3.heap.size := by omega
    have hBw : w.heap.size + 3 ≤ w3.heap.size := by omega
    have hE := hE'
    have hO : IsO w3.heap.size w4.heap.size wr a3 n cap3 (swS W H (evC n c) n d 0) := hO'
    have hkm : 0 + N = N := Nat.zero_add N
    obtain ⟨v, hvm⟩ : ∃ x, x = (N : Int) := ⟨_, rfl⟩
    go_wp2
    go_step3
    rw [← hwr, ← hvm]
    clear hwr hE' hO' h8' hb1 hb2 hb3 hb4 hc1 hc2 hc3 hf1 hf2 hf3 HOE HZ1 ho4
    have lZ := block_lt hZ
    have l8 := block_lt h8
    have l10 := block_lt h10
    have HZ := Lib.hid hZ
    have H8 := Lib.hid h8
    have H10 := Lib.hid h10
    have HO := Lib.hid hO
    have HEV := Lib.hid hE
    have HB := Lib.hid hB
    have v0 := (cells_of (i := 0) h8).trans (show _ = some (.int .i64 W) from rfl)
    have v1 := (cells_of (i := 1) h8).trans (show _ = some (.int .i64 H) from rfl)
    have v2 := (cells_of (i := 2) h8).trans (show _ = some (.slice ae n ce) from rfl)
    have s0 := (cells_of (i := 0) h10).trans (show _ = some (.int .i64 W) from rfl)
    have s1 := (cells_of (i := 1) h10).trans (show _ = some (.int .i64 H) from rfl)
    have s2 := (cells_of (i := 2) h10).trans (show _ = some (.slice a3 n cap3) from rfl)
    clear hZ h8 h10 hO hE
    by_cases hm : N = 0
    · have hv0 : v = 0 := by omega
      have HON := Lib.hid (show IsO _ _ wr a3 n cap3 (swS W H (evC n c) n d N) by rw [show N = 0 by omega]; exact HO.out)
      have HCW := Lib.hid (fun w' (hb : Below wr.heap.size wr w') => HCK.out a3 cap3 w' (HON.out.y.later hb))
      subst hv0
      clear v0 v1 v2 hvm hkm hm
      go_wp2_with fail
      refine (HCW.out _ (by (repeat' first | exact Below.refl _ _ | (refine Below.setCell ?_ (by first | omega | (simp; omega) | simp) _) | (refine below_drewN ?_ _) | (refine Below.alloc ?_ (by first | omega | (simp; omega) | simp) _) | (refine Below.trans ?_ (Below.mono (by assumption) (by first | omega | (simp; omega) | simp)))))).mono ?_
      rintro e w9 ⟨rfl, hb9⟩
      have hz9 := hb9.size
      have hZ9 := keep_block hb9 HZ.out
      have HO9 := Lib.hid (HON.out.later hb9)
      have HB9 := Lib.hid (HB.out.trans (hb9.mono HB.out.size))
      have lz9 := block_lt hZ9
      clear hb9 s0 s1 s2
      have z0 := (cells_of (i := 0) hZ9).trans (show _ = some (.int .i64 0) from rfl)
      have z1 := (cells_of (i := 1) hZ9).trans (show _ = some (.int .i64 0) from rfl)
      have z2 := (cells_of (i := 2) hZ9).trans (show _ = some (.slice none 0 0) from rfl)
      have y0 := free_of hZ9 0
      have y1 := free_of hZ9 1
      have y2 := free_of hZ9 2
      clear hZ9
      cases R
      · go_wp2
        rw [jump_ret]
        have hR := HR.out
        simp only [Bool.false_eq_true, if_false, if_true] at hR
        obtain ⟨rfl, rfl, rfl⟩ := hR
        refine bodyPost_ret ?ohr rfl ⟨none, 0, rfl, isO_nil _ _ _ _, ?obel⟩
        case ohr => simp [results, Try.results47, go_sem, *]
        case obel =>
          have HBX := HB9.out
          (repeat' first | exact HBX | (refine Below.setCell ?_ (by first | omega | (simp; omega) | simp) _) | (refine Below.alloc ?_ (by first | omega | (simp; omega) | simp) _))
      · go_wp2
        rw [jump_ret]
        have hR := HR.out
        simp only [Bool.false_eq_true, if_false, if_true] at hR
        obtain ⟨rfl, rfl, rfl⟩ := hR
        refine bodyPost_ret ?ohr rfl ⟨a3, cap3, rfl, ?oio, ?obel⟩
        case ohr => simp [results, Try.results47, go_sem, *]
        case oio =>
          refine (HO9.out.keep fun g hg _ _ => ?_).wider (by omega) (by simp; omega)
          rw [set_keep _ _ _ (by omega), set_keep _ _ _ (by omega), set_keep _ _ _ (by omega)]
        case obel =>
          have HBX := HB9.out
          (repeat' first | exact HBX | (refine Below.setCell ?_ (by first | omega | (simp; omega) | simp) _) | (refine Below.alloc ?_ (by first | omega | (simp; omega) | simp) _))
    · have hv0 : ¬ v = 0 := by omega
      have hvd : decide (v = 0) = false := decide_eq_false hv0
      have hw1 : IntKind.i64.wrap (v - 1) = v - 1 := IntWalk.i64_in _ (by omega)
      go_wp2_with fail
      refine (impl_sweep W H a3 ae n cap3 ce _ _ _ _ _ _ _ HO.out HEV.out hLB hLs HSD.out.1 HSD.out.2.1 HSD.out.2.2.1).mono ?_
      rintro e w5 ⟨rfl, hO5, hE5, hB5, hT5⟩
      have hz5 := hB5.size
      have HO5 := Lib.hid hO5
      have HE5 := Lib.hid hE5
      have HB5 := Lib.hid hB5
      have HT5 := Lib.hid hT5
      clear hO5 hE5 hB5 hT5 s0 s1 s2 v0 v1 v2
      go_wp2
      go_step3
      exact ⟨rfl, ⟨0 + 1, N - 1, _, w1.heap.size, w4.heap.size, ae, a3, ce, cap3, _, _, _, _, _, _, _, _, _, _, _, _, _, _, _, _, _, _, _, _, _, _, _, _, _, _, _, _, _, _, _, _, _, _, _, _, _, _, _, _, _, _, _, _, _, _, rfl, by omega, by first | (show v - 1 = _; omega) | (go_num; omega) | omega, HT5.out _ _ _ HZ.out (by decide), HT5.out _ _ _ H8.out (by decide), HT5.out _ _ _ H10.out (by decide), HO5.out, HE5.out, hLB, hBw, by omega, HB.out.trans (HB5.out.mono (by omega))⟩⟩

  · rintro x wr ⟨k, m, v, p8, p10, ae, a3, ce, cap3, B, L, B', L', u0, u1, u2, u3, u4, u5, u7, u9, u12, u13, u14, u15, u16, u17, u18, u19, u20, u21, u22, u23, u24, u25, u26, u27, u28, u29, u30, u31, u32, u33, u34, u35, u36, u37, u38, u39, u40, u41, u42, u43, u44, u45, rfl, hkm, hvm, hZ, h8, h10, hO, hE, hLB, hBw, hLs, hB⟩
    have lZ := block_lt hZ
    have l8 := block_lt h8
    have l10 := block_lt h10
    have HZ := Lib.hid hZ
    have H8 := Lib.hid h8
    have H10 := Lib.hid h10
    have HO := Lib.hid hO
    have HEV := Lib.hid hE
    have HB := Lib.hid hB
    have v0 := (cells_of (i := 0) h8).trans (show _ = some (.int .i64 W) from rfl)
    have v1 := (cells_of (i := 1) h8).trans (show _ = some (.int .i64 H) from rfl)
    have v2 := (cells_of (i := 2) h8).trans (show _ = some (.slice ae n ce) from rfl)
    have s0 := (cells_of (i := 0) h10).trans (show _ = some (.int .i64 W) from rfl)
    have s1 := (cells_of (i := 1) h10).trans (show _ = some (.int .i64 H) from rfl)
    have s2 := (cells_of (i := 2) h10).trans (show _ = some (.slice a3 n cap3) from rfl)
    clear hZ h8 h10 hO hE
    by_cases hm : m = 0
    · have hv0 : v = 0 := by omega
      have HON := Lib.hid (show IsO B L wr a3 n cap3 (swS W H (evC n c) n d N) by rw [show N = k by omega]; exact HO.out)
      have HCW := Lib.hid (fun w' (hb : Below wr.heap.size wr w') => HCK.out a3 cap3 w' (HON.out.y.later hb))
      subst hv0
      clear v0 v1 v2 hvm hkm hm
      go_wp2_with fail
      refine (HCW.out _ (by (repeat' first | exact Below.refl _ _ | (refine Below.setCell ?_ (by first | omega | (simp; omega) | simp) _) | (refine below_drewN ?_ _) | (refine Below.alloc ?_ (by first | omega | (simp; omega) | simp) _) | (refine Below.trans ?_ (Below.mono (by assumption) (by first | omega | (simp; omega) | simp)))))).mono ?_
      rintro e w9 ⟨rfl, hb9⟩
      have hz9 := hb9.size
      have hZ9 := keep_block hb9 HZ.out
      have HO9 := Lib.hid (HON.out.later hb9)
      have HB9 := Lib.hid (HB.out.trans (hb9.mono HB.out.size))
      have lz9 := block_lt hZ9
      clear hb9 s0 s1 s2
      have z0 := (cells_of (i := 0) hZ9).trans (show _ = some (.int .i64 0) from rfl)
      have z1 := (cells_of (i := 1) hZ9).trans (show _ = some (.int .i64 0) from rfl)
      have z2 := (cells_of (i := 2) hZ9).trans (show _ = some (.slice none 0 0) from rfl)
      have y0 := free_of hZ9 0
      have y1 := free_of hZ9 1
      have y2 := free_of hZ9 2
      clear hZ9
      cases R
      · go_wp2
        rw [jump_ret]
        have hR := HR.out
        simp only [Bool.false_eq_true, if_false, if_true] at hR
        obtain ⟨rfl, rfl, rfl⟩ := hR
        refine bodyPost_ret ?ohr rfl ⟨none, 0, rfl, isO_nil _ _ _ _, ?obel⟩
        case ohr => simp [results, Try.results47, go_sem, *]
        case obel =>
          have HBX := HB9.out
          (repeat' first | exact HBX | (refine Below.setCell ?_ (by first | omega | (simp; omega) | simp) _) | (refine Below.alloc ?_ (by first | omega | (simp; omega) | simp) _))
      · go_wp2
        rw [jump_ret]
        have hR := HR.out
        simp only [Bool.false_eq_true, if_false, if_true] at hR
        obtain ⟨rfl, rfl, rfl⟩ := hR
        refine bodyPost_ret ?ohr rfl ⟨a3, cap3, rfl, ?oio, ?obel⟩
        case ohr => simp [results, Try.results47, go_sem, *]
        case oio =>
          refine (HO9.out.keep fun g hg _ _ => ?_).wider (by omega) (by simp; omega)
          rw [set_keep _ _ _ (by omega), set_keep _ _ _ (by omega), set_keep _ _ _ (by omega)]
        case obel =>
          have HBX := HB9.out
          (repeat' first | exact HBX | (refine Below.setCell ?_ (by first | omega | (simp; omega) | simp) _) | (refine Below.alloc ?_ (by first | omega | (simp; omega) | simp) _))
    · have hv0 : ¬ v = 0 := by omega
      have hvd : decide (v = 0) = false := decide_eq_false hv0
      have hw1 : IntKind.i64.wrap (v - 1) = v - 1 := IntWalk.i64_in _ (by omega)
      go_wp2_with fail
      refine (impl_sweep W H a3 ae n cap3 ce _ _ _ B L B' L' HO.out HEV.out hLB hLs HSD.out.1 HSD.out.2.1 HSD.out.2.2.1).mono ?_
      rintro e w5 ⟨rfl, hO5, hE5, hB5, hT5⟩
      have hz5 := hB5.size
      have HO5 := Lib.hid hO5
      have HE5 := Lib.hid hE5
      have HB5 := Lib.hid hB5
      have HT5 := Lib.hid hT5
      clear hO5 hE5 hB5 hT5 s0 s1 s2 v0 v1 v2
      go_wp2
      go_step3
      exact ⟨rfl, ⟨⟨k + 1, m - 1, _, p8, p10, ae, a3, ce, cap3, B, L, B', L', _, _, _, _, _, _, _, _, _, _, _, _, _, _, _, _, _, _, _, _, _, _, _, _, _, _, _, _, _, _, _, _, _, _, _, _, _, _, _, _, _, _, rfl, by omega, by first | (show v - 1 = _; omega) | (go_num; omega) | omega, HT5.out _ _ _ HZ.out (by decide), HT5.out _ _ _ H8.out (by decide), HT5.out _ _ _ H10.out (by decide), HO5.out, HE5.out, hLB, hBw, by omega, HB.out.trans (HB5.out.mono (by omega))⟩, by simp [intOf]; omega⟩⟩


end Ba
end Go.Proofs.Ytbinjkaanbhikaa
