/- How far a stream is from one that belongs to a basin: the model. -/
import Derived.Test.YtbinjkaanbhikaaBaMg
import Derived.Test.YtbinjkaanbhikaaBaTw
namespace Go.Proofs.Ytbinjkaanbhikaa
set_option linter.unusedSimpArgs false
set_option linter.unusedVariables false
open Go.RowKit
set_option maxRecDepth 20000
namespace Ba
open Fl Rate

set_option maxHeartbeats 12800000 in
theorem spec_missgood (W H : Int) (a a' : Option Addr) (n cap cap' : Nat) (c d : Nat → Option Nat) (w : World) (h : IsY w a n cap c) (h' : IsY w a' n cap' d) (hA : okB W H n c = true) (hA2 : okB W H n d = true)
    (RE RL T : Bool) (hRE : (finC (Nums.accC c n) && allF (evC n c) n) = RE) (hRL : allF (lapC W H d) n = RL) (hT : (RL = true → RE = true → allF (misC W H n c d) n = T)) (hTn : (RL && RE) = false → T = false) (d2 : Option Nat) (hd2 : (if T = true then msF (misC W H n c d) n else some 0) = d2) :
    Calls Try.prog 42 #[bV W H a n cap, bV W H a' n cap'] w (fun e w' => ∃ r, e = .returned (.tuple #[.float .f32 r, .bool T]) ∧ Fr .f32 r d2 ∧ Below w.heap.size w w') := by
  have HV := Lib.hid (fun G G' w' (hb : Below w.heap.size w w') e0 e1 e2 i0 i1 i2 => spec_two G G' W H W H a a' n n cap cap' c d w' (h.later hb) (h'.later hb) true true hA hA2 e0 e1 e2 i0 i1 i2)
  have HE := Lib.hid (show ∀ G w', Below w.heap.size w w' → w'.heap[G]? = some (.cells #[.int .i64 W, .int .i64 H, .slice a n cap] 40) → Calls Try.prog 99 #[.pointer (some ⟨G, 0, none⟩)] w' (RetG RE W H n (evC n c) w') from fun G w' hb hG => hRE ▸ spec_even G W H a n cap c w' (h.later hb) hG hA _ _ rfl rfl)
  have HL := Lib.hid (show ∀ G w', Below w.heap.size w w' → w'.heap[G]? = some (.cells #[.int .i64 W, .int .i64 H, .slice a' n cap'] 40) → Calls Try.prog 100 #[.pointer (some ⟨G, 0, none⟩)] w' (RetG RL W H n (lapC W H d) w') from fun G w' hb hG => hRL ▸ spec_laplace G W H a' n cap' d w' (h'.later hb) hG hA2)
  have hn9 := okB_n hA
  have hw : (((true && true) && decide (W = W)) && decide (H = H)) = true := by rw [decide_eq_true rfl, decide_eq_true rfl]; rfl
  rw [hw] at HV
  have HD := Lib.hid hd2
  have zz := zero32
  have hwx : ∀ (k : Nat) (y : Nat), (misC W H n c d) k = some y → y < 4294967296 := fun k y => mis_lt k y
  unfold RetG at HE HL
  obtain ⟨W1, hW1⟩ : ∃ W1 : Int, (if RL then W else 0) = W1 := ⟨_, rfl⟩
  obtain ⟨H1, hH1⟩ : ∃ H1 : Int, (if RL then H else 0) = H1 := ⟨_, rfl⟩
  obtain ⟨N1, hN1⟩ : ∃ N1 : Nat, (if RL then n else 0) = N1 := ⟨_, rfl⟩
  obtain ⟨W2, hW2⟩ : ∃ W2 : Int, (if RE then W else 0) = W2 := ⟨_, rfl⟩
  obtain ⟨H2, hH2⟩ : ∃ H2 : Int, (if RE then H else 0) = H2 := ⟨_, rfl⟩
  obtain ⟨N2, hN2⟩ : ∃ N2 : Nat, (if RE then n else 0) = N2 := ⟨_, rfl⟩
  rw [hW1, hH1, hN1] at HL
  rw [hW2, hH2, hN2] at HE
  have HR := Lib.hid (And.intro hW1 (And.intro hH1 (And.intro hN1 (And.intro hW2 (And.intro hH2 hN2)))))
  have HTN := Lib.hid hTn
  have HTR := Lib.hid hT
  clear h h' hA hA2 hRL hRE hW1 hH1 hN1 hW2 hH2 hN2 hd2 hT hTn hw
  go_enter Try.func42, Try.ntmps42
  go_wp2_with fail
  refine (HV.out _ _ _ (by (repeat' first | exact Below.refl _ _ | (refine Below.setCell ?_ (by first | omega | (simp; omega) | simp) _) | (refine below_drewN ?_ _) | (refine Below.alloc ?_ (by first | omega | (simp; omega) | simp) _) | (refine Below.trans ?_ (Below.mono (by assumption) (by first | omega | (simp; omega) | simp))))) (by simp) (by simp) (by simp) (by simp) (by simp) (by simp)).mono ?_
  rintro e w1 ⟨rfl, hb1⟩
  have hz1 := hb1.size
  try simp only [World.size_alloc] at hz1
  have p1 : w1.heap[w.heap.size]? = some (.cells #[.int .i64 W, .int .i64 H, .slice a n cap] 40) := keep_block hb1 (alloc_block (new_block _ _))
  have p2 : w1.heap[w.heap.size + 1]? = some (.cells #[.int .i64 W, .int .i64 H, .slice a' n cap'] 40) := keep_block hb1 (by simpa using new_block (w.alloc (.cells #[.int .i64 W, .int .i64 H, .slice a n cap] 40)) (.cells #[.int .i64 W, .int .i64 H, .slice a' n cap'] 40))
  have P1 := Lib.hid p1
  have P2 := Lib.hid p2
  have HB1 := Lib.hid (show Below w.heap.size w w1 by (repeat' first | exact Below.refl _ _ | (refine Below.setCell ?_ (by first | omega | (simp; omega) | simp) _) | (refine below_drewN ?_ _) | (refine Below.alloc ?_ (by first | omega | (simp; omega) | simp) _) | (refine Below.trans ?_ (Below.mono (by assumption) (by first | omega | (simp; omega) | simp)))))
  clear hb1 p1 p2
  go_wp2_with fail
  refine (HE.out _ _ HB1.out P1.out).mono ?_
  rintro e w2 ⟨ae, ce, rfl, hoe, hb2⟩
  have hz2 := hb2.size
  have P22 := Lib.hid (keep_block hb2 P2.out)
  have HOE := Lib.hid hoe
  have HB2 := Lib.hid (HB1.out.trans (hb2.mono HB1.out.size))
  clear hb2 hoe P1 P2 HB1
  go_wp2_with fail
  refine (HL.out _ _ (HB2.out.alloc HB2.out.size _) (alloc_block P22.out)).mono ?_
  rintro e w3 ⟨al, cl1, rfl, hol, hb3⟩
  have hz3 := hb3.size
  try simp only [World.size_alloc] at hz3
  have q6 := keep_block hb3 (new_block w2 (.cells #[.int .i64 W2, .int .i64 H2, .slice ae N2 ce] 40))
  have Q6 := Lib.hid q6
  have HYE := Lib.hid ((HOE.out.y.alloc (.cells #[.int .i64 W2, .int .i64 H2, .slice ae N2 ce] 40)).later hb3)
  have HYL := Lib.hid hol.y
  have HB3 := Lib.hid ((HB2.out.alloc HB2.out.size (.cells #[.int .i64 W2, .int .i64 H2, .slice ae N2 ce] 40)).trans (hb3.mono (by have := HB2.out.size; simp; omega)))
  have l6 := block_lt q6
  have hsz := HB3.out.size
  clear hb3 hol q6 HOE P22 HB2
  cases RL
  · obtain rfl : T = false := HTN.out rfl
    cases RE
    all_goals
      go_wp2
      go_ret2
      have hd := HD.out
      rw [if_neg (by decide)] at hd
      subst hd
      exact ⟨_, rfl, zero32, HB3.out.alloc (by omega) _⟩
  cases RE
  · obtain rfl : T = false := HTN.out rfl
    go_wp2
    go_ret2
    have hd := HD.out
    rw [if_neg (by decide)] at hd
    subst hd
    exact ⟨_, rfl, zero32, HB3.out.alloc (by omega) _⟩
  · obtain ⟨rfl, rfl, rfl, rfl, rfl, rfl⟩ : W = W1 ∧ H = H1 ∧ n = N1 ∧ W = W2 ∧ H = H2 ∧ n = N2 := by
      have := HR.out
      simp only [if_true] at this
      exact this
    have HTT := Lib.hid (HTR.out rfl rfl)
    clear HTR HTN HR
    go_wp2
    go_loopw [10, 11] (fun v i wr => ∃ (k m : Nat), k ≤ n ∧ v = .float .f32 m ∧ i = .int .i64 (k : Int) ∧ Fr .f32 m (msF (misC W H n c d) k) ∧ allF (misC W H n c d) k = true ∧ wr.heap[w2.heap.size]? = some (.cells #[.int .i64 W, .int .i64 H, .slice ae n ce] 40) ∧ wr.heap[w3.heap.size]? = some (.cells #[.int .i64 W, .int .i64 H, .slice al n cl1] 40) ∧ IsY wr ae n ce (evC n c) ∧ IsY wr al n cl1 (lapC W H d) ∧ Below w.heap.size w wr)
      (fun _ i _ => n - (intOf i).toNat)
    case atStart => exact ⟨0, 0, Nat.zero_le _, rfl, rfl, zz, rfl, alloc_block Q6.out, new_block _ _, HYE.out.alloc _, HYL.out.alloc _, HB3.out.alloc (by omega) _⟩
    case round =>
      obtain ⟨k, m, hk, rfl, rfl, hm, hf, h6, h8, hye, hyl, hb⟩ := hrel
      have HB := Lib.hid hb
      have HYE1 := Lib.hid hye
      have HYL1 := Lib.hid hyl
      have HM := Lib.hid hm
      have HF := Lib.hid hf
      have HQ6' := Lib.hid h6
      have HQ8' := Lib.hid h8
      have k6 := block_lt h6
      have k8 := block_lt h8
      have hbs := hb.size
      have u0 := (cells_of (i := 0) h6).trans (show _ = some (.int .i64 W) from rfl)
      have u1 := (cells_of (i := 1) h6).trans (show _ = some (.int .i64 H) from rfl)
      have u2 := (cells_of (i := 2) h6).trans (show _ = some (.slice ae n ce) from rfl)
      have v0 := (cells_of (i := 0) h8).trans (show _ = some (.int .i64 W) from rfl)
      have v1 := (cells_of (i := 1) h8).trans (show _ = some (.int .i64 H) from rfl)
      have v2 := (cells_of (i := 2) h8).trans (show _ = some (.slice al n cl1) from rfl)
      clear hb hye hyl hf h6 h8
      by_cases hlt : k < n
      · obtain ⟨h2, h3, be, oe, h5, h6⟩ := HYE1.out
        obtain rfl := h5 (by omega)
        obtain ⟨xe, hxe, fxe⟩ := h6 k hlt
        obtain ⟨i2, i3, bl, ol, i5, i6⟩ := HYL1.out
        obtain rfl := i5 (by omega)
        obtain ⟨xl, hxl, fxl⟩ := i6 k hlt
        have lbe := block_lt_of_cell hxe
        have lbl := block_lt_of_cell hxl
        have hmd : decide ((k : Int) < (n : Int)) = true := decide_eq_true (by omega)
        have hm0 : 0 ≤ (k : Int) := by omega
        unfold maxLen at h3 i3
        clear h5 h6 i5 i6
        go_wp2
        refine Loose.wp_region_below 11 [] (by kernel_rfl) (by kernel_rfl) (by simp [undef]) ?_
        apply Exists.intro
        simp only [List.take_succ_cons, List.take_zero, List.drop_succ_cons, List.drop_zero]
        repeat (first | (apply Loose.walk_step; intro K hK; apply Loose.turn_value (hwant := rfl) (hd := rfl); (focus (intro w' hw'; obtain ⟨hc, hf⟩ := Fl.bcell hw'; go_simp; first | done | rfl | exact ⟨rfl, rfl⟩)); go_simp; refine hK _ ?_; clear hK K) | (apply Loose.walk_step; intro K hK; refine Loose.turn_fl (Nat.le_refl _) rfl rfl rfl rfl rfl rfl (by assumption) (by assumption) ?_; intro r hr; go_simp; refine hK _ ?_; clear hK K))
        refine Loose.walk_nil ?_
        intro w5 hcls5
        obtain ⟨hb5, _⟩ := hcls5
        obtain ⟨hc5, hf5⟩ := Fl.bcell hb5
        have hz5 := hb5.size
        try simp only [World.size_alloc, World.size_setCell, World.heap_drewN, World.size_drew] at hz5
        have HB5 := Lib.hid (HB.out.trans (hb5.mono hbs))
        have Q6 := Lib.hid (keep_block hb5 HQ6'.out)
        have Q8 := Lib.hid (keep_block hb5 HQ8'.out)
        have YE5 := Lib.hid (HYE1.out.later hb5)
        have YL5 := Lib.hid (HYL1.out.later hb5)
        clear hb5 hc5 hf5 hxe hxl
        have hrm : Fr .f32 r ((misC W H n c d) k) := hr
        clear hr
        cases h1 : cmpC .leq (ord .f32 ((misC W H n c d) k) (some 0))
        · go_wp2_with (refine Fl.wpList_cmp rfl rfl rfl rfl rfl (by assumption) (by assumption) ?_; try simp only [h1])
          have hfr : Fr .f32 r (absC ((misC W H n c d) k)) := by unfold absC; rw [h1]; rw [if_neg (by decide)]; exact hrm
          refine (spec_fin _ _ _ hfr).mono ?_
          rintro e w8 ⟨rfl, hb8⟩
          have hb9 : Below w5.heap.size w5 w8 := by first | exact hb8 | exact (below_drewN (Below.refl _ _) _).trans (hb8.mono (by simp))
          have hz8 := hb9.size
          have HB8 := Lib.hid (HB5.out.trans (hb9.mono HB5.out.size))
          have HQ6 := Lib.hid (keep_block hb9 Q6.out)
          have HQ8 := Lib.hid (keep_block hb9 Q8.out)
          have HE8 := Lib.hid (YE5.out.later hb9)
          have HL8 := Lib.hid (YL5.out.later hb9)
          clear hb8 hb9
          rw [abs_fin (hwx k)]
          cases hfk : finC ((misC W H n c d) k)
          · obtain rfl : T = false := by
              rw [← HTT.out]
              exact allF_le (k := k + 1) (by show (allF (misC W H n c d) k && finC ((misC W H n c d) k)) = false; rw [hfk, Bool.and_false]) (by omega)
            go_wp2
            go_ret2
            have hd := HD.out
            rw [if_neg (by decide)] at hd
            subst hd
            exact ⟨_, rfl, zero32, HB8.out⟩
          · cases h3 : cmpC .gtr (ord .f32 (absC ((misC W H n c d) k)) (msF (misC W H n c d) k))
            · go_wp2_with (refine Fl.wpList_cmp rfl rfl rfl rfl rfl (by assumption) (by assumption) ?_; try simp only [h3])
              go_roundw
              case measure => simp [intOf]; omega
              case rel => exact ⟨k + 1, _, by omega, rfl, by go_num, by show Fr .f32 _ (if cmpC .gtr (ord .f32 (absC ((misC W H n c d) k)) (msF (misC W H n c d) k)) = true then absC ((misC W H n c d) k) else msF (misC W H n c d) k); rw [h3, if_neg (by decide)]; exact hm, by show (allF (misC W H n c d) k && finC ((misC W H n c d) k)) = true; rw [HF.out, hfk]; rfl, HQ6.out, HQ8.out, HE8.out, HL8.out, HB8.out⟩
            · go_wp2_with (refine Fl.wpList_cmp rfl rfl rfl rfl rfl (by assumption) (by assumption) ?_; try simp only [h3])
              go_roundw
              case measure => simp [intOf]; omega
              case rel => exact ⟨k + 1, _, by omega, rfl, by go_num, by show Fr .f32 _ (if cmpC .gtr (ord .f32 (absC ((misC W H n c d) k)) (msF (misC W H n c d) k)) = true then absC ((misC W H n c d) k) else msF (misC W H n c d) k); rw [h3, if_pos rfl]; exact hfr, by show (allF (misC W H n c d) k && finC ((misC W H n c d) k)) = true; rw [HF.out, hfk]; rfl, HQ6.out, HQ8.out, HE8.out, HL8.out, HB8.out⟩
        · go_wp2_with (first | (refine Fl.wpList_cmp rfl rfl rfl rfl rfl (by assumption) (by assumption) ?_; try simp only [h1]) | (refine Fl.wpList_fl rfl rfl rfl rfl rfl (by assumption) (by assumption) ?_; intro r' n' hr'))
          have hfr : Fr .f32 r' (absC ((misC W H n c d) k)) := by unfold absC; rw [h1]; rw [if_pos rfl]; exact hr'
          refine (spec_fin _ _ _ hfr).mono ?_
          rintro e w8 ⟨rfl, hb8⟩
          have hb9 : Below w5.heap.size w5 w8 := by first | exact hb8 | exact (below_drewN (Below.refl _ _) _).trans (hb8.mono (by simp))
          have hz8 := hb9.size
          have HB8 := Lib.hid (HB5.out.trans (hb9.mono HB5.out.size))
          have HQ6 := Lib.hid (keep_block hb9 Q6.out)
          have HQ8 := Lib.hid (keep_block hb9 Q8.out)
          have HE8 := Lib.hid (YE5.out.later hb9)
          have HL8 := Lib.hid (YL5.out.later hb9)
          clear hb8 hb9
          rw [abs_fin (hwx k)]
          cases hfk : finC ((misC W H n c d) k)
          · obtain rfl : T = false := by
              rw [← HTT.out]
              exact allF_le (k := k + 1) (by show (allF (misC W H n c d) k && finC ((misC W H n c d) k)) = false; rw [hfk, Bool.and_false]) (by omega)
            go_wp2
            go_ret2
            have hd := HD.out
            rw [if_neg (by decide)] at hd
            subst hd
            exact ⟨_, rfl, zero32, HB8.out⟩
          · cases h3 : cmpC .gtr (ord .f32 (absC ((misC W H n c d) k)) (msF (misC W H n c d) k))
            · go_wp2_with (refine Fl.wpList_cmp rfl rfl rfl rfl rfl (by assumption) (by assumption) ?_; try simp only [h3])
              go_roundw
              case measure => simp [intOf]; omega
              case rel => exact ⟨k + 1, _, by omega, rfl, by go_num, by show Fr .f32 _ (if cmpC .gtr (ord .f32 (absC ((misC W H n c d) k)) (msF (misC W H n c d) k)) = true then absC ((misC W H n c d) k) else msF (misC W H n c d) k); rw [h3, if_neg (by decide)]; exact hm, by show (allF (misC W H n c d) k && finC ((misC W H n c d) k)) = true; rw [HF.out, hfk]; rfl, HQ6.out, HQ8.out, HE8.out, HL8.out, HB8.out⟩
            · go_wp2_with (refine Fl.wpList_cmp rfl rfl rfl rfl rfl (by assumption) (by assumption) ?_; try simp only [h3])
              go_roundw
              case measure => simp [intOf]; omega
              case rel => exact ⟨k + 1, _, by omega, rfl, by go_num, by show Fr .f32 _ (if cmpC .gtr (ord .f32 (absC ((misC W H n c d) k)) (msF (misC W H n c d) k)) = true then absC ((misC W H n c d) k) else msF (misC W H n c d) k); rw [h3, if_pos rfl]; exact hfr, by show (allF (misC W H n c d) k && finC ((misC W H n c d) k)) = true; rw [HF.out, hfk]; rfl, HQ6.out, HQ8.out, HE8.out, HL8.out, HB8.out⟩
      · obtain rfl : n = k := by omega
        obtain rfl : T = true := by rw [← HTT.out]; exact HF.out
        have hd := HD.out
        rw [if_pos rfl] at hd
        go_wp2
        go_ret2
        exact ⟨_, rfl, by rw [← hd]; exact HM.out, HB.out⟩

theorem mis_no {W H W' H' : Int} {n n' : Nat} {c d : Nat → Option Nat} {A A2 : Bool} (h : (((A && A2) && decide (W = W')) && decide (H = H')) = false) : misB W H W' H' n n' c d A A2 = false := by
  cases hT : misB W H W' H' n n' c d A A2
  · rfl
  · unfold misB at hT
    simp only [Bool.and_eq_true, decide_eq_true_eq] at hT
    obtain ⟨⟨⟨⟨⟨h1, _⟩, h2, _⟩, h3⟩, h4⟩, _⟩ := hT
    rw [h1, h2, decide_eq_true h3.symm, decide_eq_true h4.symm] at h
    cases h

set_option maxHeartbeats 6400000 in
theorem spec_MissB (W H W' H' : Int) (a a' : Option Addr) (n n' cap cap' : Nat) (c d : Nat → Option Nat) (w : World) (h : IsY w a n cap c) (h' : IsY w a' n' cap' d) (A A2 : Bool) (hA : okB W H n c = A) (hA2 : okB W' H' n' d = A2) : Calls Try.prog 42 #[bV W H a n cap, bV W' H' a' n' cap'] w (RetN (misR W H W' H' n n' c d A A2) w) := by
  unfold RetN
  rw [mis_fin]
  obtain ⟨L, hL⟩ : ∃ L, (((A && A2) && decide (W = W')) && decide (H = H')) = L := ⟨_, rfl⟩
  cases L
  · have HV := Lib.hid (fun G G' w' (hb : Below w.heap.size w w') e0 e1 e2 i0 i1 i2 => spec_two G G' W H W' H' a a' n n' cap cap' c d w' (h.later hb) (h'.later hb) A A2 hA hA2 e0 e1 e2 i0 i1 i2)
    rw [hL] at HV
    rw [mis_no hL]
    simp only [Bool.false_eq_true, if_false]
    clear h h' hA hA2 hL
    go_enter Try.func42, Try.ntmps42
    go_wp2_with fail
    refine (HV.out _ _ _ (by (repeat' first | exact Below.refl _ _ | (refine Below.setCell ?_ (by first | omega | (simp; omega) | simp) _) | (refine below_drewN ?_ _) | (refine Below.alloc ?_ (by first | omega | (simp; omega) | simp) _) | (refine Below.trans ?_ (Below.mono (by assumption) (by first | omega | (simp; omega) | simp))))) (by simp) (by simp) (by simp) (by simp) (by simp) (by simp)).mono ?_
    rintro e w1 ⟨rfl, hb1⟩
    go_wp2
    go_ret2
    exact ⟨_, rfl, zero32, by (repeat' first | exact Below.refl _ _ | (refine Below.setCell ?_ (by first | omega | (simp; omega) | simp) _) | (refine below_drewN ?_ _) | (refine Below.alloc ?_ (by first | omega | (simp; omega) | simp) _) | (refine Below.trans ?_ (Below.mono (by assumption) (by first | omega | (simp; omega) | simp))))⟩
  · simp only [Bool.and_eq_true, decide_eq_true_eq] at hL
    obtain ⟨⟨⟨rfl, rfl⟩, rfl⟩, rfl⟩ := hL
    obtain rfl : n = n' := by
      have h1 := (okB_of hA).2.2.1
      have h2 := (okB_of hA2).2.2.1
      omega
    have hm : ∀ RL RE : Bool, allF (lapC W H d) n = RL → (finC (Nums.accC c n) && allF (evC n c) n) = RE → misB W H W H n n c d true true = ((RL && RE) && allF (misC W H n c d) n) := by
      intro RL RE h1 h2
      unfold misB
      rw [h1, h2, decide_eq_true rfl, decide_eq_true rfl]
      simp
    obtain ⟨d2, hd2⟩ : ∃ d2, (if misB W H W H n n c d true true = true then misR W H W H n n c d true true else some 0) = d2 := ⟨_, rfl⟩
    rw [hd2]
    refine spec_missgood W H a a' n cap cap' c d w h h' hA hA2 _ _ _ rfl rfl (fun e1 e2 => ?_) (fun e => ?_) d2 ?_
    · rw [hm _ _ rfl rfl, e1, e2]; rfl
    · rw [hm _ _ rfl rfl, e]; rfl
    · rw [← hd2]
      cases hT : misB W H W H n n c d true true
      · rfl
      · unfold misR
        rw [hT]
        rfl

end Ba
end Go.Proofs.Ytbinjkaanbhikaa
