/- How far a stream is from one that belongs to a basin: the program. -/
import Derived.Test.YtbinjkaanbhikaaBaMg
namespace Go.Proofs.Ytbinjkaanbhikaa
set_option linter.unusedSimpArgs false
set_option linter.unusedVariables false
open Go.RowKit
set_option maxRecDepth 20000
namespace Ba
open Fl Rate

set_option maxHeartbeats 12800000 in
theorem impl_MissB (W H W' H' : Int) (a a' : Option Addr) (n n' cap cap' : Nat) (c d : Nat → Option Nat) (w : World) (h : IsY w a n cap c) (h' : IsY w a' n' cap' d) (A A2 : Bool) (hA : okB W H n c = A) (hA2 : okB W' H' n' d = A2) : Calls Try.prog 43 #[bV W H a n cap, bV W' H' a' n' cap'] w (RetN (misR W H W' H' n n' c d A A2) w) := by
  unfold RetN
  rw [mis_fin]
  obtain ⟨T, hT⟩ : ∃ T, misB W H W' H' n n' c d A A2 = T := ⟨_, rfl⟩
  rw [hT]
  obtain ⟨d2, hd2⟩ : ∃ d2, (if T = true then misR W H W' H' n n' c d A A2 else some 0) = d2 := ⟨_, rfl⟩
  rw [hd2]
  obtain ⟨RL, hRL⟩ : ∃ RL, (A2 && allF (lapC W' H' d) n') = RL := ⟨_, rfl⟩
  obtain ⟨RE, hRE⟩ : ∃ RE, (A && (finC (Nums.accC c n) && allF (evC n c) n)) = RE := ⟨_, rfl⟩
  have HL := Lib.hid (show ∀ w', Below w.heap.size w w' → Calls Try.prog 101 #[bV W' H' a' n' cap'] w' (RetG RL W' H' n' (lapC W' H' d) w') from fun w' hb => hRL ▸ impl_LaplaceB W' H' a' n' cap' d w' (h'.later hb) A2 hA2)
  have HE := Lib.hid (show ∀ w', Below w.heap.size w w' → Calls Try.prog 102 #[bV W H a n cap] w' (RetG RE W H n (evC n c) w') from fun w' hb => hRE ▸ impl_EvenB W H a n cap c w' (h.later hb) A hA _ _ rfl rfl)
  have okl := okB_ret (f := lapC W' H' d) hA2 RL (fun e => by rw [e, Bool.and_eq_true] at hRL; exact hRL)
  have oke := okB_ret (f := evC n c) hA RE (fun e => by rw [e, Bool.and_eq_true, Bool.and_eq_true] at hRE; exact ⟨hRE.1, hRE.2.2⟩)
  have hTe : ((((RL && RE) && decide ((if RL then W' else 0) = (if RE then W else 0))) && decide ((if RL then H' else 0) = (if RE then H else 0))) && allF (misC W' H' n c d) (if RL then n' else 0)) = T := by
    rw [← hT]
    unfold misB
    rw [hRL, hRE]
    cases RL
    · rfl
    · cases RE
      · rfl
      · rfl
  have hTn : T = true → (if RL then n' else 0) = n' := by
    intro e
    rw [e] at hTe
    cases RL
    · cases hTe
    · rfl
  unfold RetG at HL HE
  obtain ⟨W1, hW1⟩ : ∃ W1 : Int, (if RL then W' else 0) = W1 := ⟨_, rfl⟩
  obtain ⟨H1, hH1⟩ : ∃ H1 : Int, (if RL then H' else 0) = H1 := ⟨_, rfl⟩
  obtain ⟨N1, hN1⟩ : ∃ N1 : Nat, (if RL then n' else 0) = N1 := ⟨_, rfl⟩
  obtain ⟨W2, hW2⟩ : ∃ W2 : Int, (if RE then W else 0) = W2 := ⟨_, rfl⟩
  obtain ⟨H2, hH2⟩ : ∃ H2 : Int, (if RE then H else 0) = H2 := ⟨_, rfl⟩
  obtain ⟨N2, hN2⟩ : ∃ N2 : Nat, (if RE then n else 0) = N2 := ⟨_, rfl⟩
  rw [hW1, hH1, hN1] at HL
  rw [hW2, hH2, hN2] at HE
  rw [hW1, hH1, hN1] at okl
  rw [hW2, hH2, hN2] at oke
  rw [hW1, hW2, hH1, hH2, hN1] at hTe
  rw [hN1] at hTn
  have HAD := Lib.hid (show ∀ (w' : World) (al ae : Option Addr) (cl ce : Nat), IsY w' al N1 cl (lapC W' H' d) → IsY w' ae N2 ce (evC n c) → Calls Try.prog 31 #[bV W1 H1 al N1 cl, bV W2 H2 ae N2 ce] w' (RetG T W1 H1 N1 (misC W' H' n c d) w') from fun w' al ae cl ce k1 k2 => hTe ▸ impl_AddB W1 H1 W2 H2 al ae N1 N2 cl ce _ _ w' k1 k2 RL RE okl oke)
  unfold RetG at HAD
  obtain ⟨W3, hW3⟩ : ∃ W3 : Int, (if T then W1 else 0) = W3 := ⟨_, rfl⟩
  obtain ⟨H3, hH3⟩ : ∃ H3 : Int, (if T then H1 else 0) = H3 := ⟨_, rfl⟩
  obtain ⟨N3, hN3⟩ : ∃ N3 : Nat, (if T then N1 else 0) = N3 := ⟨_, rfl⟩
  rw [hW3, hH3, hN3] at HAD
  have HD := Lib.hid hd2
  have HT := Lib.hid hT
  have HN3 := Lib.hid (show T = true → N3 = n' from fun e => by rw [← hN3, e, if_pos rfl]; exact hTn e)
  clear h h' hA hA2 hRL hRE okl oke hTe hTn hW1 hH1 hN1 hW2 hH2 hN2 hW3 hH3 hN3 hd2 hT
  go_enter Try.func43, Try.ntmps43
  go_wp2_with fail
  refine (HL.out _ (by (repeat' first | exact Below.refl _ _ | (refine Below.setCell ?_ (by first | omega | (simp; omega) | simp) _) | (refine below_drewN ?_ _) | (refine Below.alloc ?_ (by first | omega | (simp; omega) | simp) _) | (refine Below.trans ?_ (Below.mono (by assumption) (by first | omega | (simp; omega) | simp)))))).mono ?_
  rintro e w1 ⟨al, cl1, rfl, hol, hb1⟩
  have hz1 := hb1.size
  try simp only [World.size_alloc, World.size_setCell, World.heap_drewN, World.size_drew] at hz1
  obtain ⟨hc1, hf1⟩ := Fl.bcell hb1
  try simp only [World.heap_drewN, World.cell?_drewN, World.frozen?_drewN] at hc1 hf1
  have g1_0 : w.heap.size < w1.heap.size := by omega
  have g1_1 : w.heap.size + 1 < w1.heap.size := by omega
  have HOL := Lib.hid hol
  clear hol
  go_wp2_with fail
  refine (HE.out _ (by (repeat' first | exact Below.refl _ _ | (refine Below.setCell ?_ (by first | omega | (simp; omega) | simp) _) | (refine below_drewN ?_ _) | (refine Below.alloc ?_ (by first | omega | (simp; omega) | simp) _) | (refine Below.trans ?_ (Below.mono (by assumption) (by first | omega | (simp; omega) | simp)))))).mono ?_
  rintro e w2 ⟨ae, ce, rfl, hoe, hb2⟩
  have hz2 := hb2.size
  try simp only [World.size_alloc] at hz2
  have q6 := keep_block hb2 (new_block w1 (.cells #[.int .i64 W1, .int .i64 H1, .slice al N1 cl1] 40))
  have HY6 := Lib.hid ((HOL.out.y.alloc (.cells #[.int .i64 W1, .int .i64 H1, .slice al N1 cl1] 40)).later hb2)
  have HOE := Lib.hid hoe
  have HBW := Lib.hid (show Below w.heap.size w w2 by (repeat' first | exact Below.refl _ _ | (refine Below.setCell ?_ (by first | omega | (simp; omega) | simp) _) | (refine below_drewN ?_ _) | (refine Below.alloc ?_ (by first | omega | (simp; omega) | simp) _) | (refine Below.trans ?_ (Below.mono (by assumption) (by first | omega | (simp; omega) | simp)))))
  have s60 := (cells_of (i := 0) q6).trans (show _ = some (.int .i64 W1) from rfl)
  have s61 := (cells_of (i := 1) q6).trans (show _ = some (.int .i64 H1) from rfl)
  have s62 := (cells_of (i := 2) q6).trans (show _ = some (.slice al N1 cl1) from rfl)
  have l6 := block_lt q6
  clear hoe hb1 hb2 q6 hc1 hf1 HOL
  go_wp2_with fail
  refine (HAD.out _ _ _ _ _ (HY6.out.alloc _) (HOE.out.y.alloc _)).mono ?_
  rintro e w3 ⟨am, cm, rfl, hom, hb3⟩
  have hz3 := hb3.size
  try simp only [World.size_alloc] at hz3
  have HOM := Lib.hid hom.y
  have HB3 := Lib.hid ((HBW.out.alloc (by have := HBW.out.size; omega) (.cells #[.int .i64 W2, .int .i64 H2, .slice ae N2 ce] 40)).trans (hb3.mono (by have := HBW.out.size; simp; omega)))
  clear hom hb3 s60 s61 s62
  cases T
  · go_wp2
    go_ret2
    have hd := HD.out
    rw [if_neg (by decide)] at hd
    subst hd
    exact ⟨_, rfl, zero32, HB3.out.alloc (by have := HB3.out.size; omega) _⟩
  · obtain rfl : N3 = n' := HN3.out rfl
    have hd := HD.out
    rw [if_pos rfl, show misR W H W' H' n N3 c d A A2 = msF (misC W' H' n c d) N3 by unfold misR; rw [HT.out, if_pos rfl]] at hd
    have HD2 := Lib.hid hd
    have hsz := HB3.out.size
    clear hd HD
    go_wp2
    go_loopw [12, 36] (fun v i wr => ∃ (k m : Nat), k ≤ N3 ∧ v = .float .f32 m ∧ i = .int .i64 (k : Int) ∧ msF (misC W' H' n c d) k = some m ∧ Good m ∧ IsY wr am N3 cm (misC W' H' n c d) ∧ Below w.heap.size w wr)
      (fun _ i _ => N3 - (intOf i).toNat)
    case atStart => exact ⟨0, 0, Nat.zero_le _, rfl, rfl, rfl, good_zero, HOM.out.alloc _, HB3.out.alloc (by omega) _⟩
    case round =>
      obtain ⟨k, m, hk, rfl, rfl, hm, hg, hy, hb⟩ := hrel
      have HB := Lib.hid hb
      have HY := Lib.hid hy
      have HM := Lib.hid hm
      have HG := Lib.hid hg
      clear hb hy hm hg
      by_cases hlt : k < N3
      · obtain ⟨h2, h3, b, off, h5, h6⟩ := HY.out
        obtain rfl := h5 (by omega)
        obtain ⟨x, hx, fx⟩ := h6 k hlt
        have hfa : allF (misC W' H' n c d) N3 = true := by
          have := HT.out
          unfold misB at this
          rw [Bool.and_eq_true] at this
          exact this.2
        have hfk := allF_at hfa k hlt
        obtain ⟨y, hy⟩ : ∃ y, misC W' H' n c d k = some y := by
          cases hc : misC W' H' n c d k with
          | none => rw [hc] at hfk; cases hfk
          | some y => exact ⟨y, rfl⟩
        have HY' := Lib.hid hy
        rw [hy] at fx hfk
        obtain rfl := eq_of_some fx
        obtain ⟨s, q, p, hdx⟩ := decode_fin (k := .f32) (b := x) hfk
        obtain ⟨m', g1, g2, g3, g4, g5⟩ := step_max HG.out fx.2 hdx
        have hmax := run_max3f (P := Try.prog) m x (Op.negFloat .f32 x) g4 g5
        rw [g3] at hmax
        have G1 := Lib.hid g1
        have G2 := Lib.hid g2
        have hmd : decide ((k : Int) < (N3 : Int)) = true := decide_eq_true (by omega)
        have lb := block_lt_of_cell hx
        unfold maxLen at h3
        clear h5 h6 hfa hfk hy fx hdx g1 g2 g3 g4 g5
        go_wp2
        go_roundw
        case rel => exact ⟨k + 1, m', by omega, rfl, by go_num, by show (if cmpC .gtr (ord .f32 (absC (misC W' H' n c d k)) (msF (misC W' H' n c d) k)) = true then absC (misC W' H' n c d k) else msF (misC W' H' n c d) k) = some m'; rw [HY'.out, HM.out]; exact G1.out, G2.out, HY.out, HB.out⟩
        case measure => simp [intOf]; omega
      · obtain rfl : N3 = k := by omega
        go_wp2
        go_ret2
        refine ⟨_, rfl, ?_, HB.out⟩
        have hd := HD2.out
        rw [HM.out] at hd
        rw [← hd]
        exact good_fr HG.out

end Ba
end Go.Proofs.Ytbinjkaanbhikaa
