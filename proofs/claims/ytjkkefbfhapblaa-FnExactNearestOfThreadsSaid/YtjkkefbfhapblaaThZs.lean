/- The nearest points of two threads: the model's function. -/
import Derived.Test.YtjkkefbfhapblaaThZ
namespace Go.Proofs.Ytjkkefbfhapblaa
set_option linter.unusedSimpArgs false
set_option linter.unusedVariables false
open Go.RowKit
set_option maxRecDepth 20000
namespace Th
open Fl Rate

/-- The state of the model ahead of the pair i, k: nothing ahead of the first pair. -/
def Mod (i k : Nat) (s : Nr) (X Y : Int) (L : Option Nat) : Prop := (i = 0 ∧ k = 0 ∧ X = -1 ∧ Y = -1) ∨ (0 < i + k ∧ X = (s.i : Int) ∧ Y = (s.k : Int) ∧ L = s.d)

set_option maxHeartbeats 6400000 in
theorem spec_NearT (a a' : Option Addr) (n n' cap cap' s s' : Nat) (cs cs' : Option Nat) (c c' : Nat → Option Nat) (w : World) (h : IsV w a n cap c) (h' : IsV w a' n' cap' c') (fs : Fr .f32 s cs) (fs' : Fr .f32 s' cs') (A A' : Bool) (hA : okT n cs c = A) (hA' : okT n' cs' c' = A') :
    Calls Try.prog 25 #[tV a n cap s, tV a' n' cap' s'] w (RetNT (A && A') (allN c c' n' n) w) := by
  have HA := Lib.hid (fun G w' (hb : Below w.heap.size w w') e0 e1 => spec_is G a n cap s cs c w' e0 e1 (h.later hb) fs A hA)
  have HA' := Lib.hid (fun G w' (hb : Below w.heap.size w w') e0 e1 => spec_is G a' n' cap' s' cs' c' w' e0 e1 (h'.later hb) fs' A' hA')
  cases A
  · clear hA hA' h h'
    go_enter Try.func25, Try.ntmps25
    go_wp2_with fail
    refine (HA.out _ _ (by (repeat' first | exact Below.refl _ _ | (refine Below.setCell ?_ (by first | omega | (simp; omega) | simp) _) | (refine below_drewN ?_ _) | (refine Below.alloc ?_ (by first | omega | (simp; omega) | simp) _) | (refine Below.trans ?_ (Below.mono (by assumption) (by first | omega | (simp; omega) | simp))))) (by simp) (by simp)).mono ?_
    rintro e w1 ⟨rfl, hb1⟩
    have hz1 := hb1.size
    simp only [World.size_alloc] at hz1
    go_wp2
    refine bodyPost_ret ?ohr rfl (retN_no ?obel)
    case ohr => simp [results, Try.results25, go_sem, *]
    case obel => (repeat' first | exact Below.refl _ _ | (refine Below.setCell ?_ (by first | omega | (simp; omega) | simp) _) | (refine below_drewN ?_ _) | (refine Below.alloc ?_ (by first | omega | (simp; omega) | simp) _) | (refine Below.trans ?_ (Below.mono (by assumption) (by first | omega | (simp; omega) | simp))))
  cases A'
  · clear hA hA' h h'
    go_enter Try.func25, Try.ntmps25
    go_wp2_with fail
    refine (HA.out _ _ (by (repeat' first | exact Below.refl _ _ | (refine Below.setCell ?_ (by first | omega | (simp; omega) | simp) _) | (refine below_drewN ?_ _) | (refine Below.alloc ?_ (by first | omega | (simp; omega) | simp) _) | (refine Below.trans ?_ (Below.mono (by assumption) (by first | omega | (simp; omega) | simp))))) (by simp) (by simp)).mono ?_
    rintro e w1 ⟨rfl, hb1⟩
    have hz1 := hb1.size
    simp only [World.size_alloc] at hz1
    have t0 : w1.cell? ⟨w.heap.size + 1, 0, none⟩ = some (.slice a' n' cap') := by rw [hb1.cell (p := ⟨w.heap.size + 1, 0, none⟩) (by simp)]; simp
    have t1 : w1.cell? ⟨w.heap.size + 1, 1, none⟩ = some (.float .f32 s') := by rw [hb1.cell (p := ⟨w.heap.size + 1, 1, none⟩) (by simp)]; simp
    have g1 : w.heap.size + 1 < w1.heap.size := by omega
    go_wp2_with fail
    refine (HA'.out (w.heap.size + 1) _ (Below.trans (by (repeat' first | exact Below.refl _ _ | (refine Below.setCell ?_ (by first | omega | (simp; omega) | simp) _) | (refine below_drewN ?_ _) | (refine Below.alloc ?_ (by first | omega | (simp; omega) | simp) _) | (refine Below.trans ?_ (Below.mono (by assumption) (by first | omega | (simp; omega) | simp))))) (hb1.mono (by simp only [World.size_alloc]; omega))) (by rw [hb1.cell (p := ⟨w.heap.size + 1, 0, none⟩) (by simp)]; simp) (by rw [hb1.cell (p := ⟨w.heap.size + 1, 1, none⟩) (by simp)]; simp)).mono ?_
    rintro e w2 ⟨rfl, hb2⟩
    go_wp2
    refine bodyPost_ret ?ohr rfl (retN_no ?obel)
    case ohr => simp [results, Try.results25, go_sem, *]
    case obel => (repeat' first | exact Below.refl _ _ | (refine Below.setCell ?_ (by first | omega | (simp; omega) | simp) _) | (refine below_drewN ?_ _) | (refine Below.alloc ?_ (by first | omega | (simp; omega) | simp) _) | (refine Below.trans ?_ (Below.mono (by assumption) (by first | omega | (simp; omega) | simp))))
  · obtain ⟨hn3, hn32, hsf, hfin⟩ := okT_of hA
    obtain ⟨hn3', hn32', hsf', hfin'⟩ := okT_of hA'
    have HY := Lib.hid h
    have HY' := Lib.hid h'
    clear hA hA' h h'
    go_enter Try.func25, Try.ntmps25
    go_wp2_with fail
    refine (HA.out _ _ (by (repeat' first | exact Below.refl _ _ | (refine Below.setCell ?_ (by first | omega | (simp; omega) | simp) _) | (refine below_drewN ?_ _) | (refine Below.alloc ?_ (by first | omega | (simp; omega) | simp) _) | (refine Below.trans ?_ (Below.mono (by assumption) (by first | omega | (simp; omega) | simp))))) (by simp) (by simp)).mono ?_
    rintro e w1 ⟨rfl, hb1⟩
    have hz1 := hb1.size
    simp only [World.size_alloc] at hz1
    have t0 : w1.cell? ⟨w.heap.size + 1, 0, none⟩ = some (.slice a' n' cap') := by rw [hb1.cell (p := ⟨w.heap.size + 1, 0, none⟩) (by simp)]; simp
    have t1 : w1.cell? ⟨w.heap.size + 1, 1, none⟩ = some (.float .f32 s') := by rw [hb1.cell (p := ⟨w.heap.size + 1, 1, none⟩) (by simp)]; simp
    have g1 : w.heap.size + 1 < w1.heap.size := by omega
    go_wp2_with fail
    refine (HA'.out (w.heap.size + 1) _ (Below.trans (by (repeat' first | exact Below.refl _ _ | (refine Below.setCell ?_ (by first | omega | (simp; omega) | simp) _) | (refine below_drewN ?_ _) | (refine Below.alloc ?_ (by first | omega | (simp; omega) | simp) _) | (refine Below.trans ?_ (Below.mono (by assumption) (by first | omega | (simp; omega) | simp))))) (hb1.mono (by simp only [World.size_alloc]; omega))) (by rw [hb1.cell (p := ⟨w.heap.size + 1, 0, none⟩) (by simp)]; simp) (by rw [hb1.cell (p := ⟨w.heap.size + 1, 1, none⟩) (by simp)]; simp)).mono ?_
    rintro e w2 ⟨rfl, hb2⟩
    clear t0 t1 g1
    have hz2 := hb2.size
    have hz1 := hb1.size
    simp only [World.size_alloc] at hz1
    have q2 : w2.heap[w.heap.size]? = some (.cells #[.slice a n cap, .float .f32 s] 33) := keep_block hb2 (keep_block hb1 (alloc_block (new_block w (.cells #[.slice a n cap, .float .f32 s] 33))))
    have q3 : w2.heap[w.heap.size + 1]? = some (.cells #[.slice a' n' cap', .float .f32 s'] 33) := keep_block hb2 (keep_block hb1 (by simpa using new_block (w.alloc (.cells #[.slice a n cap, .float .f32 s] 33)) (.cells #[.slice a' n' cap', .float .f32 s'] 33)))
    have e20 := (cells_of (i := 0) q2).trans (show _ = some (.slice a n cap) from rfl)
    have e30 := (cells_of (i := 0) q3).trans (show _ = some (.slice a' n' cap') from rfl)
    have l2 := block_lt q2
    have l3 := block_lt q3
    have hbw : Below w.heap.size w w2 := Below.trans (by (repeat' first | exact Below.refl _ _ | (refine Below.setCell ?_ (by first | omega | (simp; omega) | simp) _) | (refine below_drewN ?_ _) | (refine Below.alloc ?_ (by first | omega | (simp; omega) | simp) _) | (refine Below.trans ?_ (Below.mono (by assumption) (by first | omega | (simp; omega) | simp))))) (hb2.mono (by omega))
    have HBW := Lib.hid hbw
    have HE20 := Lib.hid e20
    have HE30 := Lib.hid e30
    clear q2 q3 hbw hb1 hb2
    have HDP := Lib.hid (fun i k (hi : i < n) (hk : k < n') => dist_pos hfin hfin' hi hk)
    obtain ⟨h2, h3, b, off, h5, h6⟩ := HY.out
    obtain ⟨h2', h3', b', off', h5', h6'⟩ := HY'.out
    obtain rfl := h5 (by omega)
    obtain rfl := h5' (by omega)
    have H6 := Lib.hid h6
    have H6' := Lib.hid h6'
    clear h5 h6 h5' h6' HY HY' hfin hfin'
    unfold maxLen at h3 h3'
    go_wp2
    clear e20 e30
    go_loopw [11, 8, 9, 10] (fun i x y l wr => ∃ (i' r : Nat) (X Y : Int) (L : Option Nat), i' ≤ n ∧ i = .int .i64 (i' : Int) ∧ x = .int .i64 X ∧ y = .int .i64 Y ∧ l = .float .f32 r ∧ Fr .f32 r L ∧ Mod i' 0 (allN c c' n' i') X Y L ∧ Below w2.heap.size w2 wr)
      (fun i _ _ _ _ => n - (intOf i).toNat)
    case atStart => exact ⟨0, 0, -1, -1, some 0, Nat.zero_le _, rfl, rfl, rfl, rfl, z32N, .inl ⟨rfl, rfl, rfl, rfl⟩, Below.refl _ _⟩
    case round =>
      obtain ⟨i, r, X, Y, L, hi, rfl, rfl, rfl, rfl, fr, hm, hb⟩ := hrel
      have HB := Lib.hid hb
      have HFR := Lib.hid fr
      have HM := Lib.hid hm
      have hzr := hb.size
      have e20 : wr.cell? ⟨w.heap.size, 0, none⟩ = some (.slice (some ⟨b, off, none⟩) n cap) := by rw [hb.cell (p := ⟨w.heap.size, 0, none⟩) (show w.heap.size < w2.heap.size by omega)]; exact HE20.out
      have e30 : wr.cell? ⟨w.heap.size + 1, 0, none⟩ = some (.slice (some ⟨b', off', none⟩) n' cap') := by rw [hb.cell (p := ⟨w.heap.size + 1, 0, none⟩) (show w.heap.size + 1 < w2.heap.size by omega)]; exact HE30.out
      clear hb fr hm
      by_cases hlt : i < n
      · go_wp2
        clear e20 e30
        go_loopw [12, 8, 9, 10] (fun j x y l wq => ∃ (k r : Nat) (X Y : Int) (L : Option Nat), k ≤ n' ∧ j = .int .i64 (k : Int) ∧ x = .int .i64 X ∧ y = .int .i64 Y ∧ l = .float .f32 r ∧ Fr .f32 r L ∧ Mod i k (rowN c c' i (allN c c' n' i) k) X Y L ∧ Below w2.heap.size w2 wq)
          (fun j _ _ _ _ => n' - (intOf j).toNat)
        case atStart => exact ⟨0, r, X, Y, L, Nat.zero_le _, rfl, rfl, rfl, rfl, HFR.out, HM.out, HB.out⟩
        case round =>
          obtain ⟨k, r1, X1, Y1, L1, hk, rfl, rfl, rfl, rfl, fr1, hm1, hb1⟩ := hrel
          have HB1 := Lib.hid hb1
          have hzr1 := hb1.size
          have e20 : wr.cell? ⟨w.heap.size, 0, none⟩ = some (.slice (some ⟨b, off, none⟩) n cap) := by rw [hb1.cell (p := ⟨w.heap.size, 0, none⟩) (show w.heap.size < w2.heap.size by omega)]; exact HE20.out
          have e30 : wr.cell? ⟨w.heap.size + 1, 0, none⟩ = some (.slice (some ⟨b', off', none⟩) n' cap') := by rw [hb1.cell (p := ⟨w.heap.size + 1, 0, none⟩) (show w.heap.size + 1 < w2.heap.size by omega)]; exact HE30.out
          have lw0 : w.heap.size < wr.heap.size := by omega
          have lw1 : w.heap.size + 1 < wr.heap.size := by omega
          clear hb1
          by_cases hlk : k < n'
          · have hp := HDP.out i k hlt hlk
            have HP := Lib.hid hp
            have HT := Lib.hid (show rowN c c' i (allN c c' n' i) (k + 1) = stepN (distC c c' i k) i k (rowN c c' i (allN c c' n' i) k) from rfl)
            have HF1 := Lib.hid (fun (h0 : i = 0) (h1 : k = 0) => show rowN c c' i (allN c c' n' i) (k + 1) = ⟨i, k, distC c c' i k⟩ by subst h0; subst h1; exact first_N HP.out)
            obtain ⟨x, y, z, hx, hy, hz, fx, fy, fz, hbr⟩ := at_v H6.out hlt (HBW.out.trans (HB1.out.mono (by omega)))
            obtain ⟨x', y', z', hx', hy', hz', fx', fy', fz', hbr'⟩ := at_v H6'.out hlk (HBW.out.trans (HB1.out.mono (by omega)))
            clear hp
            go_wp2_with fail
            refine Loose.wp_region_below 12 [] (by kernel_rfl) (by kernel_rfl) (by simp [undef]) ?_
            apply Exists.intro
            simp only [List.take_succ_cons, List.take_zero, List.drop_succ_cons, List.drop_zero]
            repeat (first | (apply Loose.walk_step; intro K hK; apply Loose.turn_value (hwant := rfl) (hd := rfl); (focus (intro w' hw'; obtain ⟨hc, hf⟩ := Fl.bcell hw'; go_simp; first | done | rfl | exact ⟨rfl, rfl⟩)); go_simp; refine hK _ ?_; clear hK K) | (apply Loose.walk_step; intro K hK; apply Loose.turn_callV (Nat.le_refl _) (hwant := rfl) (hd := rfl); (focus (intro w'; go_simp; first | done | rfl | exact ⟨rfl, rfl⟩)); (focus (intro w'; go_at_call 63; exact Vec.spec_less _ _ _ _ _ _ _ _ _ _ _ _ _ fx' fy' fz' fx fy fz)); intro x4 y4 z4 fx4 fy4 fz4; go_simp; refine hK _ ?_; clear hK K) | (apply Loose.walk_step; intro K hK; apply Loose.turn_callF (Nat.le_refl _) (hwant := rfl) (hd := rfl); (focus (intro w'; go_simp; first | done | rfl | exact ⟨rfl, rfl⟩)); (focus (intro w'; go_at_call 62; exact Size.spec_size _ _ _ _ _ _ _ fx4 fy4 fz4)); intro r5 hr5; go_simp; refine hK _ ?_; clear hK K))
            refine Loose.walk_nil ?_
            intro w6 hcls6
            obtain ⟨hb6, _⟩ := hcls6
            obtain ⟨hc6, hf6⟩ := Fl.bcell hb6
            have hz6 := hb6.size
            try simp only [World.size_alloc, World.size_setCell, World.heap_drewN, World.size_drew] at hz6
            clear e20 e30
            obtain ⟨D, hD⟩ : ∃ D, distC c c' i k = D := ⟨_, rfl⟩
            have fr7 : Fr .f32 r5 D := by rw [← hD]; exact hr5
            have HBY := Lib.hid (show Below w2.heap.size w2 w6 from HB1.out.trans (hb6.mono (by omega)))
            rw [hD] at HT HF1
            clear hD hr5 hb6 hc6 hf6 hx hy hz hx' hy' hz' fx4 fy4 fz4 fx fy fz fx' fy' fz' hbr hbr' HP
            rcases hm1 with ⟨h0, h1, rfl, rfl⟩ | ⟨h0, rfl, rfl, rfl⟩
            · have HT2 := Lib.hid (HF1.out h0 h1)
              clear HT HF1
              go_wp2
              go_roundw
              case rel => exact ⟨k + 1, r5, (i : Int), (k : Int), D, by omega, by go_num, rfl, rfl, rfl, fr7, .inr ⟨by omega, by rw [HT2.out], by rw [HT2.out], by rw [HT2.out]⟩, HBY.out⟩
              case measure => simp [intOf]; omega
            · obtain ⟨T, hT⟩ : ∃ T, rowN c c' i (allN c c' n' i) k = T := ⟨_, rfl⟩
              rw [hT] at HT fr1 ⊢
              have hn0 : ¬ (T.i : Int) < 0 := by omega
              clear HF1
              cases hB : cmpC .lss (ord .f32 D T.d)
              · have HT2 := Lib.hid (show rowN c c' i (allN c c' n' i) (k + 1) = T by rw [HT.out]; unfold stepN; rw [hB]; rfl)
                go_wp2_with (first | (refine Fl.wpList_cmp rfl rfl rfl rfl rfl fr7 fr1 ?_; try simp only [hB]))
                go_roundw
                case rel => exact ⟨k + 1, r1, (T.i : Int), (T.k : Int), T.d, by omega, by go_num, rfl, rfl, rfl, fr1, .inr ⟨by omega, by rw [HT2.out], by rw [HT2.out], by rw [HT2.out]⟩, HBY.out⟩
                case measure => simp [intOf]; omega
              · have HT2 := Lib.hid (show rowN c c' i (allN c c' n' i) (k + 1) = ⟨i, k, D⟩ by rw [HT.out]; unfold stepN; rw [hB]; rfl)
                go_wp2_with (first | (refine Fl.wpList_cmp rfl rfl rfl rfl rfl fr7 fr1 ?_; try simp only [hB]))
                go_roundw
                case rel => exact ⟨k + 1, r5, (i : Int), (k : Int), D, by omega, by go_num, rfl, rfl, rfl, fr7, .inr ⟨by omega, by rw [HT2.out], by rw [HT2.out], by rw [HT2.out]⟩, HBY.out⟩
                case measure => simp [intOf]; omega
          · obtain rfl : n' = k := by omega
            go_wp2
            go_roundw
            case rel =>
              refine ⟨i + 1, r1, X1, Y1, L1, by omega, by go_num, rfl, rfl, rfl, fr1, ?_, HB1.out⟩
              rcases hm1 with ⟨h0, h1, _, _⟩ | ⟨h0, h1, h2, h3⟩
              · omega
              · exact .inr ⟨by omega, h1, h2, h3⟩
            case measure => simp [intOf]; omega
      · obtain rfl : n = i := by omega
        have HBX := Lib.hid (HBW.out.trans (HB.out.mono (by omega)))
        have hm := HM.out
        rcases hm with ⟨h0, _, _, _⟩ | ⟨_, rfl, rfl, rfl⟩
        · omega
        have HFI := Lib.hid (fun w => spec_fin r (allN c c' n' n).d w HFR.out)
        have lw0 : w.heap.size < wr.heap.size := by omega
        clear e30
        cases hF : finC (allN c c' n' n).d
        · rw [hF] at HFI
          go_wp2_with fail
          refine (HFI.out _).mono ?_
          rintro e w9 ⟨rfl, hb9⟩
          have HB9 := Lib.hid (HBX.out.trans (hb9.mono (by omega)))
          go_wp2
          refine bodyPost_ret ?ohr rfl (retN_nofin hF HB9.out)
          case ohr => simp [results, Try.results25, go_sem, *]
        · rw [hF] at HFI
          go_wp2_with fail
          refine (HFI.out _).mono ?_
          rintro e w9 ⟨rfl, hb9⟩
          have HB9 := Lib.hid (HBX.out.trans (hb9.mono (by omega)))
          go_wp2
          refine bodyPost_ret ?ohr rfl (retN_yes hF HFR.out HB9.out)
          case ohr => simp [results, Try.results25, go_sem, *]

end Th
end Go.Proofs.Ytjkkefbfhapblaa
