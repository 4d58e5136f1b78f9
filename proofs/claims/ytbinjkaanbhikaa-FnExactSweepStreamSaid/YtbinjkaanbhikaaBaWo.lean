/- Sweeps: one sweep of the program. -/
import Derived.Test.YtbinjkaanbhikaaBaWf
import Derived.Test.YtbinjkaanbhikaaBaG
namespace Go.Proofs.Ytbinjkaanbhikaa
set_option linter.unusedSimpArgs false
set_option linter.unusedVariables false
open Go.RowKit
set_option maxRecDepth 20000
namespace Ba
open Fl Rate

/-- Blocks that hold no row of numbers stay. -/
def Oth (w w' : World) : Prop := ∀ (b : Nat) (cs : Array Value) (T : TypeId), w.heap[b]? = some (.cells cs T) → T ≠ 28 → w'.heap[b]? = some (.cells cs T)

theorem Oth.below {w w' : World} (h : Below w.heap.size w w') : Oth w w' := fun _ _ _ hb _ => keep_block h hb

theorem Oth.trans {w w' w'' : World} (h : Oth w w') (h' : Oth w' w'') : Oth w w'' := fun b cs T hb hT => h' b cs T (h b cs T hb hT) hT

theorem Oth.put {w : World} {g : Nat} {cur : Array Value} (h : w.heap[g]? = some (.cells cur 28)) (i : Nat) (v : Value) : Oth w (w.setCell ⟨g, i, none⟩ v) := fun b cs T hb hT => by
  rw [set_keep _ _ _ (ne_row hb h hT)]; exact hb

theorem mod_cell {W : Int} {x y : Nat} (hW : 0 < W) (hx : (x : Int) < W) : (((W * (y : Int)).toNat + x : Nat) : Int) % W = (x : Int) := by
  have h0 : 0 ≤ W * (y : Int) := Int.mul_nonneg (by omega) (by omega)
  have e : (((W * (y : Int)).toNat + x : Nat) : Int) = (x : Int) + W * (y : Int) := by omega
  rw [e, Int.add_mul_emod_self_left, Int.emod_eq_of_lt (by omega) hx]

theorem div_cell {W : Int} {x y : Nat} (hW : 0 < W) (hx : (x : Int) < W) : (((W * (y : Int)).toNat + x : Nat) : Int) / W = (y : Int) := by
  have h0 : 0 ≤ W * (y : Int) := Int.mul_nonneg (by omega) (by omega)
  have e : (((W * (y : Int)).toNat + x : Nat) : Int) = (x : Int) + W * (y : Int) := by omega
  rw [e, Int.add_mul_ediv_left _ _ (by omega), Int.ediv_eq_zero_of_lt (by omega) hx, Int.zero_add]

theorem cellW_at {W H : Int} {x y : Nat} (hx : (x : Int) < W) (hy : (y : Int) < H) (hW : 0 < W) (e c : Nat → Option Nat) :
    cellW W H e c ((W * (y : Int)).toNat + x) = op2 .mul .f32 (some 1048576000) (op2 .add .f32 (fourC c W H (x : Int) (y : Int)) (e (idx W H (x : Int) (y : Int)))) := by
  unfold cellW
  rw [mod_cell hW hx, div_cell hW hx, idx_cell hx hy]

set_option maxHeartbeats 12800000 in
theorem impl_sweep (W H : Int) (a ae : Option Addr) (n cap ce : Nat) (c e : Nat → Option Nat) (w : World) (B L B' L' : Nat) (hO : IsO B L w a n cap c) (hE : IsO B' L' w ae n ce e) (hLB : L' ≤ B) (hL : L ≤ w.heap.size) (h1 : sideB W = true) (h2 : sideB H = true) (hn : (n : Int) = W * H) :
    Calls Try.prog 110 #[bV W H a n cap, bV W H ae n ce] w (fun en w' => en = .returned (.tuple #[]) ∧ IsO B L w' a n cap (swP W H e c n) ∧ IsO B' L' w' ae n ce e ∧ Below B w w' ∧ Oth w w') := by
  have hmul := mul_bd h1 h2
  have sW := side_of h1
  have sH := side_of h2
  have q32 := quarter32
  have HO0 := Lib.hid hO
  have HE0 := Lib.hid hE
  have HSD := Lib.hid (And.intro h1 (And.intro h2 hn))
  obtain ⟨k2, k3, g, cur, k5, k6, k7⟩ := hO
  obtain ⟨rfl, hBg, hgL, hcur⟩ := k5 (by omega)
  obtain ⟨l2, l3, gl, curl, l5, l6, l7⟩ := hE
  obtain ⟨rfl, hBl, hlL, hcurl⟩ := l5 (by omega)
  clear k5 k6 k7 l5 l6 l7 hcur hcurl h1 h2 hn
  have hWt : (W.toNat : Int) = W := by omega
  have hHt : (H.toNat : Int) = H := by omega
  go_enter Try.func110, Try.ntmps110
  go_wp2
  go_loopw [9] (fun i wr => ∃ (y : Nat), (y : Int) ≤ H ∧ i = .int .i64 (y : Int) ∧ wr.heap[w.heap.size]? = some (.cells #[.int .i64 W, .int .i64 H, .slice (some ⟨g, 0, none⟩) n cap] 40) ∧ wr.heap[w.heap.size + 1]? = some (.cells #[.int .i64 W, .int .i64 H, .slice (some ⟨gl, 0, none⟩) n ce] 40) ∧ IsO B L wr (some ⟨g, 0, none⟩) n cap (swP W H e c (W * (y : Int)).toNat) ∧ IsO B' L' wr (some ⟨gl, 0, none⟩) n ce e ∧ Below B w wr ∧ Oth w wr)
    (fun i _ => H.toNat - (intOf i).toNat)
  case atStart => exact ⟨0, by omega, rfl, alloc_block (new_block _ _), by simpa using new_block (w.alloc (.cells #[.int .i64 W, .int .i64 H, .slice (some ⟨g, 0, none⟩) n cap] 40)) (.cells #[.int .i64 W, .int .i64 H, .slice (some ⟨gl, 0, none⟩) n ce] 40), by simpa [swP] using (HO0.out.alloc _).alloc _, (HE0.out.alloc _).alloc _, ((Below.refl _ _).alloc (by omega) _).alloc (by simp; omega) _, Oth.below (((Below.refl _ _).alloc (by omega) _).alloc (by simp) _)⟩
  case round =>
    obtain ⟨y, hy, rfl, hS, hD, hO, hE, hB, hT⟩ := hrel
    have HS := Lib.hid hS
    have HD := Lib.hid hD
    have HO := Lib.hid hO
    have HE := Lib.hid hE
    have HB := Lib.hid hB
    have HOT := Lib.hid hT
    have lS := block_lt hS
    have u0 := (cells_of (i := 0) hS).trans (show _ = some (.int .i64 W) from rfl)
    have u1 := (cells_of (i := 1) hS).trans (show _ = some (.int .i64 H) from rfl)
    have u2 := (cells_of (i := 2) hS).trans (show _ = some (.slice (some ⟨g, 0, none⟩) n cap) from rfl)
    clear hS hD hO hE hB hT
    by_cases hlt : (y : Int) < H
    · have hr1 : W * ((y : Int) + 1) ≤ (n : Int) := by rw [HSD.out.2.2]; exact Int.mul_le_mul_of_nonneg_left (by omega) (by omega)
      have hr2 : W * ((y : Int) + 1) = W * (y : Int) + W := by rw [Int.mul_add, Int.mul_one]
      have hr0 : 0 ≤ W * (y : Int) := Int.mul_nonneg (by omega) (by omega)
      have HRR := Lib.hid (And.intro hr0 (And.intro hr1 hr2))
      clear hr0 hr1 hr2
      go_wp2_with (go_at_call 121; refine (row_run g n cap W (y : Int) _ sW (by omega) HRR.out.2.1 (by omega) (by omega)).mono ?_; rintro e w3 ⟨rfl, rfl⟩)
      clear u0 u1 u2
      go_loopw [20] (fun j wj => ∃ (x : Nat), (x : Int) ≤ W ∧ j = .int .i64 (x : Int) ∧ wj.heap[w.heap.size]? = some (.cells #[.int .i64 W, .int .i64 H, .slice (some ⟨g, 0, none⟩) n cap] 40) ∧ wj.heap[w.heap.size + 1]? = some (.cells #[.int .i64 W, .int .i64 H, .slice (some ⟨gl, 0, none⟩) n ce] 40) ∧ IsO B L wj (some ⟨g, 0, none⟩) n cap (swP W H e c ((W * (y : Int)).toNat + x)) ∧ IsO B' L' wj (some ⟨gl, 0, none⟩) n ce e ∧ Below B w wj ∧ Oth w wj)
        (fun j _ => W.toNat - (intOf j).toNat)
      case atStart => exact ⟨0, by omega, rfl, HS.out, HD.out, HO.out, HE.out, HB.out, HOT.out⟩
      case round =>
        clear HS HD HO HE HB HOT lS
        obtain ⟨x, hx, rfl, hS, hD, hO, hE, hB, hT⟩ := hrel
        have HS := Lib.hid hS
        have HD := Lib.hid hD
        have HO := Lib.hid hO
        have HE := Lib.hid hE
        have HB := Lib.hid hB
        have HOT := Lib.hid hT
        have lS := block_lt hS
        have lD := block_lt hD
        have u0 := (cells_of (i := 0) hS).trans (show _ = some (.int .i64 W) from rfl)
        have u1 := (cells_of (i := 1) hS).trans (show _ = some (.int .i64 H) from rfl)
        have u2 := (cells_of (i := 2) hS).trans (show _ = some (.slice (some ⟨g, 0, none⟩) n cap) from rfl)
        have v0 := (cells_of (i := 0) hD).trans (show _ = some (.int .i64 W) from rfl)
        have v1 := (cells_of (i := 1) hD).trans (show _ = some (.int .i64 H) from rfl)
        have v2 := (cells_of (i := 2) hD).trans (show _ = some (.slice (some ⟨gl, 0, none⟩) n ce) from rfl)
        clear hS hD hO hE hB hT
        by_cases hltx : (x : Int) < W
        · have hxn : x < W.toNat := by omega
          have hJ : (W * (y : Int)).toNat + x < n := by have := HRR.out; omega
          have hcw := cellW_at hltx hlt (show 0 < W by omega) e (swP W H e c ((W * (y : Int)).toNat + x))
          obtain ⟨k2, k3, g', cur, k5, k6, k7⟩ := HO.out
          obtain ⟨ka, _, _, hcur⟩ := k5 (by omega)
          obtain rfl : g = g' := by simpa using ka
          obtain ⟨xk, hxk, fxk⟩ := k7 _ hJ
          have ek := (cells_of (i := (W * (y : Int)).toNat + x) hcur).trans hxk
          have fg := free_of hcur ((W * (y : Int)).toNat + x)
          have lg := block_lt hcur
          have HCur := Lib.hid hcur
          have HCW := Lib.hid hcw
          have hbB := HB.out.size
          clear k2 k3 k5 k6 k7 ka hcur hxk fxk hcw
          go_wp2
          refine Loose.wp_region_below 13 [] (by kernel_rfl) (by kernel_rfl) (by simp [undef]) ?_
          apply Exists.intro
          simp only [List.take_succ_cons, List.take_zero, List.drop_succ_cons, List.drop_zero]
          repeat (first | (apply Loose.walk_step; intro K hK; apply Loose.turn_value (hwant := rfl) (hd := rfl); (focus (intro w' hw'; obtain ⟨hc, hf⟩ := Fl.bcell hw'; go_simp; first | done | rfl | exact ⟨rfl, rfl⟩)); go_simp; refine hK _ ?_; clear hK K) | (apply Loose.walk_step; intro K hK; apply Loose.turn_callFB (Nat.le_refl _) (hwant := rfl) (hd := rfl); (focus (intro w'; go_simp; first | done | rfl | exact ⟨rfl, rfl⟩)); (focus (intro w' hw'; go_at_call 84; exact impl_at W H (some ⟨gl, 0, none⟩) n ce e w' (HE.out.y.later hw') HSD.out.1 HSD.out.2.1 HSD.out.2.2 (x : Int) (y : Int) (by omega) (by omega))); intro r hr; go_simp; refine hK _ ?_; clear hK K) | (apply Loose.walk_step; intro K hK; apply Loose.turn_callFB (Nat.le_refl _) (hwant := rfl) (hd := rfl); (focus (intro w'; go_simp; first | done | rfl | exact ⟨rfl, rfl⟩)); (focus (intro w' hw'; go_at_call 153; exact impl_around W H (some ⟨g, 0, none⟩) n cap _ w' (HO.out.y.later hw') HSD.out.1 HSD.out.2.1 HSD.out.2.2 (x : Int) (y : Int) (by omega) (by omega))); intro r hr; go_simp; refine hK _ ?_; clear hK K) | (apply Loose.walk_step; intro K hK; apply Loose.turn_callF (Nat.le_refl _) (hwant := rfl) (hd := rfl); (focus (intro w'; go_simp; first | done | rfl | exact ⟨rfl, rfl⟩)); (focus (intro w'; go_at_call 69; exact product_run _ _ _ _ _ (by assumption) (by assumption))); intro r hr; go_simp; refine hK _ ?_; clear hK K) | (apply Loose.walk_step; intro K hK; refine Loose.turn_fl (Nat.le_refl _) rfl rfl rfl rfl rfl rfl (by assumption) (by assumption) ?_; intro r hr; go_simp; refine hK _ ?_; clear hK K))
          refine Loose.walk_nil ?_
          intro w7 hcls7
          obtain ⟨hb7, _⟩ := hcls7
          obtain ⟨hc7, hf7⟩ := Fl.bcell hb7
          have hz7 := hb7.size
          try simp only [World.size_alloc, World.size_setCell, World.heap_drewN, World.size_drew] at hz7
          have l7 : g < w7.heap.size := by omega
          go_wp2
          go_roundw
          case rel =>
            have HO7 := HO.out.later hb7
            exact ⟨x + 1, by omega, by go_num, by rw [set_keep _ _ _ (ne_row HS.out HCur.out (by decide))]; exact keep_block hb7 HS.out, by rw [set_keep _ _ _ (ne_row HD.out HCur.out (by decide))]; exact keep_block hb7 HD.out, by
              have hp := isO_put HO7 (by assumption) hJ
              rw [← HCW.out] at hp
              exact hp, (HE.out.later hb7).keep fun g' hg' _ _ => set_keep _ _ _ (by omega), Below.setCell (HB.out.trans (hb7.mono (by omega))) hBg (p := ⟨g, _, none⟩) _, (HOT.out.trans (Oth.below hb7)).trans (Oth.put (keep_block hb7 HCur.out) _ _)⟩
          case measure => simp [intOf]; omega
        · have hxe : (x : Int) = W := by omega
          have HX := Lib.hid hxe
          clear hxe
          go_wp2
          go_roundw
          case rel =>
            refine ⟨y + 1, by omega, by go_num, HS.out, HD.out, ?_, HE.out, HB.out, HOT.out⟩
            have hr := HRR.out
            have hx2 := HX.out
            have e2 : ((y + 1 : Nat) : Int) = (y : Int) + 1 := by omega
            have e : (W * ((y + 1 : Nat) : Int)).toNat = (W * (y : Int)).toNat + x := by
              rw [e2]
              omega
            rw [e]
            exact HO.out
          case measure => simp [intOf]; omega
    · have hye : (y : Int) = H := by omega
      have hNe : (W * (y : Int)).toNat = n := by rw [hye, ← HSD.out.2.2]; rfl
      have hf := HO.out
      rw [hNe] at hf
      have HF := Lib.hid hf
      clear hf hye hNe
      go_wp2
      go_end0
      exact ⟨rfl, HF.out, HE.out, HB.out, HOT.out⟩

end Ba
end Go.Proofs.Ytbinjkaanbhikaa
