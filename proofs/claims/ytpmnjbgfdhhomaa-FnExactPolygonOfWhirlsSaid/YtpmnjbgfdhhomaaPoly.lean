/- Whirls around a circle: the program's function and the model's. -/
import Derived.Test.YtpmnjbgfdhhomaaPair
import Derived.Test.YtpmnjbgfdhhomaaCirc
import Derived.Deep.DeepAppendWide
import Derived.OwnWalk
namespace Go.Proofs.Ytpmnjbgfdhhomaa
set_option linter.unusedSimpArgs false
set_option linter.unusedVariables false
open Go.RowKit
namespace Ws
open Fl Rate
open Circ (turnC Points points pcx spec_scale impl_circle)

theorem W_info : (Try.prog.info? 63).map (fun i => (i.zero, i.size, i.bytes)) = some (some (.agg #[.complex .f32 0 0, .float .f32 0]), 2, 12) := by kernel_rfl

theorem own_below {w w' : World} {B e size n : Nat} {v : Value} {xs : List Value} (h : w.ownsRow B e size v n xs) (hb : Below w.heap.size w w') : w'.ownsRow B e size v n xs := by
  obtain ⟨h1, h2 | ⟨g, cap, cur, h3, h4, h5, h6⟩⟩ := h
  · exact ⟨h1, .inl h2⟩
  · refine ⟨h1, .inr ⟨g, cap, cur, h3, h4, ?_, h6⟩⟩
    rw [hb.block g (Array.getElem?_eq_some_iff.1 h5).1]
    exact h5

theorem own_drewN {w : World} {B e size n : Nat} {v : Value} {xs : List Value} (h : w.ownsRow B e size v n xs) (k : Nat) : (w.drewN k).ownsRow B e size v n xs := h

theorem cell_two (w : World) (x y : Value) (t : TypeId) : ∀ j u, [x, y][j]? = some u → (w.alloc (.cells #[x, y] t)).cell? ((⟨w.heap.size, 0, none⟩ : Addr).add j) = some u := by
  intro j u hj
  match j, hj with
  | 0, hj => simp at hj; subst hj; simp [Addr.add]
  | 1, hj => simp at hj; subst hj; simp [Addr.add]

theorem impl_gbad (m : Int) (x y : Nat) (w : World) (hx : x < 4294967296) (cx cy cs : Nat → Option Nat) (n : Nat) (h : (decide (1 ≤ m) && decide (m ≤ 32) && (fin .f32 x && cmpC .gtr (ord .f32 (cl .f32 x) (some 0)))) = false) : Calls Try.prog 15 #[.int .i64 m, .float .f32 x, .float .f32 y] w (RetWs false n cx cy cs w) := by
  have HP := Lib.hid (fun w => impl_polygon m x w hx)
  rw [h] at HP
  clear h
  go_enter Try.func15, Try.ntmps15
  go_wp2_with (first | (go_at_call 47; refine (HP.out _).mono ?_; rintro e w' ⟨rfl, hb⟩; have hz := hb.size; try simp only [World.size_alloc, World.size_setCell, World.heap_drewN, World.size_drew] at hz; obtain ⟨hc, hf⟩ := Fl.bcell hb; try (have g : w.heap.size < w'.heap.size := by omega); try (have g : w.heap.size ≤ w'.heap.size := by omega)))
  go_ret2
  exact .inr ⟨rfl, rfl, by (repeat' first | exact Below.refl _ _ | (refine Below.setCell ?_ (by first | omega | (simp; omega) | simp) _) | (refine below_drewN ?_ _) | (refine Below.alloc ?_ (by first | omega | (simp; omega) | simp) _) | (refine Below.trans ?_ (Below.mono (by assumption) (by first | omega | (simp; omega) | simp))))⟩

theorem spec_gbad (m : Int) (x y : Nat) (w : World) (wx : (Lit.float .f32 x).wf = true) (cx cy cs : Nat → Option Nat) (n : Nat) (A B : Bool) (hA : (decide (1 ≤ m) && decide (m ≤ 32)) = A) (hB : (fin .f32 x && cmpC .gtr (ord .f32 (cl .f32 x) (some 0))) = B) (h : (A && B) = false) : Calls Try.prog 14 #[.int .i64 m, .float .f32 x, .float .f32 y] w (RetWs false n cx cy cs w) := by
  have HI := Lib.hid (fun w => spec_in m w)
  have HA := Lib.hid (fun w => spec_above x w wx)
  rw [hA] at HI
  rw [hB] at HA
  clear hA hB
  cases A
  all_goals cases B
  all_goals (first | (cases h; done) | clear h)
  all_goals
    go_enter Try.func14, Try.ntmps14
    go_wp2_with (first | (go_at_call 29; refine (HI.out _).mono ?_; rintro e w' ⟨rfl, hb⟩; have hz := hb.size; try simp only [World.size_alloc, World.size_setCell, World.heap_drewN, World.size_drew] at hz; obtain ⟨hc, hf⟩ := Fl.bcell hb; try (have g : w.heap.size < w'.heap.size := by omega); try (have g : w.heap.size ≤ w'.heap.size := by omega)) | (go_at_call 30; refine (HA.out _).mono ?_; rintro e w' ⟨rfl, hb⟩; have hz := hb.size; try simp only [World.size_alloc, World.size_setCell, World.heap_drewN, World.size_drew] at hz; obtain ⟨hc, hf⟩ := Fl.bcell hb; try (have g : w.heap.size < w'.heap.size := by omega); try (have g : w.heap.size ≤ w'.heap.size := by omega)))
    go_ret2
    exact .inr ⟨rfl, rfl, by (repeat' first | exact Below.refl _ _ | (refine Below.setCell ?_ (by first | omega | (simp; omega) | simp) _) | (refine below_drewN ?_ _) | (refine Below.alloc ?_ (by first | omega | (simp; omega) | simp) _) | (refine Below.trans ?_ (Below.mono (by assumption) (by first | omega | (simp; omega) | simp))))⟩

set_option maxHeartbeats 3200000 in
theorem impl_ggood (n : Nat) (x y : Nat) (w : World) (wx : (Lit.float .f32 x).wf = true) (wy : (Lit.float .f32 y).wf = true) (h1 : 1 ≤ n) (h2 : n ≤ 32) (h : (decide (1 ≤ (n : Int)) && decide ((n : Int) ≤ 32) && (fin .f32 x && cmpC .gtr (ord .f32 (cl .f32 x) (some 0)))) = true)
    (re im : Nat → Option Nat) (hp : Points n re im) (A : Bool) (hA : allF (pcx re (cl .f32 x)) (pcx im (cl .f32 x)) (fun _ => cl .f32 y) n = A) :
    Calls Try.prog 15 #[.int .i64 (n : Int), .float .f32 x, .float .f32 y] w (RetWs A n (pcx re (cl .f32 x)) (pcx im (cl .f32 x)) (fun _ => cl .f32 y) w) := by
  obtain ⟨i0, hi, hz0, hz1, hz2⟩ := info_parts W_info
  have HP := Lib.hid (fun w => impl_polygon (n : Int) x w (Fl.lt32 wx))
  rw [h] at HP
  have fx : Fr .f32 x (cl .f32 x) := ⟨rfl, Fl.lt32 wx⟩
  have fy : Fr .f32 y (cl .f32 y) := ⟨rfl, Fl.lt32 wy⟩
  have fn := isint (n : Int)
  have HG := Lib.hid (fun w g cap (h : IsW w g n (pcx re (cl .f32 x)) (pcx im (cl .f32 x)) (fun _ => cl .f32 y)) => impl_give g n cap _ _ _ w h h2 A hA)
  have HPT := Lib.hid hp
  clear h hA hp
  go_enter Try.func15, Try.ntmps15
  go_wp2_with fail
  refine (HP.out _).mono ?_
  rintro e w1 ⟨rfl, hb1⟩
  have hz1' := hb1.size
  go_wp2_with (at_make; refine wpList_make_full _ rfl _ _ 32 rfl w.heap.size 63 i0 (.agg #[.complex .f32 0 0, .float .f32 0]) 2 Try.underlying32 hi hz0 hz1 .i64 .i64 _ _ n rfl rfl rfl rfl (by rw [hz2]; omega) (by unfold maxLen; omega) hz1' ?_)
  intro w2 hown hgrow
  have hnx : Below w.heap.size w w2 := hb1.grown hgrow hz1' (fun k h => by cases h)
  have hblk : ∃ cur : Array Value, w2.heap[w1.heap.size]? = some (.cells cur 63) ∧ n * 2 ≤ cur.size := by
    obtain ⟨_, h | ⟨g, c, cur, hv, _, hh, _, _, hs, _⟩⟩ := hown
    · cases h.1
    · simp only [Value.slice.injEq, Option.some.injEq, Addr.mk.injEq] at hv
      obtain ⟨⟨rfl, _⟩, _, rfl⟩ := hv
      exact ⟨cur, hh, by omega⟩
  obtain ⟨cur0, hc0, hs0⟩ := hblk
  clear hown hgrow
  obtain ⟨G, hG⟩ : ∃ G, G = w1.heap.size := ⟨_, rfl⟩
  rw [← hG] at hc0 ⊢
  have hGw : w.heap.size ≤ G := by omega
  clear hG
  go_wp2
  go_loopw [18] (fun i wr => ∃ (k : Nat) (cur : Array Value), k ≤ n ∧ i = .int .i64 k ∧ wr.heap[G]? = some (.cells cur 63) ∧ n * 2 ≤ cur.size ∧ (∀ j, j < k → ∃ x' y' s, cur[j * 2]? = some (.complex .f32 x' y') ∧ cur[j * 2 + 1]? = some (.float .f32 s) ∧ Fr .f32 x' (pcx re (cl .f32 x) j) ∧ Fr .f32 y' (pcx im (cl .f32 x) j) ∧ Fr .f32 s (cl .f32 y)) ∧ Below w.heap.size w wr)
    (fun i _ => n - (intOf i).toNat)
  case atStart => exact ⟨0, cur0, Nat.zero_le _, rfl, hc0, hs0, fun j hj => absurd hj (Nat.not_lt_zero _), hnx⟩
  case round =>
    clear hc0 hs0 hnx
    obtain ⟨k, cur, hk, rfl, hb, hs, hdone, hbel⟩ := hrel
    have HS := Lib.hid hs; clear hs
    have HD := Lib.hid hdone; clear hdone
    have hGl : G < wr.heap.size := (Array.getElem?_eq_some_iff.1 hb).1
    have HB := Lib.hid hb; clear hb
    by_cases hlt : k < n
    · have fk := isint (k : Int)
      go_wp2_with fail
      refine (impl_circle n k x _ re im _ hlt fx HPT.out).mono ?_
      rintro e w4 ⟨sx, sy, rfl, fsx, fsy, hb4⟩
      have hz4 := hb4.size
      have hblk4 : w4.heap[G]? = some (.cells cur 63) := by
        rw [hb4.block G (by omega)]
        exact HB.out
      have hbel4 : Below w.heap.size w w4 := by
        have h5 := hbel.size
        exact Below.trans hbel (hb4.mono (by omega))
      have hd1 : w4.cell? ⟨G, k * 2, none⟩ = some cur[k * 2]! := by
        rw [Loose.cells_of hblk4]
        have : k * 2 < cur.size := by have := HS.out; omega
        simp [this]
      have hd2 : w4.cell? ⟨G, k * 2 + 1, none⟩ = some cur[k * 2 + 1]! := by
        rw [Loose.cells_of hblk4]
        have : k * 2 + 1 < cur.size := by have := HS.out; omega
        simp [this]
      generalize cur[k * 2]! = old1 at *
      generalize cur[k * 2 + 1]! = old2 at *
      have hfree := Loose.free_of hblk4 (k * 2)
      have hfree2 := Loose.free_of hblk4 (k * 2 + 1)
      have HB4 := Lib.hid hblk4; clear hblk4
      have HL4 := Lib.hid hbel4; clear hbel4 hbel
      go_wp2
      go_roundw
      case rel =>
        refine ⟨k + 1, (cur.setIfInBounds (k * 2) (.complex .f32 sx sy)).setIfInBounds (k * 2 + 1) (.float .f32 y), by omega, by go_num, set_block (set_block HB4.out _ _) _ _, by have := HS.out; simpa using this, fun j hj => ?_, by refine Below.setCell ?_ hGw _; refine Below.setCell ?_ hGw _; exact HL4.out⟩
        by_cases hjk : j = k
        · subst hjk
          refine ⟨sx, sy, y, ?_, ?_, fsx, fsy, fy⟩
          · rw [Array.getElem?_setIfInBounds_ne (by omega), Array.getElem?_setIfInBounds_self_of_lt (by have := HS.out; omega)]
          · rw [Array.getElem?_setIfInBounds_self_of_lt (by have := HS.out; simp; omega)]
        · obtain ⟨x', y', s, k1, k2, k3⟩ := HD.out j (by omega)
          refine ⟨x', y', s, ?_, ?_, k3⟩
          · rw [Array.getElem?_setIfInBounds_ne (by omega), Array.getElem?_setIfInBounds_ne (by omega)]; exact k1
          · rw [Array.getElem?_setIfInBounds_ne (by omega), Array.getElem?_setIfInBounds_ne (by omega)]; exact k2
      case measure => simp [intOf]; omega
    · obtain rfl : n = k := by omega
      have hI : IsW wr G n (pcx re (cl .f32 x)) (pcx im (cl .f32 x)) (fun _ => cl .f32 y) := ⟨cur, HB.out, HS.out, HD.out⟩
      have HBL := Lib.hid hbel; clear hbel
      go_wp2_with fail
      refine (HG.out _ _ _ hI).mono ?_
      rintro e w5 ⟨rfl, hb5⟩
      have hz5 := hb5.size
      have hz6 := HBL.out.size
      have hbw : Below w.heap.size w w5 := HBL.out.trans (hb5.mono hz6)
      have hI5 := hI.later hb5
      have HI5 := Lib.hid hI5
      clear hI hI5
      cases A
      · go_wp2
        go_ret2
        exact .inr ⟨rfl, rfl, hbw⟩
      · go_wp2
        go_ret2
        exact .inl ⟨rfl, _, _, rfl, hGw, HI5.out, hbw⟩

set_option maxHeartbeats 3200000 in
theorem spec_ggood (n : Nat) (x y : Nat) (w : World) (wx : (Lit.float .f32 x).wf = true) (wy : (Lit.float .f32 y).wf = true) (h1 : 1 ≤ n) (h2 : n ≤ 32) (h : (decide (1 ≤ (n : Int)) && decide ((n : Int) ≤ 32)) = true) (h' : (fin .f32 x && cmpC .gtr (ord .f32 (cl .f32 x) (some 0))) = true)
    (re im : Nat → Option Nat) (hp : Points n re im) (A : Bool) (hA : allF (pcx re (cl .f32 x)) (pcx im (cl .f32 x)) (fun _ => cl .f32 y) n = A) :
    Calls Try.prog 14 #[.int .i64 (n : Int), .float .f32 x, .float .f32 y] w (RetWs A n (pcx re (cl .f32 x)) (pcx im (cl .f32 x)) (fun _ => cl .f32 y) w) := by
  obtain ⟨i0, hi, hz0, hz1, hz2⟩ := info_parts W_info
  have HI := Lib.hid (fun w => spec_in (n : Int) w)
  have HA := Lib.hid (fun w => spec_above x w wx)
  rw [h] at HI
  rw [h'] at HA
  have fx : Fr .f32 x (cl .f32 x) := ⟨rfl, Fl.lt32 wx⟩
  have fy : Fr .f32 y (cl .f32 y) := ⟨rfl, Fl.lt32 wy⟩
  have fn := isint (n : Int)
  have HG := Lib.hid (fun w g cap (h : IsW w g n (pcx re (cl .f32 x)) (pcx im (cl .f32 x)) (fun _ => cl .f32 y)) => spec_give g n cap _ _ _ w h h2 A hA)
  have HPT := Lib.hid hp
  clear h h' hA hp
  go_enter Try.func14, Try.ntmps14
  go_wp2_with fail
  refine (HI.out _).mono ?_
  rintro e w1 ⟨rfl, hb1⟩
  have hz1' := hb1.size
  go_wp2_with fail
  refine (HA.out _).mono ?_
  rintro e w2 ⟨rfl, hb2⟩
  have hz2' := hb2.size
  have hbw2 : Below w.heap.size w w2 := hb1.trans (hb2.mono hz1')
  go_wp2
  go_loopw [8, 9] (fun s i wr => ∃ (k : Nat) (xs : List Value), k ≤ n ∧ i = .int .i64 k ∧ wr.ownsRow w.heap.size 63 2 s k xs ∧ (∃ g cap, s = .slice (some ⟨g, 0, none⟩) k cap) ∧ (∀ j, j < k → ∃ x' y' s, xs[j * 2]? = some (.complex .f32 x' y') ∧ xs[j * 2 + 1]? = some (.float .f32 s) ∧ Fr .f32 x' (pcx re (cl .f32 x) j) ∧ Fr .f32 y' (pcx im (cl .f32 x) j) ∧ Fr .f32 s (cl .f32 y)) ∧ Below w.heap.size w wr)
    (fun _ i _ => n - (intOf i).toNat)
  case atStart =>
    refine ⟨0, [], Nat.zero_le _, rfl, ⟨rfl, .inr ⟨w2.heap.size, 0, #[], rfl, by omega, new_block _ _, Nat.le_refl _, by unfold maxLen; omega, rfl, rfl⟩⟩, ⟨_, _, rfl⟩, fun j hj => absurd hj (Nat.not_lt_zero _), ?_⟩
    exact hbw2.alloc (by omega) _
  case round =>
    obtain ⟨k, xs, hk, rfl, hown, ⟨g0, cap0, rfl⟩, hdone, hbel⟩ := hrel
    have HD := Lib.hid hdone; clear hdone
    have HO := Lib.hid hown; clear hown
    by_cases hlt : k < n
    · have fk := isint (k : Int)
      go_wp2_with (refine Fl.wpList_fl rfl rfl rfl rfl rfl fk fn ?_; intro r n' hr)
      refine ((HPT.out k hlt _ hr).1 _).mono ?_
      rintro e w3 ⟨px, py, rfl, fpx, fpy, hb3⟩
      have hz3 := hb3.size
      simp only [World.heap_drewN] at hz3
      go_wp2_with fail
      refine (spec_scale _ _ _ _ _ _ _ fpx fpy fx).mono ?_
      rintro e w4 ⟨sx, sy, rfl, fsx, fsy, hb4⟩
      have hz4 := hb4.size
      have hO4 := own_below (own_below (own_drewN HO.out n') hb3) hb4
      have hg0 : w.heap.size ≤ g0 := by
        obtain ⟨_, ⟨h, _⟩ | ⟨g, c, cu, hv, hb, _⟩⟩ := HO.out
        · cases h
        · simp only [Value.slice.injEq, Option.some.injEq, Addr.mk.injEq] at hv
          omega
      have h5 := hbel.size
      have hbel4 : Below w.heap.size w w4 := by
        refine Below.trans ?_ (hb4.mono (by omega))
        refine Below.trans ?_ (hb3.mono (by simp; omega))
        exact below_drewN hbel _
      have HL4 := Lib.hid hbel4; clear hbel4 hbel
      have HO4 := Lib.hid hO4; clear hO4
      go_wp2_with (at_builtin; refine wpList_append_own_wide _ rfl (.tmp 31) (.tmp 37) 32 rfl w.heap.size 63 i0 (.agg #[.complex .f32 0 0, .float .f32 0]) 2 12 Try.underlying32 hi hz0 hz1 hz2 rfl (by decide) _ _ _ rfl (own_below HO4.out ((Below.refl _ _).alloc (Nat.le_refl _) _)) ⟨w4.heap.size, 0, none⟩ 1 1 [.complex .f32 sx sy, .float .f32 y] rfl rfl (cell_two _ _ _ _) (by intro u hu; simp at hu; rcases hu with rfl | rfl <;> rfl) (by unfold maxLen; omega) (by omega) (by simp; omega) ?_; intro v5 w5 hown5 hgrow5 hnil5)
      go_roundw
      case rel =>
        obtain ⟨g5, cap5, hv5⟩ : ∃ g5 cap5, v5 = .slice (some ⟨g5, 0, none⟩) (k + 1) cap5 := by
          obtain ⟨_, ⟨_, h⟩ | ⟨g, c, cu, hv, _⟩⟩ := hown5
          · omega
          · exact ⟨g, c, hv⟩
        have hlen := HO.out.1
        refine ⟨k + 1, _, by omega, by go_num, hown5, ⟨g5, cap5, hv5⟩, fun j hj => ?_, ?_⟩
        · by_cases hjk : j = k
          · subst hjk
            refine ⟨sx, sy, y, ?_, ?_, fsx, fsy, fy⟩
            · rw [List.getElem?_append_right (by omega), hlen, Nat.sub_self]; rfl
            · rw [List.getElem?_append_right (by omega), hlen, Nat.add_sub_cancel_left]; rfl
          · obtain ⟨x', y', s, k1, k2, k3⟩ := HD.out j (by omega)
            refine ⟨x', y', s, ?_, ?_, k3⟩
            · rw [List.getElem?_append_left (by omega)]; exact k1
            · rw [List.getElem?_append_left (by omega)]; exact k2
        · have h6 := HL4.out.size
          exact (HL4.out.alloc h6 _).grown hgrow5 (by simp; omega) (fun b hb => by
            change some g0 = some b at hb
            have e := Option.some.inj hb
            omega)
      case measure => simp [intOf]; omega
    · obtain rfl : n = k := by omega
      have hI : IsW wr g0 n (pcx re (cl .f32 x)) (pcx im (cl .f32 x)) (fun _ => cl .f32 y) ∧ w.heap.size ≤ g0 := by
        obtain ⟨_, ⟨h, _⟩ | ⟨g, c, cu, hv, hb, hh, hc1, _, hs, ht⟩⟩ := HO.out
        · cases h
        · simp only [Value.slice.injEq, Option.some.injEq, Addr.mk.injEq] at hv
          obtain ⟨⟨rfl, _⟩, _, rfl⟩ := hv
          refine ⟨⟨cu, hh, by rw [hs]; exact Nat.mul_le_mul_right _ hc1, fun j hj => ?_⟩, hb⟩
          obtain ⟨x', y', s, k1, k2, k3⟩ := HD.out j hj
          rw [← ht] at k1 k2
          rw [List.getElem?_take_of_lt (by omega)] at k1 k2
          exact ⟨x', y', s, by simpa using k1, by simpa using k2, k3⟩
      obtain ⟨hI, hGw⟩ := hI
      have HBL := Lib.hid hbel; clear hbel
      go_wp2_with fail
      refine (HG.out _ _ _ hI).mono ?_
      rintro e w5 ⟨rfl, hb5⟩
      have hz5 := hb5.size
      have hz6 := HBL.out.size
      have hbw : Below w.heap.size w w5 := HBL.out.trans (hb5.mono hz6)
      have hI5 := hI.later hb5
      have HI5 := Lib.hid hI5
      clear hI hI5
      cases A
      · go_wp2
        go_ret2
        exact .inr ⟨rfl, rfl, hbw⟩
      · go_wp2
        go_ret2
        exact .inl ⟨rfl, _, _, rfl, hGw, HI5.out, hbw⟩

theorem both_polygon (m : Int) (x y : Nat) (wx : (Lit.float .f32 x).wf = true) (wy : (Lit.float .f32 y).wf = true) : ∃ A n cx cy cs, n ≤ 32 ∧ (∀ w, Calls Try.prog 14 #[.int .i64 m, .float .f32 x, .float .f32 y] w (RetWs A n cx cy cs w)) ∧ (∀ w, Calls Try.prog 15 #[.int .i64 m, .float .f32 x, .float .f32 y] w (RetWs A n cx cy cs w)) := by
  cases h1 : (decide (1 ≤ m) && decide (m ≤ 32))
  · exact ⟨false, 0, fun _ => none, fun _ => none, fun _ => none, by omega, fun w => spec_gbad m x y w wx _ _ _ _ _ _ h1 rfl rfl, fun w => impl_gbad m x y w (Fl.lt32 wx) _ _ _ _ (by rw [h1]; rfl)⟩
  · cases h2 : (fin .f32 x && cmpC .gtr (ord .f32 (cl .f32 x) (some 0)))
    · exact ⟨false, 0, fun _ => none, fun _ => none, fun _ => none, by omega, fun w => spec_gbad m x y w wx _ _ _ _ _ _ h1 h2 rfl, fun w => impl_gbad m x y w (Fl.lt32 wx) _ _ _ _ (by rw [h1, h2]; rfl)⟩
    · have hm : 1 ≤ m ∧ m ≤ 32 := by simpa using h1
      obtain ⟨n, rfl⟩ := Int.eq_ofNat_of_zero_le (show 0 ≤ m by omega)
      have n1 : 1 ≤ n := by have := hm.1; omega
      have n2 : n ≤ 32 := by have := hm.2; omega
      obtain ⟨re, im, hp⟩ := points n1 (by omega)
      exact ⟨_, n, _, _, _, n2, fun w => spec_ggood n x y w wx wy n1 n2 h1 h2 re im hp _ rfl, fun w => impl_ggood n x y w wx wy n1 n2 (by rw [h1, h2]; rfl) re im hp _ rfl⟩

end Ws
end Go.Proofs.Ytpmnjbgfdhhomaa
