/- Lists of whirls in a block of their own: whether they are whirls, whether two are equal, marks. -/
import Derived.Test.YtpmnjbgfdhhomaaRows
import Derived.Test.YtpmnjbgfdhhomaaRet
import Derived.Test.YtpmnjbgfdhhomaaCplx
import Derived.Test.YtpmnjbgfdhhomaaFinite
import Derived.Test.YtpmnjbgfdhhomaaFin
import Derived.Test.YtpmnjbgfdhhomaaRate
import Derived.Test.YtpmnjbgfdhhomaaPhasB
import Derived.LoopTactic
namespace Go.Proofs.Ytpmnjbgfdhhomaa
set_option linter.unusedSimpArgs false
set_option linter.unusedVariables false
open Go.RowKit
namespace Ws
open Fl Rate

/-- A block of n whirls whose numbers are of these classes. -/
def IsW (w : World) (g n : Nat) (cx cy cs : Nat → Option Nat) : Prop :=
  ∃ cur : Array Value, w.heap[g]? = some (.cells cur 63) ∧ n * 2 ≤ cur.size ∧ ∀ i, i < n → ∃ x y s, cur[i * 2]? = some (.complex .f32 x y) ∧ cur[i * 2 + 1]? = some (.float .f32 s) ∧ Fr .f32 x (cx i) ∧ Fr .f32 y (cy i) ∧ Fr .f32 s (cs i)

theorem IsW.lt {w : World} {g n : Nat} {cx cy cs : Nat → Option Nat} (h : IsW w g n cx cy cs) : g < w.heap.size := by
  obtain ⟨cur, h, _⟩ := h
  exact (Array.getElem?_eq_some_iff.1 h).1

theorem IsW.later {w w' : World} {g n : Nat} {cx cy cs : Nat → Option Nat} (h : IsW w g n cx cy cs) (hb : Below w.heap.size w w') : IsW w' g n cx cy cs := by
  have hl := h.lt
  obtain ⟨cur, h1, h2⟩ := h
  exact ⟨cur, by rw [hb.block g hl]; exact h1, h2⟩

/-- What a walk is told of whirl i. -/
theorem IsW.at {w : World} {g n : Nat} {cx cy cs : Nat → Option Nat} (h : IsW w g n cx cy cs) {i : Nat} (hi : i < n) :
    ∃ x y s, w.cell? ⟨g, i * 2, none⟩ = some (.complex .f32 x y) ∧ w.cell? ⟨g, i * 2 + 1, none⟩ = some (.float .f32 s) ∧ Fr .f32 x (cx i) ∧ Fr .f32 y (cy i) ∧ Fr .f32 s (cs i) := by
  obtain ⟨cur, h1, h2, h3⟩ := h
  obtain ⟨x, y, s, k1, k2, f1, f2, f3⟩ := h3 i hi
  exact ⟨x, y, s, by rw [Loose.cells_of h1]; exact k1, by rw [Loose.cells_of h1]; exact k2, f1, f2, f3⟩

/-- Whether the first k whirls are finite. -/
def allF (cx cy cs : Nat → Option Nat) : Nat → Bool
  | 0 => true
  | k + 1 => allF cx cy cs k && (finC (cx k) && finC (cy k) && finC (cs k))

theorem allF_le {cx cy cs : Nat → Option Nat} {k n : Nat} (h : allF cx cy cs k = false) (hk : k ≤ n) : allF cx cy cs n = false := by
  induction n with
  | zero => obtain rfl : k = 0 := by omega
            exact h
  | succ n ih =>
    by_cases e : k = n + 1
    · rw [← e]; exact h
    · show (allF cx cy cs n && _) = false
      rw [ih (by omega)]; rfl

theorem impl_cfin (x y : Nat) (c d : Option Nat) (w : World) (fx : Fr .f32 x c) (fy : Fr .f32 y d) (A : Bool) (hA : (finC c && finC d) = A) : Calls Try.prog 88 #[.complex .f32 x y] w (RetD (.bool A) w) := by
  have hx : x < 4294967296 := fx.2
  have hy : y < 4294967296 := fy.2
  rw [← fin_cl fx, ← fin_cl fy] at hA
  clear fx fy
  cases h1 : fin .f32 x
  all_goals cases h2 : fin .f32 y
  all_goals rw [h1, h2] at hA
  all_goals subst hA
  all_goals
    go_enter Try.func88, Try.ntmps88
    go_wp2_with (first | (go_at_call 61; refine (Finite.impl_finite _ _ (by assumption)).mono ?_; rintro e w' ⟨rfl, rfl⟩))
    go_ret
    exact ⟨rfl, by (repeat' first | exact Below.refl _ _ | (refine Below.setCell ?_ (by first | omega | (simp; omega) | simp) _) | (refine below_drewN ?_ _) | (refine Below.alloc ?_ (by first | omega | (simp; omega) | simp) _) | (refine Below.trans ?_ (Below.mono (by assumption) (by first | omega | (simp; omega) | simp))))⟩

theorem spec_cfin (x y : Nat) (c d : Option Nat) (w : World) (fx : Fr .f32 x c) (fy : Fr .f32 y d) (A : Bool) (hA : (finC c && finC d) = A) : Calls Try.prog 85 #[.complex .f32 x y] w (RetD (.bool A) w) := by
  have wx : (Lit.float .f32 x).wf = true := wf_of_lt .f32 x fx.2
  have wy : (Lit.float .f32 y).wf = true := wf_of_lt .f32 y fy.2
  rw [← fin_cl fx, ← fin_cl fy] at hA
  clear fx fy
  cases h1 : fin .f32 x
  all_goals cases h2 : fin .f32 y
  all_goals rw [h1, h2] at hA
  all_goals subst hA
  all_goals
    go_enter Try.func85, Try.ntmps85
    go_wp2_with (first | (go_at_call 66; refine (Finite.spec_finite _ _ (by assumption)).mono ?_; rintro e w' ⟨n, rfl, rfl⟩))
    go_ret
    exact ⟨rfl, by (repeat' first | exact Below.refl _ _ | (refine Below.setCell ?_ (by first | omega | (simp; omega) | simp) _) | (refine below_drewN ?_ _) | (refine Below.alloc ?_ (by first | omega | (simp; omega) | simp) _) | (refine Below.trans ?_ (Below.mono (by assumption) (by first | omega | (simp; omega) | simp))))⟩

theorem impl_fin (x : Nat) (c : Option Nat) (w : World) (f : Fr .f32 x c) : Calls Try.prog 61 #[.float .f32 x] w (RetD (.bool (finC c)) w) :=
  (Finite.impl_finite x w f.2).mono fun e w' ⟨he, hw⟩ => ⟨by rw [he, fin_cl f], by rw [hw]; exact Below.refl _ _⟩

theorem spec_fin (x : Nat) (c : Option Nat) (w : World) (f : Fr .f32 x c) : Calls Try.prog 66 #[.float .f32 x] w (RetD (.bool (finC c)) w) :=
  (Finite.spec_finite x w (wf_of_lt .f32 x f.2)).mono fun e w' ⟨n, he, hw⟩ => ⟨by rw [he, fin_cl f], by rw [hw]; exact below_drewN (Below.refl _ _) n⟩

set_option maxHeartbeats 1600000 in
theorem impl_are (g n cap : Nat) (cx cy cs : Nat → Option Nat) (w : World) (h : IsW w g n cx cy cs) (hn : n ≤ 32) : Calls Try.prog 76 #[.slice (some ⟨g, 0, none⟩) n cap] w (RetD (.bool (allF cx cy cs n)) w) := by
  have H := Lib.hid h
  have hg := h.lt
  clear h
  go_enter Try.func76, Try.ntmps76
  go_wp2
  go_loopw [10] (fun i wr => ∃ k : Nat, k ≤ n ∧ i = .int .i64 k ∧ allF cx cy cs k = true ∧ Below w.heap.size w wr) (fun i _ => n - (intOf i).toNat)
  case atStart => exact ⟨0, Nat.zero_le _, rfl, rfl, Below.refl _ _⟩
  case round =>
    obtain ⟨k, hk, rfl, hall, hbel⟩ := hrel
    have HA := Lib.hid hall; clear hall
    by_cases hlt : k < n
    · obtain ⟨x, y, s, e1, e2, f1, f2, f3⟩ := (H.out.later hbel).at hlt
      have hgr : g < wr.heap.size := by have := hbel.size; omega
      obtain ⟨A1, hA1⟩ : ∃ A, (finC (cx k) && finC (cy k)) = A := ⟨_, rfl⟩
      obtain ⟨A2, hA2⟩ : ∃ A, finC (cs k) = A := ⟨_, rfl⟩
      have HX := Lib.hid (show allF cx cy cs (k + 1) = (allF cx cy cs k && (A1 && A2)) by rw [← hA1, ← hA2]; rfl)
      have HB := Lib.hid hbel; clear hbel
      cases A1
      all_goals cases A2
      all_goals
        go_wp2_with (first | (go_at_call 88; refine (impl_cfin _ _ _ _ _ (by assumption) (by assumption) _ hA1).mono ?_; rintro e w' ⟨rfl, hb⟩; have hz := hb.size; try simp only [World.size_alloc, World.size_setCell, World.heap_drewN, World.size_drew] at hz; obtain ⟨hc, hf⟩ := Fl.bcell hb; try (have g : w.heap.size < w'.heap.size := by omega); try (have g : w.heap.size ≤ w'.heap.size := by omega)) | (go_at_call 61; refine (impl_fin _ _ _ (by assumption)).mono ?_; rintro e w' ⟨rfl, hb⟩; try simp only [hA2]; have hz := hb.size; try simp only [World.size_alloc, World.size_setCell, World.heap_drewN, World.size_drew] at hz))
        first
          | (go_ret; refine ⟨?_, by have hbel := HB.out; have hbz := hbel.size; (repeat' first | exact Below.refl _ _ | (refine Below.setCell ?_ (by first | omega | (simp; omega) | simp) _) | (refine below_drewN ?_ _) | (refine Below.alloc ?_ (by first | omega | (simp; omega) | simp) _) | (refine Below.trans ?_ (Below.mono (by assumption) (by first | omega | (simp; omega) | simp))))⟩; rw [allF_le (k := k + 1) (by rw [HX.out, HA.out]; rfl) (by omega)]; rfl)
          | (go_roundw
             case rel => exact ⟨k + 1, by omega, by go_num, by rw [HX.out, HA.out]; rfl, by have hbel := HB.out; have hbz := hbel.size; (repeat' first | exact Below.refl _ _ | (refine Below.setCell ?_ (by first | omega | (simp; omega) | simp) _) | (refine below_drewN ?_ _) | (refine Below.alloc ?_ (by first | omega | (simp; omega) | simp) _) | (refine Below.trans ?_ (Below.mono (by assumption) (by first | omega | (simp; omega) | simp))))⟩
             case measure => simp [intOf]; omega)
    · obtain rfl : n = k := by omega
      have HB := Lib.hid hbel; clear hbel
      go_wp2
      go_ret
      exact ⟨by rw [HA.out]; first | rfl | (simp; omega), HB.out⟩

set_option maxHeartbeats 1600000 in
theorem spec_are (g n cap : Nat) (cx cy cs : Nat → Option Nat) (w : World) (h : IsW w g n cx cy cs) (hn : n ≤ 32) : Calls Try.prog 75 #[.slice (some ⟨g, 0, none⟩) n cap] w (RetD (.bool (allF cx cy cs n)) w) := by
  have H := Lib.hid h
  have hg := h.lt
  clear h
  go_enter Try.func75, Try.ntmps75
  go_wp2
  go_loopw [3] (fun i wr => ∃ k : Nat, k ≤ n ∧ i = .int .i64 k ∧ allF cx cy cs k = true ∧ Below w.heap.size w wr) (fun i _ => n - (intOf i).toNat)
  case atStart => exact ⟨0, Nat.zero_le _, rfl, rfl, Below.refl _ _⟩
  case round =>
    obtain ⟨k, hk, rfl, hall, hbel⟩ := hrel
    have HA := Lib.hid hall; clear hall
    by_cases hlt : k < n
    · obtain ⟨x, y, s, e1, e2, f1, f2, f3⟩ := (H.out.later hbel).at hlt
      have hgr : g < wr.heap.size := by have := hbel.size; omega
      obtain ⟨A1, hA1⟩ : ∃ A, (finC (cx k) && finC (cy k)) = A := ⟨_, rfl⟩
      obtain ⟨A2, hA2⟩ : ∃ A, finC (cs k) = A := ⟨_, rfl⟩
      have HX := Lib.hid (show allF cx cy cs (k + 1) = (allF cx cy cs k && (A1 && A2)) by rw [← hA1, ← hA2]; rfl)
      have HB := Lib.hid hbel; clear hbel
      cases A1
      · clear hA2
        go_wp2_with fail
        refine (spec_cfin _ _ _ _ _ (by assumption) (by assumption) _ hA1).mono ?_
        rintro e w1 ⟨rfl, hb⟩
        have e3 := ((Fl.bcell hb).1 _ (k * 2 + 1) hgr).trans e2
        have hz := hb.size
        go_wp2_with fail
        (go_ret; refine ⟨?_, by have hbel := HB.out; have hbz := hbel.size; (repeat' first | exact Below.refl _ _ | (refine Below.setCell ?_ (by first | omega | (simp; omega) | simp) _) | (refine below_drewN ?_ _) | (refine Below.alloc ?_ (by first | omega | (simp; omega) | simp) _) | (refine Below.trans ?_ (Below.mono (by assumption) (by first | omega | (simp; omega) | simp))))⟩; rw [allF_le (k := k + 1) (by rw [HX.out, HA.out]; rfl) (by omega)]; rfl)
      · skip
        go_wp2_with fail
        refine (spec_cfin _ _ _ _ _ (by assumption) (by assumption) _ hA1).mono ?_
        rintro e w1 ⟨rfl, hb⟩
        have e3 := ((Fl.bcell hb).1 _ (k * 2 + 1) hgr).trans e2
        have hz := hb.size
        go_wp2_with fail
        refine (spec_fin _ _ _ (by assumption)).mono ?_
        rintro e w2 ⟨rfl, hb2⟩
        rw [hA2]
        have hz2 := hb2.size
        cases A2
        all_goals go_wp2_with fail
        · go_ret
          refine ⟨?_, by have hbel := HB.out; have hbz := hbel.size; (repeat' first | exact Below.refl _ _ | (refine Below.setCell ?_ (by first | omega | (simp; omega) | simp) _) | (refine below_drewN ?_ _) | (refine Below.alloc ?_ (by first | omega | (simp; omega) | simp) _) | (refine Below.trans ?_ (Below.mono (by assumption) (by first | omega | (simp; omega) | simp))))⟩
          rw [allF_le (k := k + 1) (by rw [HX.out, HA.out]; rfl) (by omega)]; rfl
        · go_roundw
          case rel => exact ⟨k + 1, by omega, by go_num, by rw [HX.out, HA.out]; rfl, by have hbel := HB.out; have hbz := hbel.size; (repeat' first | exact Below.refl _ _ | (refine Below.setCell ?_ (by first | omega | (simp; omega) | simp) _) | (refine below_drewN ?_ _) | (refine Below.alloc ?_ (by first | omega | (simp; omega) | simp) _) | (refine Below.trans ?_ (Below.mono (by assumption) (by first | omega | (simp; omega) | simp))))⟩
          case measure => simp [intOf]; omega
    · obtain rfl : n = k := by omega
      have HB := Lib.hid hbel; clear hbel
      go_wp2
      go_ret
      exact ⟨by rw [HA.out]; first | rfl | (simp; omega), HB.out⟩

set_option maxHeartbeats 800000 in
theorem eq_whirl (x y s x' y' s' : Nat) (c d e : Option Nat) (w : World) (f1 : Fr .f32 x c) (f2 : Fr .f32 y d) (f3 : Fr .f32 s e) (g1 : Fr .f32 x' c) (g2 : Fr .f32 y' d) (g3 : Fr .f32 s' e) :
    Calls Try.prog 49 #[.agg #[.complex .f32 x y, .float .f32 s], .agg #[.complex .f32 x' y', .float .f32 s']] w (RetD (.bool true) w) := by
  go_enter Try.func49, Try.ntmps49
  go_wp2_with (first | (refine Fl.wpList_cconv rfl rfl rfl (by kernel_rfl) Try.underlying67 (by assumption) (by assumption) (Fl.fits_wide _) (Fl.fits_wide _) ?_; intro r q n hr hq) | (go_at_call 69; refine (Turn.same_complex _ _ _ _ _ _ _ (by assumption) (by assumption) (by assumption) (by assumption)).mono ?_; rintro e w' ⟨rfl, hb⟩; have hz := hb.size; try simp only [World.size_alloc, World.size_setCell, World.heap_drewN, World.size_drew] at hz; obtain ⟨hc, hf⟩ := Fl.bcell hb; try (have g : w.heap.size < w'.heap.size := by omega); try (have g : w.heap.size ≤ w'.heap.size := by omega)) | (go_at_call 70; refine (Same.same_true _ _ _ _ (by assumption) (by assumption)).mono ?_; rintro e w' ⟨n, rfl, rfl⟩) | (refine Fl.wpList_conv rfl rfl rfl (by kernel_rfl) Try.underlying42 (by assumption) (Fl.fits_wide _) ?_; intro r n hr))
  go_ret
  exact ⟨rfl, by (repeat' first | exact Below.refl _ _ | (refine Below.setCell ?_ (by first | omega | (simp; omega) | simp) _) | (refine below_drewN ?_ _) | (refine Below.alloc ?_ (by first | omega | (simp; omega) | simp) _) | (refine Below.trans ?_ (Below.mono (by assumption) (by first | omega | (simp; omega) | simp))))⟩

set_option maxHeartbeats 1600000 in
theorem eq_whirls (g g' n cap cap' : Nat) (cx cy cs : Nat → Option Nat) (w : World) (h : IsW w g n cx cy cs) (h' : IsW w g' n cx cy cs) (hn : n ≤ 32) :
    Calls Try.prog 16 #[.slice (some ⟨g, 0, none⟩) n cap, .slice (some ⟨g', 0, none⟩) n cap'] w (RetD (.bool true) w) := by
  have hg := h.lt
  have hg' := h'.lt
  have H := Lib.hid h
  have H' := Lib.hid h'
  clear h h'
  go_enter Try.func16, Try.ntmps16
  go_wp2
  go_loopw [5] (fun i wr => ∃ k : Nat, k ≤ n ∧ i = .int .i64 k ∧ Below w.heap.size w wr) (fun i _ => n - (intOf i).toNat)
  case atStart => exact ⟨0, Nat.zero_le _, rfl, Below.refl _ _⟩
  case round =>
    obtain ⟨k, hk, rfl, hbel⟩ := hrel
    by_cases hlt : k < n
    · obtain ⟨x, y, s, e1, e2, f1, f2, f3⟩ := (H.out.later hbel).at hlt
      obtain ⟨x', y', s', e1', e2', f1', f2', f3'⟩ := (H'.out.later hbel).at hlt
      have hgr : g < wr.heap.size := by have := hbel.size; omega
      have hgr' : g' < wr.heap.size := by have := hbel.size; omega
      have HB := Lib.hid hbel; clear hbel
      go_wp2_with fail
      refine Loose.wp_region_below 9 [] (by kernel_rfl) (by kernel_rfl) (by simp [undef]) ?_
      apply Exists.intro
      simp only [List.take_succ_cons, List.take_zero, List.drop_succ_cons, List.drop_zero]
      repeat (first | (apply Loose.walk_step; intro K hK; apply Loose.turn_value (hwant := rfl) (hd := rfl); (focus (intro w' hw'; obtain ⟨hc, hf⟩ := Fl.bcell hw'; go_simp; first | done | rfl | exact ⟨rfl, rfl⟩)); go_simp; refine hK _ ?_; clear hK K) | (apply Loose.walk_step; intro K hK; apply Loose.turn_callD (Nat.le_refl _) (hwant := rfl) (hd := rfl); (focus (intro w'; go_simp; first | done | rfl | exact ⟨rfl, rfl⟩)); (focus (intro w'; go_at_call 49; exact eq_whirl _ _ _ _ _ _ _ _ _ _ (by assumption) (by assumption) (by assumption) (by assumption) (by assumption) (by assumption))); skip; go_simp; refine hK _ ?_; clear hK K))
      refine Loose.walk_nil ?_
      intro w1 hcls1
      obtain ⟨hb1, _⟩ := hcls1
      obtain ⟨hc1, hf1⟩ := Fl.bcell hb1
      have hz1 := hb1.size
      try simp only [World.size_alloc, World.size_setCell, World.heap_drewN, World.size_drew] at hz1
      go_wp2
      go_roundw
      case rel => exact ⟨k + 1, by omega, by go_num, HB.out.trans (hb1.mono HB.out.size)⟩
      case measure => simp [intOf]; omega
    · go_wp2
      go_ret
      exact ⟨rfl, hbel⟩

theorem eq_none (w : World) : Calls Try.prog 16 #[.slice none 0 0, .slice none 0 0] w (RetD (.bool true) w) := by
  go_enter Try.func16, Try.ntmps16
  go_wp2
  go_loopw [5] (fun i wr => i = .int .i64 0 ∧ Below w.heap.size w wr) (fun i _ => 0)
  case atStart => exact ⟨rfl, Below.refl _ _⟩
  case round =>
    obtain ⟨rfl, hbel⟩ := hrel
    go_wp2
    go_ret
    exact ⟨rfl, hbel⟩

end Ws
end Go.Proofs.Ytpmnjbgfdhhomaa
