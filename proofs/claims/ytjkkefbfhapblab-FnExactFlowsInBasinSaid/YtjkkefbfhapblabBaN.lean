/- Numbers that are told of basins: sums, squares, the least and the greatest. -/
import Derived.Test.YtjkkefbfhapblabBaV
namespace Go.Proofs.Ytjkkefbfhapblab
set_option linter.unusedSimpArgs false
set_option linter.unusedVariables false
open Go.RowKit
set_option maxRecDepth 20000
namespace Ba
open Fl Rate

/-- A number and whether there is one. -/
def RetN (c : Option Nat) (w : World) (e : Ending) (w' : World) : Prop := ∃ r, e = .returned (.tuple #[.float .f32 r, .bool (finC c)]) ∧ Fr .f32 r (if finC c then c else some 0) ∧ Below w.heap.size w w'

theorem zero32 : Fr .f32 0 (some 0) := Fr.const (by decide +kernel) (by decide)

theorem impl_number (x : Nat) (c : Option Nat) (w : World) (f : Fr .f32 x c) : Calls Try.prog 110 #[.float .f32 x] w (RetN c w) := by
  have HF := Lib.hid (fun w => impl_fin x c w f)
  unfold RetN
  cases h : finC c
  all_goals
    rw [h] at HF
    go_enter Try.func110, Try.ntmps110
    go_wp2_with fail
    refine (HF.out _).mono ?_
    rintro e w1 ⟨rfl, hb1⟩
    go_wp2
    go_ret2
    exact ⟨_, rfl, by first | exact zero32 | exact f, by (repeat' first | exact Below.refl _ _ | (refine Below.setCell ?_ (by first | omega | (simp; omega) | simp) _) | (refine below_drewN ?_ _) | (refine Below.alloc ?_ (by first | omega | (simp; omega) | simp) _) | (refine Below.trans ?_ (Below.mono (by assumption) (by first | omega | (simp; omega) | simp))))⟩

set_option maxHeartbeats 800000 in
theorem impl_sumy (a : Option Addr) (n cap : Nat) (c : Nat → Option Nat) (w : World) (h : IsY w a n cap c) (hn : n ≤ 256) :
    Calls Try.prog 179 #[.slice a n cap] w (RetFB (Nums.accC c n) true w) := by
  obtain ⟨h2, h3, b, off, h5, h6⟩ := h
  have H5 := Lib.hid h5; clear h5
  have H6 := Lib.hid h6; clear h6
  unfold maxLen at h3
  go_enter Try.func179, Try.ntmps179
  go_wp2
  go_loopw [4, 12] (fun s i wr => ∃ k r : Nat, k ≤ n ∧ i = .int .i64 k ∧ s = .float .f32 r ∧ Fr .f32 r (Nums.accC c k) ∧ Below w.heap.size w wr) (fun _ i _ => n - (intOf i).toNat)
  case atStart => exact ⟨0, 0, Nat.zero_le _, rfl, rfl, zero32, Below.refl _ _⟩
  case round =>
    obtain ⟨k, r, hk, rfl, rfl, fr, hbel⟩ := hrel
    by_cases hlt : k < n
    · obtain rfl := H5.out (by omega)
      obtain ⟨v, hsrc, fx, hlb⟩ := at_y H6.out hlt hbel
      have HB := Lib.hid hbel; clear hbel
      go_wp2_with (refine wpList_fl rfl rfl rfl rfl rfl (by assumption) (by assumption) ?_; intro r' n' hr')
      go_roundw
      case rel => exact ⟨k + 1, r', by omega, by go_num, rfl, hr', by exact below_drewN HB.out _⟩
      case measure => simp [intOf]; omega
    · have hkl : k = n := by omega
      have HK := Lib.hid hkl; clear hkl
      go_wp2
      go_ret2
      exact ⟨r, rfl, by rw [← HK.out]; exact fr, hbel⟩

/-- The classes of squares. -/
def sqC (c : Nat → Option Nat) (i : Nat) : Option Nat := op2 .mul .f32 (c i) (c i)

set_option maxHeartbeats 1600000 in
theorem impl_doty (a : Option Addr) (n cap : Nat) (c : Nat → Option Nat) (w : World) (h : IsY w a n cap c) (hn : n ≤ 256) :
    Calls Try.prog 109 #[.slice a n cap, .slice a n cap] w (RetFB (Nums.accC (sqC c) n) true w) := by
  obtain ⟨h2, h3, b, off, h5, h6⟩ := h
  have H5 := Lib.hid h5; clear h5
  have H6 := Lib.hid h6; clear h6
  unfold maxLen at h3
  go_enter Try.func109, Try.ntmps109
  go_wp2_with (go_at_call 143; go_in)
  go_loopw [8, 23] (fun s i wr => ∃ k r : Nat, k ≤ n ∧ i = .int .i64 k ∧ s = .float .f32 r ∧ Fr .f32 r (Nums.accC (sqC c) k) ∧ Below w.heap.size w wr) (fun _ i _ => n - (intOf i).toNat)
  case atStart => exact ⟨0, 0, Nat.zero_le _, rfl, rfl, zero32, Below.refl _ _⟩
  case round =>
    obtain ⟨k, r, hk, rfl, rfl, fr, hbel⟩ := hrel
    by_cases hlt : k < n
    · obtain rfl := H5.out (by omega)
      obtain ⟨v, hsrc, fx, hlb⟩ := at_y H6.out hlt hbel
      have HB := Lib.hid hbel; clear hbel
      go_wp2_with (first | (refine wpList_fl rfl rfl rfl rfl rfl (by assumption) (by assumption) ?_; intro r' n' hr') | go_in)
      go_roundw
      case rel => exact ⟨k + 1, _, by omega, by go_num, rfl, by assumption, by exact below_drewN HB.out _⟩
      case measure => simp [intOf]; omega
    · have hkl : k = n := by omega
      have HK := Lib.hid hkl; clear hkl
      go_wp2
      go_ret2
      exact ⟨r, rfl, by rw [← HK.out]; exact fr, hbel⟩

theorem impl_finsum (a : Option Addr) (n cap : Nat) (c : Nat → Option Nat) (w : World) (h : IsY w a n cap c) (hn : n ≤ 256) :
    Calls Try.prog 167 #[.slice a n cap] w (RetN (Nums.accC c n) w) := by
  have HS := Lib.hid (impl_sumy a n cap c w h hn)
  clear h
  generalize Nums.accC c n = d at *
  have HN := Lib.hid (fun x w f => impl_number x d w f)
  unfold RetN at *
  generalize finC d = B at *
  generalize (if B then d else some 0) = d2 at *
  go_enter Try.func167, Try.ntmps167
  go_wp2_with (first | (go_at_call 179; refine HS.out.mono ?_; rintro e w1 ⟨r1, rfl, hr1, hb1⟩) | (go_at_call 110; refine (HN.out _ _ (by assumption)).mono ?_; rintro e w2 ⟨r2, rfl, hr2, hb2⟩) | (go_at_call 174; go_in))
  go_ret2
  exact ⟨_, rfl, hr2, by have hz1 := hb1.size; have hz2 := hb2.size; (repeat' first | exact Below.refl _ _ | (refine Below.setCell ?_ (by first | omega | (simp; omega) | simp) _) | (refine below_drewN ?_ _) | (refine Below.alloc ?_ (by first | omega | (simp; omega) | simp) _) | (refine Below.trans ?_ (Below.mono (by assumption) (by first | omega | (simp; omega) | simp))))⟩

set_option maxHeartbeats 800000 in
theorem spec_total (G : Nat) (a : Option Addr) (n cap : Nat) (c : Nat → Option Nat) (w : World) (h : IsY w a n cap c) (e2 : w.cell? ⟨G, 2, none⟩ = some (.slice a n cap)) :
    Calls Try.prog 166 #[.pointer (some ⟨G, 0, none⟩)] w (RetF .f32 (Nums.accC c n) w) := by
  obtain ⟨h2, h3, b, off, h5, h6⟩ := h
  have H5 := Lib.hid h5; clear h5
  have H6 := Lib.hid h6; clear h6
  unfold maxLen at h3
  have hG := block_lt_of_cell e2
  have HE := Lib.hid e2
  go_enter Try.func166, Try.ntmps166
  go_wp2
  clear e2
  go_loopw [3, 4] (fun s i wr => ∃ k r : Nat, k ≤ n ∧ i = .int .i64 k ∧ s = .float .f32 r ∧ Fr .f32 r (Nums.accC c k) ∧ Below w.heap.size w wr) (fun _ i _ => n - (intOf i).toNat)
  case atStart => exact ⟨0, 0, Nat.zero_le _, rfl, rfl, zero32, Below.refl _ _⟩
  case round =>
    obtain ⟨k, r, hk, rfl, rfl, fr, hbel⟩ := hrel
    have e2 : wr.cell? ⟨G, 2, none⟩ = some (.slice a n cap) := by rw [hbel.cell hG]; exact HE.out
    by_cases hlt : k < n
    · obtain rfl := H5.out (by omega)
      obtain ⟨v, hsrc, fx, hlb⟩ := at_y H6.out hlt hbel
      have HB := Lib.hid hbel; clear hbel
      go_wp2_with (refine wpList_fl rfl rfl rfl rfl rfl (by assumption) (by assumption) ?_; intro r' n' hr')
      go_roundw
      case rel => exact ⟨k + 1, r', by omega, by go_num, rfl, hr', by exact below_drewN HB.out _⟩
      case measure => simp [intOf]; omega
    · have hkl : k = n := by omega
      have HK := Lib.hid hkl; clear hkl
      go_wp2
      go_ret
      exact ⟨r, rfl, by rw [← HK.out]; exact fr, hbel⟩

set_option maxHeartbeats 800000 in
theorem spec_squares (G : Nat) (a : Option Addr) (n cap : Nat) (c : Nat → Option Nat) (w : World) (h : IsY w a n cap c) (e2 : w.cell? ⟨G, 2, none⟩ = some (.slice a n cap)) :
    Calls Try.prog 66 #[.pointer (some ⟨G, 0, none⟩)] w (RetF .f32 (Nums.accC (sqC c) n) w) := by
  obtain ⟨h2, h3, b, off, h5, h6⟩ := h
  have H5 := Lib.hid h5; clear h5
  have H6 := Lib.hid h6; clear h6
  unfold maxLen at h3
  have hG := block_lt_of_cell e2
  have HE := Lib.hid e2
  go_enter Try.func66, Try.ntmps66
  go_wp2
  clear e2
  go_loopw [3, 4] (fun s i wr => ∃ k r : Nat, k ≤ n ∧ i = .int .i64 k ∧ s = .float .f32 r ∧ Fr .f32 r (Nums.accC (sqC c) k) ∧ Below w.heap.size w wr) (fun _ i _ => n - (intOf i).toNat)
  case atStart => exact ⟨0, 0, Nat.zero_le _, rfl, rfl, zero32, Below.refl _ _⟩
  case round =>
    obtain ⟨k, r, hk, rfl, rfl, fr, hbel⟩ := hrel
    have e2 : wr.cell? ⟨G, 2, none⟩ = some (.slice a n cap) := by rw [hbel.cell hG]; exact HE.out
    by_cases hlt : k < n
    · obtain rfl := H5.out (by omega)
      obtain ⟨v, hsrc, fx, hlb⟩ := at_y H6.out hlt hbel
      have HB := Lib.hid hbel; clear hbel
      have hGr : G < wr.heap.size := block_lt_of_cell e2
      go_wp2_with fail
      refine Loose.wp_region_below 17 [] (by kernel_rfl) (by kernel_rfl) (by simp [undef]) ?_
      apply Exists.intro
      simp only [List.take_succ_cons, List.take_zero, List.drop_succ_cons, List.drop_zero]
      repeat (first | (apply Loose.walk_step; intro K hK; apply Loose.turn_value (hwant := rfl) (hd := rfl); (focus (intro w' hw'; obtain ⟨hc, hf⟩ := Fl.bcell hw'; go_simp; first | done | rfl | exact ⟨rfl, rfl⟩)); go_simp; refine hK _ ?_; clear hK K) | (apply Loose.walk_step; intro K hK; refine Loose.turn_fl (Nat.le_refl _) rfl rfl rfl rfl rfl rfl (by assumption) (by assumption) ?_; intro r hr; go_simp; refine hK _ ?_; clear hK K))
      refine Loose.walk_nil ?_
      intro w1 hcls1
      obtain ⟨hb1, _⟩ := hcls1
      obtain ⟨hc1, hf1⟩ := Fl.bcell hb1
      have hz1 := hb1.size
      try simp only [World.size_alloc, World.size_setCell, World.heap_drewN, World.size_drew] at hz1
      go_wp2
      go_roundw
      case rel => exact ⟨k + 1, _, by omega, by go_num, rfl, by assumption, by exact HB.out.trans (hb1.mono HB.out.size)⟩
      case measure => simp [intOf]; omega
    · have hkl : k = n := by omega
      have HK := Lib.hid hkl; clear hkl
      go_wp2
      go_ret
      exact ⟨r, rfl, by rw [← HK.out]; exact fr, hbel⟩

end Ba
end Go.Proofs.Ytjkkefbfhapblab
