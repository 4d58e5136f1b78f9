/- Numbers that are told of basins: sums, squares, the least and the greatest. -/
import Derived.Test.YtbinjkaanbhikaaBaV
namespace Go.Proofs.Ytbinjkaanbhikaa
set_option linter.unusedSimpArgs false
set_option linter.unusedVariables false
open Go.RowKit
set_option maxRecDepth 20000
namespace Ba
open Fl Rate

/-- A number and whether there is one. -/
def RetN (c : Option Nat) (w : World) (e : Ending) (w' : World) : Prop := ∃ r, e = .returned (.tuple #[.float .f32 r, .bool (finC c)]) ∧ Fr .f32 r (if finC c then c else some 0) ∧ Below w.heap.size w w'

theorem zero32 : Fr .f32 0 (some 0) := Fr.const (by decide +kernel) (by decide)

theorem impl_number (x : Nat) (c : Option Nat) (w : World) (f : Fr .f32 x c) : Calls Try.prog 90 #[.float .f32 x] w (RetN c w) := by
  have HF := Lib.hid (fun w => impl_fin x c w f)
  unfold RetN
  cases h : finC c
  all_goals
    rw [h] at HF
    go_enter Try.func90, Try.ntmps90
    go_wp2_with fail
    refine (HF.out _).mono ?_
    rintro e w1 ⟨rfl, hb1⟩
    go_wp2
    go_ret2
    exact ⟨_, rfl, by first | exact zero32 | exact f, by (repeat' first | exact Below.refl _ _ | (refine Below.setCell ?_ (by first | omega | (simp; omega) | simp) _) | (refine below_drewN ?_ _) | (refine Below.alloc ?_ (by first | omega | (simp; omega) | simp) _) | (refine Below.trans ?_ (Below.mono (by assumption) (by first | omega | (simp; omega) | simp))))⟩

theorem spec_number (x : Nat) (c : Option Nat) (w : World) (f : Fr .f32 x c) : Calls Try.prog 87 #[.float .f32 x] w (RetN c w) := by
  have HF := Lib.hid (fun w => spec_fin x c w f)
  unfold RetN
  cases h : finC c
  all_goals
    rw [h] at HF
    go_enter Try.func87, Try.ntmps87
    go_wp2_with fail
    refine (HF.out _).mono ?_
    rintro e w1 ⟨rfl, hb1⟩
    go_wp2
    go_ret2
    exact ⟨_, rfl, by first | exact zero32 | exact f, by (repeat' first | exact Below.refl _ _ | (refine Below.setCell ?_ (by first | omega | (simp; omega) | simp) _) | (refine below_drewN ?_ _) | (refine Below.alloc ?_ (by first | omega | (simp; omega) | simp) _) | (refine Below.trans ?_ (Below.mono (by assumption) (by first | omega | (simp; omega) | simp))))⟩

set_option maxHeartbeats 800000 in
theorem impl_sumy (a : Option Addr) (n cap : Nat) (c : Nat → Option Nat) (w : World) (h : IsY w a n cap c) (hn : n ≤ 256) :
    Calls Try.prog 193 #[.slice a n cap] w (RetFB (Nums.accC c n) true w) := by
  obtain ⟨h2, h3, b, off, h5, h6⟩ := h
  have H5 := Lib.hid h5; clear h5
  have H6 := Lib.hid h6; clear h6
  unfold maxLen at h3
  go_enter Try.func193, Try.ntmps193
  go_wp2
  go_loopw [4, 12] (fun s i wr => ∃ k r : Nat, k ≤ n ∧ i = .int .i64 k ∧ s = .float .f32 r ∧ Fr .f32 r (Nums.accC c k) ∧ Below w.heap.size w wr) (fun _ i _ => n - (intOf i).toNat)
  case atStart => exact ⟨0, 0, Nat.zero_le _, rfl, rfl, zero32, Below.refl _ _⟩
  case round =>
    obtain ⟨k, r, hk, rfl, rfl, fr, hbel⟩ := hrel
    by_cases hlt : k < n
    · obtain rfl := H5.out (by omega)
      obtain ⟨v, hsrc, fx, hlb⟩ := at_y H6.out hlt hbel
      have HB := Lib.hid hbel; clear hbel
      go_wp2_with (refine wpList_fl rfl rfl rfl rfl rfl (by assumption) (by assumption) ?_; intro r' n' hr')
      go_roundw
      case rel => exact ⟨k + 1, r', by omega, by go_num, rfl, hr', by exact below_drewN HB.out _⟩
      case measure => simp [intOf]; omega
    · have hkl : k = n := by omega
      have HK := Lib.hid hkl; clear hkl
      go_wp2
      go_ret2
      exact ⟨r, rfl, by rw [← HK.out]; exact fr, hbel⟩

/-- The classes of squares. -/
def sqC (c : Nat → Option Nat) (i : Nat) : Option Nat := op2 .mul .f32 (c i) (c i)

theorem impl_finsum (a : Option Addr) (n cap : Nat) (c : Nat → Option Nat) (w : World) (h : IsY w a n cap c) (hn : n ≤ 256) :
    Calls Try.prog 181 #[.slice a n cap] w (RetN (Nums.accC c n) w) := by
  have HS := Lib.hid (impl_sumy a n cap c w h hn)
  clear h
  generalize Nums.accC c n = d at *
  have HN := Lib.hid (fun x w f => impl_number x d w f)
  unfold RetN at *
  generalize finC d = B at *
  generalize (if B then d else some 0) = d2 at *
  go_enter Try.func181, Try.ntmps181
  go_wp2_with (first | (go_at_call 193; refine HS.out.mono ?_; rintro e w1 ⟨r1, rfl, hr1, hb1⟩) | (go_at_call 90; refine (HN.out _ _ (by assumption)).mono ?_; rintro e w2 ⟨r2, rfl, hr2, hb2⟩) | (go_at_call 188; go_in))
  go_ret2
  exact ⟨_, rfl, hr2, by have hz1 := hb1.size; have hz2 := hb2.size; (repeat' first | exact Below.refl _ _ | (refine Below.setCell ?_ (by first | omega | (simp; omega) | simp) _) | (refine below_drewN ?_ _) | (refine Below.alloc ?_ (by first | omega | (simp; omega) | simp) _) | (refine Below.trans ?_ (Below.mono (by assumption) (by first | omega | (simp; omega) | simp))))⟩

set_option maxHeartbeats 800000 in
theorem spec_total (G : Nat) (a : Option Addr) (n cap : Nat) (c : Nat → Option Nat) (w : World) (h : IsY w a n cap c) (e2 : w.cell? ⟨G, 2, none⟩ = some (.slice a n cap)) :
    Calls Try.prog 147 #[.pointer (some ⟨G, 0, none⟩)] w (RetF .f32 (Nums.accC c n) w) := by
  obtain ⟨h2, h3, b, off, h5, h6⟩ := h
  have H5 := Lib.hid h5; clear h5
  have H6 := Lib.hid h6; clear h6
  unfold maxLen at h3
  have hG := block_lt_of_cell e2
  have HE := Lib.hid e2
  go_enter Try.func147, Try.ntmps147
  go_wp2
  clear e2
  go_loopw [3, 4] (fun s i wr => ∃ k r : Nat, k ≤ n ∧ i = .int .i64 k ∧ s = .float .f32 r ∧ Fr .f32 r (Nums.accC c k) ∧ Below w.heap.size w wr) (fun _ i _ => n - (intOf i).toNat)
  case atStart => exact ⟨0, 0, Nat.zero_le _, rfl, rfl, zero32, Below.refl _ _⟩
  case round =>
    obtain ⟨k, r, hk, rfl, rfl, fr, hbel⟩ := hrel
    have e2 : wr.cell? ⟨G, 2, none⟩ = some (.slice a n cap) := by rw [hbel.cell hG]; exact HE.out
    by_cases hlt : k < n
    · obtain rfl := H5.out (by omega)
      obtain ⟨v, hsrc, fx, hlb⟩ := at_y H6.out hlt hbel
      have HB := Lib.hid hbel; clear hbel
      go_wp2_with (refine wpList_fl rfl rfl rfl rfl rfl (by assumption) (by assumption) ?_; intro r' n' hr')
      go_roundw
      case rel => exact ⟨k + 1, r', by omega, by go_num, rfl, hr', by exact below_drewN HB.out _⟩
      case measure => simp [intOf]; omega
    · have hkl : k = n := by omega
      have HK := Lib.hid hkl; clear hkl
      go_wp2
      go_ret
      exact ⟨r, rfl, by rw [← HK.out]; exact fr, hbel⟩

end Ba
end Go.Proofs.Ytbinjkaanbhikaa
