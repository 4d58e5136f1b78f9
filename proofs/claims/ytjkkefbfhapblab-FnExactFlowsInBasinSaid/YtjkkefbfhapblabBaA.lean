/- Remainders, and what is at a place of a basin. -/
import Derived.Test.YtjkkefbfhapblabBaV
import Derived.IntWalk
namespace Go.Proofs.Ytjkkefbfhapblab
set_option linter.unusedSimpArgs false
set_option linter.unusedVariables false
open Go.RowKit
set_option maxRecDepth 20000
namespace Ba
open Fl Rate

theorem tmod_cases (k n : Int) (hn : 0 < n) : k.tmod n = k % n ∨ k.tmod n = k % n - n := by
  rw [Int.tmod_eq_emod]
  split
  · exact .inl (by omega)
  · exact .inr (by omega)

theorem rem_eq (k n : Int) (hn : 0 < n) : (k.tmod n + n) % n = k % n := by
  rcases tmod_cases k n hn with h | h
  · rw [h, Int.add_emod_right, Int.emod_emod]
  · rw [h, Int.sub_add_cancel, Int.emod_emod]

theorem rem_bd (k n : Int) (hn : 0 < n) : 0 ≤ k.tmod n + n ∧ k.tmod n + n < 2 * n ∧ -n ≤ k.tmod n ∧ k.tmod n < n := by
  have h0 := Int.emod_nonneg k (show n ≠ 0 by omega)
  have h1 := Int.emod_lt_of_pos k hn
  rcases tmod_cases k n hn with h | h
  · omega
  · omega

/-- The index of a place. -/
def idx (W H x y : Int) : Nat := (x % W + W * (y % H)).toNat

theorem idx_facts {W H : Int} (h : sideB W = true) (h' : sideB H = true) (x y : Int) : 0 ≤ x % W ∧ x % W < W ∧ 0 ≤ y % H ∧ y % H < H ∧ 0 ≤ W * (y % H) ∧ W * (y % H) ≤ 256 ∧ 0 ≤ x % W + W * (y % H) ∧ x % W + W * (y % H) < W * H := by
  obtain ⟨a, b⟩ := side_of h
  obtain ⟨a', b'⟩ := side_of h'
  have h0 := Int.emod_nonneg x (show W ≠ 0 by omega)
  have h1 := Int.emod_lt_of_pos x (show 0 < W by omega)
  have h2 := Int.emod_nonneg y (show H ≠ 0 by omega)
  have h3 := Int.emod_lt_of_pos y (show 0 < H by omega)
  have h4 : 0 ≤ W * (y % H) := Int.mul_nonneg (by omega) h2
  have h5 : W * (y % H) ≤ W * (H - 1) := Int.mul_le_mul_of_nonneg_left (by omega) (by omega)
  have h6 : W * (H - 1) = W * H - W := by rw [Int.mul_sub, Int.mul_one]
  have := mul_bd h h'
  refine ⟨h0, h1, h2, h3, h4, by omega, by omega, by omega⟩

theorem idx_lt {W H : Int} {n : Nat} (h : sideB W = true) (h' : sideB H = true) (hn : (n : Int) = W * H) (x y : Int) : idx W H x y < n := by
  have := idx_facts h h' x y
  unfold idx
  omega

theorem impl_rem (k n : Int) (w : World) (hk : -1099511627776 ≤ k ∧ k ≤ 1099511627776) (hn : 3 ≤ n ∧ n ≤ 16) : Calls Try.prog 131 #[.int .i64 k, .int .i64 n] w fun e w' => e = .returned (.int .i64 (k % n)) ∧ w = w' := by
  have hb := rem_bd k n (by omega)
  have HR := Lib.hid (rem_eq k n (by omega))
  have hd : (n == 0) = false := by simp; omega
  go_enter Try.func131, Try.ntmps131
  go_wp2
  go_ret
  exact ⟨by rw [← HR.out]; rfl, rfl⟩

theorem spec_rem (k n : Int) (w : World) (hk : -1099511627776 ≤ k ∧ k ≤ 1099511627776) (hn : 3 ≤ n ∧ n ≤ 16) : Calls Try.prog 130 #[.int .i64 k, .int .i64 n] w fun e w' => e = .returned (.int .i64 (k % n)) ∧ w = w' := by
  have hb := rem_bd k n (by omega)
  have HR := Lib.hid (rem_eq k n (by omega))
  have hd : (n == 0) = false := by simp; omega
  go_enter Try.func130, Try.ntmps130
  go_wp2
  go_ret
  exact ⟨by rw [← HR.out]; rfl, rfl⟩

set_option maxHeartbeats 1600000 in
theorem impl_at (W H : Int) (a : Option Addr) (n cap : Nat) (c : Nat → Option Nat) (w : World) (h : IsY w a n cap c) (hW : sideB W = true) (hH : sideB H = true) (hn : (n : Int) = W * H) (x y : Int) (hx : -1099511627776 ≤ x ∧ x ≤ 1099511627776) (hy : -1099511627776 ≤ y ∧ y ≤ 1099511627776) : Calls Try.prog 92 #[bV W H a n cap, .int .i64 x, .int .i64 y] w (RetF .f32 (c (idx W H x y)) w) := by
  obtain ⟨h2, h3, b, off, h5, h6⟩ := h
  have hlt := idx_lt hW hH hn x y
  obtain rfl := h5 (by omega)
  obtain ⟨v, e3, fv⟩ := h6 _ hlt
  have hbl := block_lt_of_cell e3
  have sW := side_of hW
  have sH := side_of hH
  have hi := idx_facts hW hH x y
  have hwrap1 : IntKind.i64.wrap (W * (y % H)) = W * (y % H) := IntWalk.i64_in _ (by omega)
  have hwrap2 : IntKind.i64.wrap (x % W + W * (y % H)) = x % W + W * (y % H) := IntWalk.i64_in _ (by have := mul_bd hW hH; omega)
  have h0 : 0 ≤ x % W + W * (y % H) := hi.2.2.2.2.2.2.1
  have hil : x % W + W * (y % H) < (n : Int) := by rw [hn]; exact hi.2.2.2.2.2.2.2
  have hid : decide (x % W + W * (y % H) < (n : Int)) = true := decide_eq_true hil
  have htn : (x % W + W * (y % H)).toNat = idx W H x y := rfl
  have hidd : idx W H x y < n := hlt
  unfold maxLen at h3
  clear h6 hlt hn hi hil
  generalize idx W H x y = I at *
  go_enter Try.func92, Try.ntmps92
  go_wp2
  go_quiet ((go_at_call 131; exact quiet_eq (impl_rem _ _ _ (by omega) (by omega))))
  go_wp2
  go_ret
  exact ⟨v, rfl, fv, by (repeat' first | exact Below.refl _ _ | (refine Below.setCell ?_ (by first | omega | (simp; omega) | simp) _) | (refine below_drewN ?_ _) | (refine Below.alloc ?_ (by first | omega | (simp; omega) | simp) _) | (refine Below.trans ?_ (Below.mono (by assumption) (by first | omega | (simp; omega) | simp))))⟩

set_option maxHeartbeats 1600000 in
theorem spec_at (G : Nat) (W H : Int) (a : Option Addr) (n cap : Nat) (c : Nat → Option Nat) (w : World) (h : IsY w a n cap c) (hW : sideB W = true) (hH : sideB H = true) (hn : (n : Int) = W * H) (x y : Int) (hx : -1099511627776 ≤ x ∧ x ≤ 1099511627776) (hy : -1099511627776 ≤ y ∧ y ≤ 1099511627776) (e0 : w.cell? ⟨G, 0, none⟩ = some (.int .i64 W)) (e1 : w.cell? ⟨G, 1, none⟩ = some (.int .i64 H)) (e2 : w.cell? ⟨G, 2, none⟩ = some (.slice a n cap)) : Calls Try.prog 88 #[.pointer (some ⟨G, 0, none⟩), .int .i64 x, .int .i64 y] w (RetF .f32 (c (idx W H x y)) w) := by
  obtain ⟨h2, h3, b, off, h5, h6⟩ := h
  have hlt := idx_lt hW hH hn x y
  obtain rfl := h5 (by omega)
  obtain ⟨v, e3, fv⟩ := h6 _ hlt
  have hbl := block_lt_of_cell e3
  have sW := side_of hW
  have sH := side_of hH
  have hi := idx_facts hW hH x y
  have hwrap1 : IntKind.i64.wrap (W * (y % H)) = W * (y % H) := IntWalk.i64_in _ (by omega)
  have hwrap2 : IntKind.i64.wrap (x % W + W * (y % H)) = x % W + W * (y % H) := IntWalk.i64_in _ (by have := mul_bd hW hH; omega)
  have h0 : 0 ≤ x % W + W * (y % H) := hi.2.2.2.2.2.2.1
  have hil : x % W + W * (y % H) < (n : Int) := by rw [hn]; exact hi.2.2.2.2.2.2.2
  have hid : decide (x % W + W * (y % H) < (n : Int)) = true := decide_eq_true hil
  have htn : (x % W + W * (y % H)).toNat = idx W H x y := rfl
  have hidd : idx W H x y < n := hlt
  unfold maxLen at h3
  clear h6 hlt hn hi hil
  generalize idx W H x y = I at *
  go_enter Try.func88, Try.ntmps88
  go_wp2
  go_quiet ((go_at_call 130; exact quiet_eq (spec_rem _ _ _ (by omega) (by omega))))
  go_wp2
  go_ret
  exact ⟨v, rfl, fv, by (repeat' first | exact Below.refl _ _ | (refine Below.setCell ?_ (by first | omega | (simp; omega) | simp) _) | (refine below_drewN ?_ _) | (refine Below.alloc ?_ (by first | omega | (simp; omega) | simp) _) | (refine Below.trans ?_ (Below.mono (by assumption) (by first | omega | (simp; omega) | simp))))⟩

end Ba
end Go.Proofs.Ytjkkefbfhapblab
