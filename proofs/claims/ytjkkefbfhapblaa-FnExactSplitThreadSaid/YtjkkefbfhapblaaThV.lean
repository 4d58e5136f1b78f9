/- Whether threads are threads: the program's functions and the model's. -/
import Derived.Test.YtjkkefbfhapblaaThB
import Derived.Test.YtjkkefbfhapblaaFinite
import Derived.Test.YtjkkefbfhapblaaFin
import Derived.Deep.QuietTactic
import Derived.BigQuiet
namespace Go.Proofs.Ytjkkefbfhapblaa
set_option linter.unusedSimpArgs false
set_option linter.unusedVariables false
open Go.RowKit
set_option maxRecDepth 20000
namespace Th
open Fl Rate

theorem quiet_eq {P : Program} {f : FuncId} {args : Array Value} {w : World} {n : Nat} {v : Value} (h : Calls P f args (w.drewN n) fun e w' => e = .returned v ∧ w.drewN n = w') : Calls P f args (w.drewN n) fun e w'' => e = .returned v ∧ ∃ m, w'' = w.drewN m :=
  h.mono fun _ _ ⟨he, hm⟩ => ⟨he, n, hm.symm⟩

/-- Whether all numbers of the first k vectors are finite. -/
def allV (c : Nat → Option Nat) : Nat → Bool
  | 0 => true
  | k + 1 => allV c k && (finC (c (k * 3)) && finC (c (k * 3 + 1)) && finC (c (k * 3 + 2)))

theorem allV_le {c : Nat → Option Nat} {k n : Nat} (h : allV c k = false) (hk : k ≤ n) : allV c n = false := by
  induction n with
  | zero => obtain rfl : k = 0 := by omega
            exact h
  | succ n ih =>
    by_cases e : k = n + 1
    · rw [← e]; exact h
    · show (allV c n && _) = false
      rw [ih (by omega)]; rfl

theorem allV_congr {c d : Nat → Option Nat} {n : Nat} (h : ∀ i, i < n * 3 → c i = d i) : allV c n = allV d n := by
  induction n with
  | zero => rfl
  | succ n ih =>
    show (allV c n && _) = (allV d n && _)
    rw [ih (fun i hi => h i (by omega)), h (n * 3) (by omega), h (n * 3 + 1) (by omega), h (n * 3 + 2) (by omega)]

/-- Whether these make a thread. -/
def okT (n : Nat) (s : Option Nat) (c : Nat → Option Nat) : Bool := (decide (3 ≤ (n : Int)) && decide ((n : Int) ≤ 32)) && (finC s && allV c n)

theorem okT_of {n : Nat} {s : Option Nat} {c : Nat → Option Nat} (h : okT n s c = true) : 3 ≤ n ∧ n ≤ 32 ∧ finC s = true ∧ allV c n = true := by
  unfold okT at h
  simp only [Bool.and_eq_true, decide_eq_true_eq] at h
  exact ⟨by omega, by omega, h.2.1, h.2.2⟩

theorem impl_fin (x : Nat) (c : Option Nat) (w : World) (f : Fr .f32 x c) : Calls Try.prog 68 #[.float .f32 x] w (RetD (.bool (finC c)) w) :=
  (Finite.impl_finite x w f.2).mono fun e w' ⟨he, hw⟩ => ⟨by rw [he, fin_cl f], by rw [hw]; exact Below.refl _ _⟩

theorem impl_fin0 (x : Nat) (c : Option Nat) (w : World) (f : Fr .f32 x c) : Calls Try.prog 68 #[.float .f32 x] w fun e w' => e = .returned (.bool (finC c)) ∧ w = w' :=
  (Finite.impl_finite x w f.2).mono fun e w' ⟨he, hw⟩ => ⟨by rw [he, fin_cl f], hw⟩

theorem wf_lt' (b : Nat) (h : b < 2 ^ FloatKind.f32.format.width) : (Lit.float .f32 b).wf = true := by
  have h' : b < 4294967296 := h
  simpa [Lit.wf] using h'

theorem spec_fin (x : Nat) (c : Option Nat) (w : World) (f : Fr .f32 x c) : Calls Try.prog 64 #[.float .f32 x] w (RetD (.bool (finC c)) w) :=
  (Finite.spec_finite x w (wf_lt' x f.2)).mono fun e w' ⟨n, he, hw⟩ => ⟨by rw [he, fin_cl f], by rw [hw]; exact below_drewN (Below.refl _ _) n⟩

theorem impl_vfin (x y z : Nat) (c0 c1 c2 : Option Nat) (w : World) (f0 : Fr .f32 x c0) (f1 : Fr .f32 y c1) (f2 : Fr .f32 z c2) (A : Bool) (hA : (finC c0 && finC c1 && finC c2) = A) : Calls Try.prog 97 #[.agg #[.float .f32 x, .float .f32 y, .float .f32 z]] w (RetD (.bool A) w) := by
  have hx : x < 4294967296 := f0.2
  have hy : y < 4294967296 := f1.2
  have hz : z < 4294967296 := f2.2
  rw [← fin_cl f0, ← fin_cl f1, ← fin_cl f2] at hA
  clear f0 f1 f2
  cases h1 : fin .f32 x
  all_goals cases h2 : fin .f32 y
  all_goals cases h3 : fin .f32 z
  all_goals rw [h1, h2, h3] at hA
  all_goals subst hA
  all_goals
    go_enter Try.func97, Try.ntmps97
    go_wp2_with (first | (go_at_call 68; refine (Finite.impl_finite _ _ (by assumption)).mono ?_; rintro e w' ⟨rfl, rfl⟩))
    go_ret
    exact ⟨rfl, by (repeat' first | exact Below.refl _ _ | (refine Below.setCell ?_ (by first | omega | (simp; omega) | simp) _) | (refine below_drewN ?_ _) | (refine Below.alloc ?_ (by first | omega | (simp; omega) | simp) _) | (refine Below.trans ?_ (Below.mono (by assumption) (by first | omega | (simp; omega) | simp))))⟩

theorem spec_vfin (x y z : Nat) (c0 c1 c2 : Option Nat) (w : World) (f0 : Fr .f32 x c0) (f1 : Fr .f32 y c1) (f2 : Fr .f32 z c2) (A : Bool) (hA : (finC c0 && finC c1 && finC c2) = A) : Calls Try.prog 93 #[.agg #[.float .f32 x, .float .f32 y, .float .f32 z]] w (RetD (.bool A) w) := by
  have wx : (Lit.float .f32 x).wf = true := wf_lt' x f0.2
  have wy : (Lit.float .f32 y).wf = true := wf_lt' y f1.2
  have wz : (Lit.float .f32 z).wf = true := wf_lt' z f2.2
  rw [← fin_cl f0, ← fin_cl f1, ← fin_cl f2] at hA
  clear f0 f1 f2
  cases h1 : fin .f32 x
  all_goals cases h2 : fin .f32 y
  all_goals cases h3 : fin .f32 z
  all_goals rw [h1, h2, h3] at hA
  all_goals subst hA
  all_goals
    go_enter Try.func93, Try.ntmps93
    go_wp2_with (first | (go_at_call 64; refine (Finite.spec_finite _ _ (by assumption)).mono ?_; rintro e w' ⟨n, rfl, rfl⟩))
    go_ret
    exact ⟨rfl, by (repeat' first | exact Below.refl _ _ | (refine Below.setCell ?_ (by first | omega | (simp; omega) | simp) _) | (refine below_drewN ?_ _) | (refine Below.alloc ?_ (by first | omega | (simp; omega) | simp) _) | (refine Below.trans ?_ (Below.mono (by assumption) (by first | omega | (simp; omega) | simp))))⟩

theorem impl_count (n : Int) (w : World) : Calls Try.prog 90 #[.int .i64 n] w fun e w' => e = .returned (.bool (decide (3 ≤ n) && decide (n ≤ 32))) ∧ w = w' := by
  by_cases h1 : 3 ≤ n
  all_goals by_cases h2 : n ≤ 32
  all_goals
    first | have d1 : decide (3 ≤ n) = true := decide_eq_true h1 | have d1 : decide (3 ≤ n) = false := decide_eq_false h1
    first | have d2 : decide (n ≤ 32) = true := decide_eq_true h2 | have d2 : decide (n ≤ 32) = false := decide_eq_false h2
    have D := Lib.hid (And.intro d1 d2)
    clear d1 d2
    go_enter Try.func90, Try.ntmps90
    go_wp2
    go_ret
    exact ⟨by first | rfl | (simp only [D.out.1, D.out.2]; rfl), rfl⟩

set_option maxHeartbeats 3200000 in
theorem impl_is (a : Option Addr) (n cap s : Nat) (cs : Option Nat) (c : Nat → Option Nat) (w : World) (h : IsV w a n cap c) (fs : Fr .f32 s cs) (A : Bool) (hA : okT n cs c = A) : Calls Try.prog 54 #[tV a n cap s] w (RetD (.bool A) w) := by
  obtain ⟨h2, h3, b, off, h5, h6⟩ := h
  have H5 := Lib.hid h5; clear h5
  have H6 := Lib.hid h6; clear h6
  unfold maxLen at h3
  unfold okT at hA
  have hn9 : n ≤ 9223372036854775807 := by omega
  cases hc : (decide (3 ≤ (n : Int)) && decide ((n : Int) ≤ 32))
  · rw [hc] at hA
    obtain rfl : A = false := by rw [← hA]; rfl
    clear hA
    have HC := Lib.hid (fun w => hc ▸ impl_count (n : Int) w)
    clear hc
    go_enter Try.func54, Try.ntmps54
    go_wp2_with (go_at_call 90; refine (HC.out _).mono ?_; rintro e w1 ⟨rfl, rfl⟩)
    go_ret
    exact ⟨rfl, by (repeat' first | exact Below.refl _ _ | (refine Below.setCell ?_ (by first | omega | (simp; omega) | simp) _) | (refine below_drewN ?_ _) | (refine Below.alloc ?_ (by first | omega | (simp; omega) | simp) _) | (refine Below.trans ?_ (Below.mono (by assumption) (by first | omega | (simp; omega) | simp))))⟩
  rw [hc] at hA
  have HC := Lib.hid (fun w => hc ▸ impl_count (n : Int) w)
  clear hc
  cases hs : finC cs
  · rw [hs] at hA
    obtain rfl : A = false := by rw [← hA]; rfl
    clear hA
    have HF := Lib.hid (fun w => hs ▸ impl_fin0 s cs w fs)
    clear hs
    go_enter Try.func54, Try.ntmps54
    go_wp2_with (first | (go_at_call 90; refine (HC.out _).mono ?_; rintro e w1 ⟨rfl, rfl⟩) | (go_at_call 68; refine (HF.out _).mono ?_; rintro e w1 ⟨rfl, rfl⟩))
    go_ret
    exact ⟨rfl, by (repeat' first | exact Below.refl _ _ | (refine Below.setCell ?_ (by first | omega | (simp; omega) | simp) _) | (refine below_drewN ?_ _) | (refine Below.alloc ?_ (by first | omega | (simp; omega) | simp) _) | (refine Below.trans ?_ (Below.mono (by assumption) (by first | omega | (simp; omega) | simp))))⟩
  rw [hs] at hA
  have HF := Lib.hid (fun w => hs ▸ impl_fin0 s cs w fs)
  clear hs
  have hA' : allV c n = A := hA
  have HA := Lib.hid hA'
  clear hA hA'
  go_enter Try.func54, Try.ntmps54
  go_wp2_with (first | (go_at_call 90; refine (HC.out _).mono ?_; rintro e w1 ⟨rfl, rfl⟩) | (go_at_call 68; refine (HF.out _).mono ?_; rintro e w1 ⟨rfl, rfl⟩))
  go_loopw [19] (fun i wr => ∃ k : Nat, k ≤ n ∧ i = .int .i64 k ∧ allV c k = true ∧ Below w.heap.size w wr) (fun i _ => n - (intOf i).toNat)
  case atStart => exact ⟨0, Nat.zero_le _, rfl, rfl, by (repeat' first | exact Below.refl _ _ | (refine Below.setCell ?_ (by first | omega | (simp; omega) | simp) _) | (refine below_drewN ?_ _) | (refine Below.alloc ?_ (by first | omega | (simp; omega) | simp) _) | (refine Below.trans ?_ (Below.mono (by assumption) (by first | omega | (simp; omega) | simp))))⟩
  case round =>
    obtain ⟨k, hk, rfl, hall, hbel⟩ := hrel
    have HAL := Lib.hid hall; clear hall
    by_cases hlt : k < n
    · obtain rfl := H5.out (by omega)
      obtain ⟨x, y, z, hx, hy, hz, fx, fy, fz, hbr⟩ := at_v H6.out hlt hbel
      obtain ⟨A1, hA1⟩ : ∃ A, (finC (c (k * 3)) && finC (c (k * 3 + 1)) && finC (c (k * 3 + 2))) = A := ⟨_, rfl⟩
      have HX := Lib.hid (show allV c (k + 1) = (allV c k && A1) by rw [← hA1]; rfl)
      have HB := Lib.hid hbel; clear hbel
      have HCC := Lib.hid (fun w => impl_vfin x y z _ _ _ w fx fy fz _ hA1)
      clear hA1
      cases A1
      · go_wp2_with fail
        refine (HCC.out _).mono ?_
        rintro e w' ⟨rfl, hb⟩
        go_wp2
        go_ret
        exact ⟨by rw [← HA.out, allV_le (k := k + 1) (by rw [HX.out, HAL.out]; rfl) (by omega)]; rfl, by have hB := HB.out; have hbz := hB.size; (repeat' first | exact Below.refl _ _ | (refine Below.setCell ?_ (by first | omega | (simp; omega) | simp) _) | (refine below_drewN ?_ _) | (refine Below.alloc ?_ (by first | omega | (simp; omega) | simp) _) | (refine Below.trans ?_ (Below.mono (by assumption) (by first | omega | (simp; omega) | simp))))⟩
      · go_wp2_with fail
        refine (HCC.out _).mono ?_
        rintro e w' ⟨rfl, hb⟩
        go_wp2
        go_roundw
        case rel => exact ⟨k + 1, by omega, by go_num, by rw [HX.out, HAL.out]; rfl, by have hB := HB.out; have hbz := hB.size; (repeat' first | exact Below.refl _ _ | (refine Below.setCell ?_ (by first | omega | (simp; omega) | simp) _) | (refine below_drewN ?_ _) | (refine Below.alloc ?_ (by first | omega | (simp; omega) | simp) _) | (refine Below.trans ?_ (Below.mono (by assumption) (by first | omega | (simp; omega) | simp))))⟩
        case measure => simp [intOf]; omega
    · obtain rfl : n = k := by omega
      have HB := Lib.hid hbel; clear hbel
      go_wp2
      go_ret
      exact ⟨by rw [← HA.out, HAL.out]; rfl, HB.out⟩

set_option maxHeartbeats 3200000 in
theorem spec_is (G : Nat) (a : Option Addr) (n cap s : Nat) (cs : Option Nat) (c : Nat → Option Nat) (w : World) (e0 : w.cell? ⟨G, 0, none⟩ = some (.slice a n cap)) (e1 : w.cell? ⟨G, 1, none⟩ = some (.float .f32 s)) (h : IsV w a n cap c) (fs : Fr .f32 s cs) (A : Bool) (hA : okT n cs c = A) : Calls Try.prog 53 #[.pointer (some ⟨G, 0, none⟩)] w (RetD (.bool A) w) := by
  have hG := block_lt_of_cell e0
  obtain ⟨h2, h3, b, off, h5, h6⟩ := h
  have H5 := Lib.hid h5; clear h5
  have H6 := Lib.hid h6; clear h6
  unfold maxLen at h3
  have HE := Lib.hid e0
  unfold okT at hA
  have hn9 : n ≤ 9223372036854775807 := by omega
  by_cases h3' : (3 : Int) ≤ n
  rotate_left
  · rw [decide_eq_false h3'] at hA
    obtain rfl : A = false := by rw [← hA]; rfl
    clear hA
    go_enter Try.func53, Try.ntmps53
    go_wp2
    go_ret
    exact ⟨rfl, by (repeat' first | exact Below.refl _ _ | (refine Below.setCell ?_ (by first | omega | (simp; omega) | simp) _) | (refine below_drewN ?_ _) | (refine Below.alloc ?_ (by first | omega | (simp; omega) | simp) _) | (refine Below.trans ?_ (Below.mono (by assumption) (by first | omega | (simp; omega) | simp))))⟩
  by_cases h4' : (n : Int) ≤ 32
  rotate_left
  · rw [decide_eq_false h4', Bool.and_false] at hA
    obtain rfl : A = false := by rw [← hA]; rfl
    clear hA
    go_enter Try.func53, Try.ntmps53
    go_wp2
    go_ret
    exact ⟨rfl, by (repeat' first | exact Below.refl _ _ | (refine Below.setCell ?_ (by first | omega | (simp; omega) | simp) _) | (refine below_drewN ?_ _) | (refine Below.alloc ?_ (by first | omega | (simp; omega) | simp) _) | (refine Below.trans ?_ (Below.mono (by assumption) (by first | omega | (simp; omega) | simp))))⟩
  rw [decide_eq_true h3', decide_eq_true h4'] at hA
  cases hs : finC cs
  · rw [hs] at hA
    obtain rfl : A = false := by rw [← hA]; rfl
    clear hA
    have HF := Lib.hid (fun w => hs ▸ spec_fin s cs w fs)
    clear hs
    go_enter Try.func53, Try.ntmps53
    go_wp2_with fail
    refine (HF.out _).mono ?_
    rintro e w1 ⟨rfl, hb1⟩
    go_wp2
    go_ret
    exact ⟨rfl, by (repeat' first | exact Below.refl _ _ | (refine Below.setCell ?_ (by first | omega | (simp; omega) | simp) _) | (refine below_drewN ?_ _) | (refine Below.alloc ?_ (by first | omega | (simp; omega) | simp) _) | (refine Below.trans ?_ (Below.mono (by assumption) (by first | omega | (simp; omega) | simp))))⟩
  rw [hs] at hA
  have HF := Lib.hid (fun w => hs ▸ spec_fin s cs w fs)
  clear hs
  have hA' : allV c n = A := hA
  have HA := Lib.hid hA'
  clear hA hA'
  go_enter Try.func53, Try.ntmps53
  go_wp2_with fail
  refine (HF.out _).mono ?_
  rintro e w1 ⟨rfl, hb1⟩
  have HB1 := Lib.hid hb1
  clear hb1 e0 e1
  go_wp2
  go_loopw [3] (fun i wr => ∃ k : Nat, k ≤ n ∧ i = .int .i64 k ∧ allV c k = true ∧ Below w.heap.size w wr) (fun i _ => n - (intOf i).toNat)
  case atStart => exact ⟨0, Nat.zero_le _, rfl, rfl, HB1.out⟩
  case round =>
    obtain ⟨k, hk, rfl, hall, hbel⟩ := hrel
    have HAL := Lib.hid hall; clear hall
    have e2 : wr.cell? ⟨G, 0, none⟩ = some (.slice a n cap) := by rw [hbel.cell hG]; exact HE.out
    by_cases hlt : k < n
    · obtain rfl := H5.out (by omega)
      obtain ⟨x, y, z, hx, hy, hz, fx, fy, fz, hbr⟩ := at_v H6.out hlt hbel
      obtain ⟨A1, hA1⟩ : ∃ A, (finC (c (k * 3)) && finC (c (k * 3 + 1)) && finC (c (k * 3 + 2))) = A := ⟨_, rfl⟩
      have HX := Lib.hid (show allV c (k + 1) = (allV c k && A1) by rw [← hA1]; rfl)
      have HB := Lib.hid hbel; clear hbel
      have HCC := Lib.hid (fun w => spec_vfin x y z _ _ _ w fx fy fz _ hA1)
      clear hA1
      cases A1
      · go_wp2_with fail
        refine (HCC.out _).mono ?_
        rintro e w' ⟨rfl, hb⟩
        go_wp2
        go_ret
        exact ⟨by rw [← HA.out, allV_le (k := k + 1) (by rw [HX.out, HAL.out]; rfl) (by omega)]; rfl, HB.out.trans (hb.mono HB.out.size)⟩
      · go_wp2_with fail
        refine (HCC.out _).mono ?_
        rintro e w' ⟨rfl, hb⟩
        go_wp2
        go_roundw
        case rel => exact ⟨k + 1, by omega, by go_num, by rw [HX.out, HAL.out]; rfl, HB.out.trans (hb.mono HB.out.size)⟩
        case measure => simp [intOf]; omega
    · obtain rfl : n = k := by omega
      have HB := Lib.hid hbel; clear hbel
      go_wp2
      go_ret
      exact ⟨by rw [← HA.out, HAL.out]; rfl, HB.out⟩

end Th
end Go.Proofs.Ytjkkefbfhapblaa
