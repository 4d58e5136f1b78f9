/- Whether two basins are the same. -/
import Derived.Test.YtdejkkledamkeaaBaV
import Derived.Test.YtdejkkledamkeaaBits
namespace Go.Proofs.Ytdejkkledamkeaa
set_option linter.unusedSimpArgs false
set_option linter.unusedVariables false
open Go.RowKit
set_option maxRecDepth 20000
namespace Ba
open Fl Rate

/-- Whether two numbers are the same. -/
def sameN (c d : Option Nat) : Bool := decide (bitsC c = bitsC d)

def allS (c d : Nat → Option Nat) : Nat → Bool
  | 0 => true
  | k + 1 => allS c d k && sameN (c k) (d k)

theorem allS_le {c d : Nat → Option Nat} {k n : Nat} (h : allS c d k = false) (hk : k ≤ n) : allS c d n = false := by
  induction n with
  | zero => obtain rfl : k = 0 := by omega
            exact h
  | succ n ih =>
    by_cases e : k = n + 1
    · rw [← e]; exact h
    · show (allS c d n && _) = false
      rw [ih (by omega)]; rfl

/-- Whether two basins are the same. -/
def sameB (W H W' H' : Int) (n n' : Nat) (c d : Nat → Option Nat) : Bool := decide (W = W') && (decide (H = H') && (decide (n = n') && allS c d n))

theorem spec_bitsc (x : Nat) (c : Option Nat) (w : World) (f : Fr .f32 x c) : Calls Try.prog 100 #[.float .f32 x] w fun e w' => e = .returned (.int .i64 (bitsC c)) ∧ w = w' := by
  have h := Bits.spec_bits x w f.2
  rw [f.1] at h
  exact h

theorem impl_bitsc (x : Nat) (c : Option Nat) (w : World) (f : Fr .f32 x c) : Calls Try.prog 89 #[.float .f32 x] w fun e w' => e = .returned (.int .i64 (bitsC c)) ∧ w = w' := by
  have h := Bits.impl_bits x w f.2
  rw [f.1] at h
  exact h

theorem impl_sameN (x y : Nat) (c d : Option Nat) (w : World) (f : Fr .f32 x c) (g : Fr .f32 y d) (A : Bool) (hA : sameN c d = A) : Calls Try.prog 54 #[.float .f32 x, .float .f32 y] w fun e w' => e = .returned (.bool A) ∧ w = w' := by
  unfold sameN at hA
  have HX := Lib.hid (impl_bitsc x c w f)
  have HY := Lib.hid (impl_bitsc y d w g)
  clear f g
  generalize bitsC c = p at *
  generalize bitsC d = q at *
  have hd : (p == q) = A := by rw [← hA, Bool.eq_iff_iff]; simp
  clear hA
  go_enter Try.func54, Try.ntmps54
  go_wp2_with fail
  refine HX.out.mono ?_
  rintro e w1 ⟨rfl, rfl⟩
  go_wp2_with fail
  refine HY.out.mono ?_
  rintro e w1 ⟨rfl, rfl⟩
  go_wp2
  go_ret
  exact ⟨by first | rfl | rw [hd], rfl⟩

theorem spec_sameN (x y : Nat) (c d : Option Nat) (w : World) (f : Fr .f32 x c) (g : Fr .f32 y d) (A : Bool) (hA : sameN c d = A) : Calls Try.prog 97 #[.float .f32 x, .float .f32 y] w fun e w' => e = .returned (.bool A) ∧ w = w' := by
  unfold sameN at hA
  have HX := Lib.hid (spec_bitsc x c w f)
  have HY := Lib.hid (spec_bitsc y d w g)
  clear f g
  generalize bitsC c = p at *
  generalize bitsC d = q at *
  have hd : (p == q) = A := by rw [← hA, Bool.eq_iff_iff]; simp
  clear hA
  go_enter Try.func97, Try.ntmps97
  go_wp2_with fail
  refine HX.out.mono ?_
  rintro e w1 ⟨rfl, rfl⟩
  go_wp2_with fail
  refine HY.out.mono ?_
  rintro e w1 ⟨rfl, rfl⟩
  go_wp2
  go_ret
  exact ⟨by first | rfl | rw [hd], rfl⟩

theorem spec_sameQ (x y : Nat) (c d : Option Nat) (w : World) (f : Fr .f32 x c) (g : Fr .f32 y d) (A : Bool) (hA : sameN c d = A) : Calls Try.prog 97 #[.float .f32 x, .float .f32 y] w fun e w' => e = .returned (.bool A) ∧ w = w' := spec_sameN x y c d w f g A hA

/-- A value that is told; the world but for draws. -/
def RetQ (v : Value) (w : World) (e : Ending) (w' : World) : Prop := e = .returned v ∧ ∃ m, w' = w.drewN m

theorem quiet_q {P : Program} {f : FuncId} {args : Array Value} {w : World} {n : Nat} {v : Value} (h : Calls P f args (w.drewN n) (RetQ v (w.drewN n))) : Calls P f args (w.drewN n) fun e w'' => e = .returned v ∧ ∃ m, w'' = w.drewN m := Calls.quiet_of h

theorem later_q {w : World} {n : Nat} {a : Option Addr} {len cap : Nat} {c : Nat → Option Nat} (h : IsY w a len cap c) : IsY (w.drewN n) a len cap c := h.later (below_drewN (Below.refl _ _) n)

set_option maxHeartbeats 1600000 in
theorem spec_all_same (a a' : Option Addr) (n n' cap cap' : Nat) (c d : Nat → Option Nat) (w : World) (h : IsY w a n cap c) (h' : IsY w a' n' cap' d) (A : Bool) (hA : (decide (n = n') && allS c d n) = A) :
    Calls Try.prog 88 #[.slice a n cap, .slice a' n' cap'] w (RetQ (.bool A) w) := by
  obtain ⟨h2, h3, b, off, h5, h6⟩ := h
  obtain ⟨g2, g3, b', off', g5, g6⟩ := h'
  have H5 := Lib.hid h5; clear h5
  have H6 := Lib.hid h6; clear h6
  have G5 := Lib.hid g5; clear g5
  have G6 := Lib.hid g6; clear g6
  unfold maxLen at h3 g3
  by_cases hn : n = n'
  · subst hn
    have hA' : allS c d n = A := by rw [← hA]; simp
    have HA := Lib.hid hA'; clear hA hA'
    go_enter Try.func88, Try.ntmps88
    go_wp2
    go_loopw [5] (fun i wr => ∃ k m : Nat, k ≤ n ∧ i = .int .i64 k ∧ allS c d k = true ∧ wr = w.drewN m) (fun i _ => n - (intOf i).toNat)
    case atStart => exact ⟨0, 0, Nat.zero_le _, rfl, rfl, rfl⟩
    case round =>
      obtain ⟨k, m, hk, rfl, hall, hwr⟩ := hrel
      have HL := Lib.hid hall; clear hall
      have HWR := Lib.hid hwr
      by_cases hlt : k < n
      · obtain rfl := H5.out (by omega)
        obtain rfl := G5.out (by omega)
        obtain ⟨v, hsrc0, fx⟩ := H6.out k hlt
        obtain ⟨u, hsrc1, fy⟩ := G6.out k hlt
        have hsrc : wr.cell? ⟨b, off + k, none⟩ = some (.float .f32 v) := by rw [hwr]; exact hsrc0
        have hsrc' : wr.cell? ⟨b', off' + k, none⟩ = some (.float .f32 u) := by rw [hwr]; exact hsrc1
        obtain ⟨A1, hA1⟩ : ∃ A, sameN (c k) (d k) = A := ⟨_, rfl⟩
        have HX := Lib.hid (show allS c d (k + 1) = (allS c d k && A1) by rw [← hA1]; rfl)
        have HS := Lib.hid (fun w => spec_sameN v u _ _ w fx fy A1 hA1)
        clear hA1 fx fy hwr hsrc0 hsrc1
        cases A1
        all_goals
          go_wp2_with fail
          go_quiet ((go_at_call 97; exact quiet_eq (HS.out _)))
          go_wp2
        · go_ret
          exact ⟨by rw [← HA.out, allS_le (k := k + 1) (by rw [HX.out, HL.out]; rfl) (by omega)]; rfl, _, by rw [HWR.out]; exact World.drewN_drewN ..⟩
        · go_roundw
          case rel => exact ⟨k + 1, _, by omega, by go_num, by rw [HX.out, HL.out]; rfl, by rw [HWR.out]; exact World.drewN_drewN ..⟩
          case measure => simp [intOf]; omega
      · obtain rfl : n = k := by omega
        clear hwr
        go_wp2
        go_ret
        exact ⟨by rw [← HA.out, HL.out]; rfl, _, HWR.out⟩
  · have hd : ((n : Int) != (n' : Int)) = true := by simp; omega
    obtain rfl : A = false := by rw [← hA, decide_eq_false hn]; rfl
    clear hA
    have HN := Lib.hid hn; clear hn
    go_enter Try.func88, Try.ntmps88
    go_wp2
    go_ret
    exact ⟨rfl, 0, rfl⟩

set_option maxHeartbeats 1600000 in
theorem impl_all_same (a a' : Option Addr) (n n' cap cap' : Nat) (c d : Nat → Option Nat) (w : World) (h : IsY w a n cap c) (h' : IsY w a' n' cap' d) (A : Bool) (hA : (decide (n = n') && allS c d n) = A) :
    Calls Try.prog 53 #[.slice a n cap, .slice a' n' cap', .func (Fn.func 54) #[] #[]] w fun e w' => e = .returned (.bool A) ∧ w = w' := by
  obtain ⟨h2, h3, b, off, h5, h6⟩ := h
  obtain ⟨g2, g3, b', off', g5, g6⟩ := h'
  have H5 := Lib.hid h5; clear h5
  have H6 := Lib.hid h6; clear h6
  have G5 := Lib.hid g5; clear g5
  have G6 := Lib.hid g6; clear g6
  unfold maxLen at h3 g3
  by_cases hn : n = n'
  · subst hn
    have hA' : allS c d n = A := by rw [← hA]; simp
    have HA := Lib.hid hA'; clear hA hA'
    go_enter Try.func53, Try.ntmps53
    go_wp2
    go_loop [17] (fun i => ∃ k : Nat, k ≤ n ∧ i = .int .i64 k ∧ allS c d k = true) (fun i => n - (intOf i).toNat)
    case atStart => exact ⟨0, Nat.zero_le _, rfl, rfl⟩
    case round =>
      obtain ⟨k, hk, rfl, hall⟩ := hrel
      have HL := Lib.hid hall; clear hall
      by_cases hlt : k < n
      · obtain rfl := H5.out (by omega)
        obtain rfl := G5.out (by omega)
        obtain ⟨v, hsrc, fx⟩ := H6.out k hlt
        obtain ⟨u, hsrc', fy⟩ := G6.out k hlt
        obtain ⟨A1, hA1⟩ : ∃ A, sameN (c k) (d k) = A := ⟨_, rfl⟩
        have HX := Lib.hid (show allS c d (k + 1) = (allS c d k && A1) by rw [← hA1]; rfl)
        have HS := Lib.hid (fun w => impl_sameN v u _ _ w fx fy A1 hA1)
        clear hA1 fx fy
        cases A1
        all_goals
          go_wp2_with fail
          refine (HS.out _).mono ?_
          rintro e w1 ⟨rfl, rfl⟩
          go_wp2
        · go_ret
          exact ⟨by rw [← HA.out, allS_le (k := k + 1) (by rw [HX.out, HL.out]; rfl) (by omega)]; rfl, rfl⟩
        · go_round
          case rel => exact ⟨k + 1, by omega, by go_num, by rw [HX.out, HL.out]; rfl⟩
          case measure => simp [intOf]; omega
      · obtain rfl : n = k := by omega
        go_wp2
        go_ret
        exact ⟨by rw [← HA.out, HL.out]; rfl, rfl⟩
  · have hd : ((n : Int) != (n' : Int)) = true := by simp; omega
    obtain rfl : A = false := by rw [← hA, decide_eq_false hn]; rfl
    clear hA
    have HN := Lib.hid hn; clear hn
    go_enter Try.func53, Try.ntmps53
    go_wp2
    go_ret
    exact ⟨rfl, rfl⟩

set_option maxHeartbeats 3200000 in
theorem spec_same (G G' : Nat) (W H W' H' : Int) (a a' : Option Addr) (n n' cap cap' : Nat) (c d : Nat → Option Nat) (w : World) (h : IsY w a n cap c) (h' : IsY w a' n' cap' d) (e0 : w.cell? ⟨G, 0, none⟩ = some (.int .i64 W)) (e1 : w.cell? ⟨G, 1, none⟩ = some (.int .i64 H)) (e2 : w.cell? ⟨G, 2, none⟩ = some (.slice a n cap)) (i0 : w.cell? ⟨G', 0, none⟩ = some (.int .i64 W')) (i1 : w.cell? ⟨G', 1, none⟩ = some (.int .i64 H')) (i2 : w.cell? ⟨G', 2, none⟩ = some (.slice a' n' cap')) (A : Bool) (hA : sameB W H W' H' n n' c d = A) :
    Calls Try.prog 52 #[.pointer (some ⟨G, 0, none⟩), .pointer (some ⟨G', 0, none⟩)] w (RetD (.bool A) w) := by
  unfold sameB at hA
  by_cases h1 : W = W'
  · have d1 : (W == W') = true := by simpa using h1
    rw [decide_eq_true h1] at hA
    have HH1 := Lib.hid h1; clear h1
    by_cases h2 : H = H'
    · have d2 : (H == H') = true := by simpa using h2
      rw [decide_eq_true h2] at hA
      have HH2 := Lib.hid h2; clear h2
      have HS := Lib.hid (fun m => spec_all_same a a' n n' cap cap' c d (w.drewN m) (later_q h) (later_q h') A hA)
      clear h h' hA
      go_enter Try.func52, Try.ntmps52
      go_wp2
      go_quiet ((go_at_call 88; exact quiet_q (HS.out _)))
      go_wp2
      go_ret
      exact ⟨rfl, by (repeat' first | exact Below.refl _ _ | (refine Below.setCell ?_ (by first | omega | (simp; omega) | simp) _) | (refine below_drewN ?_ _) | (refine Below.alloc ?_ (by first | omega | (simp; omega) | simp) _) | (refine Below.trans ?_ (Below.mono (by assumption) (by first | omega | (simp; omega) | simp))))⟩
    · have d2 : (H == H') = false := by simpa using h2
      rw [decide_eq_false h2] at hA
      obtain rfl : A = false := by rw [← hA]; rfl
      have HH2 := Lib.hid h2; clear h2
      clear h h' hA
      go_enter Try.func52, Try.ntmps52
      go_wp2
      go_quiet (fail)
      go_wp2
      go_ret
      exact ⟨rfl, by (repeat' first | exact Below.refl _ _ | (refine Below.setCell ?_ (by first | omega | (simp; omega) | simp) _) | (refine below_drewN ?_ _) | (refine Below.alloc ?_ (by first | omega | (simp; omega) | simp) _) | (refine Below.trans ?_ (Below.mono (by assumption) (by first | omega | (simp; omega) | simp))))⟩
  · have d1 : (W == W') = false := by simpa using h1
    rw [decide_eq_false h1] at hA
    obtain rfl : A = false := by rw [← hA]; rfl
    have HH1 := Lib.hid h1; clear h1
    clear h h' hA
    go_enter Try.func52, Try.ntmps52
    go_wp2
    go_quiet (fail)
    go_wp2
    go_ret
    exact ⟨rfl, by (repeat' first | exact Below.refl _ _ | (refine Below.setCell ?_ (by first | omega | (simp; omega) | simp) _) | (refine below_drewN ?_ _) | (refine Below.alloc ?_ (by first | omega | (simp; omega) | simp) _) | (refine Below.trans ?_ (Below.mono (by assumption) (by first | omega | (simp; omega) | simp))))⟩

theorem spec_SameB (W H W' H' : Int) (a a' : Option Addr) (n n' cap cap' : Nat) (c d : Nat → Option Nat) (w : World) (h : IsY w a n cap c) (h' : IsY w a' n' cap' d) (A : Bool) (hA : sameB W H W' H' n n' c d = A) :
    Calls Try.prog 20 #[bV W H a n cap, bV W' H' a' n' cap'] w (RetD (.bool A) w) := by
  have HS := Lib.hid (fun G G' w' (hb : Below w.heap.size w w') e0 e1 e2 i0 i1 i2 => spec_same G G' W H W' H' a a' n n' cap cap' c d w' (h.later hb) (h'.later hb) e0 e1 e2 i0 i1 i2 A hA)
  clear h h' hA
  go_enter Try.func20, Try.ntmps20
  go_wp2_with fail
  refine (HS.out _ _ _ (by (repeat' first | exact Below.refl _ _ | (refine Below.setCell ?_ (by first | omega | (simp; omega) | simp) _) | (refine below_drewN ?_ _) | (refine Below.alloc ?_ (by first | omega | (simp; omega) | simp) _) | (refine Below.trans ?_ (Below.mono (by assumption) (by first | omega | (simp; omega) | simp))))) (by simp) (by simp) (by simp) (by simp) (by simp) (by simp)).mono ?_
  rintro e w1 ⟨rfl, hb1⟩
  go_wp2
  go_ret
  exact ⟨rfl, by (repeat' first | exact Below.refl _ _ | (refine Below.setCell ?_ (by first | omega | (simp; omega) | simp) _) | (refine below_drewN ?_ _) | (refine Below.alloc ?_ (by first | omega | (simp; omega) | simp) _) | (refine Below.trans ?_ (Below.mono (by assumption) (by first | omega | (simp; omega) | simp))))⟩

set_option maxHeartbeats 3200000 in
theorem impl_SameB (W H W' H' : Int) (a a' : Option Addr) (n n' cap cap' : Nat) (c d : Nat → Option Nat) (w : World) (h : IsY w a n cap c) (h' : IsY w a' n' cap' d) (A : Bool) (hA : sameB W H W' H' n n' c d = A) :
    Calls Try.prog 21 #[bV W H a n cap, bV W' H' a' n' cap'] w (RetD (.bool A) w) := by
  unfold sameB at hA
  by_cases h1 : W = W'
  · have d1 : (W == W') = true := by simpa using h1
    rw [decide_eq_true h1] at hA
    have HH1 := Lib.hid h1; clear h1
    by_cases h2 : H = H'
    · have d2 : (H == H') = true := by simpa using h2
      rw [decide_eq_true h2] at hA
      have HH2 := Lib.hid h2; clear h2
      have HS := Lib.hid (fun w' (hb : Below w.heap.size w w') => impl_all_same a a' n n' cap cap' c d w' (h.later hb) (h'.later hb) A hA)
      clear h h' hA
      go_enter Try.func21, Try.ntmps21
      go_wp2_with fail
      refine (HS.out _ (by (repeat' first | exact Below.refl _ _ | (refine Below.setCell ?_ (by first | omega | (simp; omega) | simp) _) | (refine below_drewN ?_ _) | (refine Below.alloc ?_ (by first | omega | (simp; omega) | simp) _) | (refine Below.trans ?_ (Below.mono (by assumption) (by first | omega | (simp; omega) | simp)))))).mono ?_
      rintro e w1 ⟨rfl, rfl⟩
      go_wp2
      go_ret
      exact ⟨rfl, by (repeat' first | exact Below.refl _ _ | (refine Below.setCell ?_ (by first | omega | (simp; omega) | simp) _) | (refine below_drewN ?_ _) | (refine Below.alloc ?_ (by first | omega | (simp; omega) | simp) _) | (refine Below.trans ?_ (Below.mono (by assumption) (by first | omega | (simp; omega) | simp))))⟩
    · have d2 : (H == H') = false := by simpa using h2
      rw [decide_eq_false h2] at hA
      obtain rfl : A = false := by rw [← hA]; rfl
      have HH2 := Lib.hid h2; clear h2
      clear h h' hA
      go_enter Try.func21, Try.ntmps21
      go_wp2
      go_ret
      exact ⟨rfl, by (repeat' first | exact Below.refl _ _ | (refine Below.setCell ?_ (by first | omega | (simp; omega) | simp) _) | (refine below_drewN ?_ _) | (refine Below.alloc ?_ (by first | omega | (simp; omega) | simp) _) | (refine Below.trans ?_ (Below.mono (by assumption) (by first | omega | (simp; omega) | simp))))⟩
  · have d1 : (W == W') = false := by simpa using h1
    rw [decide_eq_false h1] at hA
    obtain rfl : A = false := by rw [← hA]; rfl
    have HH1 := Lib.hid h1; clear h1
    clear h h' hA
    go_enter Try.func21, Try.ntmps21
    go_wp2
    go_ret
    exact ⟨rfl, by (repeat' first | exact Below.refl _ _ | (refine Below.setCell ?_ (by first | omega | (simp; omega) | simp) _) | (refine below_drewN ?_ _) | (refine Below.alloc ?_ (by first | omega | (simp; omega) | simp) _) | (refine Below.trans ?_ (Below.mono (by assumption) (by first | omega | (simp; omega) | simp))))⟩

end Ba
end Go.Proofs.Ytdejkkledamkeaa
