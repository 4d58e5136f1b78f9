/- Whether threads are the same: the program's function. -/
import Derived.Test.YtjkkefbfhapblaaThSb
namespace Go.Proofs.Ytjkkefbfhapblaa
set_option linter.unusedSimpArgs false
set_option linter.unusedVariables false
open Go.RowKit
set_option maxRecDepth 20000
namespace Th
open Fl Rate

/-- Whether the first points are the same. -/
def sameN (c c' : Nat → Option Nat) : Nat → Bool
  | 0 => true
  | k + 1 => sameN c c' k && (bitsC (c (k * 3)) == bitsC (c' (k * 3)) && bitsC (c (k * 3 + 1)) == bitsC (c' (k * 3 + 1)) && bitsC (c (k * 3 + 2)) == bitsC (c' (k * 3 + 2)))

theorem same_no {c c' : Nat → Option Nat} {k : Nat} (h : sameN c c' k = false) : ∀ n, k ≤ n → sameN c c' n = false
  | 0, hk => by obtain rfl : k = 0 := by omega
                exact h
  | n + 1, hk => by
    by_cases e : k = n + 1
    · subst e; exact h
    · unfold sameN; rw [same_no h n (by omega)]; rfl

def sameB (n n' : Nat) (cs cs' : Option Nat) (c c' : Nat → Option Nat) : Bool := decide (n = n') && (bitsC cs == bitsC cs') && sameN c c' n

theorem slice_form {w : World} {B e m : Nat} {v : Value} {xs : List Value} (h : w.ownsRow B e 1 v m xs) : ∃ ad cp, v = .slice ad m cp ∧ m ≤ cp ∧ cp ≤ maxLen ∧ (0 < m → ∃ g, ad = some ⟨g, 0, none⟩ ∧ g < w.heap.size ∧ ∀ j u, xs[j]? = some u → w.cell? ⟨g, j, none⟩ = some u) := by
  have hc := h
  obtain ⟨_, ⟨rfl, rfl⟩ | ⟨g, cap, cur, rfl, hB, hh, hn, hm, hs, ht⟩⟩ := h
  · exact ⟨none, 0, rfl, Nat.le_refl _, Nat.zero_le _, fun h => absurd h (by omega)⟩
  · refine ⟨_, cap, rfl, hn, hm, fun _ => ⟨g, rfl, block_lt hh, fun j u hu => ?_⟩⟩
    have := hc.cells (g := g) rfl j u hu
    simpa [Addr.add_lit] using this

theorem run_pts (w : World) (a : Option Addr) (len cap : Nat) (h : 3 ≤ len) : (Instr.arrayAt 82 (.slice a len cap)).run Try.prog w = .ok (.pointer a) w := run_arrayAt w 82 _ 3 a len cap Try.underlying82 h

set_option maxHeartbeats 6400000 in
theorem impl_SameT (a a' : Option Addr) (n n' cap cap' s s' : Nat) (cs cs' : Option Nat) (c c' : Nat → Option Nat) (w : World) (h : IsV w a n cap c) (h' : IsV w a' n' cap' c') (fs : Fr .f32 s cs) (fs' : Fr .f32 s' cs') (hn : n ≤ 1048576) (hn' : n' ≤ 1048576) (R : Bool) (hR : sameB n n' cs cs' c c' = R) :
    Calls Try.prog 24 #[tV a n cap s, tV a' n' cap' s'] w (RetD (.bool R) w) := by
  have HY := Lib.hid h
  have HY' := Lib.hid h'
  clear h h'
  go_enter Try.func24, Try.ntmps24
  go_wp2_with fail
  obtain ⟨wc, hwc⟩ : ∃ u, u = (w.alloc (.cells #[.slice a n cap, .float .f32 s] 33)).alloc (.cells #[.slice a' n' cap', .float .f32 s'] 33) := ⟨_, rfl⟩
  rw [← hwc]
  have qa : wc.heap[w.heap.size]? = some (.cells #[.slice a n cap, .float .f32 s] 33) := by rw [hwc]; exact alloc_block (new_block _ _)
  have qb : wc.heap[w.heap.size + 1]? = some (.cells #[.slice a' n' cap', .float .f32 s'] 33) := by rw [hwc]; simpa using new_block (w.alloc (.cells #[.slice a n cap, .float .f32 s] 33)) (.cells #[.slice a' n' cap', .float .f32 s'] 33)
  have hbw : Below w.heap.size w wc := by rw [hwc]; exact ((Below.refl _ _).alloc (Nat.le_refl _) _).alloc (by simp) _
  have hzc : wc.heap.size = w.heap.size + 2 := by rw [hwc]; simp
  clear hwc
  refine (bits_run w.heap.size a n cap c _ ((cells_of (i := 0) qa).trans rfl) (HY.out.later hbw) hn).mono ?_
  rintro e w1 ⟨v1, rfl, own1, hb1⟩
  have qa1 := keep_block hb1 qa
  have qb1 := keep_block hb1 qb
  have hz1 := hb1.size
  have hbw1 : Below w.heap.size w w1 := hbw.trans (hb1.mono hbw.size)
  clear qa qb hbw hb1
  have HO1 := Lib.hid own1
  clear own1
  go_wp2_with fail
  refine (bits_run (w.heap.size + 1) a' n' cap' c' _ ((cells_of (i := 0) qb1).trans rfl) (HY'.out.later hbw1) hn').mono ?_
  rintro e w2 ⟨v2, rfl, own2, hb2⟩
  have qa2 := keep_block hb2 qa1
  have qb2 := keep_block hb2 qb1
  have hz2 := hb2.size
  have HBW := Lib.hid (hbw1.trans (hb2.mono hbw1.size))
  have own1' := own_below HO1.out hb2
  clear qa1 qb1 hbw1 hb2 HO1
  obtain ⟨ad1, cp1, rfl, hc1, hm1, hf1⟩ := slice_form own1'
  obtain ⟨ad2, cp2, rfl, hc2, hm2, hf2⟩ := slice_form own2
  have HF1 := Lib.hid hf1
  have HF2 := Lib.hid hf2
  have e1 := (cells_of (i := 1) qa2).trans (show _ = some (.float .f32 s) from rfl)
  have u1 := (cells_of (i := 1) qb2).trans (show _ = some (.float .f32 s') from rfl)
  have l0 := block_lt qa2
  have l1 := block_lt qb2
  unfold maxLen at hm1 hm2
  clear own1' own2 hf1 hf2 qa2 qb2
  unfold sameB at hR
  by_cases hnn : ¬ n = n'
  · obtain rfl : R = false := by rw [← hR, decide_eq_false hnn]; rfl
    have hne : ¬ (n : Int) * 3 = (n' : Int) * 3 := by omega
    have hne2 : ¬ n * 3 = n' * 3 := by omega
    clear hR
    go_wp2
    go_ret
    exact ⟨rfl, HBW.out⟩
  obtain rfl : n = n' := Decidable.not_not.1 hnn
  clear hnn
  rw [decide_eq_true rfl, Bool.true_and] at hR
  cases hE : (bitsC cs == bitsC cs')
  · obtain rfl : R = false := by rw [← hR, hE]; rfl
    clear hR
    go_wp2_with fail
    refine (impl_num _ _ _ _ _ _ fs fs' hE).mono ?_
    rintro e w3 ⟨rfl, hb3⟩
    go_wp2
    go_ret
    exact ⟨rfl, HBW.out.trans (hb3.mono HBW.out.size)⟩
  rw [hE, Bool.true_and] at hR
  go_wp2_with fail
  refine (impl_num _ _ _ _ _ _ fs fs' hE).mono ?_
  rintro e w3 ⟨rfl, hb3⟩
  have HB3 := Lib.hid hb3
  clear hb3 e1 u1 l0 l1
  go_wp2
  go_loopw [7] (fun i wr => ∃ k : Nat, k ≤ n ∧ i = .int .i64 ((k : Int) * 3) ∧ sameN c c' k = true ∧ Below w2.heap.size w2 wr) (fun i _ => n * 3 - (intOf i).toNat)
  case atStart => exact ⟨0, Nat.zero_le _, rfl, rfl, HB3.out⟩
  case round =>
    obtain ⟨k, hk, rfl, hS, hbel⟩ := hrel
    have HB := Lib.hid hbel
    have HS := Lib.hid hS
    clear hS
    by_cases hlt : k < n
    · obtain ⟨g1, rfl, lg1, hx1⟩ := HF1.out (by omega)
      obtain ⟨g2, rfl, lg2, hx2⟩ := HF2.out (by omega)
      have hzr := hbel.size
      have a0 : wr.cell? ⟨g1, k * 3, none⟩ = some (.int .i64 (bitsC (c (k * 3)))) := by rw [hbel.cell (p := ⟨g1, k * 3, none⟩) lg1]; exact hx1 _ _ (bl_at c n (k * 3) (by omega))
      have a1 : wr.cell? ⟨g1, k * 3 + 1, none⟩ = some (.int .i64 (bitsC (c (k * 3 + 1)))) := by rw [hbel.cell (p := ⟨g1, k * 3 + 1, none⟩) lg1]; exact hx1 _ _ (bl_at c n (k * 3 + 1) (by omega))
      have a2 : wr.cell? ⟨g1, k * 3 + 2, none⟩ = some (.int .i64 (bitsC (c (k * 3 + 2)))) := by rw [hbel.cell (p := ⟨g1, k * 3 + 2, none⟩) lg1]; exact hx1 _ _ (bl_at c n (k * 3 + 2) (by omega))
      have b0 : wr.cell? ⟨g2, k * 3, none⟩ = some (.int .i64 (bitsC (c' (k * 3)))) := by rw [hbel.cell (p := ⟨g2, k * 3, none⟩) lg2]; exact hx2 _ _ (bl_at c' n (k * 3) (by omega))
      have b1 : wr.cell? ⟨g2, k * 3 + 1, none⟩ = some (.int .i64 (bitsC (c' (k * 3 + 1)))) := by rw [hbel.cell (p := ⟨g2, k * 3 + 1, none⟩) lg2]; exact hx2 _ _ (bl_at c' n (k * 3 + 1) (by omega))
      have b2 : wr.cell? ⟨g2, k * 3 + 2, none⟩ = some (.int .i64 (bitsC (c' (k * 3 + 2)))) := by rw [hbel.cell (p := ⟨g2, k * 3 + 2, none⟩) lg2]; exact hx2 _ _ (bl_at c' n (k * 3 + 2) (by omega))
      have lgr1 : g1 < wr.heap.size := by omega
      have lgr2 : g2 < wr.heap.size := by omega
      have hlt3 : (k : Int) * 3 < (n : Int) * 3 := by omega
      have ht : ((k : Int) * 3).toNat = k * 3 := by omega
      have hc3 : ¬ k * 3 = cp1 := by omega
      have hc4 : ¬ k * 3 = cp2 := by omega
      have hc5 : ¬ cp1 = k * 3 := by omega
      have hc6 : ¬ cp2 = k * 3 := by omega
      have hk9 : (k : Int) * 3 ≤ 9223372036854775807 := by omega
      have hq1 := fun w' => run_pts w' (some ⟨g1, k * 3, none⟩) (n * 3 - k * 3) (cp1 - k * 3) (by omega)
      have hq2 := fun w' => run_pts w' (some ⟨g2, k * 3, none⟩) (n * 3 - k * 3) (cp2 - k * 3) (by omega)
      clear hx1 hx2 hbel
      go_wp2_with fail
      refine LooseP.wp_region 10 [] (by kernel_rfl) (by kernel_rfl) (by intro p hp; cases hp) ?_
      apply Exists.intro
      simp only [List.take_succ_cons, List.take_zero, List.drop_succ_cons, List.drop_zero]
      repeat (first | (apply Loose.walk_step; intro K hK; apply LooseP.turn_value (hwant := rfl) (hd := rfl); (focus (intro w' hw'; obtain ⟨hc, hf⟩ := Fl.bcell hw'; go_simp; first | done | rfl | exact ⟨rfl, rfl⟩)); go_simp; refine hK _ ?_; clear hK K))
      refine Loose.walk_nil ?_
      intro w5 hcls5
      have HB5 := Lib.hid (HB.out.trans (hcls5.1.mono hzr))
      clear hcls5 a0 a1 a2 b0 b1 b2 hq1 hq2
      cases hT : (bitsC (c (k * 3)) == bitsC (c' (k * 3)) && bitsC (c (k * 3 + 1)) == bitsC (c' (k * 3 + 1)) && bitsC (c (k * 3 + 2)) == bitsC (c' (k * 3 + 2)))
      · obtain rfl : R = false := by rw [← hR]; exact same_no (k := k + 1) (by unfold sameN; rw [HS.out, hT]; rfl) n hlt
        clear hR
        generalize bitsC (c (k * 3)) = x0 at *
        generalize bitsC (c (k * 3 + 1)) = x1 at *
        generalize bitsC (c (k * 3 + 2)) = x2 at *
        generalize bitsC (c' (k * 3)) = z0 at *
        generalize bitsC (c' (k * 3 + 1)) = z1 at *
        generalize bitsC (c' (k * 3 + 2)) = z2 at *
        go_wp2
        go_ret
        exact ⟨rfl, HBW.out.trans (HB5.out.mono HBW.out.size)⟩
      · have HS1 := Lib.hid (show sameN c c' (k + 1) = true by unfold sameN; rw [HS.out, hT]; rfl)
        generalize bitsC (c (k * 3)) = x0 at *
        generalize bitsC (c (k * 3 + 1)) = x1 at *
        generalize bitsC (c (k * 3 + 2)) = x2 at *
        generalize bitsC (c' (k * 3)) = z0 at *
        generalize bitsC (c' (k * 3 + 1)) = z1 at *
        generalize bitsC (c' (k * 3 + 2)) = z2 at *
        go_wp2
        go_roundw
        case rel => exact ⟨k + 1, by omega, by first | go_num | (congr 1; omega), HS1.out, HB5.out⟩
        case measure => simp [intOf]; omega
    · obtain rfl : n = k := by omega
      obtain rfl : R = true := by rw [← hR]; exact HS.out
      go_wp2
      go_ret
      exact ⟨rfl, HBW.out.trans (HB.out.mono HBW.out.size)⟩

end Th
end Go.Proofs.Ytjkkefbfhapblaa
