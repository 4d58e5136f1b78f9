/- Threads that begin at another point: the program's function and the model's. -/
import Derived.Test.YtjkkefbfhapblaaThM
import Derived.Laws.AppendOwn
namespace Go.Proofs.Ytjkkefbfhapblaa
set_option linter.unusedSimpArgs false
set_option linter.unusedVariables false
open Go.RowKit
set_option maxRecDepth 20000
namespace Th
open Fl Rate

theorem spec_in (n a b : Int) (w : World) : Calls Try.prog 85 #[.int .i64 n, .int .i64 a, .int .i64 b] w fun e w' => e = .returned (.bool (decide (a ≤ n) && decide (n ≤ b))) ∧ w = w' := by
  by_cases h1 : a ≤ n
  all_goals by_cases h2 : n ≤ b
  all_goals
    first | have d1 : decide (a ≤ n) = true := decide_eq_true h1 | have d1 : decide (a ≤ n) = false := decide_eq_false h1
    first | have d2 : decide (n ≤ b) = true := decide_eq_true h2 | have d2 : decide (n ≤ b) = false := decide_eq_false h2
    have D := Lib.hid (And.intro d1 d2)
    clear d1 d2
    go_enter Try.func85, Try.ntmps85
    go_wp2
    go_ret
    exact ⟨by first | rfl | (simp only [D.out.1, D.out.2]; rfl), rfl⟩

/-- Whether it is the index of a point. -/
def ptB (n : Nat) (i : Int) : Bool := decide (0 ≤ i) && decide (i < (n : Int))

theorem impl_point (G : Nat) (a : Option Addr) (n cap : Nat) (i : Int) (w : World) (e0 : w.cell? ⟨G, 0, none⟩ = some (.slice a n cap)) (hn : n ≤ 32) : Calls Try.prog 80 #[.pointer (some ⟨G, 0, none⟩), .int .i64 i] w fun e w' => e = .returned (.bool (ptB n i)) ∧ w = w' := by
  unfold ptB
  by_cases h1 : 0 ≤ i
  all_goals by_cases h2 : i < (n : Int)
  all_goals
    first | have d1 : decide (0 ≤ i) = true := decide_eq_true h1 | have d1 : decide (0 ≤ i) = false := decide_eq_false h1
    first | have d2 : decide (i < (n : Int)) = true := decide_eq_true h2 | have d2 : decide (i < (n : Int)) = false := decide_eq_false h2
    have D := Lib.hid (And.intro d1 d2)
    clear d1 d2
    go_enter Try.func80, Try.ntmps80
    go_wp2
    go_ret
    exact ⟨by first | rfl | (simp only [D.out.1, D.out.2]; rfl), rfl⟩

theorem spec_point (G : Nat) (a : Option Addr) (n cap s : Nat) (cs : Option Nat) (c : Nat → Option Nat) (i : Int) (w : World) (e0 : w.cell? ⟨G, 0, none⟩ = some (.slice a n cap)) (e1 : w.cell? ⟨G, 1, none⟩ = some (.float .f32 s)) (h : IsV w a n cap c) (fs : Fr .f32 s cs) : Calls Try.prog 77 #[.pointer (some ⟨G, 0, none⟩), .int .i64 i] w (RetD (.bool (okT n cs c && ptB n i)) w) := by
  have lG := block_lt_of_cell e0
  obtain ⟨A, hA⟩ : ∃ A, okT n cs c = A := ⟨_, rfl⟩
  have HI := Lib.hid (spec_is G a n cap s cs c w e0 e1 h fs A hA)
  rw [hA]
  cases A
  · clear h
    go_enter Try.func77, Try.ntmps77
    go_wp2_with fail
    refine HI.out.mono ?_
    rintro e w1 ⟨rfl, hb1⟩
    go_wp2
    go_ret
    exact ⟨rfl, hb1⟩
  · have hn := okT_of hA
    have hi : (decide (0 ≤ i) && decide (i ≤ (n : Int) - 1)) = ptB n i := by
      unfold ptB
      congr 1
      exact decide_eq_decide.2 (by omega)
    have HP := Lib.hid (fun w => spec_in i 0 ((n : Int) - 1) w)
    rw [hi] at HP
    have hw1 : IntKind.i64.wrap ((n : Int) - 1) = (n : Int) - 1 := IntWalk.i64_in _ (by omega)
    have hn32 := hn.2.1
    clear h hn hA hi
    rw [Bool.true_and]
    generalize ptB n i = B at *
    go_enter Try.func77, Try.ntmps77
    go_wp2_with fail
    refine HI.out.mono ?_
    rintro e w1 ⟨rfl, hb1⟩
    obtain ⟨hc1, hf1⟩ := Fl.bcell hb1
    go_wp2_with fail
    refine (HP.out _).mono ?_
    rintro e w2 ⟨rfl, rfl⟩
    cases B
    all_goals
      go_wp2
      go_ret
      exact ⟨rfl, hb1⟩

set_option maxHeartbeats 6400000 in
theorem spec_from (G : Nat) (a : Option Addr) (n cap : Nat) (i : Nat) (c : Nat → Option Nat) (w : World) (e0 : w.cell? ⟨G, 0, none⟩ = some (.slice a n cap)) (h : IsV w a n cap c) (hn : 3 ≤ n ∧ n ≤ 32) (hin : i < n) :
    Calls Try.prog 78 #[.pointer (some ⟨G, 0, none⟩), .int .i64 (i : Int)] w (RetR n (rotC n i c) w) := by
  obtain ⟨i0, hi, hz0, hz1, hz2⟩ := info_v
  have lG := block_lt_of_cell e0
  obtain ⟨h2, h3, b, off, h5, h6⟩ := h
  obtain rfl := h5 (by omega)
  obtain ⟨xs, hx1, hx2, hx3, hx4⟩ := cells_v h6
  have hlb : b < w.heap.size := by obtain ⟨x, hx, _⟩ := h6 0 (by omega); exact block_lt_of_cell hx
  obtain ⟨ys, hys⟩ : ∃ ys, ys = xs.drop (i * 3) := ⟨_, rfl⟩
  obtain ⟨zs, hzs⟩ : ∃ zs, zs = xs.take (i * 3) := ⟨_, rfl⟩
  have hyl : ys.length = (n - i) * 3 := by rw [hys, List.length_drop, hx1]; omega
  have hzl : zs.length = i * 3 := by rw [hzs, List.length_take, hx1]; omega
  have HY1 : ∀ v ∈ ys, v.oneCell' = true := fun v hv => hx4 v (List.mem_of_mem_drop (by rw [← hys]; exact hv))
  have HZ1 : ∀ v ∈ zs, v.oneCell' = true := fun v hv => hx4 v (List.mem_of_mem_take (by rw [← hzs]; exact hv))
  have HYC := Lib.hid (show ∀ w', Below w.heap.size w w' → ∀ j v, ys[j]? = some v → w'.cell? ((⟨b, off + i * 3, none⟩ : Addr).add j) = some v from fun w' hb' j v hv => by
    rw [hys, List.getElem?_drop] at hv
    have hq := hx2 _ _ hv
    rw [show (⟨b, off, none⟩ : Addr).add (i * 3 + j) = ⟨b, off + (i * 3 + j), none⟩ by simp [Addr.add_lit]] at hq
    rw [show (⟨b, off + i * 3, none⟩ : Addr).add j = ⟨b, off + (i * 3 + j), none⟩ by simp [Addr.add_lit, Nat.add_assoc]]
    rw [hb'.cell (p := ⟨b, off + (i * 3 + j), none⟩) hlb]; exact hq)
  have HZC := Lib.hid (show ∀ w', Below w.heap.size w w' → ∀ j v, zs[j]? = some v → w'.cell? ((⟨b, off, none⟩ : Addr).add j) = some v from fun w' hb' j v hv => by
    rw [hzs] at hv
    have hv' : xs[j]? = some v := by
      rw [List.getElem?_take] at hv
      split at hv
      · exact hv
      · cases hv
    have hq := hx2 _ _ hv'
    rw [show (⟨b, off, none⟩ : Addr).add j = ⟨b, off + j, none⟩ by simp [Addr.add_lit]] at hq ⊢
    rw [hb'.cell (p := ⟨b, off + j, none⟩) hlb]; exact hq)
  have HG3 := Lib.hid (show ∀ j, j < n * 3 → ∃ x, (ys ++ zs)[j]? = some (.float .f32 x) ∧ Fr .f32 x (rotC n i c j) from fun j hj => by
    obtain ⟨x, k1, k2⟩ := hx3 ((j + i * 3) % (n * 3)) (Nat.mod_lt _ (by omega))
    refine ⟨x, ?_, k2⟩
    by_cases hj2 : j < (n - i) * 3
    · rw [List.getElem?_append_left (by omega), hys, List.getElem?_drop]
      rw [Nat.mod_eq_of_lt (by omega)] at k1
      rw [show i * 3 + j = j + i * 3 by omega]; exact k1
    · rw [List.getElem?_append_right (by omega), hyl, hzs, List.getElem?_take_of_lt (by omega)]
      rw [show j + i * 3 = (j - (n - i) * 3) + n * 3 by omega, Nat.add_mod_right, Nat.mod_eq_of_lt (by omega)] at k1
      exact k1)
  clear h5 h6 hx2 hx3 hx4 hys hzs hx1
  unfold maxLen at h3
  have HSY := Lib.hid (And.intro HY1 HZ1)
  clear HY1 HZ1
  have hic : ¬ cap = i := by omega
  have hic2 : ¬ i = cap := by omega
  have hic3 : i ≤ cap := by omega
  have hini : i ≤ n := by omega
  obtain ⟨wa, hwa⟩ : ∃ u, u = w.alloc (.cells #[] 28) := ⟨_, rfl⟩
  have hown0 : wa.ownsRow w.heap.size 28 3 (.slice (some ⟨w.heap.size, 0, none⟩) 0 0) 0 [] := by rw [hwa]; exact World.ownsRow_made w #[] 0 (Nat.le_refl _) (Nat.zero_le _) rfl
  have hba : Below w.heap.size w wa := by rw [hwa]; exact (Below.refl _ _).alloc (Nat.le_refl _) _
  have hza : w.heap.size ≤ wa.heap.size := hba.size
  have HO0 := Lib.hid hown0
  have HBA := Lib.hid hba
  have HE := Lib.hid e0
  clear hown0 hba
  go_enter Try.func78, Try.ntmps78
  have HWA := Lib.hid hwa
  clear hwa
  go_wp2_with (first
    | (at_builtin; rw [← HWA.out]; refine wpList_append_own _ rfl (.tmp 6) (.tmp 12) 31 rfl w.heap.size 28 i0 _ 3 12 Try.underlying31 hi hz0 hz1 hz2 rfl (by decide) (.slice (some ⟨w.heap.size, 0, none⟩) 0 0) 0 [] rfl HO0.out ⟨b, off + i * 3, none⟩ (n - i) _ ys rfl hyl (HYC.out _ HBA.out) HSY.out.1 (by unfold maxLen; omega) (by omega) hza ?_; intro v5 w5 hown5 hgrow5 hnil5; have hb5 : Below w.heap.size w w5 := HBA.out.grown hgrow5 hza (fun k hk => (by simp [Value.ownBlock] at hk; omega)); have e5 : w5.cell? ⟨G, 0, none⟩ = some (.slice (some ⟨b, off, none⟩) n cap) := (by rw [hb5.cell (p := ⟨G, 0, none⟩) lG]; exact HE.out); have hz5 := hb5.size; have HB5 := Lib.hid hb5; have HO5 := Lib.hid hown5; clear hown5 hgrow5 hnil5 hb5)
    | (at_builtin; refine wpList_append_own _ rfl (.tmp 14) (.tmp 20) 31 rfl w.heap.size 28 i0 _ 3 12 Try.underlying31 hi hz0 hz1 hz2 rfl (by decide) _ (0 + (n - i)) ([] ++ ys) rfl HO5.out ⟨b, off, none⟩ i _ zs rfl hzl (HZC.out _ HB5.out) HSY.out.2 (by unfold maxLen; omega) (by omega) hz5 ?_; intro v6 w6 hown6 hgrow6 hnil6; have HG6 := Lib.hid (And.intro hown6 (HB5.out.grown hgrow6 hz5 (fun k hk => (World.ownsRow.lt HO5.out k hk).1))); clear hown6 hgrow6 hnil6))
  go_ret
  obtain ⟨hown6, hb6⟩ := HG6.out
  rw [show 0 + (n - i) + i = n by omega, List.nil_append] at hown6
  obtain ⟨a9, c9, rfl, h9⟩ := isR_of hown6 HG3.out (by omega)
  exact ⟨a9, c9, rfl, h9, hb6⟩

/-- What becomes of the thread. -/
def shiftR (n : Nat) (s : Option Nat) (c : Nat → Option Nat) (i : Int) : Bool := okT n s c && ptB n i

end Th
end Go.Proofs.Ytjkkefbfhapblaa
