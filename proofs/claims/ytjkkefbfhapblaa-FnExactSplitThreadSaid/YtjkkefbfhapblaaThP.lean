/- Rows of a thread that begin at another point, clones, and threads that are given if they are: the program, and the model's gift. -/
import Derived.Test.YtjkkefbfhapblaaThC
namespace Go.Proofs.Ytjkkefbfhapblaa
set_option linter.unusedSimpArgs false
set_option linter.unusedVariables false
open Go.RowKit
set_option maxRecDepth 20000
namespace Th
open Fl Rate

/-- The cells from vector i on, around. -/
def rotC (n i : Nat) (c : Nat → Option Nat) : Nat → Option Nat := fun j => c ((j + i * 3) % (n * 3))

theorem rot_get {xs L0 : List Value} {n i : Nat} (hx : xs.length = n * 3) (hL : L0.length = n * 3) (hi : i ≤ n) (j : Nat) (hj : j < n * 3) :
    (splice (splice L0 0 (xs.drop (i * 3))) ((n - i) * 3) (xs.take (i * 3)))[j]? = xs[(j + i * 3) % (n * 3)]? := by
  have e1 : (n - i) * 3 + i * 3 = n * 3 := by rw [← Nat.add_mul]; congr 1; omega
  have hd : (xs.drop (i * 3)).length = (n - i) * 3 := by rw [List.length_drop, hx]; omega
  have ht : (xs.take (i * 3)).length = i * 3 := by rw [List.length_take, hx]; omega
  by_cases h : j < (n - i) * 3
  · rw [Nat.mod_eq_of_lt (by omega)]
    unfold splice
    rw [List.getElem?_append_left (by simp; omega), List.getElem?_take_of_lt h]
    simp only [List.take_zero, List.nil_append]
    rw [List.getElem?_append_left (by rw [hd]; exact h), List.getElem?_drop]
    congr 1; omega
  · have e2 : (j + i * 3) % (n * 3) = j - (n - i) * 3 := by
      rw [show j + i * 3 = (j - (n - i) * 3) + n * 3 by omega, Nat.add_mod_right, Nat.mod_eq_of_lt (by omega)]
    rw [e2]
    unfold splice
    rw [List.getElem?_append_right (by simp; omega)]
    have e3 : ((List.take 0 L0 ++ (List.drop (i * 3) xs ++ List.drop (0 + (List.drop (i * 3) xs).length) L0)).take ((n - i) * 3)).length = (n - i) * 3 := by
      simp; omega
    rw [e3, List.getElem?_append_left (by rw [ht]; omega), List.getElem?_take_of_lt (by omega)]

theorem rot_len {xs L0 : List Value} {n i : Nat} (hx : xs.length = n * 3) (hL : L0.length = n * 3) (hi : i ≤ n) : (splice (splice L0 0 (xs.drop (i * 3))) ((n - i) * 3) (xs.take (i * 3))).length = n * 3 := by
  have e1 : (n - i) * 3 + i * 3 = n * 3 := by rw [← Nat.add_mul]; congr 1; omega
  have hd : (xs.drop (i * 3)).length = (n - i) * 3 := by rw [List.length_drop, hx]; omega
  have ht : (xs.take (i * 3)).length = i * 3 := by rw [List.length_take, hx]; omega
  rw [length_splice _ _ _ (by rw [ht, length_splice _ _ _ (by rw [hd]; omega), hL]; omega), length_splice _ _ _ (by rw [hd]; omega), hL]

theorem A_sizeV : (Try.prog.info? 28).map (·.size) = some 3 := by kernel_rfl

set_option maxHeartbeats 6400000 in
theorem points_from (G : Nat) (a : Option Addr) (n cap : Nat) (i : Nat) (c : Nat → Option Nat) (w : World) (e0 : w.cell? ⟨G, 0, none⟩ = some (.slice a n cap)) (h : IsV w a n cap c) (hn : 3 ≤ n ∧ n ≤ 32) (hin : i ≤ n) :
    Calls Try.prog 81 #[.pointer (some ⟨G, 0, none⟩), .int .i64 (i : Int)] w (RetR n (rotC n i c) w) := by
  obtain ⟨i0, hi, hz0, hz1, hz2⟩ := info_v
  have lG := block_lt_of_cell e0
  obtain ⟨h2, h3, b, off, h5, h6⟩ := h
  obtain rfl := h5 (by omega)
  obtain ⟨xs, hx1, hx2, hx3, hx4⟩ := cells_v h6
  have hlb : b < w.heap.size := by obtain ⟨x, hx, _⟩ := h6 0 (by omega); exact block_lt_of_cell hx
  obtain ⟨ys, hys⟩ : ∃ ys, ys = xs.drop (i * 3) := ⟨_, rfl⟩
  obtain ⟨zs, hzs⟩ : ∃ zs, zs = xs.take (i * 3) := ⟨_, rfl⟩
  have hyl : ys.length = (n - i) * 3 := by rw [hys, List.length_drop, hx1]; omega
  have hzl : zs.length = i * 3 := by rw [hzs, List.length_take, hx1]; omega
  have HY1 : ∀ v ∈ ys, v.oneCell' = true := fun v hv => hx4 v (List.mem_of_mem_drop (by rw [← hys]; exact hv))
  have HZ1 : ∀ v ∈ zs, v.oneCell' = true := fun v hv => hx4 v (List.mem_of_mem_take (by rw [← hzs]; exact hv))
  have HYC := Lib.hid (show ∀ w', Below w.heap.size w w' → ∀ j v, ys[j]? = some v → w'.cell? ((⟨b, off + i * 3, none⟩ : Addr).add j) = some v from fun w' hb' j v hv => by
    rw [hys, List.getElem?_drop] at hv
    have hq := hx2 _ _ hv
    rw [show (⟨b, off, none⟩ : Addr).add (i * 3 + j) = ⟨b, off + (i * 3 + j), none⟩ by simp [Addr.add_lit]] at hq
    rw [show (⟨b, off + i * 3, none⟩ : Addr).add j = ⟨b, off + (i * 3 + j), none⟩ by simp [Addr.add_lit, Nat.add_assoc]]
    rw [hb'.cell (p := ⟨b, off + (i * 3 + j), none⟩) hlb]; exact hq)
  have HZC := Lib.hid (show ∀ w', Below w.heap.size w w' → ∀ j v, zs[j]? = some v → w'.cell? ((⟨b, off, none⟩ : Addr).add j) = some v from fun w' hb' j v hv => by
    rw [hzs] at hv
    have hv' : xs[j]? = some v := by
      rw [List.getElem?_take] at hv
      split at hv
      · exact hv
      · cases hv
    have hq := hx2 _ _ hv'
    rw [show (⟨b, off, none⟩ : Addr).add j = ⟨b, off + j, none⟩ by simp [Addr.add_lit]] at hq ⊢
    rw [hb'.cell (p := ⟨b, off + j, none⟩) hlb]; exact hq)
  have HG3 := Lib.hid (show ∀ L0 : List Value, L0.length = n * 3 → (splice (splice L0 0 ys) ((n - i) * 3) zs).length = n * 3 ∧ ∀ j, j < n * 3 → ∃ x, (splice (splice L0 0 ys) ((n - i) * 3) zs)[j]? = some (.float .f32 x) ∧ Fr .f32 x (rotC n i c j) from fun L0 hL => by
    rw [hys, hzs]
    refine ⟨rot_len hx1 hL hin, fun j hj => ?_⟩
    rw [rot_get hx1 hL hin j hj]
    exact hx3 _ (Nat.mod_lt _ (by omega)))
  have HSP1 := Lib.hid (show ∀ L0 : List Value, L0.length = n * 3 → (splice L0 0 ys).length = n * 3 from fun L0 hL => by rw [length_splice _ _ _ (by rw [hyl, hL]; omega), hL])
  clear h5 h6 hx2 hx3 hx4 hys hzs
  unfold maxLen at h3
  have HSY := Lib.hid (And.intro HY1 HZ1)
  clear HY1 HZ1
  have hi9 : (i : Int) ≤ 9223372036854775807 := by omega
  go_enter Try.func81, Try.ntmps81
  go_wp2_with (at_make; refine wpList_make_full _ rfl _ _ 31 rfl w.heap.size 28 i0 (.agg #[.float .f32 0, .float .f32 0, .float .f32 0]) 3 Try.underlying31 hi hz0 hz1 .i64 .i64 _ _ n rfl rfl rfl rfl (by rw [hz2]; omega) (by unfold maxLen; omega) (Nat.le_refl _) ?_)
  intro w1 hown hgrow
  have hnx : Below w.heap.size w w1 := (Below.refl _ _).grown hgrow (Nat.le_refl _) (fun k h => by cases h)
  have hblk : ∃ cur : List Value, w1.heap[w.heap.size]? = some (.cells cur.toArray 28) ∧ cur.length = n * 3 := by
    obtain ⟨_, h | ⟨g, c, cur, hv, _, hh, _, _, hs, _⟩⟩ := hown
    · cases h.1
    · simp only [Value.slice.injEq, Option.some.injEq, Addr.mk.injEq] at hv
      obtain ⟨⟨rfl, _⟩, _, rfl⟩ := hv
      exact ⟨cur.toList, by simpa using hh, by simpa using hs⟩
  obtain ⟨L0, hc0, hs0⟩ := hblk
  have e1 : w1.cell? ⟨G, 0, none⟩ = some (.slice (some ⟨b, off, none⟩) n cap) := by rw [hnx.cell lG]; exact e0
  have HC0 := Lib.hid hc0
  have HS0 := Lib.hid hs0
  have HB1 := Lib.hid hnx
  have hz1' := hnx.size
  have lG1 : G < w1.heap.size := by omega
  clear hown hgrow hc0 hs0 hnx e0
  go_wp2_with (with_reducible refine Cp.wpList_copy_n rfl (.tmp 13) (.tmp 19) 31 31 rfl 28 3 Try.underlying31 A_sizeV _ _ _ _ _ _ rfl rfl w.heap.size 0 L0 28 HC0.out ys (n - i) (by show _ = min _ _; omega) hyl (fun hp => ⟨rfl, ⟨b, off + i * 3, none⟩, by first | rfl | (simp; omega), HYC.out _ HB1.out⟩) (by rw [HS0.out, hyl]; omega) HSY.out.1 w.heap.size w HB1.out (Nat.le_refl _) ?_; intro w2 HG2 hb2 hk2)
  all_goals
    have e2 := (hb2.cell (p := ⟨G, 0, none⟩) lG).trans ((HB1.out.cell (p := ⟨G, 0, none⟩) lG).symm.trans e1)
    have hz2' := hb2.size
    have lG2 : G < w2.heap.size := by omega
    have HB2 := Lib.hid hb2
    clear e1 hb2 HB1 HC0 hk2
    have hic : i ≤ cap := by omega
    by_cases hi0 : i = 0
    · subst hi0
      refine LooseP.wp_region 9 [] (by kernel_rfl) (by kernel_rfl) (by intro p hp; cases hp) ?_
      apply Exists.intro
      simp only [List.take_succ_cons, List.take_zero, List.drop_succ_cons, List.drop_zero]
      repeat (apply Loose.walk_step; intro K hK; apply LooseP.turn_value (hwant := rfl) (hd := rfl); (focus (intro w' hw'; obtain ⟨hc, hf⟩ := Fl.bcell hw'; go_simp; first | done | rfl | exact ⟨rfl, rfl⟩)); go_simp; refine hK _ ?_; clear hK K)
      refine Loose.walk_nil ?_
      intro w3 hcls3
      have hb3 := HB2.out.trans (hcls3.1.mono HB2.out.size)
      have hc3 := keep_block hcls3.1 HG2.out
      clear hcls3
      with_reducible refine Cp.wpList_copy_n rfl (.tmp 23) (.tmp 29) 31 31 rfl 28 3 Try.underlying31 A_sizeV _ _ _ _ _ _ rfl rfl w.heap.size ((n - 0) * 3) (splice L0 0 ys) 28 hc3 zs 0 (by show _ = min _ _; omega) hzl (fun hp => absurd hp (by omega)) (by rw [HSP1.out L0 HS0.out, hzl]; omega) HSY.out.2 w.heap.size w hb3 (Nat.le_refl _) ?_
      intro w4 HG4 hb4 hk4
      have HB4 := Lib.hid hb4
      clear hb4 hk4 hb3 hc3
      go_wp2
      go_ret
      exact ⟨_, _, rfl, ⟨Nat.le_refl _, by unfold maxLen; omega, w.heap.size, _, fun _ => ⟨rfl, Nat.le_refl _, block_lt HG4.out, HG4.out⟩, by simpa using Nat.le_of_eq (HG3.out L0 HS0.out).1.symm, fun j hj => by simpa using (HG3.out L0 HS0.out).2 j hj⟩, HB4.out⟩
    · have hne : ¬ n = n - i := by omega
      have hne' : ¬ n - i = n := by omega
      refine LooseP.wp_region 9 [] (by kernel_rfl) (by kernel_rfl) (by intro p hp; cases hp) ?_
      apply Exists.intro
      simp only [List.take_succ_cons, List.take_zero, List.drop_succ_cons, List.drop_zero]
      repeat (apply Loose.walk_step; intro K hK; apply LooseP.turn_value (hwant := rfl) (hd := rfl); (focus (intro w' hw'; obtain ⟨hc, hf⟩ := Fl.bcell hw'; go_simp; first | done | rfl | exact ⟨rfl, rfl⟩)); go_simp; refine hK _ ?_; clear hK K)
      refine Loose.walk_nil ?_
      intro w3 hcls3
      have hb3 := HB2.out.trans (hcls3.1.mono HB2.out.size)
      have hc3 := keep_block hcls3.1 HG2.out
      clear hcls3
      with_reducible refine Cp.wpList_copy_n rfl (.tmp 23) (.tmp 29) 31 31 rfl 28 3 Try.underlying31 A_sizeV _ _ _ _ _ _ rfl rfl w.heap.size ((n - i) * 3) (splice L0 0 ys) 28 hc3 zs i (by show _ = min _ _; omega) hzl (fun hp => ⟨by first | rfl | (simp; omega), ⟨b, off, none⟩, rfl, HZC.out _ hb3⟩) (by rw [HSP1.out L0 HS0.out, hzl]; omega) HSY.out.2 w.heap.size w hb3 (Nat.le_refl _) ?_
      intro w4 HG4 hb4 hk4
      have HB4 := Lib.hid hb4
      clear hb4 hk4 hb3 hc3
      go_wp2
      go_ret
      exact ⟨_, _, rfl, ⟨Nat.le_refl _, by unfold maxLen; omega, w.heap.size, _, fun _ => ⟨rfl, Nat.le_refl _, block_lt HG4.out, HG4.out⟩, by simpa using Nat.le_of_eq (HG3.out L0 HS0.out).1.symm, fun j hj => by simpa using (HG3.out L0 HS0.out).2 j hj⟩, HB4.out⟩

theorem rot_zero {n : Nat} (c : Nat → Option Nat) (j : Nat) (hj : j < n * 3) : rotC n 0 c j = c j := by
  unfold rotC
  rw [Nat.zero_mul, Nat.add_zero, Nat.mod_eq_of_lt hj]

theorem from_zero (G : Nat) (a : Option Addr) (n cap : Nat) (c : Nat → Option Nat) (w : World) (e0 : w.cell? ⟨G, 0, none⟩ = some (.slice a n cap)) (h : IsV w a n cap c) (hn : 3 ≤ n ∧ n ≤ 32) :
    Calls Try.prog 81 #[.pointer (some ⟨G, 0, none⟩), .int .i64 0] w (fun e w'' => ∃ v, e = .returned v ∧ (∃ a cap, v = .slice a n cap) ∧ phiR w.heap.size n c v w'' ∧ Below w.heap.size w w'') :=
  (points_from G a n cap 0 c w e0 h hn (Nat.zero_le _)).mono fun e w'' ⟨a', cap', he, ho, hb'⟩ => ⟨_, he, ⟨a', cap', rfl⟩, ⟨a', cap', rfl, ho.congr (rot_zero c)⟩, hb'⟩

theorem phiR_lower {B B' n : Nat} {c : Nat → Option Nat} {v : Value} {w : World} (h : phiR B n c v w) (hB : B' ≤ B) : phiR B' n c v w := by
  obtain ⟨a, cap, h1, h2⟩ := h
  exact ⟨a, cap, h1, h2.wider hB (Nat.le_refl _)⟩

set_option maxHeartbeats 3200000 in
theorem clone_run (G : Nat) (a : Option Addr) (n cap s : Nat) (c : Nat → Option Nat) (w : World) (e0 : w.cell? ⟨G, 0, none⟩ = some (.slice a n cap)) (e1 : w.cell? ⟨G, 1, none⟩ = some (.float .f32 s)) (h : IsV w a n cap c) (hn : 3 ≤ n ∧ n ≤ 32) :
    Calls Try.prog 55 #[.pointer (some ⟨G, 0, none⟩)] w (RetT s n c w) := by
  have lG := block_lt_of_cell e0
  go_enter Try.func55, Try.ntmps55
  go_wp2_with fail
  obtain ⟨wc, hwc⟩ : ∃ x, x = w.alloc (.cells #[.slice none 0 0, .float .f32 0] 33) := ⟨_, rfl⟩
  rw [← hwc]
  have q4 : wc.heap[w.heap.size]? = some (.cells #[.slice none 0 0, .float .f32 0] 33) := by rw [hwc]; exact new_block _ _
  have hbw : Below w.heap.size w wc := by rw [hwc]; exact (Below.refl _ _).alloc (Nat.le_refl _) _
  have HY := Lib.hid (h.later hbw)
  have HBW := Lib.hid hbw
  have e0' : wc.cell? ⟨G, 0, none⟩ = some (.slice a n cap) := by rw [hbw.cell lG]; exact e0
  have e1' : wc.cell? ⟨G, 1, none⟩ = some (.float .f32 s) := by rw [hbw.cell lG]; exact e1
  have hzc : w.heap.size + 1 ≤ wc.heap.size := by rw [hwc]; simp
  have lG' : G < wc.heap.size := by omega
  have HE := Lib.hid e0'
  have Q4 := Lib.hid q4
  clear hwc e0 e1 q4 h hbw
  refine LooseP.wp_region 6 [((4 : Nat), phiR wc.heap.size n c)] (by kernel_rfl) (by kernel_rfl) (by simp [undef]) ?_
  apply Exists.intro
  simp only [List.take_succ_cons, List.take_zero, List.drop_succ_cons, List.drop_zero]
  have hst : ∀ p ∈ [((4 : Nat), phiR wc.heap.size n c)], LooseP.Stable p.2 := by intro p hp; rw [List.mem_singleton.1 hp]; exact phiR_stable _ _ _
  repeat (first | (apply Loose.walk_step; intro K hK; apply LooseP.turn_value (hwant := rfl) (hd := rfl); (focus (intro w' hw'; obtain ⟨hc, hf⟩ := Fl.bcell hw'; go_simp; first | done | rfl | exact ⟨rfl, rfl⟩)); go_simp; refine hK _ ?_; clear hK K) | (apply Loose.walk_step; intro K hK; refine LooseP.turn_callP (f := 81) (args := fun a => #[a.eval (.tmp 3), .int .i64 0]) (V := fun v => ∃ a cap, v = .slice a n cap) (φ := phiR wc.heap.size n c) (d := 4) hst (Nat.le_refl _) rfl rfl (by intro p hp _; rw [List.mem_singleton.1 hp]) (by intro a' w'; go_simp; first | done | rfl | exact ⟨rfl, rfl⟩) ⟨_, none, 0, rfl⟩ ?_ ?_; (focus (intro a' w' _ hcl; go_simp; exact (from_zero G a n cap c w' ((hcl.1.cell (p := ⟨G, 0, none⟩) lG').trans HE.out) (HY.out.later hcl.1) hn).mono fun e w'' ⟨v, h1, h2, h3, h4⟩ => ⟨v, h1, h2, phiR_lower h3 hcl.1.size, h4⟩)); (intro v hv; obtain ⟨av, capv, rfl⟩ := hv; go_simp; refine hK _ ?_; clear hK K)))
  refine Loose.walk_nil ?_
  intro w3 hcls3
  have hb3 := hcls3.1
  obtain ⟨a8, c8, e8, h8⟩ := hcls3.at (v := .slice av n capv) (List.mem_singleton.2 rfl) rfl (by simp [undef])
  obtain ⟨rfl, rfl⟩ : av = a8 ∧ capv = c8 := by simpa using e8
  clear hcls3 hst e8
  have q43 := keep_block hb3 Q4.out
  have c0 := (cells_of (i := 0) q43).trans (show _ = some (.slice none 0 0) from rfl)
  have c1 := (cells_of (i := 1) q43).trans (show _ = some (.float .f32 0) from rfl)
  have f0 := free_of q43 0
  have f1 := free_of q43 1
  have l43 := block_lt q43
  have hz3 := hb3.size
  have H8 := Lib.hid h8
  have HB3 := Lib.hid (HBW.out.trans (hb3.mono (by omega)))
  clear h8 hb3 q43 Q4
  go_wp2
  refine bodyPost_ret ?ohr rfl ⟨av, capv, rfl, ?oio, ?obel⟩
  case ohr => simp [results, Try.results55, go_sem, *]
  case oio =>
    refine (H8.out.keep fun g hg hgl hgs => ?_).wider (by omega) (by simp)
    rw [set_keep _ _ _ (by omega), set_keep _ _ _ (by omega)]
  case obel => exact Below.setCell (Below.setCell HB3.out (Nat.le_refl _) _) (Nat.le_refl _) _

theorem impl_checked (a : Option Addr) (n cap s : Nat) (cs : Option Nat) (c : Nat → Option Nat) (w : World) (h : IsV w a n cap c) (fs : Fr .f32 s cs) (A : Bool) (hA : okT n cs c = A) : Calls Try.prog 82 #[tV a n cap s] w (RetD (.tuple #[if A then tV a n cap s else tV none 0 0 0, .bool A]) w) := by
  have HV := Lib.hid (fun w' (hb : Below w.heap.size w w') => impl_is a n cap s cs c w' (h.later hb) fs A hA)
  clear h hA
  cases A
  all_goals
    go_enter Try.func82, Try.ntmps82
    go_wp2_with fail
    refine (HV.out _ (by (repeat' first | exact Below.refl _ _ | (refine Below.setCell ?_ (by first | omega | (simp; omega) | simp) _) | (refine below_drewN ?_ _) | (refine Below.alloc ?_ (by first | omega | (simp; omega) | simp) _) | (refine Below.trans ?_ (Below.mono (by assumption) (by first | omega | (simp; omega) | simp)))))).mono ?_
    rintro e w1 ⟨rfl, hb1⟩
    have hz1 := hb1.size
    simp only [World.size_alloc] at hz1
    obtain ⟨hc1, hf1⟩ := Fl.bcell hb1
    have g1 : w.heap.size < w1.heap.size := by omega
    have g2 : w.heap.size + 1 < w1.heap.size := by omega
    go_wp2
    refine bodyPost_ret ?ohr rfl ⟨rfl, ?obel⟩
    case ohr => simp [results, Try.results82, go_sem, *]
    case obel => (repeat' first | exact Below.refl _ _ | (refine Below.setCell ?_ (by first | omega | (simp; omega) | simp) _) | (refine below_drewN ?_ _) | (refine Below.alloc ?_ (by first | omega | (simp; omega) | simp) _) | (refine Below.trans ?_ (Below.mono (by assumption) (by first | omega | (simp; omega) | simp))))

theorem spec_give (a : Option Addr) (n cap s : Nat) (cs : Option Nat) (c : Nat → Option Nat) (w : World) (h : IsV w a n cap c) (fs : Fr .f32 s cs) (A : Bool) (hA : okT n cs c = A) : Calls Try.prog 79 #[tV a n cap s] w (RetD (.tuple #[if A then tV a n cap s else tV none 0 0 0, .bool A]) w) := by
  have HV := Lib.hid (fun G w' (hb : Below w.heap.size w w') e0 e1 => spec_is G a n cap s cs c w' e0 e1 (h.later hb) fs A hA)
  clear h hA
  cases A
  all_goals
    go_enter Try.func79, Try.ntmps79
    go_wp2_with fail
    refine (HV.out _ _ (by (repeat' first | exact Below.refl _ _ | (refine Below.setCell ?_ (by first | omega | (simp; omega) | simp) _) | (refine below_drewN ?_ _) | (refine Below.alloc ?_ (by first | omega | (simp; omega) | simp) _) | (refine Below.trans ?_ (Below.mono (by assumption) (by first | omega | (simp; omega) | simp))))) (by simp) (by simp)).mono ?_
    rintro e w1 ⟨rfl, hb1⟩
    have hz1 := hb1.size
    simp only [World.size_alloc] at hz1
    obtain ⟨hc1, hf1⟩ := Fl.bcell hb1
    have g1 : w.heap.size < w1.heap.size := by omega
    have g2 : w.heap.size + 1 < w1.heap.size := by omega
    go_wp2
    refine bodyPost_ret ?ohr rfl ⟨rfl, ?obel⟩
    case ohr => simp [results, Try.results79, go_sem, *]
    case obel => (repeat' first | exact Below.refl _ _ | (refine Below.setCell ?_ (by first | omega | (simp; omega) | simp) _) | (refine below_drewN ?_ _) | (refine Below.alloc ?_ (by first | omega | (simp; omega) | simp) _) | (refine Below.trans ?_ (Below.mono (by assumption) (by first | omega | (simp; omega) | simp))))

end Th
end Go.Proofs.Ytjkkefbfhapblaa
