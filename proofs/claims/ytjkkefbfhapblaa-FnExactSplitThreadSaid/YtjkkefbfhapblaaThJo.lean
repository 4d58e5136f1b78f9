/- Rows of vectors that a function answers, and two of them joined. -/
import Derived.Test.YtjkkefbfhapblaaThQ
import Derived.Test.YtjkkefbfhapblaaThGr
namespace Go.Proofs.Ytjkkefbfhapblaa
set_option linter.unusedSimpArgs false
set_option linter.unusedVariables false
open Go.RowKit
set_option maxRecDepth 20000
namespace Th
open Fl Rate

/-- A row of one's own that is answered. -/
def RetO (n : Nat) (c : Nat → Option Nat) (w : World) (e : Ending) (w' : World) : Prop :=
  ∃ g cap xs, e = .returned (.slice (some ⟨g, 0, none⟩) n cap) ∧ w'.ownsRow w.heap.size 28 3 (.slice (some ⟨g, 0, none⟩) n cap) n xs ∧ FP (n * 3) c xs ∧ Below w.heap.size w w'

theorem own_all {w : World} {B g n : Nat} {L : List Value} (hB : B ≤ g) (h : w.heap[g]? = some (.cells L.toArray 28)) (hl : L.length = n * 3) (hm : n ≤ maxLen) : w.ownsRow B 28 3 (.slice (some ⟨g, 0, none⟩) n n) n L :=
  ⟨hl, .inr ⟨g, n, _, rfl, hB, h, Nat.le_refl _, hm, by simpa using hl, by simp [← hl]⟩⟩

set_option maxHeartbeats 6400000 in
theorem points_own (G : Nat) (a : Option Addr) (n cap : Nat) (i : Nat) (c : Nat → Option Nat) (w : World) (e0 : w.cell? ⟨G, 0, none⟩ = some (.slice a n cap)) (h : IsV w a n cap c) (hn : 3 ≤ n ∧ n ≤ 32) (hin : i ≤ n) :
    Calls Try.prog 81 #[.pointer (some ⟨G, 0, none⟩), .int .i64 (i : Int)] w (RetO n (rotC n i c) w) := by
  obtain ⟨i0, hi, hz0, hz1, hz2⟩ := info_v
  have lG := block_lt_of_cell e0
  obtain ⟨h2, h3, b, off, h5, h6⟩ := h
  obtain rfl := h5 (by omega)
  obtain ⟨xs, hx1, hx2, hx3, hx4⟩ := cells_v h6
  have hlb : b < w.heap.size := by obtain ⟨x, hx, _⟩ := h6 0 (by omega); exact block_lt_of_cell hx
  obtain ⟨ys, hys⟩ : ∃ ys, ys = xs.drop (i * 3) := ⟨_, rfl⟩
  obtain ⟨zs, hzs⟩ : ∃ zs, zs = xs.take (i * 3) := ⟨_, rfl⟩
  have hyl : ys.length = (n - i) * 3 := by rw [hys, List.length_drop, hx1]; omega
  have hzl : zs.length = i * 3 := by rw [hzs, List.length_take, hx1]; omega
  have HY1 : ∀ v ∈ ys, v.oneCell' = true := fun v hv => hx4 v (List.mem_of_mem_drop (by rw [← hys]; exact hv))
  have HZ1 : ∀ v ∈ zs, v.oneCell' = true := fun v hv => hx4 v (List.mem_of_mem_take (by rw [← hzs]; exact hv))
  have HYC := Lib.hid (show ∀ w', Below w.heap.size w w' → ∀ j v, ys[j]? = some v → w'.cell? ((⟨b, off + i * 3, none⟩ : Addr).add j) = some v from fun w' hb' j v hv => by
    rw [hys, List.getElem?_drop] at hv
    have hq := hx2 _ _ hv
    rw [show (⟨b, off, none⟩ : Addr).add (i * 3 + j) = ⟨b, off + (i * 3 + j), none⟩ by simp [Addr.add_lit]] at hq
    rw [show (⟨b, off + i * 3, none⟩ : Addr).add j = ⟨b, off + (i * 3 + j), none⟩ by simp [Addr.add_lit, Nat.add_assoc]]
    rw [hb'.cell (p := ⟨b, off + (i * 3 + j), none⟩) hlb]; exact hq)
  have HZC := Lib.hid (show ∀ w', Below w.heap.size w w' → ∀ j v, zs[j]? = some v → w'.cell? ((⟨b, off, none⟩ : Addr).add j) = some v from fun w' hb' j v hv => by
    rw [hzs] at hv
    have hv' : xs[j]? = some v := by
      rw [List.getElem?_take] at hv
      split at hv
      · exact hv
      · cases hv
    have hq := hx2 _ _ hv'
    rw [show (⟨b, off, none⟩ : Addr).add j = ⟨b, off + j, none⟩ by simp [Addr.add_lit]] at hq ⊢
    rw [hb'.cell (p := ⟨b, off + j, none⟩) hlb]; exact hq)
  have HG3 := Lib.hid (show ∀ L0 : List Value, L0.length = n * 3 → (splice (splice L0 0 ys) ((n - i) * 3) zs).length = n * 3 ∧ ∀ j, j < n * 3 → ∃ x, (splice (splice L0 0 ys) ((n - i) * 3) zs)[j]? = some (.float .f32 x) ∧ Fr .f32 x (rotC n i c j) from fun L0 hL => by
    rw [hys, hzs]
    refine ⟨rot_len hx1 hL hin, fun j hj => ?_⟩
    rw [rot_get hx1 hL hin j hj]
    exact hx3 _ (Nat.mod_lt _ (by omega)))
  have HSP1 := Lib.hid (show ∀ L0 : List Value, L0.length = n * 3 → (splice L0 0 ys).length = n * 3 from fun L0 hL => by rw [length_splice _ _ _ (by rw [hyl, hL]; omega), hL])
  clear h5 h6 hx2 hx3 hx4 hys hzs
  unfold maxLen at h3
  have HSY := Lib.hid (And.intro HY1 HZ1)
  clear HY1 HZ1
  have hi9 : (i : Int) ≤ 9223372036854775807 := by omega
  go_enter Try.func81, Try.ntmps81
  go_wp2_with (at_make; refine wpList_make_full _ rfl _ _ 31 rfl w.heap.size 28 i0 (.agg #[.float .f32 0, .float .f32 0, .float .f32 0]) 3 Try.underlying31 hi hz0 hz1 .i64 .i64 _ _ n rfl rfl rfl rfl (by rw [hz2]; omega) (by unfold maxLen; omega) (Nat.le_refl _) ?_)
  intro w1 hown hgrow
  have hnx : Below w.heap.size w w1 := (Below.refl _ _).grown hgrow (Nat.le_refl _) (fun k h => by cases h)
  have hblk : ∃ cur : List Value, w1.heap[w.heap.size]? = some (.cells cur.toArray 28) ∧ cur.length = n * 3 := by
    obtain ⟨_, h | ⟨g, c, cur, hv, _, hh, _, _, hs, _⟩⟩ := hown
    · cases h.1
    · simp only [Value.slice.injEq, Option.some.injEq, Addr.mk.injEq] at hv
      obtain ⟨⟨rfl, _⟩, _, rfl⟩ := hv
      exact ⟨cur.toList, by simpa using hh, by simpa using hs⟩
  obtain ⟨L0, hc0, hs0⟩ := hblk
  have e1 : w1.cell? ⟨G, 0, none⟩ = some (.slice (some ⟨b, off, none⟩) n cap) := by rw [hnx.cell lG]; exact e0
  have HC0 := Lib.hid hc0
  have HS0 := Lib.hid hs0
  have HB1 := Lib.hid hnx
  have hz1' := hnx.size
  have lG1 : G < w1.heap.size := by omega
  clear hown hgrow hc0 hs0 hnx e0
  go_wp2_with (with_reducible refine Cp.wpList_copy_n rfl (.tmp 13) (.tmp 19) 31 31 rfl 28 3 Try.underlying31 A_sizeV _ _ _ _ _ _ rfl rfl w.heap.size 0 L0 28 HC0.out ys (n - i) (by show _ = min _ _; omega) hyl (fun hp => ⟨rfl, ⟨b, off + i * 3, none⟩, by first | rfl | (simp; omega), HYC.out _ HB1.out⟩) (by rw [HS0.out, hyl]; omega) HSY.out.1 w.heap.size w HB1.out (Nat.le_refl _) ?_; intro w2 HG2 hb2 hk2)
  all_goals
    have e2 := (hb2.cell (p := ⟨G, 0, none⟩) lG).trans ((HB1.out.cell (p := ⟨G, 0, none⟩) lG).symm.trans e1)
    have hz2' := hb2.size
    have lG2 : G < w2.heap.size := by omega
    have HB2 := Lib.hid hb2
    clear e1 hb2 HB1 HC0 hk2
    have hic : i ≤ cap := by omega
    by_cases hi0 : i = 0
    · subst hi0
      refine LooseP.wp_region 9 [] (by kernel_rfl) (by kernel_rfl) (by intro p hp; cases hp) ?_
      apply Exists.intro
      simp only [List.take_succ_cons, List.take_zero, List.drop_succ_cons, List.drop_zero]
      repeat (apply Loose.walk_step; intro K hK; apply LooseP.turn_value (hwant := rfl) (hd := rfl); (focus (intro w' hw'; obtain ⟨hc, hf⟩ := Fl.bcell hw'; go_simp; first | done | rfl | exact ⟨rfl, rfl⟩)); go_simp; refine hK _ ?_; clear hK K)
      refine Loose.walk_nil ?_
      intro w3 hcls3
      have hb3 := HB2.out.trans (hcls3.1.mono HB2.out.size)
      have hc3 := keep_block hcls3.1 HG2.out
      clear hcls3
      with_reducible refine Cp.wpList_copy_n rfl (.tmp 23) (.tmp 29) 31 31 rfl 28 3 Try.underlying31 A_sizeV _ _ _ _ _ _ rfl rfl w.heap.size ((n - 0) * 3) (splice L0 0 ys) 28 hc3 zs 0 (by show _ = min _ _; omega) hzl (fun hp => absurd hp (by omega)) (by rw [HSP1.out L0 HS0.out, hzl]; omega) HSY.out.2 w.heap.size w hb3 (Nat.le_refl _) ?_
      intro w4 HG4 hb4 hk4
      have HB4 := Lib.hid hb4
      clear hb4 hk4 hb3 hc3
      go_wp2
      go_ret
      exact ⟨_, _, _, rfl, own_all (Nat.le_refl _) HG4.out (HG3.out L0 HS0.out).1 (by unfold maxLen; omega), HG3.out L0 HS0.out, HB4.out⟩
    · have hne : ¬ n = n - i := by omega
      have hne' : ¬ n - i = n := by omega
      refine LooseP.wp_region 9 [] (by kernel_rfl) (by kernel_rfl) (by intro p hp; cases hp) ?_
      apply Exists.intro
      simp only [List.take_succ_cons, List.take_zero, List.drop_succ_cons, List.drop_zero]
      repeat (apply Loose.walk_step; intro K hK; apply LooseP.turn_value (hwant := rfl) (hd := rfl); (focus (intro w' hw'; obtain ⟨hc, hf⟩ := Fl.bcell hw'; go_simp; first | done | rfl | exact ⟨rfl, rfl⟩)); go_simp; refine hK _ ?_; clear hK K)
      refine Loose.walk_nil ?_
      intro w3 hcls3
      have hb3 := HB2.out.trans (hcls3.1.mono HB2.out.size)
      have hc3 := keep_block hcls3.1 HG2.out
      clear hcls3
      with_reducible refine Cp.wpList_copy_n rfl (.tmp 23) (.tmp 29) 31 31 rfl 28 3 Try.underlying31 A_sizeV _ _ _ _ _ _ rfl rfl w.heap.size ((n - i) * 3) (splice L0 0 ys) 28 hc3 zs i (by show _ = min _ _; omega) hzl (fun hp => ⟨by first | rfl | (simp; omega), ⟨b, off, none⟩, rfl, HZC.out _ hb3⟩) (by rw [HSP1.out L0 HS0.out, hzl]; omega) HSY.out.2 w.heap.size w hb3 (Nat.le_refl _) ?_
      intro w4 HG4 hb4 hk4
      have HB4 := Lib.hid hb4
      clear hb4 hk4 hb3 hc3
      go_wp2
      go_ret
      exact ⟨_, _, _, rfl, own_all (Nat.le_refl _) HG4.out (HG3.out L0 HS0.out).1 (by unfold maxLen; omega), HG3.out L0 HS0.out, HB4.out⟩

set_option maxHeartbeats 6400000 in
theorem from_own (G : Nat) (a : Option Addr) (n cap : Nat) (i : Nat) (c : Nat → Option Nat) (w : World) (e0 : w.cell? ⟨G, 0, none⟩ = some (.slice a n cap)) (h : IsV w a n cap c) (hn : 3 ≤ n ∧ n ≤ 32) (hin : i < n) :
    Calls Try.prog 78 #[.pointer (some ⟨G, 0, none⟩), .int .i64 (i : Int)] w (RetO n (rotC n i c) w) := by
  obtain ⟨i0, hi, hz0, hz1, hz2⟩ := info_v
  have lG := block_lt_of_cell e0
  obtain ⟨h2, h3, b, off, h5, h6⟩ := h
  obtain rfl := h5 (by omega)
  obtain ⟨xs, hx1, hx2, hx3, hx4⟩ := cells_v h6
  have hlb : b < w.heap.size := by obtain ⟨x, hx, _⟩ := h6 0 (by omega); exact block_lt_of_cell hx
  obtain ⟨ys, hys⟩ : ∃ ys, ys = xs.drop (i * 3) := ⟨_, rfl⟩
  obtain ⟨zs, hzs⟩ : ∃ zs, zs = xs.take (i * 3) := ⟨_, rfl⟩
  have hyl : ys.length = (n - i) * 3 := by rw [hys, List.length_drop, hx1]; omega
  have hzl : zs.length = i * 3 := by rw [hzs, List.length_take, hx1]; omega
  have HY1 : ∀ v ∈ ys, v.oneCell' = true := fun v hv => hx4 v (List.mem_of_mem_drop (by rw [← hys]; exact hv))
  have HZ1 : ∀ v ∈ zs, v.oneCell' = true := fun v hv => hx4 v (List.mem_of_mem_take (by rw [← hzs]; exact hv))
  have HYC := Lib.hid (show ∀ w', Below w.heap.size w w' → ∀ j v, ys[j]? = some v → w'.cell? ((⟨b, off + i * 3, none⟩ : Addr).add j) = some v from fun w' hb' j v hv => by
    rw [hys, List.getElem?_drop] at hv
    have hq := hx2 _ _ hv
    rw [show (⟨b, off, none⟩ : Addr).add (i * 3 + j) = ⟨b, off + (i * 3 + j), none⟩ by simp [Addr.add_lit]] at hq
    rw [show (⟨b, off + i * 3, none⟩ : Addr).add j = ⟨b, off + (i * 3 + j), none⟩ by simp [Addr.add_lit, Nat.add_assoc]]
    rw [hb'.cell (p := ⟨b, off + (i * 3 + j), none⟩) hlb]; exact hq)
  have HZC := Lib.hid (show ∀ w', Below w.heap.size w w' → ∀ j v, zs[j]? = some v → w'.cell? ((⟨b, off, none⟩ : Addr).add j) = some v from fun w' hb' j v hv => by
    rw [hzs] at hv
    have hv' : xs[j]? = some v := by
      rw [List.getElem?_take] at hv
      split at hv
      · exact hv
      · cases hv
    have hq := hx2 _ _ hv'
    rw [show (⟨b, off, none⟩ : Addr).add j = ⟨b, off + j, none⟩ by simp [Addr.add_lit]] at hq ⊢
    rw [hb'.cell (p := ⟨b, off + j, none⟩) hlb]; exact hq)
  have HG3 := Lib.hid (show ∀ j, j < n * 3 → ∃ x, (ys ++ zs)[j]? = some (.float .f32 x) ∧ Fr .f32 x (rotC n i c j) from fun j hj => by
    obtain ⟨x, k1, k2⟩ := hx3 ((j + i * 3) % (n * 3)) (Nat.mod_lt _ (by omega))
    refine ⟨x, ?_, k2⟩
    by_cases hj2 : j < (n - i) * 3
    · rw [List.getElem?_append_left (by omega), hys, List.getElem?_drop]
      rw [Nat.mod_eq_of_lt (by omega)] at k1
      rw [show i * 3 + j = j + i * 3 by omega]; exact k1
    · rw [List.getElem?_append_right (by omega), hyl, hzs, List.getElem?_take_of_lt (by omega)]
      rw [show j + i * 3 = (j - (n - i) * 3) + n * 3 by omega, Nat.add_mod_right, Nat.mod_eq_of_lt (by omega)] at k1
      exact k1)
  clear h5 h6 hx2 hx3 hx4 hys hzs hx1
  unfold maxLen at h3
  have HSY := Lib.hid (And.intro HY1 HZ1)
  clear HY1 HZ1
  have hic : ¬ cap = i := by omega
  have hic2 : ¬ i = cap := by omega
  have hic3 : i ≤ cap := by omega
  have hini : i ≤ n := by omega
  obtain ⟨wa, hwa⟩ : ∃ u, u = w.alloc (.cells #[] 28) := ⟨_, rfl⟩
  have hown0 : wa.ownsRow w.heap.size 28 3 (.slice (some ⟨w.heap.size, 0, none⟩) 0 0) 0 [] := by rw [hwa]; exact World.ownsRow_made w #[] 0 (Nat.le_refl _) (Nat.zero_le _) rfl
  have hba : Below w.heap.size w wa := by rw [hwa]; exact (Below.refl _ _).alloc (Nat.le_refl _) _
  have hza : w.heap.size ≤ wa.heap.size := hba.size
  have HO0 := Lib.hid hown0
  have HBA := Lib.hid hba
  have HE := Lib.hid e0
  clear hown0 hba
  go_enter Try.func78, Try.ntmps78
  have HWA := Lib.hid hwa
  clear hwa
  go_wp2_with (first
    | (at_builtin; rw [← HWA.out]; refine wpList_append_own _ rfl (.tmp 6) (.tmp 12) 31 rfl w.heap.size 28 i0 _ 3 12 Try.underlying31 hi hz0 hz1 hz2 rfl (by decide) (.slice (some ⟨w.heap.size, 0, none⟩) 0 0) 0 [] rfl HO0.out ⟨b, off + i * 3, none⟩ (n - i) _ ys rfl hyl (HYC.out _ HBA.out) HSY.out.1 (by unfold maxLen; omega) (by omega) hza ?_; intro v5 w5 hown5 hgrow5 hnil5; have hb5 : Below w.heap.size w w5 := HBA.out.grown hgrow5 hza (fun k hk => (by simp [Value.ownBlock] at hk; omega)); have e5 : w5.cell? ⟨G, 0, none⟩ = some (.slice (some ⟨b, off, none⟩) n cap) := (by rw [hb5.cell (p := ⟨G, 0, none⟩) lG]; exact HE.out); have hz5 := hb5.size; have HB5 := Lib.hid hb5; have HO5 := Lib.hid hown5; clear hown5 hgrow5 hnil5 hb5)
    | (at_builtin; refine wpList_append_own _ rfl (.tmp 14) (.tmp 20) 31 rfl w.heap.size 28 i0 _ 3 12 Try.underlying31 hi hz0 hz1 hz2 rfl (by decide) _ (0 + (n - i)) ([] ++ ys) rfl HO5.out ⟨b, off, none⟩ i _ zs rfl hzl (HZC.out _ HB5.out) HSY.out.2 (by unfold maxLen; omega) (by omega) hz5 ?_; intro v6 w6 hown6 hgrow6 hnil6; have HG6 := Lib.hid (And.intro hown6 (HB5.out.grown hgrow6 hz5 (fun k hk => (World.ownsRow.lt HO5.out k hk).1))); clear hown6 hgrow6 hnil6))
  go_ret
  obtain ⟨hown6, hb6⟩ := HG6.out
  rw [show 0 + (n - i) + i = n by omega, List.nil_append] at hown6
  obtain ⟨g9, c9, rfl⟩ := Joins.ownsRow_form hown6 (by omega)
  exact ⟨g9, c9, _, rfl, hown6, ⟨by rw [List.length_append, hyl, hzl, ← Nat.add_mul]; congr 1; omega, HG3.out⟩, hb6⟩

/-- The points of both, each behind its point. -/
def joinF (n n' : Nat) (i k : Int) (c c' : Nat → Option Nat) : Nat → Option Nat := fun j => if j < n * 3 then rotC n (i + 1).toNat c j else rotC n' (k + 1).toNat c' (j - n * 3)

def joinB (n n' : Nat) (i k : Int) (cs cs' : Option Nat) (c c' : Nat → Option Nat) : Bool :=
  ((((okT n cs c && okT n' cs' c') && ptB n i) && ptB n' k) && !(cmpC .neq (ord .f32 cs cs'))) && okT (n + n') cs (joinF n n' i k c c')

theorem FP.append {m m' : Nat} {f f' : Nat → Option Nat} {xs ys : List Value} (h : FP (m * 3) f xs) (h' : FP (m' * 3) f' ys) : FP ((m + m') * 3) (fun j => if j < m * 3 then f j else f' (j - m * 3)) (xs ++ ys) := by
  obtain ⟨h1, h2⟩ := h
  obtain ⟨k1, k2⟩ := h'
  refine ⟨by rw [List.length_append, h1, k1, Nat.add_mul], fun j hj => ?_⟩
  by_cases hjm : j < m * 3
  · obtain ⟨x, a1, a2⟩ := h2 j hjm
    exact ⟨x, by rw [List.getElem?_append_left (by omega)]; exact a1, by simp only [if_pos hjm]; exact a2⟩
  · obtain ⟨x, a1, a2⟩ := k2 (j - m * 3) (by omega)
    exact ⟨x, by rw [List.getElem?_append_right (by omega), h1]; exact a1, by simp only [if_neg hjm]; exact a2⟩

theorem FP.cell {m : Nat} {f : Nat → Option Nat} {xs : List Value} (h : FP m f xs) : ∀ u ∈ xs, u.oneCell' = true := by
  intro u hu
  obtain ⟨j, hj, rfl⟩ := List.mem_iff_getElem.1 hu
  obtain ⟨x, k1, _⟩ := h.2 j (by rw [← h.1]; exact hj)
  rw [List.getElem?_eq_getElem hj] at k1
  rw [Option.some.inj k1]; rfl

def Box3 (B : Nat) (w : World) (oa ob o8 : Obj) : Prop := w.heap[B]? = some oa ∧ w.heap[B + 1]? = some ob ∧ w.heap[B + 2]? = some o8

theorem Box3.later {B : Nat} {w w' : World} {oa ob o8 : Obj} (h : Box3 B w oa ob o8) (hb : Below w.heap.size w w') : Box3 B w' oa ob o8 := ⟨keep_block hb h.1, keep_block hb h.2.1, keep_block hb h.2.2⟩

theorem Box3.low {B L : Nat} {w w' : World} {oa ob o8 : Obj} (h : Box3 B w oa ob o8) (hb : Below L w w') (hL : B + 2 < L) : Box3 B w' oa ob o8 :=
  ⟨by rw [hb.block _ (by omega)]; exact h.1, by rw [hb.block _ (by omega)]; exact h.2.1, by rw [hb.block _ (by omega)]; exact h.2.2⟩

theorem three_boxes (w : World) (oa ob o8 : Obj) : Box3 w.heap.size (((w.alloc oa).alloc ob).alloc o8) oa ob o8 :=
  ⟨alloc_block (alloc_block (new_block _ _)), alloc_block (by simpa using new_block (w.alloc oa) ob), by simpa using new_block ((w.alloc oa).alloc ob) o8⟩

theorem three_below (w : World) (oa ob o8 : Obj) : Below w.heap.size w (((w.alloc oa).alloc ob).alloc o8) := (((Below.refl _ _).alloc (Nat.le_refl _) _).alloc (by simp) _).alloc (by simp; omega) _

end Th
end Go.Proofs.Ytjkkefbfhapblaa
