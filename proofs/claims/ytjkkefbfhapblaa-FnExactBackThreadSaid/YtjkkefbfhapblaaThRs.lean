/- Threads that go back: the model's function. -/
import Derived.Test.YtjkkefbfhapblaaThR
namespace Go.Proofs.Ytjkkefbfhapblaa
set_option linter.unusedSimpArgs false
set_option linter.unusedVariables false
open Go.RowKit
set_option maxRecDepth 20000
namespace Th
open Fl Rate

set_option maxHeartbeats 6400000 in
theorem spec_BackT (a : Option Addr) (n cap s : Nat) (cs : Option Nat) (c : Nat → Option Nat) (w : World) (h : IsV w a n cap c) (fs : Fr .f32 s cs) (R : Bool) (hR : okT n cs c = R) :
    Calls Try.prog 19 #[tV a n cap s] w (RetG R s n (revC n c) w) := by
  have HI2 := Lib.hid (fun G w' (hb : Below w.heap.size w w') e0 e1 => spec_is G a n cap s cs c w' e0 e1 (h.later hb) fs R hR)
  cases R
  · clear hR h
    go_enter Try.func19, Try.ntmps19
    go_wp2_with fail
    refine (HI2.out _ _ (by (repeat' first | exact Below.refl _ _ | (refine Below.setCell ?_ (by first | omega | (simp; omega) | simp) _) | (refine below_drewN ?_ _) | (refine Below.alloc ?_ (by first | omega | (simp; omega) | simp) _) | (refine Below.trans ?_ (Below.mono (by assumption) (by first | omega | (simp; omega) | simp))))) (by simp) (by simp)).mono ?_
    rintro e w1 ⟨rfl, hb1⟩
    have hz1 := hb1.size
    try simp only [World.size_alloc, World.size_setCell, World.heap_drewN, World.size_drew] at hz1
    obtain ⟨hc1, hf1⟩ := Fl.bcell hb1
    try simp only [World.heap_drewN, World.cell?_drewN, World.frozen?_drewN] at hc1 hf1
    have g1_0 : w.heap.size < w1.heap.size := by omega
    have g1' : w.heap.size + 1 < w1.heap.size := by omega
    go_wp2
    refine bodyPost_ret ?ohr rfl (retG_no ?obel)
    case ohr => simp [results, Try.results19, go_sem, *]
    case obel => (repeat' first | exact Below.refl _ _ | (refine Below.setCell ?_ (by first | omega | (simp; omega) | simp) _) | (refine below_drewN ?_ _) | (refine Below.alloc ?_ (by first | omega | (simp; omega) | simp) _) | (refine Below.trans ?_ (Below.mono (by assumption) (by first | omega | (simp; omega) | simp))))
  · obtain ⟨hn3, hn32, _, _⟩ := okT_of hR
    show Calls _ _ _ w (RetB true s n _ w)
    obtain ⟨F, hF⟩ : ∃ F, revC n c = F := ⟨_, rfl⟩
    have HFF := Lib.hid hF
    rw [hF]
    obtain ⟨i0, hI, hI0, hI1, hI2⟩ := info_v
    obtain ⟨h2, h3, b, off, h5, h6⟩ := h
    obtain rfl := h5 (by omega)
    have H6 := Lib.hid h6
    clear hR hF h5 h6
    unfold maxLen at h3
    go_enter Try.func19, Try.ntmps19
    go_wp2_with fail
    refine (HI2.out _ _ (by (repeat' first | exact Below.refl _ _ | (refine Below.setCell ?_ (by first | omega | (simp; omega) | simp) _) | (refine below_drewN ?_ _) | (refine Below.alloc ?_ (by first | omega | (simp; omega) | simp) _) | (refine Below.trans ?_ (Below.mono (by assumption) (by first | omega | (simp; omega) | simp))))) (by simp) (by simp)).mono ?_
    rintro e w1 ⟨rfl, hb1⟩
    have hz1 := hb1.size
    simp only [World.size_alloc] at hz1
    have qp := keep_block hb1 (alloc_block (o' := .cells #[.slice none 0 0, .float .f32 0] 33) (new_block w (.cells #[.slice (some ⟨b, off, none⟩) n cap, .float .f32 s] 33)))
    have q4 : w1.heap[w.heap.size + 1]? = some (.cells #[.slice none 0 0, .float .f32 0] 33) := keep_block hb1 (by simpa using new_block (w.alloc (.cells #[.slice (some ⟨b, off, none⟩) n cap, .float .f32 s] 33)) (.cells #[.slice none 0 0, .float .f32 0] 33))
    have e20 := (cells_of (i := 0) qp).trans (show _ = some (.slice (some ⟨b, off, none⟩) n cap) from rfl)
    have e21 := (cells_of (i := 1) qp).trans (show _ = some (.float .f32 s) from rfl)
    have hbw : Below w.heap.size w w1 := by (repeat' first | exact Below.refl _ _ | (refine Below.setCell ?_ (by first | omega | (simp; omega) | simp) _) | (refine below_drewN ?_ _) | (refine Below.alloc ?_ (by first | omega | (simp; omega) | simp) _) | (refine Below.trans ?_ (Below.mono (by assumption) (by first | omega | (simp; omega) | simp))))
    have HBW := Lib.hid hbw
    have lP := block_lt qp
    have l4 := block_lt q4
    have c40 := (cells_of (i := 0) q4).trans (show _ = some (.slice none 0 0) from rfl)
    have c41 := (cells_of (i := 1) q4).trans (show _ = some (.float .f32 0) from rfl)
    have f40 := free_of q4 0
    have f41 := free_of q4 1
    have Q4 := Lib.hid q4
    clear qp q4 hbw hb1
    have HE20 := Lib.hid e20
    clear c40 c41 f40 f41 l4
    go_wp2
    clear e20 e21
    go_loopw [5, 28] (fun i sl wr => ∃ (k j : Nat) (v : Value) (xs : List Value), (∀ b, sl = .slice (some ⟨b, 0, none⟩) 1 1 → b < wr.heap.size) ∧ k + j = n ∧ i = .int .i64 ((j : Int) - 1) ∧ wr.heap[w1.heap.size + 1]? = some (.cells #[v, .float .f32 s] 33) ∧ wr.ownsRow w1.heap.size 28 3 v k xs ∧ FP (k * 3) F xs ∧ Below w1.heap.size w1 wr)
      (fun i _ _ => (intOf i + 1).toNat)
    case atStart => exact ⟨0, n, _, [], by intro b hb; simp [undef] at hb, by omega, rfl, by simpa using new_block (w1.alloc (.cells #[] 28)) (.cells #[.slice (some ⟨w1.heap.size, 0, none⟩) 0 0, .float .f32 s] 33), own_below (World.ownsRow_made w1 #[] 0 (Nat.le_refl _) (Nat.zero_le _) rfl) ((Below.refl _ _).alloc (Nat.le_refl _) _), FP.nil _, ((Below.refl _ _).alloc (Nat.le_refl _) _).alloc (by simp) _⟩
    case round =>
      obtain ⟨k, j, v, xs, hsl, hkj, hii, hblk, hown, hpts, hbel⟩ := hrel
      have HSL := Lib.hid hsl
      have HBK := Lib.hid hblk
      have HO := Lib.hid hown
      have HP := Lib.hid hpts
      have HB := Lib.hid hbel
      have hbs := hbel.size
      clear hsl hblk hown hpts hbel
      by_cases hlt : 0 < j
      · obtain ⟨j', rfl⟩ : ∃ j', j = j' + 1 := ⟨j - 1, by omega⟩
        have hii' := hii.trans (show Value.int .i64 (((j' + 1 : Nat) : Int) - 1) = .int .i64 (j' : Int) by congr 1; omega)
        clear hii
        subst hii'
        have hj0 : (0 : Int) ≤ (j' : Int) := by omega
        have hjn : j' < n := by omega
        have hknj : n - 1 - k = j' := by omega
        have s0 := (cells_of (i := 0) HBK.out).trans (show _ = some v from rfl)
        have s1 := (cells_of (i := 1) HBK.out).trans (show _ = some (.float .f32 s) from rfl)
        have fS := free_of HBK.out 0
        have hSl := block_lt HBK.out
        have ea : wr.cell? ⟨w.heap.size, 0, none⟩ = some (.slice (some ⟨b, off, none⟩) n cap) := by rw [HB.out.cell (p := ⟨w.heap.size, 0, none⟩) (by omega)]; exact HE20.out
        obtain ⟨x4, y4, z4, hx, hy, hz, fx4, fy4, fz4, hbr⟩ := at_v H6.out hjn (HBW.out.trans (HB.out.mono (by omega)))
        have lP' : w.heap.size < wr.heap.size := by omega
        have E0 : F (k * 3) = c (j' * 3) := by rw [← HFF.out, revC_0, hknj]
        have E1 : F (k * 3 + 1) = c (j' * 3 + 1) := by rw [← HFF.out, revC_1, hknj]
        have E2 : F (k * 3 + 2) = c (j' * 3 + 2) := by rw [← HFF.out, revC_2, hknj]
        have HN := Lib.hid (And.intro hkj hknj)
        clear hkj hknj
        go_wp2_with fail
        refine LooseS.wp_region 8 28 (fun ob => ∃ x y z, ob = .cells #[.float .f32 x, .float .f32 y, .float .f32 z] 28 ∧ Fr .f32 x (F (k * 3)) ∧ Fr .f32 y (F (k * 3 + 1)) ∧ Fr .f32 z (F (k * 3 + 2))) (by kernel_rfl) (by kernel_rfl) (by intro b hb; exact HSL.out b (by simpa using hb)) ?_
        apply Exists.intro
        simp only [List.take_succ_cons, List.take_zero, List.drop_succ_cons, List.drop_zero]
        repeat (first | (apply Loose.walk_step; intro K hK; apply LooseS.turn_value (hwant := rfl) (hd := rfl); (focus (intro w' hw'; obtain ⟨hc, hf⟩ := Fl.bcell hw'; go_simp; first | done | rfl | exact ⟨rfl, rfl⟩)); go_simp; refine hK _ ?_; clear hK K) | (apply Loose.walk_step; intro K hK; refine LooseS.turn_row (ob := .cells #[.float .f32 x4, .float .f32 y4, .float .f32 z4] 28) (Nat.le_refl _) rfl rfl ⟨x4, y4, z4, rfl, by rw [E0]; exact fx4, by rw [E1]; exact fy4, by rw [E2]; exact fz4⟩ (by intro w'; go_simp; first | done | rfl | exact ⟨rfl, rfl⟩) ?_; intro b4 hb4B; go_simp; refine hK _ ?_; clear hK K))
        refine Loose.walk_nil ?_
        intro w4 hcls4
        obtain ⟨hb4, hrow4⟩ := hcls4
        obtain ⟨ob4, hob4, x5, y5, z5, rfl, gx, gy, gz⟩ := hrow4 _ hb4B rfl
        have hz4 := hb4.size
        have hS4 := keep_block hb4 HBK.out
        have HS4 := Lib.hid hS4
        have HO4 := Lib.hid (own_below HO.out hb4)
        have HB4 := Lib.hid (HB.out.trans (hb4.mono hbs))
        have hzb4 := HB4.out.size
        have HOB4 := Lib.hid hob4
        have lob4 := block_lt hob4
        have l4 := block_lt hS4
        have HG4 := Lib.hid (And.intro gx (And.intro gy gz))
        clear hS4 hb4 hrow4 hob4 s0 s1 fS gx gy gz
        have hkj := HN.out.1
        go_wp2_with (first
          | (
            at_builtin
            refine wpList_append_own _ rfl (.tmp 22) (.tmp 28) 31 rfl w1.heap.size 28 i0 (.agg #[.float .f32 0, .float .f32 0, .float .f32 0]) 3 12 Try.underlying31 hI hI0 hI1 hI2 rfl (by decide) v k xs rfl HO4.out ⟨b4, 0, none⟩ 1 1 [.float .f32 x5, .float .f32 y5, .float .f32 z5] rfl rfl (row_cell3 HOB4.out) (by intro u hu; simp at hu; rcases hu with rfl | rfl | rfl <;> rfl) (by unfold maxLen; omega) (by omega) (by omega) ?_
            intro v5 w5 hown5 hgrow5 hnil5
            obtain ⟨g5, cap5, rfl⟩ := Joins.ownsRow_form hown5 (by omega)
            have hz45 := hgrow5.size
            obtain ⟨hS5, hb5⟩ := appended HS4.out HO4.out HB4.out (by omega) hgrow5 (by decide)
            have d50 := (cells_of (i := 0) hS5).trans (show _ = some v from rfl)
            have f50 := free_of hS5 0
            have l5 := block_lt hS5
            have HS5 := Lib.hid hS5
            have HO5 := Lib.hid hown5
            have HB5 := Lib.hid hb5
            clear hS5 hown5 hgrow5 hnil5 hb5
            skip))
        go_roundw
        case rel => exact ⟨k + 1, j', _, _, by intro b hb; simp at hb; subst hb; simp; omega, by omega, by first | rfl | go_num, by simpa using setCell_block HS5.out 0 _, own_set HO5.out HS5.out (by decide), HP.out.three HG4.out.1 HG4.out.2.1 HG4.out.2.2, Below.setCell HB5.out (by show w1.heap.size ≤ w1.heap.size + 1; omega) (p := ⟨w1.heap.size + 1, 0, none⟩) _⟩
        case measure => first | (simp [intOf]; done) | (simp [intOf]; omega)
      · obtain rfl : j = 0 := by omega
        obtain rfl : n = k := by omega
        subst hii
        obtain ⟨av, capv, rfl, hio⟩ := isR_own HO.out HP.out (by omega)
        have HIO := Lib.hid hio
        have s0 := (cells_of (i := 0) HBK.out).trans (show _ = some (.slice av n capv) from rfl)
        have s1 := (cells_of (i := 1) HBK.out).trans (show _ = some (.float .f32 s) from rfl)
        have lS := block_lt HBK.out
        have q4 := keep_block HB.out Q4.out
        have e40 := (cells_of (i := 0) q4).trans (show _ = some (Value.slice none 0 0) from rfl)
        have e41 := (cells_of (i := 1) q4).trans (show _ = some (Value.float .f32 0) from rfl)
        have f40 := free_of q4 0
        have f41 := free_of q4 1
        have l9 := block_lt q4
        have HB9 := Lib.hid (HBW.out.trans (HB.out.mono (by omega)))
        clear hio q4
        go_wp2
        refine bodyPost_ret ?ohr rfl ⟨av, capv, rfl, ?oio, ?obel⟩
        case ohr => simp [results, Try.results19, go_sem, *]
        case oio =>
          refine (HIO.out.keep fun g hg _ _ => ?_).wider (by omega) (by simp)
          rw [set_keep _ _ _ (by omega), set_keep _ _ _ (by omega)]
        case obel => exact Below.setCell (Below.setCell HB9.out (by simp) _) (by simp) _

end Th
end Go.Proofs.Ytjkkefbfhapblaa
