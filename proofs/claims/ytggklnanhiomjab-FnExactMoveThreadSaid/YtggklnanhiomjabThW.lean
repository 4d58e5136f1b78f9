/- MoveThread, both sides. -/
import Derived.Test.YtggklnanhiomjabThS
namespace Go.Proofs.Ytggklnanhiomjab
set_option linter.unusedSimpArgs false
set_option linter.unusedVariables false
open Go.RowKit
set_option maxRecDepth 20000
namespace Th
open Fl Rate

/-- All points moved. -/
def moveC (c : Nat → Option Nat) (d0 d1 d2 : Option Nat) : Nat → Option Nat := fun j => op2 .add .f32 (c j) (if j % 3 = 0 then d0 else if j % 3 = 1 then d1 else d2)

theorem moveC_0 (c : Nat → Option Nat) (d0 d1 d2 : Option Nat) (k : Nat) : moveC c d0 d1 d2 (k * 3) = op2 .add .f32 (c (k * 3)) d0 := by
  unfold moveC
  rw [if_pos (by omega)]

theorem moveC_1 (c : Nat → Option Nat) (d0 d1 d2 : Option Nat) (k : Nat) : moveC c d0 d1 d2 (k * 3 + 1) = op2 .add .f32 (c (k * 3 + 1)) d1 := by
  unfold moveC
  rw [if_neg (by omega), if_pos (by omega)]

theorem moveC_2 (c : Nat → Option Nat) (d0 d1 d2 : Option Nat) (k : Nat) : moveC c d0 d1 d2 (k * 3 + 2) = op2 .add .f32 (c (k * 3 + 2)) d2 := by
  unfold moveC
  rw [if_neg (by omega), if_neg (by omega)]

theorem move_R {n : Nat} {cs : Option Nat} {c : Nat → Option Nat} {y0 y1 y2 : Nat} {d0 d1 d2 : Option Nat} (fd0 : Fr .f32 y0 d0) (fd1 : Fr .f32 y1 d1) (fd2 : Fr .f32 y2 d2) {R : Bool} (hR : ((okT n cs c && (finC d0 && finC d1 && finC d2)) && allV (moveC c d0 d1 d2) n) = R) : (okT n cs c && allV (moveC c d0 d1 d2) n) = R := by
  rw [← hR]
  cases hA : okT n cs c
  · rfl
  · have hn := (okT_of hA).1
    have no : ∀ j, j < n * 3 → finC (moveC c d0 d1 d2 j) = false → (true && allV (moveC c d0 d1 d2) n) = ((true && (finC d0 && finC d1 && finC d2)) && allV (moveC c d0 d1 d2) n) := by
      intro j hj h
      rw [allV_no hj h]; simp
    cases h0 : finC d0
    · have := no (0 * 3) (by omega) (by rw [moveC_0]; exact add_inf2 _ (inf_of fd0 h0))
      rw [h0] at this; exact this
    cases h1 : finC d1
    · have := no (0 * 3 + 1) (by omega) (by rw [moveC_1]; exact add_inf2 _ (inf_of fd1 h1))
      rw [h0, h1] at this; exact this
    cases h2 : finC d2
    · have := no (0 * 3 + 2) (by omega) (by rw [moveC_2]; exact add_inf2 _ (inf_of fd2 h2))
      rw [h0, h1, h2] at this; exact this
    rfl

set_option maxHeartbeats 6400000 in
theorem spec_MoveT (a : Option Addr) (n cap s : Nat) (cs : Option Nat) (c : Nat → Option Nat) (w : World) (h : IsV w a n cap c) (fs : Fr .f32 s cs) (y0 y1 y2 : Nat) (d0 d1 d2 : Option Nat) (fd0 : Fr .f32 y0 d0) (fd1 : Fr .f32 y1 d1) (fd2 : Fr .f32 y2 d2) (R : Bool) (hR : ((okT n cs c && (finC d0 && finC d1 && finC d2)) && allV (moveC c d0 d1 d2) n) = R) :
    Calls Try.prog 31 #[tV a n cap s, .agg #[.float .f32 y0, .float .f32 y1, .float .f32 y2]] w (RetG R s n (moveC c d0 d1 d2) w) := by
  have HI := Lib.hid (fun A hA G w' (hb : Below w.heap.size w w') e0 e1 => spec_is G a n cap s cs c w' e0 e1 (h.later hb) fs A hA)
  have HF := Lib.hid (fun B (hB : (finC d0 && finC d1 && finC d2) = B) w => spec_vfin y0 y1 y2 d0 d1 d2 w fd0 fd1 fd2 B hB)
  cases hA : okT n cs c
  · rw [hA] at hR
    obtain rfl : R = false := by rw [← hR]; rfl
    have HI2 := Lib.hid (HI.out false hA)
    clear hR HI hA h HF
    go_enter Try.func31, Try.ntmps31
    go_wp2_with fail
    refine (HI2.out _ _ (by (repeat' first | exact Below.refl _ _ | (refine Below.setCell ?_ (by first | omega | (simp; omega) | simp) _) | (refine below_drewN ?_ _) | (refine Below.alloc ?_ (by first | omega | (simp; omega) | simp) _) | (refine Below.trans ?_ (Below.mono (by assumption) (by first | omega | (simp; omega) | simp))))) ((cells_of (i := 0) (alloc_block (alloc_block (new_block w (.cells #[.slice a n cap, .float .f32 s] 25))))).trans rfl) ((cells_of (i := 1) (alloc_block (alloc_block (new_block w (.cells #[.slice a n cap, .float .f32 s] 25))))).trans rfl)).mono ?_
    rintro e w1 ⟨rfl, hb1⟩
    have hz1 := hb1.size
    try simp only [World.size_alloc, World.size_setCell, World.heap_drewN, World.size_drew] at hz1
    obtain ⟨hc1, hf1⟩ := Fl.bcell hb1
    try simp only [World.heap_drewN, World.cell?_drewN, World.frozen?_drewN] at hc1 hf1
    have g1_0 : w.heap.size < w1.heap.size := by omega
    have g1' : w.heap.size + 1 + 1 < w1.heap.size := by omega
    go_wp2
    refine bodyPost_ret ?ohr rfl (retG_no ?obel)
    case ohr => simp [results, Try.results31, go_sem, *]
    case obel => (repeat' first | exact Below.refl _ _ | (refine Below.setCell ?_ (by first | omega | (simp; omega) | simp) _) | (refine below_drewN ?_ _) | (refine Below.alloc ?_ (by first | omega | (simp; omega) | simp) _) | (refine Below.trans ?_ (Below.mono (by assumption) (by first | omega | (simp; omega) | simp))))
  have HI2 := Lib.hid (HI.out true hA)
  cases hf : (finC d0 && finC d1 && finC d2)
  · rw [hA, hf] at hR
    obtain rfl : R = false := by rw [← hR]; rfl
    have HF2 := Lib.hid (fun w => HF.out _ hf w)
    clear hR HI hA h HF
    go_enter Try.func31, Try.ntmps31
    go_wp2_with fail
    refine (HI2.out _ _ (by (repeat' first | exact Below.refl _ _ | (refine Below.setCell ?_ (by first | omega | (simp; omega) | simp) _) | (refine below_drewN ?_ _) | (refine Below.alloc ?_ (by first | omega | (simp; omega) | simp) _) | (refine Below.trans ?_ (Below.mono (by assumption) (by first | omega | (simp; omega) | simp))))) ((cells_of (i := 0) (alloc_block (alloc_block (new_block w (.cells #[.slice a n cap, .float .f32 s] 25))))).trans rfl) ((cells_of (i := 1) (alloc_block (alloc_block (new_block w (.cells #[.slice a n cap, .float .f32 s] 25))))).trans rfl)).mono ?_
    rintro e w1 ⟨rfl, hb1⟩
    have hz1 := hb1.size
    try simp only [World.size_alloc, World.size_setCell, World.heap_drewN, World.size_drew] at hz1
    obtain ⟨hc1, hf1⟩ := Fl.bcell hb1
    try simp only [World.heap_drewN, World.cell?_drewN, World.frozen?_drewN] at hc1 hf1
    have g1_0 : w.heap.size < w1.heap.size := by omega
    have g1' : w.heap.size + 1 + 1 < w1.heap.size := by omega
    have g1'' : w.heap.size + 1 < w1.heap.size := by omega
    go_wp2_with fail
    refine (HF2.out _).mono ?_
    rintro e w2 ⟨rfl, hb2⟩
    have hz2 := hb2.size
    try simp only [World.size_alloc, World.size_setCell, World.heap_drewN, World.size_drew] at hz2
    obtain ⟨hc2, hf2⟩ := Fl.bcell hb2
    try simp only [World.heap_drewN, World.cell?_drewN, World.frozen?_drewN] at hc2 hf2
    have g2_0 : w.heap.size < w2.heap.size := by omega
    have g2' : w.heap.size + 1 + 1 < w2.heap.size := by omega
    have g2'' : w.heap.size + 1 < w2.heap.size := by omega
    go_wp2
    refine bodyPost_ret ?ohr rfl (retG_no ?obel)
    case ohr => simp [results, Try.results31, go_sem, *]
    case obel => (repeat' first | exact Below.refl _ _ | (refine Below.setCell ?_ (by first | omega | (simp; omega) | simp) _) | (refine below_drewN ?_ _) | (refine Below.alloc ?_ (by first | omega | (simp; omega) | simp) _) | (refine Below.trans ?_ (Below.mono (by assumption) (by first | omega | (simp; omega) | simp))))
  rw [hA, hf] at hR
  have HF2 := Lib.hid (fun w => HF.out _ hf w)
  obtain ⟨hn3, hn32, hsf, _⟩ := okT_of hA
  have hR' : allV (moveC c d0 d1 d2) n = R := hR
  have hok : okT n cs (moveC c d0 d1 d2) = R := by
    unfold okT
    rw [hsf, hR', decide_eq_true (show (3 : Int) ≤ n by omega), decide_eq_true (show (n : Int) ≤ 32 by omega)]; rfl
  have HCH := Lib.hid (fun a cap w (h : IsV w a n cap (moveC c d0 d1 d2)) => spec_give a n cap s cs _ w h fs R hok)
  have HY := Lib.hid h
  obtain ⟨s', hs'⟩ : ∃ s', (if R then s else 0) = s' := ⟨_, rfl⟩
  obtain ⟨N', hN'⟩ : ∃ N', (if R then n else 0) = N' := ⟨_, rfl⟩
  show Calls _ _ _ w (RetB R _ _ _ w)
  rw [hs', hN']
  have HR := Lib.hid (And.intro hs' hN')
  obtain ⟨F, hF⟩ : ∃ F, (moveC c d0 d1 d2) = F := ⟨_, rfl⟩
  have HFF := Lib.hid hF
  rw [hF] at HCH ⊢
  have hnm : n ≤ 9223372036854775807 := by omega
  clear hA hf hR hR' hok hs' hN' HI HF h hF
  go_enter Try.func31, Try.ntmps31
  go_wp2_with fail
  refine (HI2.out _ _ (by (repeat' first | exact Below.refl _ _ | (refine Below.setCell ?_ (by first | omega | (simp; omega) | simp) _) | (refine below_drewN ?_ _) | (refine Below.alloc ?_ (by first | omega | (simp; omega) | simp) _) | (refine Below.trans ?_ (Below.mono (by assumption) (by first | omega | (simp; omega) | simp))))) ((cells_of (i := 0) (alloc_block (alloc_block (new_block w (.cells #[.slice a n cap, .float .f32 s] 25))))).trans rfl) ((cells_of (i := 1) (alloc_block (alloc_block (new_block w (.cells #[.slice a n cap, .float .f32 s] 25))))).trans rfl)).mono ?_
  rintro e w1 ⟨rfl, hb1⟩
  have hzz1 := hb1.size
  simp only [World.size_alloc] at hzz1
  have qp : w1.heap[w.heap.size]? = some (.cells #[.slice a n cap, .float .f32 s] 25) := keep_block hb1 (alloc_block (alloc_block (new_block w (.cells #[.slice a n cap, .float .f32 s] 25))))
  have qb0 : w1.heap[w.heap.size + 1]? = some (.cells #[.float .f32 y0, .float .f32 y1, .float .f32 y2] 49) := keep_block hb1 (alloc_block (by simpa using new_block (w.alloc (.cells #[.slice a n cap, .float .f32 s] 25)) (.cells #[.float .f32 y0, .float .f32 y1, .float .f32 y2] 49)))
  have qq : w1.heap[w.heap.size + 1 + 1]? = some (.cells #[.slice none 0 0, .float .f32 0] 25) := keep_block hb1 (by simpa using new_block ((w.alloc (.cells #[.slice a n cap, .float .f32 s] 25)).alloc (.cells #[.float .f32 y0, .float .f32 y1, .float .f32 y2] 49)) (.cells #[.slice none 0 0, .float .f32 0] 25))
  have hbw : Below w.heap.size w w1 := by (repeat' first | exact Below.refl _ _ | (refine Below.setCell ?_ (by first | omega | (simp; omega) | simp) _) | (refine below_drewN ?_ _) | (refine Below.alloc ?_ (by first | omega | (simp; omega) | simp) _) | (refine Below.trans ?_ (Below.mono (by assumption) (by first | omega | (simp; omega) | simp))))
  have HBW := Lib.hid hbw
  obtain ⟨hc1, hf1⟩ := Fl.bcell hb1
  have g1' : w.heap.size + 1 + 1 < w1.heap.size := by omega
  have g1'' : w.heap.size + 1 < w1.heap.size := by omega
  have QP := Lib.hid qp
  have QB0 := Lib.hid qb0
  have QQ := Lib.hid qq
  clear qp qb0 qq hbw hb1
  go_wp2_with fail
  refine (HF2.out _).mono ?_
  rintro e w2 ⟨rfl, hb2⟩
  have hzz2 := hb2.size
  have HB2 := Lib.hid hb2
  have HW2 := Lib.hid (HBW.out.trans (hb2.mono (by omega)))
  have qp2 := keep_block hb2 QP.out
  have e20 := (cells_of (i := 0) qp2).trans (show _ = some (.slice a n cap) from rfl)
  have e21 := (cells_of (i := 1) qp2).trans (show _ = some (.float .f32 s) from rfl)
  clear hb2 hc1 hf1 qp2
  go_wp2_with fail
  refine (spec_own w.heap.size _ n cap s c _ e20 e21 (HY.out.later HW2.out) ⟨hn3, hn32⟩).mono ?_
  rintro e w3 ⟨a2, cap2, rfl, ho2, hb3⟩
  obtain ⟨k2, k3, g, cur0, k5, k6, k7⟩ := ho2
  obtain ⟨rfl, hgB, hgL, hgh⟩ := k5 (by omega)
  have hz3 := hb3.size
  have HG0 := Lib.hid (show (w3.alloc (.cells #[.slice (some ⟨g, 0, none⟩) n cap2, .float .f32 s] 25)).heap[g]? = some (.cells cur0 49) from alloc_block hgh)
  have HS0 := Lib.hid (show (w3.alloc (.cells #[.slice (some ⟨g, 0, none⟩) n cap2, .float .f32 s] 25)).heap[w3.heap.size]? = some _ from new_block _ _)
  have HN0 := Lib.hid k6
  have HD0 := Lib.hid (show Done (n * 3) (mixC 0 F c) cur0 from fun j hj => k7 j hj)
  have HB0 := Lib.hid (show Below w2.heap.size w2 (w3.alloc (.cells #[.slice (some ⟨g, 0, none⟩) n cap2, .float .f32 s] 25)) from hb3.alloc (by omega) _)
  clear hb3 hgh k5 k6 k7 e20 e21
  go_wp2
  go_loopw [7] (fun i wr => ∃ (k : Nat) (cur : Array Value), k ≤ n ∧ i = .int .i64 (k : Int) ∧ wr.heap[w3.heap.size]? = some (.cells #[.slice (some ⟨g, 0, none⟩) n cap2, .float .f32 s] 25) ∧ wr.heap[g]? = some (.cells cur 49) ∧ n * 3 ≤ cur.size ∧ Done (n * 3) (mixC (k * 3) F c) cur ∧ Below w2.heap.size w2 wr)
    (fun i _ => n - (intOf i).toNat)
  case atStart => exact ⟨0, cur0, by omega, rfl, HS0.out, HG0.out, HN0.out, by simpa using HD0.out, HB0.out⟩
  case round =>
    obtain ⟨k, cur, hk, rfl, hq8, hqg, hs, hd, hb⟩ := hrel
    have HQ8 := Lib.hid hq8
    have HQG := Lib.hid hqg
    have HSZ := Lib.hid hs
    have HD := Lib.hid hd
    have HB := Lib.hid hb
    have e8 := (cells_of (i := 0) hq8).trans (show _ = some (Value.slice (some ⟨g, 0, none⟩) n cap2) from rfl)
    have e81 := (cells_of (i := 1) hq8).trans (show _ = some (Value.float .f32 s) from rfl)
    have l8 := block_lt hq8
    have lg := block_lt hqg
    clear hq8 hqg hs hd hb
    by_cases hlt : k < n
    · obtain ⟨x, hx, fx⟩ := HD.out (k * 3) (by omega)
      obtain ⟨y, hy, fy⟩ := HD.out (k * 3 + 1) (by omega)
      obtain ⟨z, hz, fz⟩ := HD.out (k * 3 + 2) (by omega)
      rw [mixC_ge (by omega)] at fx fy fz
      have gx : wr.cell? ⟨g, k * 3, none⟩ = some (.float .f32 x) := by rw [cells_of HQG.out]; exact hx
      have gy : wr.cell? ⟨g, k * 3 + 1, none⟩ = some (.float .f32 y) := by rw [cells_of HQG.out]; exact hy
      have gz : wr.cell? ⟨g, k * 3 + 2, none⟩ = some (.float .f32 z) := by rw [cells_of HQG.out]; exact hz
      clear e81 hx hy hz
      have qb : wr.heap[w.heap.size + 1]? = some (.cells #[.float .f32 y0, .float .f32 y1, .float .f32 y2] 49) := by rw [HB.out.block _ (by omega), HB2.out.block _ (by omega)]; exact QB0.out
      have b00 := (cells_of (i := 0) qb).trans (show _ = some (.float .f32 y0) from rfl)
      have b01 := (cells_of (i := 1) qb).trans (show _ = some (.float .f32 y1) from rfl)
      have b02 := (cells_of (i := 2) qb).trans (show _ = some (.float .f32 y2) from rfl)
      have lb := block_lt qb
      clear qb
      go_wp2_with fail
      refine Loose.wp_region_below 10 [] (by kernel_rfl) (by kernel_rfl) (by simp [undef]) ?_
      apply Exists.intro
      simp only [List.take_succ_cons, List.take_zero, List.drop_succ_cons, List.drop_zero]
      repeat (first | (apply Loose.walk_step; intro K hK; apply Loose.turn_value (hwant := rfl) (hd := rfl); (focus (intro w' hw'; obtain ⟨hc, hf⟩ := Fl.bcell hw'; go_simp; first | done | rfl | exact ⟨rfl, rfl⟩)); go_simp; refine hK _ ?_; clear hK K) | (apply Loose.walk_step; intro K hK; apply Loose.turn_value (hwant := rfl) (hd := rfl); (focus (intro w' hw'; obtain ⟨hc, hf⟩ := Fl.bcell hw'; go_simp; first | done | rfl | exact ⟨rfl, rfl⟩)); go_simp; refine hK _ ?_; clear hK K) | (apply Loose.walk_step; intro K hK; apply Loose.turn_callV (Nat.le_refl _) (hwant := rfl) (hd := rfl); (focus (intro w'; go_simp; first | done | rfl | exact ⟨rfl, rfl⟩)); (focus (intro w'; go_at_call 77; exact Vec.spec_add _ _ _ _ _ _ _ _ _ _ _ _ _ fx fy fz fd0 fd1 fd2)); intro x4 y4 z4 fx4 fy4 fz4; go_simp; refine hK _ ?_; clear hK K))
      refine Loose.walk_nil ?_
      intro w4 hcls4
      obtain ⟨hb4, _⟩ := hcls4
      obtain ⟨hc4, hf4⟩ := Fl.bcell hb4
      have hz4 := hb4.size
      try simp only [World.size_alloc, World.size_setCell, World.heap_drewN, World.size_drew] at hz4
      clear b00 b01 b02 lb
      have hg4 := keep_block hb4 HQG.out
      have hdx : w4.cell? ⟨g, k * 3, none⟩ = some (.float .f32 x) := by rw [hb4.cell (p := ⟨g, k * 3, none⟩) lg]; exact gx
      have hdy : w4.cell? ⟨g, k * 3 + 1, none⟩ = some (.float .f32 y) := by rw [hb4.cell (p := ⟨g, k * 3 + 1, none⟩) lg]; exact gy
      have hdz : w4.cell? ⟨g, k * 3 + 2, none⟩ = some (.float .f32 z) := by rw [hb4.cell (p := ⟨g, k * 3 + 2, none⟩) lg]; exact gz
      have hfx := free_of hg4 (k * 3)
      have hfy := free_of hg4 (k * 3 + 1)
      have hfz := free_of hg4 (k * 3 + 2)
      have HG4 := Lib.hid hg4
      have HS4 := Lib.hid (keep_block hb4 HQ8.out)
      have HB4 := Lib.hid (HB.out.trans (hb4.mono HB.out.size))
      have F4 := Lib.hid (show Fr .f32 x4 (F (k * 3)) ∧ Fr .f32 y4 (F (k * 3 + 1)) ∧ Fr .f32 z4 (F (k * 3 + 2)) by rw [← HFF.out]; exact ⟨by rw [moveC_0]; exact fx4, by rw [moveC_1]; exact fy4, by rw [moveC_2]; exact fz4⟩)
      clear hg4 hb4 hc4 hf4 e8 gx gy gz fx fy fz fx4 fy4 fz4
      go_wp2
      go_roundw
      case rel =>
        refine ⟨k + 1, _, by omega, by go_num, by rw [set_keep _ _ _ (by omega), set_keep _ _ _ (by omega), set_keep _ _ _ (by omega)]; exact HS4.out, setCell_block (setCell_block (setCell_block HG4.out (k * 3) _) (k * 3 + 1) _) (k * 3 + 2) _, by simpa using HSZ.out, HD.out.mix3 hlt HSZ.out F4.out.1 F4.out.2.1 F4.out.2.2, ?_⟩
        exact ((HB4.out.setCell hgB _).setCell hgB _).setCell hgB _
      case measure => simp [intOf]; omega
    · obtain rfl : n = k := by omega
      have hio : ∀ w', w'.heap[g]? = some (.cells cur 49) → IsR w2.heap.size w3.heap.size w' (some ⟨g, 0, none⟩) n cap2 F := fun w' hw => ⟨k2, k3, g, cur, fun _ => ⟨rfl, hgB, hgL, hw⟩, HSZ.out, fun j hj => by obtain ⟨x, h1, h2⟩ := HD.out j hj; exact ⟨x, h1, by rw [mixC_lt hj] at h2; exact h2⟩⟩
      have HIO := Lib.hid hio
      have q4 : wr.heap[w.heap.size + 1 + 1]? = some (.cells #[.slice none 0 0, .float .f32 0] 25) := by rw [HB.out.block _ (by omega), HB2.out.block _ (by omega)]; exact QQ.out
      have Q4 := Lib.hid q4
      have hz9 := HB.out.size
      clear hio q4
      go_wp2_with fail
      refine (HCH.out _ _ _ (HIO.out _ HQG.out).v).mono ?_
      rintro e w5 ⟨rfl, hb5⟩
      have hz5 := hb5.size
      have q45 := keep_block hb5 Q4.out
      have e40 := (cells_of (i := 0) q45).trans (show _ = some (Value.slice none 0 0) from rfl)
      have e41 := (cells_of (i := 1) q45).trans (show _ = some (Value.float .f32 0) from rfl)
      have f40 := free_of q45 0
      have f41 := free_of q45 1
      have HB5 := Lib.hid ((HW2.out.trans (HB.out.mono (by omega))).trans (hb5.mono (by omega)))
      have HG5 := Lib.hid (keep_block hb5 HQG.out)
      have l5 := block_lt q45
      clear q45 hb5 e8 e81
      cases R
      all_goals
        go_wp2
        have hR := HR.out
        simp only [Bool.false_eq_true, if_false, if_true] at hR
        obtain ⟨rfl, rfl⟩ := hR
      · refine bodyPost_ret ?ohr rfl ⟨none, 0, rfl, isR_nil _ _ _ _, ?obel⟩
        case ohr => simp [results, Try.results31, go_sem, *]
        case obel => exact Below.setCell (Below.setCell HB5.out (by first | omega | (simp; omega) | simp) _) (by first | omega | (simp; omega) | simp) _
      · refine bodyPost_ret ?ohr rfl ⟨some ⟨g, 0, none⟩, cap2, rfl, ?oio, ?obel⟩
        case ohr => simp [results, Try.results31, go_sem, *]
        case oio =>
          refine (HIO.out _ (by rw [set_keep _ _ _ (by omega), set_keep _ _ _ (by omega)]; exact HG5.out)).wider (by omega) (by simp; omega)
        case obel => exact Below.setCell (Below.setCell HB5.out (by first | omega | (simp; omega) | simp) _) (by first | omega | (simp; omega) | simp) _

theorem impl_move1 (x y z p0 y0 y1 y2 : Nat) (c0 c1 c2 d0 d1 d2 : Option Nat) (w : World) (e : w.heap[p0]? = some (.cells #[.float .f32 y0, .float .f32 y1, .float .f32 y2] 49)) (f0 : Fr .f32 x c0) (f1 : Fr .f32 y c1) (f2 : Fr .f32 z c2) (fd0 : Fr .f32 y0 d0) (fd1 : Fr .f32 y1 d1) (fd2 : Fr .f32 y2 d2) :
    Calls Try.prog 79 #[.agg #[.float .f32 x, .float .f32 y, .float .f32 z], .pointer (some ⟨p0, 0, none⟩)] w (RetV (op2 .add .f32 c0 d0) (op2 .add .f32 c1 d1) (op2 .add .f32 c2 d2) w) := by
  have hp := block_lt e
  have e0 := (cells_of (i := 0) e).trans (show _ = some (.float .f32 y0) from rfl)
  have e1 := (cells_of (i := 1) e).trans (show _ = some (.float .f32 y1) from rfl)
  have e2 := (cells_of (i := 2) e).trans (show _ = some (.float .f32 y2) from rfl)
  clear e
  go_enter Try.func79, Try.ntmps79
  go_wp2_with fail
  refine (Vec.impl_add _ _ _ _ _ _ _ _ _ _ _ _ _ f0 f1 f2 fd0 fd1 fd2).mono ?_
  rintro e w1 ⟨x1, y1, z1, rfl, fx, fy, fz, hb1⟩
  have hz1 := hb1.size
  try simp only [World.size_alloc, World.size_setCell, World.heap_drewN, World.size_drew] at hz1
  obtain ⟨hc1, hf1⟩ := Fl.bcell hb1
  try simp only [World.heap_drewN, World.cell?_drewN, World.frozen?_drewN] at hc1 hf1
  have g1_0 : w.heap.size < w1.heap.size := by omega
  have g1' : w.heap.size + 1 < w1.heap.size := by omega
  go_wp2
  refine bodyPost_ret ?ohr rfl ⟨x1, y1, z1, rfl, fx, fy, fz, ?obel⟩
  case ohr => simp [results, Try.results79, go_sem, *]
  case obel => (repeat' first | exact Below.refl _ _ | (refine Below.setCell ?_ (by first | omega | (simp; omega) | simp) _) | (refine below_drewN ?_ _) | (refine Below.alloc ?_ (by first | omega | (simp; omega) | simp) _) | (refine Below.trans ?_ (Below.mono (by assumption) (by first | omega | (simp; omega) | simp))))

theorem enter_move1 (args : Array Value) (w : World) : (callFunc 79 args).run Try.prog w = .ok (.enter 79 args) w := by go_simp

set_option maxHeartbeats 3200000 in
theorem impl_MoveT (a : Option Addr) (n cap s : Nat) (cs : Option Nat) (c : Nat → Option Nat) (w : World) (h : IsV w a n cap c) (fs : Fr .f32 s cs) (y0 y1 y2 : Nat) (d0 d1 d2 : Option Nat) (fd0 : Fr .f32 y0 d0) (fd1 : Fr .f32 y1 d1) (fd2 : Fr .f32 y2 d2) (R : Bool) (hR : ((okT n cs c && (finC d0 && finC d1 && finC d2)) && allV (moveC c d0 d1 d2) n) = R) :
    Calls Try.prog 33 #[tV a n cap s, .agg #[.float .f32 y0, .float .f32 y1, .float .f32 y2]] w (RetG R s n (moveC c d0 d1 d2) w) := by
  have hR2 := move_R fd0 fd1 fd2 hR
  have HE := Lib.hid (fun (w' : World) (hb : Below w.heap.size w w') (p0 : Nat) (e0 : w'.heap[p0]? = some (.cells #[.float .f32 y0, .float .f32 y1, .float .f32 y2] 49)) => each_point a n cap s cs c 79 #[.pointer (some ⟨p0, 0, none⟩)] (moveC c d0 d1 d2) w' (h.later hb) fs enter_move1 (fun k w'' hk hb' x y z fx fy fz => by rw [moveC_0, moveC_1, moveC_2]; simpa using impl_move1 x y z p0 y0 y1 y2 _ _ _ d0 d1 d2 w'' (keep_block hb' e0) fx fy fz fd0 fd1 fd2) R hR2)
  clear hR hR2 h
  unfold RetG at HE ⊢
  generalize moveC c d0 d1 d2 = F at *
  obtain ⟨s', hs'⟩ : ∃ s', (if R then s else 0) = s' := ⟨_, rfl⟩
  obtain ⟨N', hN'⟩ : ∃ N', (if R then n else 0) = N' := ⟨_, rfl⟩
  rw [hs', hN'] at HE ⊢
  clear hs' hN'
  go_enter Try.func33, Try.ntmps33
  go_wp2_with fail
  refine (HE.out _ (by (repeat' first | exact Below.refl _ _ | (refine Below.setCell ?_ (by first | omega | (simp; omega) | simp) _) | (refine below_drewN ?_ _) | (refine Below.alloc ?_ (by first | omega | (simp; omega) | simp) _) | (refine Below.trans ?_ (Below.mono (by assumption) (by first | omega | (simp; omega) | simp))))) (w.heap.size + 1) (alloc_block (by simpa using new_block (w.alloc (.cells #[.slice a n cap, .float .f32 s] 25)) (.cells #[.float .f32 y0, .float .f32 y1, .float .f32 y2] 49)))).mono ?_
  rintro e w1 ⟨a1, cap1, rfl, ho1, hb1⟩
  have hz1 := hb1.size
  simp only [World.size_alloc] at hz1
  obtain ⟨hc1, hf1⟩ := Fl.bcell hb1
  have g1 : w.heap.size + 1 + 1 < w1.heap.size := by omega
  have HO := Lib.hid ho1
  clear ho1
  go_wp2
  refine bodyPost_ret ?ohr rfl ⟨a1, cap1, rfl, ?oio, ?obel⟩
  case ohr => simp [results, Try.results33, go_sem, *]
  case oio =>
    refine (HO.out.keep fun g hg hgl hgs => ?_).wider (by simp; omega) (by simp)
    simp at hg
    repeat rw [set_keep _ _ _ (by omega)]
  case obel => (repeat' first | exact Below.refl _ _ | (refine Below.setCell ?_ (by first | omega | (simp; omega) | simp) _) | (refine below_drewN ?_ _) | (refine Below.alloc ?_ (by first | omega | (simp; omega) | simp) _) | (refine Below.trans ?_ (Below.mono (by assumption) (by first | omega | (simp; omega) | simp))))

end Th
end Go.Proofs.Ytggklnanhiomjab
