/- Threads of another size and moved ones: the program's functions and the model's. -/
import Derived.Test.YtggklnanhiomjabThM
namespace Go.Proofs.Ytggklnanhiomjab
set_option linter.unusedSimpArgs false
set_option linter.unusedVariables false
open Go.RowKit
set_option maxRecDepth 20000
namespace Th
open Fl Rate

def mixC (m : Nat) (f c : Nat → Option Nat) : Nat → Option Nat := fun j => if j < m then f j else c j

theorem mixC_ge {m j : Nat} {f c : Nat → Option Nat} (h : m ≤ j) : mixC m f c j = c j := if_neg (by omega)

theorem mixC_lt {m j : Nat} {f c : Nat → Option Nat} (h : j < m) : mixC m f c j = f j := if_pos h

theorem done_put {m k : Nat} {f g : Nat → Option Nat} {cur : Array Value} (h : Done m f cur) (hk : k < cur.size) {r : Nat} (hr : Fr .f32 r (g k)) (he : ∀ j, j < m → j ≠ k → f j = g j) : Done m g (cur.setIfInBounds k (.float .f32 r)) := by
  intro j hj
  by_cases e : j = k
  · subst e
    exact ⟨r, Array.getElem?_setIfInBounds_self_of_lt hk, hr⟩
  · obtain ⟨x, h1, h2⟩ := h j hj
    exact ⟨x, by rw [Array.getElem?_setIfInBounds_ne (fun e' => e e'.symm)]; exact h1, by rw [← he j hj e]; exact h2⟩

theorem mixC_step {m : Nat} {f c : Nat → Option Nat} (j : Nat) (h : j ≠ m) : mixC m f c j = mixC (m + 1) f c j := by
  unfold mixC
  by_cases h1 : j < m
  · rw [if_pos h1, if_pos (by omega)]
  · rw [if_neg h1, if_neg (by omega)]

theorem Done.mix3 {n k : Nat} {f c : Nat → Option Nat} {cur : Array Value} (h : Done (n * 3) (mixC (k * 3) f c) cur) (hk : k < n) (hs : n * 3 ≤ cur.size) {x y z : Nat} (fx : Fr .f32 x (f (k * 3))) (fy : Fr .f32 y (f (k * 3 + 1))) (fz : Fr .f32 z (f (k * 3 + 2))) :
    Done (n * 3) (mixC ((k + 1) * 3) f c) (((cur.setIfInBounds (k * 3) (.float .f32 x)).setIfInBounds (k * 3 + 1) (.float .f32 y)).setIfInBounds (k * 3 + 2) (.float .f32 z)) := by
  have e : (k + 1) * 3 = k * 3 + 1 + 1 + 1 := by omega
  rw [e]
  have h1 : Done (n * 3) (mixC (k * 3 + 1) f c) (cur.setIfInBounds (k * 3) (.float .f32 x)) := done_put h (by omega) (by rw [mixC_lt (by omega)]; exact fx) (fun j _ hj => mixC_step j hj)
  have h2 : Done (n * 3) (mixC (k * 3 + 1 + 1) f c) ((cur.setIfInBounds (k * 3) (.float .f32 x)).setIfInBounds (k * 3 + 1) (.float .f32 y)) := done_put h1 (by simp; omega) (by rw [mixC_lt (by omega)]; exact fy) (fun j _ hj => mixC_step j hj)
  exact done_put h2 (by simp; omega) (by rw [mixC_lt (by omega)]; exact fz) (fun j _ hj => mixC_step j hj)

/-- All numbers times one. -/
def scaleC (c : Nat → Option Nat) (d : Option Nat) : Nat → Option Nat := fun j => op2 .mul .f32 (c j) d

set_option maxHeartbeats 6400000 in
theorem spec_ScaleT (a : Option Addr) (n cap s : Nat) (cs : Option Nat) (c : Nat → Option Nat) (w : World) (h : IsV w a n cap c) (fs : Fr .f32 s cs) (yb : Nat) (d : Option Nat) (fd : Fr .f32 yb d) (R : Bool) (hR : ((okT n cs c && finC d) && allV (scaleC c d) n) = R) :
    Calls Try.prog 36 #[tV a n cap s, .float .f32 yb] w (RetG R s n (scaleC c d) w) := by
  have HI := Lib.hid (fun A hA G w' (hb : Below w.heap.size w w') e0 e1 => spec_is G a n cap s cs c w' e0 e1 (h.later hb) fs A hA)
  have HF := Lib.hid (fun B (hB : finC d = B) w => hB ▸ spec_fin yb d w fd)
  cases hA : okT n cs c
  · rw [hA] at hR
    obtain rfl : R = false := by rw [← hR]; rfl
    have HI2 := Lib.hid (HI.out false hA)
    clear hR HI hA h HF
    go_enter Try.func36, Try.ntmps36
    go_wp2_with fail
    refine (HI2.out _ _ (by (repeat' first | exact Below.refl _ _ | (refine Below.setCell ?_ (by first | omega | (simp; omega) | simp) _) | (refine below_drewN ?_ _) | (refine Below.alloc ?_ (by first | omega | (simp; omega) | simp) _) | (refine Below.trans ?_ (Below.mono (by assumption) (by first | omega | (simp; omega) | simp))))) (by simp) (by simp)).mono ?_
    rintro e w1 ⟨rfl, hb1⟩
    have hz1 := hb1.size
    try simp only [World.size_alloc, World.size_setCell, World.heap_drewN, World.size_drew] at hz1
    obtain ⟨hc1, hf1⟩ := Fl.bcell hb1
    try simp only [World.heap_drewN, World.cell?_drewN, World.frozen?_drewN] at hc1 hf1
    have g1_0 : w.heap.size < w1.heap.size := by omega
    have g1' : w.heap.size + 1 < w1.heap.size := by omega
    go_wp2
    refine bodyPost_ret ?ohr rfl (retG_no ?obel)
    case ohr => simp [results, Try.results36, go_sem, *]
    case obel => (repeat' first | exact Below.refl _ _ | (refine Below.setCell ?_ (by first | omega | (simp; omega) | simp) _) | (refine below_drewN ?_ _) | (refine Below.alloc ?_ (by first | omega | (simp; omega) | simp) _) | (refine Below.trans ?_ (Below.mono (by assumption) (by first | omega | (simp; omega) | simp))))
  have HI2 := Lib.hid (HI.out true hA)
  cases hf : finC d
  · rw [hA, hf] at hR
    obtain rfl : R = false := by rw [← hR]; rfl
    have HF2 := Lib.hid (fun w => HF.out _ hf w)
    clear hR HI hA h HF
    go_enter Try.func36, Try.ntmps36
    go_wp2_with fail
    refine (HI2.out _ _ (by (repeat' first | exact Below.refl _ _ | (refine Below.setCell ?_ (by first | omega | (simp; omega) | simp) _) | (refine below_drewN ?_ _) | (refine Below.alloc ?_ (by first | omega | (simp; omega) | simp) _) | (refine Below.trans ?_ (Below.mono (by assumption) (by first | omega | (simp; omega) | simp))))) (by simp) (by simp)).mono ?_
    rintro e w1 ⟨rfl, hb1⟩
    have hz1 := hb1.size
    try simp only [World.size_alloc, World.size_setCell, World.heap_drewN, World.size_drew] at hz1
    obtain ⟨hc1, hf1⟩ := Fl.bcell hb1
    try simp only [World.heap_drewN, World.cell?_drewN, World.frozen?_drewN] at hc1 hf1
    have g1_0 : w.heap.size < w1.heap.size := by omega
    have g1' : w.heap.size + 1 < w1.heap.size := by omega
    have g1'' : w.heap.size + 1 < w1.heap.size := by omega
    go_wp2_with fail
    refine (HF2.out _).mono ?_
    rintro e w2 ⟨rfl, hb2⟩
    have hz2 := hb2.size
    try simp only [World.size_alloc, World.size_setCell, World.heap_drewN, World.size_drew] at hz2
    obtain ⟨hc2, hf2⟩ := Fl.bcell hb2
    try simp only [World.heap_drewN, World.cell?_drewN, World.frozen?_drewN] at hc2 hf2
    have g2_0 : w.heap.size < w2.heap.size := by omega
    have g2' : w.heap.size + 1 < w2.heap.size := by omega
    have g2'' : w.heap.size + 1 < w2.heap.size := by omega
    go_wp2
    refine bodyPost_ret ?ohr rfl (retG_no ?obel)
    case ohr => simp [results, Try.results36, go_sem, *]
    case obel => (repeat' first | exact Below.refl _ _ | (refine Below.setCell ?_ (by first | omega | (simp; omega) | simp) _) | (refine below_drewN ?_ _) | (refine Below.alloc ?_ (by first | omega | (simp; omega) | simp) _) | (refine Below.trans ?_ (Below.mono (by assumption) (by first | omega | (simp; omega) | simp))))
  rw [hA, hf] at hR
  have HF2 := Lib.hid (fun w => HF.out _ hf w)
  obtain ⟨hn3, hn32, hsf, _⟩ := okT_of hA
  have hR' : allV (scaleC c d) n = R := hR
  have hok : okT n cs (scaleC c d) = R := by
    unfold okT
    rw [hsf, hR', decide_eq_true (show (3 : Int) ≤ n by omega), decide_eq_true (show (n : Int) ≤ 32 by omega)]; rfl
  have HCH := Lib.hid (fun a cap w (h : IsV w a n cap (scaleC c d)) => spec_give a n cap s cs _ w h fs R hok)
  have HY := Lib.hid h
  obtain ⟨s', hs'⟩ : ∃ s', (if R then s else 0) = s' := ⟨_, rfl⟩
  obtain ⟨N', hN'⟩ : ∃ N', (if R then n else 0) = N' := ⟨_, rfl⟩
  show Calls _ _ _ w (RetB R _ _ _ w)
  rw [hs', hN']
  have HR := Lib.hid (And.intro hs' hN')
  obtain ⟨F, hF⟩ : ∃ F, (scaleC c d) = F := ⟨_, rfl⟩
  have HFF := Lib.hid hF
  rw [hF] at HCH ⊢
  have hnm : n ≤ 9223372036854775807 := by omega
  clear hA hf hR hR' hok hs' hN' HI HF h hF
  go_enter Try.func36, Try.ntmps36
  go_wp2_with fail
  refine (HI2.out _ _ (by (repeat' first | exact Below.refl _ _ | (refine Below.setCell ?_ (by first | omega | (simp; omega) | simp) _) | (refine below_drewN ?_ _) | (refine Below.alloc ?_ (by first | omega | (simp; omega) | simp) _) | (refine Below.trans ?_ (Below.mono (by assumption) (by first | omega | (simp; omega) | simp))))) (by simp) (by simp)).mono ?_
  rintro e w1 ⟨rfl, hb1⟩
  have hzz1 := hb1.size
  simp only [World.size_alloc] at hzz1
  have qp : w1.heap[w.heap.size]? = some (.cells #[.slice a n cap, .float .f32 s] 25) := keep_block hb1 (alloc_block (new_block w (.cells #[.slice a n cap, .float .f32 s] 25)))
  have qq : w1.heap[w.heap.size + 1]? = some (.cells #[.slice none 0 0, .float .f32 0] 25) := keep_block hb1 (by simpa using new_block (w.alloc (.cells #[.slice a n cap, .float .f32 s] 25)) (.cells #[.slice none 0 0, .float .f32 0] 25))
  have hbw : Below w.heap.size w w1 := by (repeat' first | exact Below.refl _ _ | (refine Below.setCell ?_ (by first | omega | (simp; omega) | simp) _) | (refine below_drewN ?_ _) | (refine Below.alloc ?_ (by first | omega | (simp; omega) | simp) _) | (refine Below.trans ?_ (Below.mono (by assumption) (by first | omega | (simp; omega) | simp))))
  have HBW := Lib.hid hbw
  obtain ⟨hc1, hf1⟩ := Fl.bcell hb1
  have g1' : w.heap.size + 1 < w1.heap.size := by omega
  have g1'' : w.heap.size + 1 < w1.heap.size := by omega
  have QP := Lib.hid qp
  have QQ := Lib.hid qq
  clear qp qq hbw hb1
  go_wp2_with fail
  refine (HF2.out _).mono ?_
  rintro e w2 ⟨rfl, hb2⟩
  have hzz2 := hb2.size
  have HB2 := Lib.hid hb2
  have HW2 := Lib.hid (HBW.out.trans (hb2.mono (by omega)))
  have qp2 := keep_block hb2 QP.out
  have e20 := (cells_of (i := 0) qp2).trans (show _ = some (.slice a n cap) from rfl)
  have e21 := (cells_of (i := 1) qp2).trans (show _ = some (.float .f32 s) from rfl)
  clear hb2 hc1 hf1 qp2
  go_wp2_with fail
  refine (spec_own w.heap.size _ n cap s c _ e20 e21 (HY.out.later HW2.out) ⟨hn3, hn32⟩).mono ?_
  rintro e w3 ⟨a2, cap2, rfl, ho2, hb3⟩
  obtain ⟨k2, k3, g, cur0, k5, k6, k7⟩ := ho2
  obtain ⟨rfl, hgB, hgL, hgh⟩ := k5 (by omega)
  have hz3 := hb3.size
  have HG0 := Lib.hid (show (w3.alloc (.cells #[.slice (some ⟨g, 0, none⟩) n cap2, .float .f32 s] 25)).heap[g]? = some (.cells cur0 49) from alloc_block hgh)
  have HS0 := Lib.hid (show (w3.alloc (.cells #[.slice (some ⟨g, 0, none⟩) n cap2, .float .f32 s] 25)).heap[w3.heap.size]? = some _ from new_block _ _)
  have HN0 := Lib.hid k6
  have HD0 := Lib.hid (show Done (n * 3) (mixC 0 F c) cur0 from fun j hj => k7 j hj)
  have HB0 := Lib.hid (show Below w2.heap.size w2 (w3.alloc (.cells #[.slice (some ⟨g, 0, none⟩) n cap2, .float .f32 s] 25)) from hb3.alloc (by omega) _)
  clear hb3 hgh k5 k6 k7 e20 e21
  go_wp2
  go_loopw [7] (fun i wr => ∃ (k : Nat) (cur : Array Value), k ≤ n ∧ i = .int .i64 (k : Int) ∧ wr.heap[w3.heap.size]? = some (.cells #[.slice (some ⟨g, 0, none⟩) n cap2, .float .f32 s] 25) ∧ wr.heap[g]? = some (.cells cur 49) ∧ n * 3 ≤ cur.size ∧ Done (n * 3) (mixC (k * 3) F c) cur ∧ Below w2.heap.size w2 wr)
    (fun i _ => n - (intOf i).toNat)
  case atStart => exact ⟨0, cur0, by omega, rfl, HS0.out, HG0.out, HN0.out, by simpa using HD0.out, HB0.out⟩
  case round =>
    obtain ⟨k, cur, hk, rfl, hq8, hqg, hs, hd, hb⟩ := hrel
    have HQ8 := Lib.hid hq8
    have HQG := Lib.hid hqg
    have HSZ := Lib.hid hs
    have HD := Lib.hid hd
    have HB := Lib.hid hb
    have e8 := (cells_of (i := 0) hq8).trans (show _ = some (Value.slice (some ⟨g, 0, none⟩) n cap2) from rfl)
    have e81 := (cells_of (i := 1) hq8).trans (show _ = some (Value.float .f32 s) from rfl)
    have l8 := block_lt hq8
    have lg := block_lt hqg
    clear hq8 hqg hs hd hb
    by_cases hlt : k < n
    · obtain ⟨x, hx, fx⟩ := HD.out (k * 3) (by omega)
      obtain ⟨y, hy, fy⟩ := HD.out (k * 3 + 1) (by omega)
      obtain ⟨z, hz, fz⟩ := HD.out (k * 3 + 2) (by omega)
      rw [mixC_ge (by omega)] at fx fy fz
      have gx : wr.cell? ⟨g, k * 3, none⟩ = some (.float .f32 x) := by rw [cells_of HQG.out]; exact hx
      have gy : wr.cell? ⟨g, k * 3 + 1, none⟩ = some (.float .f32 y) := by rw [cells_of HQG.out]; exact hy
      have gz : wr.cell? ⟨g, k * 3 + 2, none⟩ = some (.float .f32 z) := by rw [cells_of HQG.out]; exact hz
      clear e81 hx hy hz
      go_wp2_with fail
      refine Loose.wp_region_below 10 [] (by kernel_rfl) (by kernel_rfl) (by simp [undef]) ?_
      apply Exists.intro
      simp only [List.take_succ_cons, List.take_zero, List.drop_succ_cons, List.drop_zero]
      repeat (first | (apply Loose.walk_step; intro K hK; apply Loose.turn_value (hwant := rfl) (hd := rfl); (focus (intro w' hw'; obtain ⟨hc, hf⟩ := Fl.bcell hw'; go_simp; first | done | rfl | exact ⟨rfl, rfl⟩)); go_simp; refine hK _ ?_; clear hK K) | (apply Loose.walk_step; intro K hK; apply Loose.turn_value (hwant := rfl) (hd := rfl); (focus (intro w' hw'; obtain ⟨hc, hf⟩ := Fl.bcell hw'; go_simp; first | done | rfl | exact ⟨rfl, rfl⟩)); go_simp; refine hK _ ?_; clear hK K) | (apply Loose.walk_step; intro K hK; apply Loose.turn_callV (Nat.le_refl _) (hwant := rfl) (hd := rfl); (focus (intro w'; go_simp; first | done | rfl | exact ⟨rfl, rfl⟩)); (focus (intro w'; go_at_call 82; exact Vec.spec_scale _ _ _ _ _ _ _ _ _ fx fy fz fd)); intro x4 y4 z4 fx4 fy4 fz4; go_simp; refine hK _ ?_; clear hK K))
      refine Loose.walk_nil ?_
      intro w4 hcls4
      obtain ⟨hb4, _⟩ := hcls4
      obtain ⟨hc4, hf4⟩ := Fl.bcell hb4
      have hz4 := hb4.size
      try simp only [World.size_alloc, World.size_setCell, World.heap_drewN, World.size_drew] at hz4
      have hg4 := keep_block hb4 HQG.out
      have hdx : w4.cell? ⟨g, k * 3, none⟩ = some (.float .f32 x) := by rw [hb4.cell (p := ⟨g, k * 3, none⟩) lg]; exact gx
      have hdy : w4.cell? ⟨g, k * 3 + 1, none⟩ = some (.float .f32 y) := by rw [hb4.cell (p := ⟨g, k * 3 + 1, none⟩) lg]; exact gy
      have hdz : w4.cell? ⟨g, k * 3 + 2, none⟩ = some (.float .f32 z) := by rw [hb4.cell (p := ⟨g, k * 3 + 2, none⟩) lg]; exact gz
      have hfx := free_of hg4 (k * 3)
      have hfy := free_of hg4 (k * 3 + 1)
      have hfz := free_of hg4 (k * 3 + 2)
      have HG4 := Lib.hid hg4
      have HS4 := Lib.hid (keep_block hb4 HQ8.out)
      have HB4 := Lib.hid (HB.out.trans (hb4.mono HB.out.size))
      have F4 := Lib.hid (show Fr .f32 x4 (F (k * 3)) ∧ Fr .f32 y4 (F (k * 3 + 1)) ∧ Fr .f32 z4 (F (k * 3 + 2)) by rw [← HFF.out]; exact ⟨fx4, fy4, fz4⟩)
      clear hg4 hb4 hc4 hf4 e8 gx gy gz fx fy fz fx4 fy4 fz4
      go_wp2
      go_roundw
      case rel =>
        refine ⟨k + 1, _, by omega, by go_num, by rw [set_keep _ _ _ (by omega), set_keep _ _ _ (by omega), set_keep _ _ _ (by omega)]; exact HS4.out, setCell_block (setCell_block (setCell_block HG4.out (k * 3) _) (k * 3 + 1) _) (k * 3 + 2) _, by simpa using HSZ.out, HD.out.mix3 hlt HSZ.out F4.out.1 F4.out.2.1 F4.out.2.2, ?_⟩
        exact ((HB4.out.setCell hgB _).setCell hgB _).setCell hgB _
      case measure => simp [intOf]; omega
    · obtain rfl : n = k := by omega
      have hio : ∀ w', w'.heap[g]? = some (.cells cur 49) → IsR w2.heap.size w3.heap.size w' (some ⟨g, 0, none⟩) n cap2 F := fun w' hw => ⟨k2, k3, g, cur, fun _ => ⟨rfl, hgB, hgL, hw⟩, HSZ.out, fun j hj => by obtain ⟨x, h1, h2⟩ := HD.out j hj; exact ⟨x, h1, by rw [mixC_lt hj] at h2; exact h2⟩⟩
      have HIO := Lib.hid hio
      have q4 : wr.heap[w.heap.size + 1]? = some (.cells #[.slice none 0 0, .float .f32 0] 25) := by rw [HB.out.block _ (by omega), HB2.out.block _ (by omega)]; exact QQ.out
      have Q4 := Lib.hid q4
      have hz9 := HB.out.size
      clear hio q4
      go_wp2_with fail
      refine (HCH.out _ _ _ (HIO.out _ HQG.out).v).mono ?_
      rintro e w5 ⟨rfl, hb5⟩
      have hz5 := hb5.size
      have q45 := keep_block hb5 Q4.out
      have e40 := (cells_of (i := 0) q45).trans (show _ = some (Value.slice none 0 0) from rfl)
      have e41 := (cells_of (i := 1) q45).trans (show _ = some (Value.float .f32 0) from rfl)
      have f40 := free_of q45 0
      have f41 := free_of q45 1
      have HB5 := Lib.hid ((HW2.out.trans (HB.out.mono (by omega))).trans (hb5.mono (by omega)))
      have HG5 := Lib.hid (keep_block hb5 HQG.out)
      have l5 := block_lt q45
      clear q45 hb5 e8 e81
      cases R
      all_goals
        go_wp2
        have hR := HR.out
        simp only [Bool.false_eq_true, if_false, if_true] at hR
        obtain ⟨rfl, rfl⟩ := hR
      · refine bodyPost_ret ?ohr rfl ⟨none, 0, rfl, isR_nil _ _ _ _, ?obel⟩
        case ohr => simp [results, Try.results36, go_sem, *]
        case obel => exact Below.setCell (Below.setCell HB5.out (by first | omega | (simp; omega) | simp) _) (by first | omega | (simp; omega) | simp) _
      · refine bodyPost_ret ?ohr rfl ⟨some ⟨g, 0, none⟩, cap2, rfl, ?oio, ?obel⟩
        case ohr => simp [results, Try.results36, go_sem, *]
        case oio =>
          refine (HIO.out _ (by rw [set_keep _ _ _ (by omega), set_keep _ _ _ (by omega)]; exact HG5.out)).wider (by omega) (by simp; omega)
        case obel => exact Below.setCell (Below.setCell HB5.out (by first | omega | (simp; omega) | simp) _) (by first | omega | (simp; omega) | simp) _

theorem inf_of {x : Nat} {d : Option Nat} (f : Fr .f32 x d) (h : finC d = false) : d = none ∨ ∃ s, d = some (FloatKind.f32.encode (.infinity s)) := by
  rw [← f.1]
  exact inf_cl f.2 (by rw [fin_cl f]; exact h)

theorem mul_inf2 (c : Option Nat) {d : Option Nat} (h : d = none ∨ ∃ s, d = some (FloatKind.f32.encode (.infinity s))) : finC (op2 .mul .f32 c d) = false := by
  refine not_fin_of ?_
  rcases h with rfl | ⟨s, rfl⟩
  · cases c <;> exact .inl rfl
  · cases c with
    | none => exact .inl rfl
    | some b =>
      show floatBits .mul .f32 b _ = none ∨ ∃ s, floatBits .mul .f32 b _ = _
      have e : ∀ r, floatBits .mul .f32 b (FloatKind.f32.encode (.infinity s)) = r ↔ ((FloatKind.f32.decode b).product (FloatKind.f32.decode (FloatKind.f32.encode (.infinity s)))).map FloatKind.f32.encode = r := fun r => Iff.rfl
      simp only [e, inf_enc]
      cases FloatKind.f32.decode b with
      | nan => exact .inl rfl
      | infinity t => exact .inr ⟨_, rfl⟩
      | number t n j =>
        by_cases hn : n = 0
        · subst hn; exact .inl rfl
        · simp only [Ieee.Datum.product, if_neg hn]; exact .inr ⟨_, rfl⟩

theorem add_inf2 (c : Option Nat) {d : Option Nat} (h : d = none ∨ ∃ s, d = some (FloatKind.f32.encode (.infinity s))) : finC (op2 .add .f32 c d) = false := by
  refine not_fin_of ?_
  rcases h with rfl | ⟨s, rfl⟩
  · cases c <;> exact .inl rfl
  · cases c with
    | none => exact .inl rfl
    | some b =>
      show floatBits .add .f32 b _ = none ∨ ∃ s, floatBits .add .f32 b _ = _
      have e : ∀ r, floatBits .add .f32 b (FloatKind.f32.encode (.infinity s)) = r ↔ ((FloatKind.f32.decode b).sum (FloatKind.f32.decode (FloatKind.f32.encode (.infinity s)))).map FloatKind.f32.encode = r := fun r => Iff.rfl
      simp only [e, inf_enc]
      cases FloatKind.f32.decode b with
      | nan => exact .inl rfl
      | infinity t => cases s <;> cases t <;> first | exact .inl rfl | exact .inr ⟨_, rfl⟩
      | number t n j => exact .inr ⟨_, rfl⟩

theorem allV_at {f : Nat → Option Nat} {n : Nat} (h : allV f n = true) : ∀ j, j < n * 3 → finC (f j) = true := by
  induction n with
  | zero => intro j hj; omega
  | succ n ih =>
    have h' : (allV f n && (finC (f (n * 3)) && finC (f (n * 3 + 1)) && finC (f (n * 3 + 2)))) = true := h
    simp only [Bool.and_eq_true] at h'
    intro j hj
    by_cases h1 : j < n * 3
    · exact ih h'.1 j h1
    · have : j = n * 3 ∨ j = n * 3 + 1 ∨ j = n * 3 + 2 := by omega
      rcases this with rfl | rfl | rfl
      · exact h'.2.1.1
      · exact h'.2.1.2
      · exact h'.2.2

theorem allV_no {f : Nat → Option Nat} {n j : Nat} (hj : j < n * 3) (h : finC (f j) = false) : allV f n = false := by
  cases h' : allV f n
  · rfl
  · rw [allV_at h' j hj] at h; cases h

theorem scale_R {n : Nat} {cs : Option Nat} {c : Nat → Option Nat} {yb : Nat} {d : Option Nat} (fd : Fr .f32 yb d) {R : Bool} (hR : ((okT n cs c && finC d) && allV (scaleC c d) n) = R) : (okT n cs c && allV (scaleC c d) n) = R := by
  rw [← hR]
  cases hA : okT n cs c
  · rfl
  · have hn := (okT_of hA).1
    cases hf : finC d
    · rw [allV_no (j := 0) (by omega) (mul_inf2 _ (inf_of fd hf))]; rfl
    · rfl

theorem impl_scale1 (x y z p0 yb : Nat) (c0 c1 c2 d : Option Nat) (w : World) (e0 : w.cell? ⟨p0, 0, none⟩ = some (.float .f32 yb)) (f0 : Fr .f32 x c0) (f1 : Fr .f32 y c1) (f2 : Fr .f32 z c2) (fd : Fr .f32 yb d) :
    Calls Try.prog 83 #[.agg #[.float .f32 x, .float .f32 y, .float .f32 z], .pointer (some ⟨p0, 0, none⟩)] w (RetV (op2 .mul .f32 c0 d) (op2 .mul .f32 c1 d) (op2 .mul .f32 c2 d) w) := by
  have hp := block_lt_of_cell e0
  go_enter Try.func83, Try.ntmps83
  go_wp2_with fail
  refine (Vec.impl_scale _ _ _ _ _ _ _ _ _ f0 f1 f2 fd).mono ?_
  rintro e w1 ⟨x1, y1, z1, rfl, fx, fy, fz, hb1⟩
  have hz1 := hb1.size
  try simp only [World.size_alloc, World.size_setCell, World.heap_drewN, World.size_drew] at hz1
  obtain ⟨hc1, hf1⟩ := Fl.bcell hb1
  try simp only [World.heap_drewN, World.cell?_drewN, World.frozen?_drewN] at hc1 hf1
  have g1_0 : w.heap.size < w1.heap.size := by omega
  have g1' : w.heap.size + 1 < w1.heap.size := by omega
  go_wp2
  refine bodyPost_ret ?ohr rfl ⟨x1, y1, z1, rfl, fx, fy, fz, ?obel⟩
  case ohr => simp [results, Try.results83, go_sem, *]
  case obel => (repeat' first | exact Below.refl _ _ | (refine Below.setCell ?_ (by first | omega | (simp; omega) | simp) _) | (refine below_drewN ?_ _) | (refine Below.alloc ?_ (by first | omega | (simp; omega) | simp) _) | (refine Below.trans ?_ (Below.mono (by assumption) (by first | omega | (simp; omega) | simp))))

theorem enter_scale1 (args : Array Value) (w : World) : (callFunc 83 args).run Try.prog w = .ok (.enter 83 args) w := by go_simp

set_option maxHeartbeats 3200000 in
theorem impl_ScaleT (a : Option Addr) (n cap s : Nat) (cs : Option Nat) (c : Nat → Option Nat) (w : World) (h : IsV w a n cap c) (fs : Fr .f32 s cs) (yb : Nat) (d : Option Nat) (fd : Fr .f32 yb d) (R : Bool) (hR : ((okT n cs c && finC d) && allV (scaleC c d) n) = R) :
    Calls Try.prog 37 #[tV a n cap s, .float .f32 yb] w (RetG R s n (scaleC c d) w) := by
  have hR2 := scale_R fd hR
  have HE := Lib.hid (fun (w' : World) (hb : Below w.heap.size w w') (p0 : Nat) (e0 : w'.cell? ⟨p0, 0, none⟩ = some (.float .f32 yb)) => each_point a n cap s cs c 83 #[.pointer (some ⟨p0, 0, none⟩)] (scaleC c d) w' (h.later hb) fs enter_scale1 (fun k w'' hk hb' x y z fx fy fz => by simpa [scaleC] using impl_scale1 x y z p0 yb _ _ _ d w'' ((hb'.cell (p := ⟨p0, 0, none⟩) (block_lt_of_cell e0)).trans e0) fx fy fz fd) R hR2)
  clear hR hR2 h
  unfold RetG at HE ⊢
  obtain ⟨s', hs'⟩ : ∃ s', (if R then s else 0) = s' := ⟨_, rfl⟩
  obtain ⟨N', hN'⟩ : ∃ N', (if R then n else 0) = N' := ⟨_, rfl⟩
  rw [hs', hN'] at HE ⊢
  clear hs' hN'
  go_enter Try.func37, Try.ntmps37
  go_wp2_with fail
  refine (HE.out _ (by (repeat' first | exact Below.refl _ _ | (refine Below.setCell ?_ (by first | omega | (simp; omega) | simp) _) | (refine below_drewN ?_ _) | (refine Below.alloc ?_ (by first | omega | (simp; omega) | simp) _) | (refine Below.trans ?_ (Below.mono (by assumption) (by first | omega | (simp; omega) | simp))))) (w.heap.size + 1) ((cells_of (i := 0) (alloc_block (by simpa using new_block (w.alloc (.cells #[.slice a n cap, .float .f32 s] 25)) (.cells #[.float .f32 yb] 22)))).trans rfl)).mono ?_
  rintro e w1 ⟨a1, cap1, rfl, ho1, hb1⟩
  have hz1 := hb1.size
  simp only [World.size_alloc] at hz1
  obtain ⟨hc1, hf1⟩ := Fl.bcell hb1
  have g1 : w.heap.size + 1 + 1 < w1.heap.size := by omega
  have HO := Lib.hid ho1
  clear ho1
  go_wp2
  refine bodyPost_ret ?ohr rfl ⟨a1, cap1, rfl, ?oio, ?obel⟩
  case ohr => simp [results, Try.results37, go_sem, *]
  case oio =>
    refine (HO.out.keep fun g hg hgl hgs => ?_).wider (by simp; omega) (by simp)
    simp at hg
    repeat rw [set_keep _ _ _ (by omega)]
  case obel => (repeat' first | exact Below.refl _ _ | (refine Below.setCell ?_ (by first | omega | (simp; omega) | simp) _) | (refine below_drewN ?_ _) | (refine Below.alloc ?_ (by first | omega | (simp; omega) | simp) _) | (refine Below.trans ?_ (Below.mono (by assumption) (by first | omega | (simp; omega) | simp))))

end Th
end Go.Proofs.Ytggklnanhiomjab
