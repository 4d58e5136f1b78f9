/- Lists of numbers by their classes: in memory of whatever make, and in a row of the call's own; copies, comparison, marks. -/
import Derived.Test.YtjkkefbfhapblabRows
import Derived.Test.YtjkkefbfhapblabNums
import Derived.Test.YtjkkefbfhapblabMk
import Derived.Test.YtjkkefbfhapblabRate
import Derived.LoopTactic
namespace Go.Proofs.Ytjkkefbfhapblab
set_option linter.unusedSimpArgs false
set_option linter.unusedVariables false
open Go.RowKit
set_option maxRecDepth 20000
namespace Ba
open Fl Rate

/-- Numbers of these classes. -/
def IsY (w : World) (a : Option Addr) (n cap : Nat) (c : Nat → Option Nat) : Prop :=
  n ≤ cap ∧ cap ≤ maxLen ∧ ∃ b off, (0 < n → a = some ⟨b, off, none⟩) ∧ ∀ i, i < n → ∃ x, w.cell? ⟨b, off + i, none⟩ = some (.float .f32 x) ∧ Fr .f32 x (c i)

/-- Numbers of these classes in a row of its own, whose block lies from B on and below L. -/
def IsO (B L : Nat) (w : World) (a : Option Addr) (n cap : Nat) (c : Nat → Option Nat) : Prop :=
  n ≤ cap ∧ cap ≤ maxLen ∧ ∃ (g : Nat) (cur : Array Value), (0 < n → a = some ⟨g, 0, none⟩ ∧ B ≤ g ∧ g < L ∧ w.heap[g]? = some (.cells cur 22)) ∧ n ≤ cur.size ∧ ∀ i, i < n → ∃ x, cur[i]? = some (.float .f32 x) ∧ Fr .f32 x (c i)

theorem cells_of {w : World} {g : Nat} {c : Array Value} {t : TypeId} {i : Nat} (h : w.heap[g]? = some (.cells c t)) : w.cell? ⟨g, i, none⟩ = c[i]? := by
  simp [World.cell?, h]

theorem free_of {w : World} {g : Nat} {c : Array Value} {t : TypeId} (h : w.heap[g]? = some (.cells c t)) (i : Nat) : w.frozen? ⟨g, i, none⟩ = false := by
  simp [World.frozen?, h]

theorem setCell_block {w : World} {g : Nat} {c : Array Value} {t : TypeId} (h : w.heap[g]? = some (.cells c t)) (i : Nat) (v : Value) : (w.setCell ⟨g, i, none⟩ v).heap[g]? = some (.cells (c.setIfInBounds i v) t) := by
  simp [World.setCell, Array.getElem?_modify, h]

theorem set_keep (w : World) {g b : Nat} (i : Nat) (v : Value) (h : b ≠ g) : (w.setCell ⟨g, i, none⟩ v).heap[b]? = w.heap[b]? := by
  simp [World.setCell, Array.getElem?_modify]
  intro e; exact absurd e.symm h

theorem new_block (w : World) (o : Obj) : (w.alloc o).heap[w.heap.size]? = some o := by
  show (w.heap.push o)[w.heap.size]? = some o
  simp

theorem IsY.later {w w' : World} {a : Option Addr} {n cap : Nat} {c : Nat → Option Nat} (h : IsY w a n cap c) (hb : Below w.heap.size w w') : IsY w' a n cap c := by
  obtain ⟨h2, h3, b, off, h5, h6⟩ := h
  refine ⟨h2, h3, b, off, h5, fun i hi => ?_⟩
  obtain ⟨x, h7, h8⟩ := h6 i hi
  exact ⟨x, by rw [hb.cell (block_lt_of_cell h7)]; exact h7, h8⟩

theorem IsY.congr {w : World} {a : Option Addr} {n cap : Nat} {c d : Nat → Option Nat} (h : IsY w a n cap c) (hc : ∀ i, i < n → c i = d i) : IsY w a n cap d := by
  obtain ⟨h2, h3, b, off, h5, h6⟩ := h
  refine ⟨h2, h3, b, off, h5, fun i hi => ?_⟩
  obtain ⟨x, h7, h8⟩ := h6 i hi
  exact ⟨x, h7, by rw [← hc i hi]; exact h8⟩

theorem IsO.y {B L : Nat} {w : World} {a : Option Addr} {n cap : Nat} {c : Nat → Option Nat} (h : IsO B L w a n cap c) : IsY w a n cap c := by
  obtain ⟨h2, h3, g, cur, h5, h6, h7⟩ := h
  refine ⟨h2, h3, g, 0, fun h0 => (h5 h0).1, fun i hi => ?_⟩
  obtain ⟨x, k1, k2⟩ := h7 i hi
  exact ⟨x, by rw [Nat.zero_add, cells_of (h5 (by omega)).2.2.2]; exact k1, k2⟩

theorem IsO.keep {B L : Nat} {w w' : World} {a : Option Addr} {n cap : Nat} {c : Nat → Option Nat} (h : IsO B L w a n cap c) (hk : ∀ g, B ≤ g → g < L → g < w.heap.size → w'.heap[g]? = w.heap[g]?) : IsO B L w' a n cap c := by
  obtain ⟨h2, h3, g, cur, h5, h6, h7⟩ := h
  refine ⟨h2, h3, g, cur, fun h0 => ?_, h6, h7⟩
  obtain ⟨k1, k2, k3, k4⟩ := h5 h0
  exact ⟨k1, k2, k3, by rw [hk g k2 k3 (Array.getElem?_eq_some_iff.1 k4).1]; exact k4⟩

theorem IsO.later {B L : Nat} {w w' : World} {a : Option Addr} {n cap : Nat} {c : Nat → Option Nat} (h : IsO B L w a n cap c) (hb : Below w.heap.size w w') : IsO B L w' a n cap c := h.keep fun g _ _ hg => hb.block g hg

theorem IsO.wider {B B' L L' : Nat} {w : World} {a : Option Addr} {n cap : Nat} {c : Nat → Option Nat} (h : IsO B L w a n cap c) (hB : B' ≤ B) (hL : L ≤ L') : IsO B' L' w a n cap c := by
  obtain ⟨h2, h3, g, cur, h5, h6, h7⟩ := h
  exact ⟨h2, h3, g, cur, fun h0 => ⟨(h5 h0).1, Nat.le_trans hB (h5 h0).2.1, Nat.lt_of_lt_of_le (h5 h0).2.2.1 hL, (h5 h0).2.2.2⟩, h6, h7⟩

theorem IsO.congr {B L : Nat} {w : World} {a : Option Addr} {n cap : Nat} {c d : Nat → Option Nat} (h : IsO B L w a n cap c) (hc : ∀ i, i < n → c i = d i) : IsO B L w a n cap d := by
  obtain ⟨h2, h3, g, cur, h5, h6, h7⟩ := h
  refine ⟨h2, h3, g, cur, h5, h6, fun i hi => ?_⟩
  obtain ⟨x, k1, k2⟩ := h7 i hi
  exact ⟨x, k1, by rw [← hc i hi]; exact k2⟩

theorem isO_nil (B L : Nat) (w : World) (c : Nat → Option Nat) : IsO B L w none 0 0 c := ⟨Nat.le_refl _, Nat.zero_le _, 0, #[], fun h => absurd h (Nat.lt_irrefl _), Nat.le_refl _, fun i hi => absurd hi (Nat.not_lt_zero _)⟩

theorem isY_nums {w : World} {a : Option Addr} {len cap : Nat} {zs : List Nat} (h : Frame.IsNums .f32 w a len cap zs) : IsY w a len cap (Nums.numC zs) := by
  obtain ⟨h1, h2, h3, h4, b, off, h5, h6⟩ := h
  exact ⟨h2, h3, b, off, h5, fun i hi => ⟨_, h6 i hi, Nums.fr_at h4 (by rw [h1]; exact hi)⟩⟩

/-- What a walk's round needs of a list at its index. -/
theorem at_y {w wr : World} {b off n k : Nat} {c : Nat → Option Nat} (h6 : ∀ i, i < n → ∃ x, w.cell? ⟨b, off + i, none⟩ = some (.float .f32 x) ∧ Fr .f32 x (c i)) (hk : k < n) (hb : Below w.heap.size w wr) :
    ∃ x, wr.cell? ⟨b, off + k, none⟩ = some (.float .f32 x) ∧ Fr .f32 x (c k) ∧ b < wr.heap.size := by
  obtain ⟨x, h7, h8⟩ := h6 k hk
  have h9 : wr.cell? ⟨b, off + k, none⟩ = some (.float .f32 x) := by rw [hb.cell (block_lt_of_cell h7)]; exact h7
  exact ⟨x, h9, h8, block_lt_of_cell h9⟩

/-- A list of these classes in a row of its own. -/
def RetO (n : Nat) (c : Nat → Option Nat) (w : World) (e : Ending) (w' : World) : Prop :=
  ∃ a cap, e = .returned (.slice a n cap) ∧ IsO w.heap.size w'.heap.size w' a n cap c ∧ Below w.heap.size w w'

set_option maxHeartbeats 800000 in
theorem to_y (a : Option Addr) (len cap : Nat) (c : Nat → Option Nat) (w : World) (hn : IsY w a len cap c) (hlen : len ≤ 1048576) :
    Calls Try.prog 37 #[.slice a len cap] w (RetO len c w) := by
  obtain ⟨i0, hi, hz0, hz1, hz2⟩ := info_parts Nums.A_info32
  obtain ⟨h2, h3, b, off, h5, h6⟩ := hn
  have H5 := Lib.hid h5; clear h5
  have H6 := Lib.hid h6; clear h6
  unfold maxLen at h3
  go_enter Try.func37, Try.ntmps37
  go_wp2_with (at_make; refine wpList_make_full _ rfl _ _ 29 rfl w.heap.size 22 i0 (.float .f32 0) 1 Try.underlying29 hi hz0 hz1 .i64 .i64 _ _ len rfl rfl rfl rfl (by rw [hz2]; omega) (by unfold maxLen; omega) (Nat.le_refl _) ?_)
  intro w1 hown hgrow
  have hnx : Below w.heap.size w w1 := (Below.refl _ _).grown hgrow (Nat.le_refl _) (fun k h => by cases h)
  have hblk : ∃ cur : Array Value, w1.heap[w.heap.size]? = some (.cells cur 22) ∧ cur.size = len := by
    obtain ⟨_, h | ⟨g, c, cur, hv, _, hh, _, _, hs, _⟩⟩ := hown
    · cases h.1
    · simp only [Value.slice.injEq, Option.some.injEq, Addr.mk.injEq] at hv
      obtain ⟨⟨rfl, _⟩, _, rfl⟩ := hv
      exact ⟨cur, hh, by omega⟩
  obtain ⟨cur0, hc0, hs0⟩ := hblk
  clear hown hgrow
  go_wp2
  go_loopw [4] (fun i wr => ∃ (k : Nat) (cur : Array Value), k ≤ len ∧ i = .int .i64 k ∧ wr.heap[w.heap.size]? = some (.cells cur 22) ∧ cur.size = len ∧ (∀ j, j < k → ∃ x, cur[j]? = some (.float .f32 x) ∧ Fr .f32 x (c j)) ∧ Below w.heap.size w wr)
    (fun i _ => len - (intOf i).toNat)
  case atStart => exact ⟨0, cur0, Nat.zero_le _, rfl, hc0, hs0, fun j hj => absurd hj (Nat.not_lt_zero _), hnx⟩
  case round =>
    clear hc0 hs0 hnx
    obtain ⟨k, cur, hk, rfl, hb, hs, hdone, hbel⟩ := hrel
    have HS := Lib.hid hs; clear hs
    have HD := Lib.hid hdone; clear hdone
    by_cases hlt : k < len
    · obtain rfl := H5.out (by omega)
      obtain ⟨v, hsrc', fv, hbr⟩ := at_y H6.out hlt hbel
      have FV := Lib.hid fv; clear fv
      have hdst : wr.cell? ⟨w.heap.size, k, none⟩ = some cur[k]! := by
        rw [cells_of hb]
        have : k < cur.size := by rw [HS.out]; exact hlt
        simp [this]
      generalize cur[k]! = old at *
      have hfree := free_of hb k
      have HB := Lib.hid hb; clear hb
      go_wp2
      go_roundw
      case rel =>
        refine ⟨k + 1, cur.setIfInBounds k (.float .f32 v), by omega, by go_num, setCell_block HB.out k _, by simp [HS.out], fun j hj => ?_, hbel.setCell (Nat.le_refl _) _⟩
        by_cases hjk : j = k
        · subst hjk
          exact ⟨v, by rw [Array.getElem?_setIfInBounds_self_of_lt (by rw [HS.out]; exact hlt)], FV.out⟩
        · obtain ⟨x, k1, k2⟩ := HD.out j (by omega)
          exact ⟨x, by rw [Array.getElem?_setIfInBounds_ne (fun e => hjk e.symm)]; exact k1, k2⟩
      case measure => simp [intOf]; omega
    · have HB := Lib.hid hb; clear hb
      go_wp2
      go_ret
      refine ⟨_, _, rfl, ⟨Nat.le_refl _, by unfold maxLen; omega, w.heap.size, cur, fun _ => ⟨rfl, Nat.le_refl _, (Array.getElem?_eq_some_iff.1 HB.out).1, HB.out⟩, by rw [HS.out]; exact Nat.le_refl _, fun i hi => ?_⟩, hbel⟩
      exact HD.out i (by omega)

theorem same_ret (a b : Nat) (c : Option Nat) (w : World) (fa : Fr .f64 a c) (fb : Fr .f64 b c) :
    Calls Try.prog 70 #[.float .f64 a, .float .f64 b] w (RetD (.bool true) w) :=
  (Same.same_true a b c w fa fb).mono fun e w' ⟨n, he, hw⟩ => ⟨he, by rw [hw]; exact below_drewN (Below.refl _ _) n⟩

set_option maxHeartbeats 1600000 in
theorem eq_y (a a' : Option Addr) (len cap cap' : Nat) (c : Nat → Option Nat) (w : World) (hn : IsY w a len cap c) (hn' : IsY w a' len cap' c) :
    Calls Try.prog 28 #[.slice a len cap, .slice a' len cap'] w (RetD (.bool true) w) := by
  obtain ⟨h2, h3, b, off, h5, h6⟩ := hn
  obtain ⟨g2, g3, b', off', g5, g6⟩ := hn'
  have H5 := Lib.hid h5; clear h5
  have H6 := Lib.hid h6; clear h6
  have G5 := Lib.hid g5; clear g5
  have G6 := Lib.hid g6; clear g6
  unfold maxLen at h3 g3
  go_enter Try.func28, Try.ntmps28
  go_wp2
  go_loopw [5] (fun i wr => ∃ k : Nat, k ≤ len ∧ i = .int .i64 k ∧ Below w.heap.size w wr) (fun i _ => len - (intOf i).toNat)
  case atStart => exact ⟨0, Nat.zero_le _, rfl, Below.refl _ _⟩
  case round =>
    obtain ⟨k, hk, rfl, hbel⟩ := hrel
    by_cases hlt : k < len
    · obtain rfl := H5.out (by omega)
      obtain rfl := G5.out (by omega)
      obtain ⟨v, hsrc, fx, hlb⟩ := at_y H6.out hlt hbel
      obtain ⟨u, hsrc', fy, hlb'⟩ := at_y G6.out hlt hbel
      generalize c k = d at *
      have HB := Lib.hid hbel; clear hbel
      go_wp2_with fail
      refine Loose.wp_region_below 11 [] (by kernel_rfl) (by kernel_rfl) (by simp [undef]) ?_
      apply Exists.intro
      simp only [List.take_succ_cons, List.take_zero, List.drop_succ_cons, List.drop_zero]
      repeat (first | (apply Loose.walk_step; intro K hK; apply Loose.turn_value (hwant := rfl) (hd := rfl); (focus (intro w' hw'; obtain ⟨hc, hf⟩ := Fl.bcell hw'; go_simp; first | done | rfl | exact ⟨rfl, rfl⟩)); go_simp; refine hK _ ?_; clear hK K) | (apply Loose.walk_step; intro K hK; refine Loose.turn_conv (Nat.le_refl _) rfl rfl rfl rfl (by kernel_rfl) Try.underlying69 (by assumption) (Fl.fits_wide _) ?_; intro r hr; go_simp; refine hK _ ?_; clear hK K) | (apply Loose.walk_step; intro K hK; apply Loose.turn_callD (Nat.le_refl _) (hwant := rfl) (hd := rfl); (focus (intro w'; go_simp; first | done | rfl | exact ⟨rfl, rfl⟩)); (focus (intro w'; go_at_call 70; exact same_ret _ _ _ _ (by assumption) (by assumption))); skip; go_simp; refine hK _ ?_; clear hK K))
      refine Loose.walk_nil ?_
      intro w1 hcls1
      obtain ⟨hb1, _⟩ := hcls1
      obtain ⟨hc1, hf1⟩ := Fl.bcell hb1
      have hz1 := hb1.size
      try simp only [World.size_alloc, World.size_setCell, World.heap_drewN, World.size_drew] at hz1
      go_wp2
      go_roundw
      case rel => exact ⟨k + 1, by omega, by go_num, HB.out.trans (hb1.mono HB.out.size)⟩
      case measure => simp [intOf]; omega
    · go_wp2
      go_ret
      exact ⟨rfl, hbel⟩
/-! ### Marks -/

/-- The values of the marks from K on, as classes. -/
def mval (K : Int) (v : Value) : Prop := v = .float .f32 (floatOfInt .f32 K)

/-- A block of n marks. -/
def Mk (B L : Nat) (w : World) (a : Option Addr) (n cap : Nat) (K : Int) : Prop :=
  n ≤ cap ∧ cap ≤ maxLen ∧ n ≤ 1048576 ∧ ∃ (g : Nat) (cur : Array Value), (0 < n → a = some ⟨g, 0, none⟩ ∧ B ≤ g ∧ g < L ∧ w.heap[g]? = some (.cells cur 22)) ∧ ∀ j, j < n → ∃ v, cur[j]? = some v ∧ mval (K + (j : Int)) v

theorem Mk.on {B L : Nat} {w w' : World} {a : Option Addr} {n cap : Nat} {K : Int} (h : Mk B L w a n cap K) (hb : Below w.heap.size w w') : Mk B L w' a n cap K := by
  obtain ⟨h1, h2, h3, g, cur, h5, h6⟩ := h
  refine ⟨h1, h2, h3, g, cur, fun h => ⟨(h5 h).1, (h5 h).2.1, (h5 h).2.2.1, ?_⟩, h6⟩
  rw [hb.block g (Array.getElem?_eq_some_iff.1 (h5 h).2.2.2).1]
  exact (h5 h).2.2.2

set_option maxRecDepth 20000 in
set_option maxHeartbeats 1600000 in
/-- Marks on any block of n cells of the call's own. -/
theorem mark (B L : Nat) (a : Option Addr) (n cap : Nat) (K : Int) (hK : 0 ≤ K ∧ K ≤ 8388608) (w : World) (h1 : n ≤ cap) (h2 : cap ≤ maxLen) (h3 : n ≤ 1048576) (g : Nat) (cur0 : Array Value) (h5 : 0 < n → a = some ⟨g, 0, none⟩ ∧ B ≤ g ∧ g < L ∧ w.heap[g]? = some (.cells cur0 22)) (h6 : n ≤ cur0.size) :
    Calls Try.prog 29 #[.slice a n cap, .int .i64 K] w fun e w' => e = .returned (.int .i64 (K + (n : Int))) ∧ Mk B L w' a n cap K ∧ Below B w w' ∧ ∀ b, b ≠ g → b < w.heap.size → w'.heap[b]? = w.heap[b]? := by
  have H5 := Lib.hid h5
  have H6 := Lib.hid h6
  clear h5 h6
  unfold maxLen at h2
  go_enter Try.func29, Try.ntmps29
  go_wp2
  go_loopw [1, 5] (fun m i wr => ∃ (k : Nat) (cur : Array Value), k ≤ n ∧ i = .int .i64 k ∧ m = .int .i64 (K + (k : Int)) ∧ (0 < n → wr.heap[g]? = some (.cells cur 22)) ∧ n ≤ cur.size ∧ (∀ j, j < k → ∃ v, cur[j]? = some v ∧ mval (K + (j : Int)) v) ∧ Below B w wr ∧ ∀ b, b ≠ g → b < w.heap.size → wr.heap[b]? = w.heap[b]?)
    (fun _ i _ => n - (intOf i).toNat)
  case atStart =>
    exact ⟨0, cur0, Nat.zero_le _, rfl, by go_num, fun h => (H5.out h).2.2.2, H6.out, fun j hj => absurd hj (Nat.not_lt_zero _), Below.refl _ _, fun _ _ _ => rfl⟩
  case round =>
    obtain ⟨k, cur, hk, rfl, rfl, hb, hs, hdone, hbel, hkeep⟩ := hrel
    have HD := Lib.hid hdone; clear hdone
    have HKP := Lib.hid hkeep; clear hkeep
    by_cases hlt : k < n
    · obtain ⟨rfl, hBg, _, _⟩ := H5.out (by omega)
      have hblk := hb (by omega)
      have hdst : wr.cell? ⟨g, k, none⟩ = some cur[k]! := by
        rw [cells_of hblk]
        have : k < cur.size := by omega
        simp [this]
      generalize cur[k]! = old at *
      have hfree := free_of hblk k
      have HB := Lib.hid hblk; clear hb hblk
      have HBL := Lib.hid hbel; clear hbel
      go_wp2
      go_roundw
      case rel =>
        refine ⟨k + 1, cur.setIfInBounds k (.float .f32 (floatOfInt .f32 (K + (k : Int)))), by omega, by go_num, by go_num, fun _ => setCell_block HB.out k _, by simpa using hs, fun j hj => ?_, Below.setCell (by first | exact HBL.out | exact below_drewN HBL.out _) hBg _, fun b hbne hbl => ?_⟩
        · by_cases hjk : j = k
          · subst hjk
            exact ⟨_, Array.getElem?_setIfInBounds_self_of_lt (by omega), rfl⟩
          · obtain ⟨v, hv1, hv2⟩ := HD.out j (by omega)
            exact ⟨v, by rw [Array.getElem?_setIfInBounds_ne (fun e => hjk e.symm)]; exact hv1, hv2⟩
        · have e1 : ∀ (wx : World) (vx : Value), (wx.setCell ⟨g, k, none⟩ vx).heap[b]? = wx.heap[b]? := fun wx vx => by
            simp [World.setCell, Array.getElem?_modify]
            intro e; exact absurd e.symm hbne
          rw [e1]
          exact HKP.out b hbne hbl
      case measure => simp [intOf]; omega
    · have hkn : k = n := by omega
      go_wp2
      go_ret
      exact ⟨by subst hkn; first | rfl | go_num, ⟨h1, by unfold maxLen; exact h2, h3, g, cur, fun h => ⟨(H5.out h).1, (H5.out h).2.1, (H5.out h).2.2.1, hb h⟩, fun j hj => HD.out j (by omega)⟩, hbel, HKP.out⟩

set_option maxRecDepth 20000 in
set_option maxHeartbeats 1600000 in
theorem held (B L : Nat) (a : Option Addr) (n cap : Nat) (K : Int) (hK : 0 ≤ K ∧ K ≤ 8388608) (w : World) (ho : Mk B L w a n cap K) :
    Calls Try.prog 30 #[.slice a n cap, .int .i64 K] w fun e w' => e = .returned (.int .i64 (K + (n : Int))) ∧ Below w.heap.size w w' := by
  obtain ⟨h1, h2, h3, g, cur0, h5, h6⟩ := ho
  have H5 := Lib.hid h5
  have H6 := Lib.hid h6
  clear h5 h6
  unfold maxLen at h2
  go_enter Try.func30, Try.ntmps30
  go_wp2
  go_loopw [1, 5] (fun m i wr => ∃ k : Nat, k ≤ n ∧ i = .int .i64 k ∧ m = .int .i64 (K + (k : Int)) ∧ Below w.heap.size w wr) (fun _ i _ => n - (intOf i).toNat)
  case atStart => exact ⟨0, Nat.zero_le _, rfl, by go_num, Below.refl _ _⟩
  case round =>
    obtain ⟨k, hk, rfl, rfl, hbel⟩ := hrel
    by_cases hlt : k < n
    · obtain ⟨rfl, hBg, _, hblk0⟩ := H5.out (by omega)
      obtain ⟨v, hv1, hv2⟩ := H6.out k hlt
      have hblk : wr.heap[g]? = some (.cells cur0 22) := by rw [hbel.block g (Array.getElem?_eq_some_iff.1 hblk0).1]; exact hblk0
      have hsrc : wr.cell? ⟨g, k, none⟩ = some v := by
        rw [cells_of hblk, hv1]
      have HB := Lib.hid hblk; clear hblk hblk0 hv1
      have HBL := Lib.hid hbel; clear hbel
      obtain rfl := hv2
      have fs := (Mks.ms_facts (K + (k : Int))).2
      have hO3 := (Mks.ms_facts (K + (k : Int))).1
      have hO4 : cmpC .neq (some .eq) = false := rfl
      generalize Mks.msC (K + (k : Int)) = S at *
      go_wp2_with (first | (refine Fl.wpList_cmp rfl rfl rfl rfl rfl fs fs ?_; try simp only [hO3, hO4]))
      go_roundw
      case rel => exact ⟨k + 1, by omega, by go_num, by go_num, by first | exact HBL.out | exact below_drewN HBL.out _⟩
      case measure => simp [intOf]; omega
    · have hkn : k = n := by omega
      go_wp2
      go_ret
      exact ⟨by subst hkn; first | rfl | go_num, hbel⟩

theorem Mk.keep {B L : Nat} {w w' : World} {a : Option Addr} {n cap : Nat} {K : Int} (h : Mk B L w a n cap K) (hk : ∀ g, B ≤ g → g < L → g < w.heap.size → w'.heap[g]? = w.heap[g]?) : Mk B L w' a n cap K := by
  obtain ⟨h1, h2, h3, g, cur, h5, h6⟩ := h
  refine ⟨h1, h2, h3, g, cur, fun h => ?_, h6⟩
  obtain ⟨k1, k2, k3, k4⟩ := h5 h
  exact ⟨k1, k2, k3, by rw [hk g k2 k3 (Array.getElem?_eq_some_iff.1 k4).1]; exact k4⟩

/-- Marks on a row of its own: all other blocks stay. -/
theorem mark_o (B L : Nat) (a : Option Addr) (n cap : Nat) (c : Nat → Option Nat) (K : Int) (hK : 0 ≤ K ∧ K ≤ 8388608) (w : World) (h : IsO B L w a n cap c) (hn : n ≤ 1048576) (hL : L ≤ w.heap.size) :
    Calls Try.prog 29 #[.slice a n cap, .int .i64 K] w fun e w' => e = .returned (.int .i64 (K + (n : Int))) ∧ Mk B L w' a n cap K ∧ Below B w w' ∧ ∀ b, (b < B ∨ L ≤ b) → b < w.heap.size → w'.heap[b]? = w.heap[b]? := by
  obtain ⟨h1, h2, g, cur, h5, h6, h7⟩ := h
  by_cases h0 : 0 < n
  · obtain ⟨k1, k2, k3, k4⟩ := h5 h0
    exact (mark B L a n cap K hK w h1 h2 hn g cur (fun _ => ⟨k1, k2, k3, k4⟩) h6).mono fun e w' ⟨x, y, z, t⟩ => ⟨x, y, z, fun b hb hl => t b (by omega) hl⟩
  · exact (mark B L a n cap K hK w h1 h2 hn w.heap.size #[] (fun h => absurd h h0) (by simp; omega)).mono fun e w' ⟨x, y, z, t⟩ => ⟨x, y, z, fun b hb hl => t b (by omega) hl⟩

end Ba
end Go.Proofs.Ytjkkefbfhapblab
