/- Lists of numbers: copies, comparison, sums. -/
import Derived.Test.YtjkkefbfhapblabRows
import Derived.Test.YtjkkefbfhapblabFrame
import Derived.Test.YtjkkefbfhapblabRet
import Derived.Test.YtjkkefbfhapblabSame
import Derived.Test.YtjkkefbfhapblabBits
import Derived.LoopTactic
namespace Go.Proofs.Ytjkkefbfhapblab
set_option linter.unusedSimpArgs false
set_option linter.unusedVariables false
set_option maxRecDepth 20000
open Go.RowKit
namespace Nums
open Fl _root_.Go.Proofs.Ytjkkefbfhapblab.Frame

/-- A list of these numbers, in a row that nothing else leads to. -/
def RetNums (k : FloatKind) (zs : List Nat) (w : World) (e : Ending) (w' : World) : Prop :=
  ∃ a cap, e = .returned (.slice a zs.length cap) ∧ IsNums k w' a zs.length cap zs ∧ Below w.heap.size w w'

theorem setCell_block {w : World} {g : Nat} {c : Array Value} {t : TypeId} (h : w.heap[g]? = some (.cells c t)) (i : Nat) (v : Value) : (w.setCell ⟨g, i, none⟩ v).heap[g]? = some (.cells (c.setIfInBounds i v) t) := by
  simp [World.setCell, Array.getElem?_modify, h]

theorem A_info32 : (Try.prog.info? 22).map (fun i => (i.zero, i.size, i.bytes)) = some (some (.float .f32 0), 1, 4) := by kernel_rfl

theorem getD_lt {zs : List Nat} {i : Nat} (h : i < zs.length) : zs.getD i 0 ∈ zs := by
  rw [List.getD_eq_getElem?_getD, List.getElem?_eq_getElem h]; simp

set_option maxHeartbeats 800000 in
theorem to_floats (a : Option Addr) (len cap : Nat) (zs : List Nat) (w : World) (hn : IsNums .f32 w a len cap zs) (hlen : len ≤ 1048576) :
    Calls Try.prog 37 #[.slice a len cap] w (RetNums .f32 zs w) := by
  obtain ⟨i0, hi, hz0, hz1, hz2⟩ := info_parts A_info32
  obtain ⟨h1, h2, h3, h4, b, off, h5, h6⟩ := hn
  have HL := Lib.hid h1; clear h1
  have H5 := Lib.hid h5; clear h5
  have H6 := Lib.hid h6; clear h6
  unfold maxLen at h3
  go_enter Try.func37, Try.ntmps37
  go_wp2_with (at_make; refine wpList_make_full _ rfl _ _ 29 rfl w.heap.size 22 i0 (.float .f32 0) 1 Try.underlying29 hi hz0 hz1 .i64 .i64 _ _ len rfl rfl rfl rfl (by rw [hz2]; omega) (by unfold maxLen; omega) (Nat.le_refl _) ?_)
  intro w1 hown hgrow
  have hnx : Below w.heap.size w w1 := (Below.refl _ _).grown hgrow (Nat.le_refl _) (fun k h => by cases h)
  have hblk : ∃ cur : Array Value, w1.heap[w.heap.size]? = some (.cells cur 22) ∧ cur.size = len := by
    obtain ⟨_, h | ⟨g, c, cur, hv, _, hh, _, _, hs, _⟩⟩ := hown
    · cases h.1
    · simp only [Value.slice.injEq, Option.some.injEq, Addr.mk.injEq] at hv
      obtain ⟨⟨rfl, _⟩, _, rfl⟩ := hv
      exact ⟨cur, hh, by omega⟩
  obtain ⟨cur0, hc0, hs0⟩ := hblk
  clear hown hgrow
  go_wp2
  go_loopw [4] (fun i wr => ∃ (k : Nat) (cur : Array Value), k ≤ len ∧ i = .int .i64 k ∧ wr.heap[w.heap.size]? = some (.cells cur 22) ∧ cur.size = len ∧ (∀ j, j < k → cur[j]? = some (.float .f32 (zs.getD j 0))) ∧ Below w.heap.size w wr)
    (fun i _ => len - (intOf i).toNat)
  case atStart => exact ⟨0, cur0, Nat.zero_le _, rfl, hc0, hs0, fun j hj => absurd hj (Nat.not_lt_zero _), hnx⟩
  case round =>
    clear hc0 hs0 hnx
    obtain ⟨k, cur, hk, rfl, hb, hs, hdone, hbel⟩ := hrel
    have HS := Lib.hid hs; clear hs
    have HD := Lib.hid hdone; clear hdone
    by_cases hlt : k < len
    · obtain rfl := H5.out (by omega)
      have hsrc := H6.out k hlt
      have hsrc' : wr.cell? ⟨b, off + k, none⟩ = some (.float .f32 (zs.getD k 0)) := by rw [hbel.cell (block_lt_of_cell hsrc)]; exact hsrc
      have HV := Lib.hid (getD_lt (zs := zs) (i := k) (by rw [HL.out]; exact hlt))
      clear hsrc
      generalize hv : zs.getD k 0 = v at *
      have HVV := Lib.hid hv; clear hv
      have hdst : wr.cell? ⟨w.heap.size, k, none⟩ = some cur[k]! := by
        rw [Loose.cells_of hb]
        have : k < cur.size := by rw [HS.out]; exact hlt
        simp [this]
      generalize cur[k]! = old at *
      have hfree := Loose.free_of hb k
      have HB := Lib.hid hb; clear hb
      go_wp2
      go_roundw
      case rel =>
        refine ⟨k + 1, cur.setIfInBounds k (.float .f32 v), by omega, by go_num, setCell_block HB.out k _, by simp [HS.out], fun j hj => ?_, hbel.setCell (Nat.le_refl _) _⟩
        by_cases hjk : j = k
        · subst hjk
          rw [Array.getElem?_setIfInBounds_self_of_lt (by rw [HS.out]; exact hlt), ← HVV.out]
        · rw [Array.getElem?_setIfInBounds_ne (fun e => hjk e.symm)]; exact HD.out j (by omega)
      case measure => simp [intOf]; omega
    · go_wp2
      go_ret
      refine ⟨_, _, by rw [HL.out]; rfl, ⟨rfl, by rw [HL.out]; exact Nat.le_refl _, by unfold maxLen; omega, h4, w.heap.size, 0, fun _ => rfl, fun i hi => ?_⟩, hbel⟩
      rw [HL.out] at hi
      have hkl : k = len := by omega
      rw [Nat.zero_add, Loose.cells_of hb, HD.out i (by omega)]

/-! ### By program from here on -/

theorem seq {w w1 w2 : World} (a : Below w.heap.size w w1) (b : Below w1.heap.size w1 w2) : Below w.heap.size w w2 := a.trans (b.mono a.size)

theorem same_ret (a b : Nat) (c : Option Nat) (w : World) (fa : Fr .f64 a c) (fb : Fr .f64 b c) :
    Calls Try.prog 70 #[.float .f64 a, .float .f64 b] w (RetD (.bool true) w) :=
  (Same.same_true a b c w fa fb).mono fun e w' ⟨n, he, hw⟩ => ⟨he, by rw [hw]; exact below_drewN (Below.refl _ _) n⟩

/-- What a walk's round needs of a list of numbers, at its index. -/
theorem at_index {w wr : World} {b off len k : Nat} {zs : List Nat} (h6 : ∀ i, i < len → w.cell? ⟨b, off + i, none⟩ = some (.float .f32 (zs.getD i 0))) (hk : k < len) (hb : Below w.heap.size w wr) :
    wr.cell? ⟨b, off + k, none⟩ = some (.float .f32 (zs.getD k 0)) := by
  rw [hb.cell (block_lt_of_cell (h6 k hk))]; exact h6 k hk

theorem fr_at {zs : List Nat} {k : Nat} (h4 : ∀ n ∈ zs, (Lit.float .f32 n).wf = true) (hk : k < zs.length) : Fr .f32 (zs.getD k 0) (cl .f32 (zs.getD k 0)) := Fr.wf (h4 _ (getD_lt hk))

set_option maxHeartbeats 1600000 in
theorem eq_floats (a a' : Option Addr) (len cap cap' : Nat) (zs ys : List Nat) (w : World) (hn : IsNums .f32 w a len cap zs) (hn' : IsNums .f32 w a' len cap' ys) (hc : ∀ i, i < len → cl .f32 (zs.getD i 0) = cl .f32 (ys.getD i 0)) :
    Calls Try.prog 28 #[.slice a len cap, .slice a' len cap'] w (RetD (.bool true) w) := by
  obtain ⟨h1, h2, h3, h4, b, off, h5, h6⟩ := hn
  obtain ⟨g1, g2, g3, g4, b', off', g5, g6⟩ := hn'
  have H1 := Lib.hid h1; clear h1
  have G1 := Lib.hid g1; clear g1
  have H5 := Lib.hid h5; clear h5
  have H6 := Lib.hid h6; clear h6
  have G5 := Lib.hid g5; clear g5
  have G6 := Lib.hid g6; clear g6
  have HC := Lib.hid hc; clear hc
  unfold maxLen at h3 g3
  go_enter Try.func28, Try.ntmps28
  go_wp2
  go_loopw [5] (fun i wr => ∃ k : Nat, k ≤ len ∧ i = .int .i64 k ∧ Below w.heap.size w wr) (fun i _ => len - (intOf i).toNat)
  case atStart => exact ⟨0, Nat.zero_le _, rfl, Below.refl _ _⟩
  case round =>
    obtain ⟨k, hk, rfl, hbel⟩ := hrel
    by_cases hlt : k < len
    · obtain rfl := H5.out (by omega)
      obtain rfl := G5.out (by omega)
      have hsrc := at_index H6.out hlt hbel
      have hsrc' := at_index G6.out hlt hbel
      have fx := fr_at h4 (k := k) (by rw [H1.out]; exact hlt)
      have fy := fr_at g4 (k := k) (by rw [G1.out]; exact hlt)
      rw [← HC.out k hlt] at fy
      generalize cl .f32 (zs.getD k 0) = c at *
      generalize zs.getD k 0 = v at *
      generalize ys.getD k 0 = u at *
      have HB := Lib.hid hbel; clear hbel
      have hlb : b < wr.heap.size := block_lt_of_cell hsrc
      have hlb' : b' < wr.heap.size := block_lt_of_cell hsrc'
      go_wp2_with fail
      refine Loose.wp_region_below 11 [] (by kernel_rfl) (by kernel_rfl) (by simp [undef]) ?_
      apply Exists.intro
      simp only [List.take_succ_cons, List.take_zero, List.drop_succ_cons, List.drop_zero]
      repeat (first | (apply Loose.walk_step; intro K hK; apply Loose.turn_value (hwant := rfl) (hd := rfl); (focus (intro w' hw'; obtain ⟨hc, hf⟩ := Fl.bcell hw'; go_simp; first | done | rfl | exact ⟨rfl, rfl⟩)); go_simp; refine hK _ ?_; clear hK K) | (apply Loose.walk_step; intro K hK; refine Loose.turn_conv (Nat.le_refl _) rfl rfl rfl rfl (by kernel_rfl) Try.underlying69 (by assumption) (Fl.fits_wide _) ?_; intro r hr; go_simp; refine hK _ ?_; clear hK K) | (apply Loose.walk_step; intro K hK; apply Loose.turn_callD (Nat.le_refl _) (hwant := rfl) (hd := rfl); (focus (intro w'; go_simp; first | done | rfl | exact ⟨rfl, rfl⟩)); (focus (intro w'; go_at_call 70; exact same_ret _ _ _ _ (by assumption) (by assumption))); skip; go_simp; refine hK _ ?_; clear hK K))
      refine Loose.walk_nil ?_
      intro w1 hcls1
      obtain ⟨hb1, _⟩ := hcls1
      obtain ⟨hc1, hf1⟩ := Fl.bcell hb1
      have hz1 := hb1.size
      try simp only [World.size_alloc, World.size_setCell, World.heap_drewN, World.size_drew] at hz1
      go_wp2
      go_roundw
      case rel => exact ⟨k + 1, by omega, by go_num, HB.out.trans (hb1.mono HB.out.size)⟩
      case measure => simp [intOf]; omega
    · go_wp2
      go_ret
      exact ⟨rfl, hbel⟩

/-- The classes of sums from left to right. -/
def accC (f : Nat → Option Nat) : Nat → Option Nat
  | 0 => some 0
  | k + 1 => op2 .add .f32 (accC f k) (f k)

/-- A number of this class, and whether it is one. -/
def RetFB (c : Option Nat) (b : Bool) (w : World) (e : Ending) (w' : World) : Prop := ∃ r, e = .returned (.tuple #[.float .f32 r, .bool b]) ∧ Fr .f32 r c ∧ Below w.heap.size w w'

/-- The classes of a list's numbers. -/
def numC (zs : List Nat) (i : Nat) : Option Nat := cl .f32 (zs.getD i 0)

set_option maxHeartbeats 1600000 in
theorem impl_sumn (a : Option Addr) (len cap : Nat) (zs : List Nat) (w : World) (hn : IsNums .f32 w a len cap zs) :
    Calls Try.prog 179 #[.slice a len cap] w (RetFB (if len ≤ 256 then accC (numC zs) len else some 0) (decide (len ≤ 256)) w) := by
  obtain ⟨h1, h2, h3, h4, b, off, h5, h6⟩ := hn
  have H1 := Lib.hid h1; clear h1
  have H5 := Lib.hid h5; clear h5
  have H6 := Lib.hid h6; clear h6
  unfold maxLen at h3
  by_cases h : len ≤ 256
  · have hd : decide (len ≤ 256) = true := by simpa using h
    rw [if_pos h, hd]
    have HD := Lib.hid hd; clear hd
    go_enter Try.func179, Try.ntmps179
    go_wp2
    go_loopw [4, 12] (fun s i wr => ∃ k r : Nat, k ≤ len ∧ i = .int .i64 k ∧ s = .float .f32 r ∧ Fr .f32 r (accC (numC zs) k) ∧ Below w.heap.size w wr) (fun _ i _ => len - (intOf i).toNat)
    case atStart => exact ⟨0, 0, Nat.zero_le _, rfl, rfl, Fr.const (by decide +kernel) (by decide), Below.refl _ _⟩
    case round =>
      obtain ⟨k, r, hk, rfl, rfl, fr, hbel⟩ := hrel
      by_cases hlt : k < len
      · obtain rfl := H5.out (by omega)
        have hsrc := at_index H6.out hlt hbel
        have fx : Fr .f32 (zs.getD k 0) (numC zs k) := fr_at h4 (k := k) (by rw [H1.out]; exact hlt)
        generalize zs.getD k 0 = v at *
        have HB := Lib.hid hbel; clear hbel
        go_wp2_with (refine wpList_fl rfl rfl rfl rfl rfl (by assumption) (by assumption) ?_; intro r' n' hr')
        go_roundw
        case rel => exact ⟨k + 1, r', by omega, by go_num, rfl, hr', by exact below_drewN HB.out _⟩
        case measure => simp [intOf]; omega
      · have hkl : k = len := by omega
        have HK := Lib.hid hkl; clear hkl
        go_wp2
        go_ret2
        exact ⟨r, rfl, by rw [← HK.out]; exact fr, hbel⟩
  · have hd : decide (len ≤ 256) = false := by simpa using h
    rw [if_neg h, hd]
    have HD := Lib.hid hd; clear hd
    go_enter Try.func179, Try.ntmps179
    go_wp2
    go_ret2
    exact ⟨_, rfl, Fr.const (by decide +kernel) (by decide), Below.refl _ _⟩

/-- The classes of the products of two lists. -/
def dotC (zs ys : List Nat) (i : Nat) : Option Nat := op2 .mul .f32 (numC zs i) (numC ys i)

set_option maxHeartbeats 1600000 in
theorem impl_dotn (a a' : Option Addr) (len len' cap cap' : Nat) (zs ys : List Nat) (w : World) (hn : IsNums .f32 w a len cap zs) (hn' : IsNums .f32 w a' len' cap' ys) :
    Calls Try.prog 109 #[.slice a len cap, .slice a' len' cap'] w (RetFB (if len ≤ 256 ∧ len = len' then accC (dotC zs ys) len else some 0) (decide (len ≤ 256 ∧ len = len')) w) := by
  have hm : len ≤ 9223372036854775807 := by have h2 := hn.2.1; have h3 := hn.2.2.1; unfold maxLen at h3; omega
  have hm' : len' ≤ 9223372036854775807 := by have h2 := hn'.2.1; have h3 := hn'.2.2.1; unfold maxLen at h3; omega
  by_cases h : len ≤ 256 ∧ len = len'
  · obtain ⟨h, rfl⟩ := h
    have hd : decide (len ≤ 256 ∧ len = len) = true := by simpa using h
    rw [if_pos ⟨h, rfl⟩, hd]
    have HD := Lib.hid hd; clear hd
    obtain ⟨h1, h2, h3, h4, b, off, h5, h6⟩ := hn
    obtain ⟨g1, g2, g3, g4, b', off', g5, g6⟩ := hn'
    have H1 := Lib.hid h1; clear h1
    have H5 := Lib.hid h5; clear h5
    have H6 := Lib.hid h6; clear h6
    have G1 := Lib.hid g1; clear g1
    have G5 := Lib.hid g5; clear g5
    have G6 := Lib.hid g6; clear g6
    unfold maxLen at h3 g3
    go_enter Try.func109, Try.ntmps109
    go_wp2_with (go_at_call 143; go_in)
    go_loopw [8, 23] (fun s i wr => ∃ k r : Nat, k ≤ len ∧ i = .int .i64 k ∧ s = .float .f32 r ∧ Fr .f32 r (accC (dotC zs ys) k) ∧ Below w.heap.size w wr) (fun _ i _ => len - (intOf i).toNat)
    case atStart => exact ⟨0, 0, Nat.zero_le _, rfl, rfl, Fr.const (by decide +kernel) (by decide), Below.refl _ _⟩
    case round =>
      obtain ⟨k, r, hk, rfl, rfl, fr, hbel⟩ := hrel
      by_cases hlt : k < len
      · obtain rfl := H5.out (by omega)
        obtain rfl := G5.out (by omega)
        have hsrc := at_index H6.out hlt hbel
        have hsrc' := at_index G6.out hlt hbel
        have fx : Fr .f32 (zs.getD k 0) (numC zs k) := fr_at h4 (k := k) (by rw [H1.out]; exact hlt)
        have fy : Fr .f32 (ys.getD k 0) (numC ys k) := fr_at g4 (k := k) (by rw [G1.out]; exact hlt)
        generalize zs.getD k 0 = v at *
        generalize ys.getD k 0 = u at *
        have HB := Lib.hid hbel; clear hbel
        have hlb : b < wr.heap.size := block_lt_of_cell hsrc
        have hlb' : b' < wr.heap.size := block_lt_of_cell hsrc'
        go_wp2_with (first | (refine wpList_fl rfl rfl rfl rfl rfl (by assumption) (by assumption) ?_; intro r' n' hr') | go_in)
        go_roundw
        case rel => exact ⟨k + 1, _, by omega, by go_num, rfl, by assumption, by exact below_drewN HB.out _⟩
        case measure => simp [intOf]; omega
      · have hkl : k = len := by omega
        have HK := Lib.hid hkl; clear hkl
        go_wp2
        go_ret2
        exact ⟨r, rfl, by rw [← HK.out]; exact fr, hbel⟩
  · have hd : decide (len ≤ 256 ∧ len = len') = false := by simp; omega
    rw [if_neg (by omega), hd]
    clear hn hn'
    have HD := Lib.hid hd; clear hd
    have HH := Lib.hid h; clear h
    by_cases h : len ≤ 256
    · have hd2 : ((len : Int) != (len' : Int)) = true := by have := HH.out; simp; omega
      go_enter Try.func109, Try.ntmps109
      go_wp2
      go_ret2
      exact ⟨_, rfl, Fr.const (by decide +kernel) (by decide), Below.refl _ _⟩
    · go_enter Try.func109, Try.ntmps109
      go_wp2
      go_ret2
      exact ⟨_, rfl, Fr.const (by decide +kernel) (by decide), Below.refl _ _⟩

end Nums
end Go.Proofs.Ytjkkefbfhapblab
