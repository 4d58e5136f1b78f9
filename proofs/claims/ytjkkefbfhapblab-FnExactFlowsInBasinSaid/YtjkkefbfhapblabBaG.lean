/- Basins that are told cell by cell: the program's function. -/
import Derived.Test.YtjkkefbfhapblabBaC
namespace Go.Proofs.Ytjkkefbfhapblab
set_option linter.unusedSimpArgs false
set_option linter.unusedVariables false
open Go.RowKit
set_option maxRecDepth 20000
namespace Ba
open Fl Rate

/-- A basin and whether there is one. -/
def RetB (A : Bool) (W H : Int) (n : Nat) (c : Nat → Option Nat) (w : World) (e : Ending) (w' : World) : Prop :=
  ∃ a cap, e = .returned (.tuple #[bV W H a n cap, .bool A]) ∧ IsO w.heap.size w'.heap.size w' a n cap c ∧ Below w.heap.size w w'

theorem keep_block {p w : World} {g : Nat} {o : Obj} (hb : Below p.heap.size p w) (h : p.heap[g]? = some o) : w.heap[g]? = some o := by
  rw [hb.block g (Array.getElem?_eq_some_iff.1 h).1]; exact h

theorem alloc_block {w : World} {g : Nat} {o o' : Obj} (h : w.heap[g]? = some o) : (w.alloc o').heap[g]? = some o := by
  rw [Below.heap_alloc _ _ _ (Array.getElem?_eq_some_iff.1 h).1]; exact h

theorem block_lt {w : World} {g : Nat} {o : Obj} (h : w.heap[g]? = some o) : g < w.heap.size := (Array.getElem?_eq_some_iff.1 h).1

theorem IsY.alloc {w : World} {a : Option Addr} {n cap : Nat} {c : Nat → Option Nat} (h : IsY w a n cap c) (o : Obj) : IsY (w.alloc o) a n cap c := h.later ((Below.refl _ _).alloc (Nat.le_refl _) _)

theorem IsO.alloc {B L : Nat} {w : World} {a : Option Addr} {n cap : Nat} {c : Nat → Option Nat} (h : IsO B L w a n cap c) (o : Obj) : IsO B L (w.alloc o) a n cap c := h.later ((Below.refl _ _).alloc (Nat.le_refl _) _)

theorem Mk.alloc {B L : Nat} {w : World} {a : Option Addr} {n cap : Nat} {K : Int} (h : Mk B L w a n cap K) (o : Obj) : Mk B L (w.alloc o) a n cap K := h.on ((Below.refl _ _).alloc (Nat.le_refl _) _)

theorem sides_run (W H : Int) (a : Option Addr) (n cap : Nat) (w : World) : Calls Try.prog 197 #[bV W H a n cap] w fun e w' => e = .returned (.tuple #[.int .i64 W, .int .i64 H]) ∧ Below w.heap.size w w' := by
  go_enter Try.func197, Try.ntmps197
  go_wp2
  go_quiet (fail)
  go_wp2
  go_ret2
  exact ⟨rfl, by (repeat' first | exact Below.refl _ _ | (refine Below.setCell ?_ (by first | omega | (simp; omega) | simp) _) | (refine below_drewN ?_ _) | (refine Below.alloc ?_ (by first | omega | (simp; omega) | simp) _) | (refine Below.trans ?_ (Below.mono (by assumption) (by first | omega | (simp; omega) | simp))))⟩

theorem sides_of (W H : Int) (a : Option Addr) (n cap : Nat) (w : World) : (method 296 33 (.agg #[.int .i64 W, .int .i64 H, .slice a n cap]) "loop.example/g01266/impl.sides").run Try.prog w = .ok (197, .agg #[.int .i64 W, .int .i64 H, .slice a n cap]) w := by kernel_rfl

theorem row_run (g n cap : Nat) (W y : Int) (w : World) (hW : 3 ≤ W ∧ W ≤ 16) (hy : 0 ≤ y ∧ y < 16) (hn : W * (y + 1) ≤ (n : Int)) (hc : n ≤ cap) (hm : cap ≤ maxLen) :
    Calls Try.prog 90 #[.slice (some ⟨g, 0, none⟩) n cap, .int .i64 W, .int .i64 y] w fun e w' => e = .returned (.slice (some ⟨g, (W * y).toNat, none⟩) W.toNat W.toNat) ∧ w = w' := by
  have h1 : 0 ≤ W * y := Int.mul_nonneg (by omega) hy.1
  have h2 : W * (y + 1) = W * y + W := by rw [Int.mul_add, Int.mul_one]
  have h3 : W * y ≤ 16 * 16 := Int.mul_le_mul (by omega) (by omega) hy.1 (by omega)
  have h4 : 0 ≤ W * (y + 1) := by omega
  have h5 : (W * y + W).toNat - (W * y).toNat = W.toNat := by omega
  have H5 := Lib.hid h5; clear h5
  unfold maxLen at hm
  go_enter Try.func90, Try.ntmps90
  go_wp2
  go_ret
  exact ⟨by rw [← H5.out]; rfl, rfl⟩

/-- Blocks that stay while one row is filled. -/
def KeepS (w : World) (P Q S g : Nat) (o2 o4 o8 : Obj) (cur : Array Value) : Prop := w.heap[P]? = some o2 ∧ w.heap[Q]? = some o4 ∧ w.heap[S]? = some o8 ∧ w.heap[g]? = some (.cells cur 22)

theorem KeepS.later {w w' : World} {P Q S g : Nat} {o2 o4 o8 : Obj} {cur : Array Value} (h : KeepS w P Q S g o2 o4 o8 cur) (hb : Below w.heap.size w w') : KeepS w' P Q S g o2 o4 o8 cur :=
  ⟨keep_block hb h.1, keep_block hb h.2.1, keep_block hb h.2.2.1, keep_block hb h.2.2.2⟩

theorem KeepS.store {w : World} {P Q S g : Nat} {o2 o4 o8 : Obj} {cur : Array Value} (h : KeepS w P Q S g o2 o4 o8 cur) (hP : P ≠ g) (hQ : Q ≠ g) (hS : S ≠ g) (i : Nat) (v : Value) : KeepS (w.setCell ⟨g, i, none⟩ v) P Q S g o2 o4 o8 (cur.setIfInBounds i v) :=
  ⟨by rw [set_keep _ _ _ hP]; exact h.1, by rw [set_keep _ _ _ hQ]; exact h.2.1, by rw [set_keep _ _ _ hS]; exact h.2.2.1, setCell_block h.2.2.2 i v⟩

/-- The first k cells are of these classes. -/
def Done (k : Nat) (f : Nat → Option Nat) (cur : Array Value) : Prop := ∀ j, j < k → ∃ x, cur[j]? = some (.float .f32 x) ∧ Fr .f32 x (f j)

theorem Done.next {k : Nat} {f : Nat → Option Nat} {cur : Array Value} (h : Done k f cur) {r : Nat} (hr : Fr .f32 r (f k)) (hk : k < cur.size) : Done (k + 1) f (cur.setIfInBounds k (.float .f32 r)) := by
  intro j hj
  by_cases e : j = k
  · subst e
    exact ⟨r, Array.getElem?_setIfInBounds_self_of_lt hk, hr⟩
  · obtain ⟨x, h1, h2⟩ := h j (by omega)
    exact ⟨x, by rw [Array.getElem?_setIfInBounds_ne (fun e' => e e'.symm)]; exact h1, h2⟩

theorem impl_checked (W H : Int) (a : Option Addr) (n cap : Nat) (c : Nat → Option Nat) (w : World) (h : IsY w a n cap c) (A : Bool) (hA : okB W H n c = A) : Calls Try.prog 91 #[bV W H a n cap] w (RetD (.tuple #[if A then bV W H a n cap else bV 0 0 none 0 0, .bool A]) w) := by
  have HV := Lib.hid (fun w' (hb : Below w.heap.size w w') => impl_valid W H a n cap c w' (h.later hb) A hA)
  clear h hA
  cases A
  all_goals
    go_enter Try.func91, Try.ntmps91
    go_wp2_with fail
    refine (HV.out _ (by (repeat' first | exact Below.refl _ _ | (refine Below.setCell ?_ (by first | omega | (simp; omega) | simp) _) | (refine below_drewN ?_ _) | (refine Below.alloc ?_ (by first | omega | (simp; omega) | simp) _) | (refine Below.trans ?_ (Below.mono (by assumption) (by first | omega | (simp; omega) | simp)))))).mono ?_
    rintro e w1 ⟨rfl, hb1⟩
    have hz1 := hb1.size
    simp only [World.size_alloc] at hz1
    obtain ⟨hc1, hf1⟩ := Fl.bcell hb1
    have g1 : w.heap.size < w1.heap.size := by omega
    have g2 : w.heap.size + 1 < w1.heap.size := by omega
    go_wp2
    refine bodyPost_ret ?ohr rfl ⟨rfl, ?obel⟩
    case ohr => simp [results, Try.results91, go_sem, *]
    case obel => (repeat' first | exact Below.refl _ _ | (refine Below.setCell ?_ (by first | omega | (simp; omega) | simp) _) | (refine below_drewN ?_ _) | (refine Below.alloc ?_ (by first | omega | (simp; omega) | simp) _) | (refine Below.trans ?_ (Below.mono (by assumption) (by first | omega | (simp; omega) | simp))))

set_option maxHeartbeats 6400000 in
theorem each_cell (W H : Int) (a : Option Addr) (n cap : Nat) (fn : FuncId) (caps : Array Value) (f : Nat → Option Nat) (w : World)
    (hfn : ∀ (args : Array Value) (w : World), (callFunc fn args).run Try.prog w = .ok (.enter fn args) w)
    (hcall : ∀ (x y : Nat) (w' : World), (x : Int) < W → (y : Int) < H → 3 ≤ W ∧ W ≤ 16 → 3 ≤ H ∧ H ≤ 16 → Below w.heap.size w w' → Calls Try.prog fn (#[bV W H a n cap, .int .i64 x, .int .i64 y] ++ caps) w' (RetF .f32 (f ((W * (y : Int)).toNat + x)) w'))
    (A : Bool) (hA : ((sideB W && sideB H) && allF f (W * H).toNat) = A) :
    Calls Try.prog 50 #[bV W H a n cap, .func (Fn.func fn) #[] caps] w (RetB A (if A then W else 0) (if A then H else 0) (if A then (W * H).toNat else 0) f w) := by
  have hm := sides_of W H a n cap
  have HS := Lib.hid (sides_run W H a n cap)
  cases h1 : sideB W
  · rw [h1] at hA
    obtain rfl : A = false := by rw [← hA]; rfl
    clear hA hcall
    go_enter Try.func50, Try.ntmps50
    go_wp2_with fail
    refine (HS.out _).mono ?_
    rintro e w1 ⟨rfl, hb1⟩
    have hz1 := hb1.size
    simp only [World.size_alloc] at hz1
    obtain ⟨hc1, hf1⟩ := Fl.bcell hb1
    have g2 : w.heap.size + 1 < w1.heap.size := by omega
    go_wp2_with (go_at_call 89; refine (impl_side _ _).mono ?_; rintro e w2 ⟨rfl, rfl⟩)
    refine bodyPost_ret ?ohr rfl ⟨none, 0, rfl, isO_nil _ _ _ _, ?obel⟩
    case ohr => simp [results, Try.results50, go_sem, *]
    case obel => (repeat' first | exact Below.refl _ _ | (refine Below.setCell ?_ (by first | omega | (simp; omega) | simp) _) | (refine below_drewN ?_ _) | (refine Below.alloc ?_ (by first | omega | (simp; omega) | simp) _) | (refine Below.trans ?_ (Below.mono (by assumption) (by first | omega | (simp; omega) | simp))))
  cases h2 : sideB H
  · rw [h1, h2] at hA
    obtain rfl : A = false := by rw [← hA]; rfl
    clear hA hcall
    go_enter Try.func50, Try.ntmps50
    go_wp2_with fail
    refine (HS.out _).mono ?_
    rintro e w1 ⟨rfl, hb1⟩
    have hz1 := hb1.size
    simp only [World.size_alloc] at hz1
    obtain ⟨hc1, hf1⟩ := Fl.bcell hb1
    have g2 : w.heap.size + 1 < w1.heap.size := by omega
    go_wp2_with (go_at_call 89; refine (impl_side _ _).mono ?_; rintro e w2 ⟨rfl, rfl⟩)
    refine bodyPost_ret ?ohr rfl ⟨none, 0, rfl, isO_nil _ _ _ _, ?obel⟩
    case ohr => simp [results, Try.results50, go_sem, *]
    case obel => (repeat' first | exact Below.refl _ _ | (refine Below.setCell ?_ (by first | omega | (simp; omega) | simp) _) | (refine below_drewN ?_ _) | (refine Below.alloc ?_ (by first | omega | (simp; omega) | simp) _) | (refine Below.trans ?_ (Below.mono (by assumption) (by first | omega | (simp; omega) | simp))))
  rw [h1, h2] at hA
  have hA' : allF f (W * H).toNat = A := hA
  obtain ⟨hp0, hp1⟩ := mul_bd h1 h2
  have sW := side_of h1
  have sH := side_of h2
  obtain ⟨N, hN⟩ : ∃ N : Nat, W * H = (N : Int) := ⟨(W * H).toNat, by omega⟩
  have hNt : (W * H).toNat = N := by omega
  have hN256 : N ≤ 256 := by omega
  have hN0 : 0 < N := by omega
  rw [hNt] at hA' ⊢
  have hok : okB W H N f = A := by
    unfold okB
    rw [h1, h2, hA', decide_eq_true hN.symm]; rfl
  have HCH := Lib.hid (fun a cap w (h : IsY w a N cap f) => impl_checked W H a N cap f w h A hok)
  have HC := Lib.hid (fun x y w' hx hy hb => hcall x y w' hx hy sW sH hb)
  have HN := Lib.hid hN
  obtain ⟨W', hW'⟩ : ∃ W' : Int, (if A then W else 0) = W' := ⟨_, rfl⟩
  obtain ⟨H', hH'⟩ : ∃ H' : Int, (if A then H else 0) = H' := ⟨_, rfl⟩
  obtain ⟨N', hN'⟩ : ∃ N' : Nat, (if A then N else 0) = N' := ⟨_, rfl⟩
  rw [hW', hH', hN']
  have HR := Lib.hid (And.intro hW' (And.intro hH' hN'))
  clear hA hA' hok hcall hNt hN hW' hH' hN'
  obtain ⟨i0, hi, hz0, hz1, hz2⟩ := info_parts Nums.A_info32
  go_enter Try.func50, Try.ntmps50
  go_wp2_with fail
  refine (HS.out _).mono ?_
  rintro e w1 ⟨rfl, hb1⟩
  have hzz1 := hb1.size
  simp only [World.size_alloc] at hzz1
  have q2 := keep_block hb1 (alloc_block (o' := .cells #[.int .i64 0, .int .i64 0, .slice none 0 0] 33) (new_block w (.cells #[.int .i64 W, .int .i64 H, .slice a n cap] 33)))
  have q4 : w1.heap[w.heap.size + 1]? = some (.cells #[.int .i64 0, .int .i64 0, .slice none 0 0] 33) := keep_block hb1 (by simpa using new_block (w.alloc (.cells #[.int .i64 W, .int .i64 H, .slice a n cap] 33)) (.cells #[.int .i64 0, .int .i64 0, .slice none 0 0] 33))
  have hbw : Below w.heap.size w w1 := by (repeat' first | exact Below.refl _ _ | (refine Below.setCell ?_ (by first | omega | (simp; omega) | simp) _) | (refine below_drewN ?_ _) | (refine Below.alloc ?_ (by first | omega | (simp; omega) | simp) _) | (refine Below.trans ?_ (Below.mono (by assumption) (by first | omega | (simp; omega) | simp))))
  have Q2 := Lib.hid q2
  have Q4 := Lib.hid q4
  have HBW := Lib.hid hbw
  clear q2 q4 hbw
  go_wp2_with (first | (go_at_call 89; refine (impl_side _ _).mono ?_; rintro e w2 ⟨rfl, rfl⟩) | (at_make; rw [HN.out]; refine wpList_make_full _ rfl _ _ 29 rfl w1.heap.size 22 i0 (.float .f32 0) 1 Try.underlying29 hi hz0 hz1 .i64 .i64 _ _ N rfl rfl rfl rfl (by rw [hz2]; omega) (by unfold maxLen; omega) (Nat.le_refl _) ?_; intro w2 hown hgrow; have HG := Lib.hid (And.intro hown hgrow); clear hown hgrow))
  obtain ⟨hown, hgrow⟩ := HG.out
  have hblk : ∃ cur : Array Value, w2.heap[w1.heap.size]? = some (.cells cur 22) ∧ cur.size = N := by
    obtain ⟨_, h | ⟨g, c, cur, hv, _, hh, _, _, hs, _⟩⟩ := hown
    · cases h.1
    · simp only [Value.slice.injEq, Option.some.injEq, Addr.mk.injEq] at hv
      obtain ⟨⟨rfl, _⟩, _, rfl⟩ := hv
      exact ⟨cur, hh, by omega⟩
  obtain ⟨cur0, hc0, hs0⟩ := hblk
  have hb2 : Below w1.heap.size w1 w2 := (Below.refl _ _).grown hgrow (Nat.le_refl _) (fun k h => by cases h)
  have hzz2 := hb2.size
  have hlt2 := block_lt hc0
  have HK0 := Lib.hid (show KeepS (w2.alloc (.cells #[.int .i64 W, .int .i64 H, .slice (some ⟨w1.heap.size, 0, none⟩) N N] 33)) w.heap.size (w.heap.size + 1) w2.heap.size w1.heap.size _ _ _ cur0 from ⟨alloc_block (keep_block hb2 Q2.out), alloc_block (keep_block hb2 Q4.out), new_block _ _, alloc_block hc0⟩)
  have HS0 := Lib.hid hs0
  have HB0 := Lib.hid (show Below w.heap.size w (w2.alloc (.cells #[.int .i64 W, .int .i64 H, .slice (some ⟨w1.heap.size, 0, none⟩) N N] 33)) from (HBW.out.trans (hb2.mono (by omega))).alloc (by omega) _)
  clear hown hgrow hc0 hs0 hb2
  have hPg : w.heap.size ≠ w1.heap.size := by omega
  have hQg : w.heap.size + 1 ≠ w1.heap.size := by omega
  have hSg : w2.heap.size ≠ w1.heap.size := by omega
  have hPS : w.heap.size + 1 < w2.heap.size := by omega
  have hPgl : w.heap.size ≤ w1.heap.size := by omega
  go_wp2
  have hHt : (H.toNat : Int) = H := by omega
  have hWt : (W.toNat : Int) = W := by omega
  go_loopw [35] (fun i wr => ∃ (y : Nat) (cur : Array Value), (y : Int) ≤ H ∧ i = .int .i64 (y : Int) ∧ KeepS wr w.heap.size (w.heap.size + 1) w2.heap.size w1.heap.size (.cells #[.int .i64 W, .int .i64 H, .slice a n cap] 33) (.cells #[.int .i64 0, .int .i64 0, .slice none 0 0] 33) (.cells #[.int .i64 W, .int .i64 H, .slice (some ⟨w1.heap.size, 0, none⟩) N N] 33) cur ∧ cur.size = N ∧ Done (W * (y : Int)).toNat f cur ∧ Below w.heap.size w wr)
    (fun i _ => H.toNat - (intOf i).toNat)
  case atStart => exact ⟨0, cur0, by omega, rfl, HK0.out, HS0.out, fun j hj => by simp at hj, HB0.out⟩
  case round =>
    obtain ⟨y, cur, hy, rfl, hk, hs, hd, hb⟩ := hrel
    have HK := Lib.hid hk
    have HSZ := Lib.hid hs
    have HD := Lib.hid hd
    have HB := Lib.hid hb
    have e8 := (cells_of (i := 2) hk.2.2.1).trans (show _ = some (Value.slice (some ⟨w1.heap.size, 0, none⟩) N N) from rfl)
    have e80 := (cells_of (i := 0) hk.2.2.1).trans (show _ = some (Value.int .i64 W) from rfl)
    have e81 := (cells_of (i := 1) hk.2.2.1).trans (show _ = some (Value.int .i64 H) from rfl)
    have l8 := block_lt hk.2.2.1
    clear hk hs hd hb
    by_cases hlt : (y : Int) < H
    · have hr1 : W * ((y : Int) + 1) ≤ (N : Int) := by rw [← HN.out]; exact Int.mul_le_mul_of_nonneg_left (by omega) (by omega)
      have hr2 : W * ((y : Int) + 1) = W * (y : Int) + W := by rw [Int.mul_add, Int.mul_one]
      have hr0 : 0 ≤ W * (y : Int) := Int.mul_nonneg (by omega) (by omega)
      have HRR := Lib.hid (And.intro hr0 (And.intro hr1 hr2))
      clear hr0 hr1 hr2 e80 e81
      go_wp2_with (go_at_call 90; refine (row_run w1.heap.size N N W (y : Int) _ sW (by omega) HRR.out.2.1 (Nat.le_refl _) (by unfold maxLen; omega)).mono ?_; rintro e w3 ⟨rfl, rfl⟩)
      clear e8 l8
      go_loopw [44] (fun i wi => ∃ (x : Nat) (cur : Array Value), (x : Int) ≤ W ∧ i = .int .i64 (x : Int) ∧ KeepS wi w.heap.size (w.heap.size + 1) w2.heap.size w1.heap.size (.cells #[.int .i64 W, .int .i64 H, .slice a n cap] 33) (.cells #[.int .i64 0, .int .i64 0, .slice none 0 0] 33) (.cells #[.int .i64 W, .int .i64 H, .slice (some ⟨w1.heap.size, 0, none⟩) N N] 33) cur ∧ cur.size = N ∧ Done ((W * (y : Int)).toNat + x) f cur ∧ Below w.heap.size w wi)
        (fun i _ => W.toNat - (intOf i).toNat)
      case atStart => exact ⟨0, cur, by omega, rfl, HK.out, HSZ.out, HD.out, HB.out⟩
      case round =>
        clear HK HSZ HD HB
        obtain ⟨x, cur, hx, rfl, hk, hs, hd, hb⟩ := hrel
        have HK := Lib.hid hk
        have HSZ := Lib.hid hs
        have HD := Lib.hid hd
        have HB := Lib.hid hb
        have e20 := (cells_of (i := 0) hk.1).trans (show _ = some (Value.int .i64 W) from rfl)
        have e21 := (cells_of (i := 1) hk.1).trans (show _ = some (Value.int .i64 H) from rfl)
        have e22 := (cells_of (i := 2) hk.1).trans (show _ = some (Value.slice a n cap) from rfl)
        clear hk hs hd hb
        by_cases hltx : (x : Int) < W
        · have hxn : x < W.toNat := by omega
          have hJ : (W * (y : Int)).toNat + x < N := by have := HRR.out; omega
          go_wp2_with fail
          refine (HC.out x y _ hltx hlt HB.out).mono ?_
          rintro e w4 ⟨r, rfl, hr, hb4⟩
          have hk4 := HK.out.later hb4
          have HK4 := Lib.hid hk4
          have hdst : w4.cell? ⟨w1.heap.size, (W * (y : Int)).toNat + x, none⟩ = some cur[(W * (y : Int)).toNat + x]! := by
            rw [cells_of hk4.2.2.2]
            have : (W * (y : Int)).toNat + x < cur.size := by rw [HSZ.out]; exact hJ
            simp [this]
          generalize cur[(W * (y : Int)).toNat + x]! = old at *
          have hfree := free_of hk4.2.2.2 ((W * (y : Int)).toNat + x)
          have HB4 := Lib.hid (HB.out.trans (hb4.mono HB.out.size))
          clear hk4 hb4 e20 e21 e22
          go_wp2
          go_roundw
          case rel => exact ⟨x + 1, _, by omega, by go_num, HK4.out.store hPg hQg hSg _ _, by simpa using HSZ.out, HD.out.next hr (by rw [HSZ.out]; exact hJ), HB4.out.setCell hPgl _⟩
          case measure => simp [intOf]; omega
        · have hxe : (x : Int) = W := by omega
          have HX := Lib.hid hxe
          clear hxe e20 e21 e22
          go_wp2
          go_roundw
          case rel =>
            refine ⟨y + 1, cur, by omega, by go_num, HK.out, HSZ.out, ?_, HB.out⟩
            have h := HD.out
            have hr := HRR.out
            have hx2 := HX.out
            have e2 : ((y + 1 : Nat) : Int) = (y : Int) + 1 := by omega
            have e : (W * ((y + 1 : Nat) : Int)).toNat = (W * (y : Int)).toNat + x := by
              rw [e2]
              omega
            rw [e]
            exact h
          case measure => simp [intOf]; omega
    · have hye : (y : Int) = H := by omega
      have hNe : (W * (y : Int)).toNat = N := by rw [hye, HN.out]; rfl
      have hd := HD.out
      rw [hNe] at hd
      have hio : ∀ w', w'.heap[w1.heap.size]? = some (.cells cur 22) → IsO w.heap.size w2.heap.size w' (some ⟨w1.heap.size, 0, none⟩) N N f := fun w' hw => ⟨Nat.le_refl _, by unfold maxLen; omega, w1.heap.size, cur, fun _ => ⟨rfl, hPgl, hlt2, hw⟩, by rw [HSZ.out]; exact Nat.le_refl _, hd⟩
      have HIO := Lib.hid hio
      have HYE := Lib.hid hye
      clear hio hd hye hNe
      go_wp2_with fail
      refine (HCH.out _ _ _ (HIO.out _ HK.out.2.2.2).y).mono ?_
      rintro e w5 ⟨rfl, hb5⟩
      have hk5 := HK.out.later hb5
      have HK5 := Lib.hid hk5
      have hz5 := hb5.size
      have e40 := (cells_of (i := 0) hk5.2.1).trans (show _ = some (Value.int .i64 0) from rfl)
      have e41 := (cells_of (i := 1) hk5.2.1).trans (show _ = some (Value.int .i64 0) from rfl)
      have e42 := (cells_of (i := 2) hk5.2.1).trans (show _ = some (Value.slice none 0 0) from rfl)
      have f40 := free_of hk5.2.1 0
      have f41 := free_of hk5.2.1 1
      have f42 := free_of hk5.2.1 2
      have HB5 := Lib.hid (HB.out.trans (hb5.mono HB.out.size))
      have l5 := block_lt hk5.2.2.1
      clear hk5 hb5 e8 e80 e81
      cases A
      · go_wp2
        have hR := HR.out
        simp only [Bool.false_eq_true, if_false] at hR
        obtain ⟨rfl, rfl, rfl⟩ := hR
        refine bodyPost_ret ?ohr rfl ⟨none, 0, rfl, isO_nil _ _ _ _, ?obel⟩
        case ohr => simp [results, Try.results50, go_sem, *]
        case obel => exact Below.setCell (Below.setCell (Below.setCell HB5.out (Nat.le_succ _) _) (Nat.le_succ _) _) (Nat.le_succ _) _
      · go_wp2
        have hR := HR.out
        simp only [if_true] at hR
        obtain ⟨rfl, rfl, rfl⟩ := hR
        refine bodyPost_ret ?ohr rfl ⟨some ⟨w1.heap.size, 0, none⟩, N, rfl, ?oio, ?obel⟩
        case ohr => simp [results, Try.results50, go_sem, *]
        case oio =>
          refine (HIO.out _ (by rw [set_keep _ _ _ (by omega), set_keep _ _ _ (by omega), set_keep _ _ _ (by omega)]; exact HK5.out.2.2.2)).wider (by omega) (by simp; omega)
        case obel => exact Below.setCell (Below.setCell (Below.setCell HB5.out (Nat.le_succ _) _) (Nat.le_succ _) _) (Nat.le_succ _) _

end Ba
end Go.Proofs.Ytjkkefbfhapblab
