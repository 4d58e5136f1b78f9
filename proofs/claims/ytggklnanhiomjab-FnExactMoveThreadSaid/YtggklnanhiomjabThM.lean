/- Threads whose points are changed one by one: the program's function, for any function value. -/
import Derived.Test.YtggklnanhiomjabThP
namespace Go.Proofs.Ytggklnanhiomjab
set_option linter.unusedSimpArgs false
set_option linter.unusedVariables false
open Go.RowKit
set_option maxRecDepth 20000
namespace Th
open Fl Rate

end Th
namespace Loose
open Fl
variable {P : Program} {ops : Array Oper} {K : Act → Prop} {a : Act} {o : Oper} {B : Nat} {w0 : World} {bx : List (Nat × Obj)}

/-- A call that answers a vector, in whatever world of the region. -/
theorem turn_callVB (hB : B ≤ w0.heap.size) {c0 c1 c2 : Option Nat} {f : FuncId} {args : Array Value} (hwant : Region.wanted o (yielded ops a.tmps) = true) (hd : away o.dst bx = true)
    (hrun : ∀ w', (execOp a.eval o).run P w' = .ok (.enter f args) w') (hcall : ∀ w', Below B w0 w' → Calls P f args w' (RetV c0 c1 c2 w')) (hk : ∀ x y z, Fr .f32 x c0 → Fr .f32 y c1 → Fr .f32 z c2 → K (a.put o.dst (.agg #[.float .f32 x, .float .f32 y, .float .f32 z]))) :
    turn P ops (Cls B w0 bx) (fun u => ∃ x y z, u = .agg #[.float .f32 x, .float .f32 y, .float .f32 z] ∧ Fr .f32 x c0 ∧ Fr .f32 y c1 ∧ Fr .f32 z c2) o K a := by
  refine turn_set hwant ?_ (fun a' w _ hw => ?_) (fun v hv => by obtain ⟨x, y, z, rfl, hx, hy, hz⟩ := hv; exact hk x y z hx hy hz)
  · obtain ⟨_, w2, fr, ⟨x, y, z, _, hx, hy, hz, _⟩, _⟩ := hcall w0 (Below.refl _ _) []
    exact ⟨_, x, y, z, rfl, hx, hy, hz⟩
  · rw [hrun w]
    exact (hcall w hw.1).mono fun e w'' ⟨x, y, z, he, hx, hy, hz, hb⟩ => ⟨_, he, ⟨x, y, z, rfl, hx, hy, hz⟩, (hw.later hB hb).put hd _⟩
end Loose
namespace Th
open Fl Rate

/-- A thread and whether there is one. -/
def RetB (R : Bool) (s n : Nat) (c : Nat → Option Nat) (w : World) (e : Ending) (w' : World) : Prop :=
  ∃ a cap, e = .returned (.tuple #[tV a n cap s, .bool R]) ∧ IsR w.heap.size w'.heap.size w' a n cap c ∧ Below w.heap.size w w'

def RetG (R : Bool) (s n : Nat) (c : Nat → Option Nat) (w : World) (e : Ending) (w' : World) : Prop := RetB R (if R then s else 0) (if R then n else 0) c w e w'

theorem retG_no {s n : Nat} {f : Nat → Option Nat} {w w' : World} (hb : Below w.heap.size w w') : RetG false s n f w (.returned (.tuple #[tV none 0 0 0, .bool false])) w' := ⟨none, 0, rfl, isR_nil _ _ _ _, hb⟩

/-- Blocks that stay while the points of one row are written. -/
def KeepS (w : World) (P Q S g : Nat) (o2 o4 o8 : Obj) (cur : Array Value) : Prop := w.heap[P]? = some o2 ∧ w.heap[Q]? = some o4 ∧ w.heap[S]? = some o8 ∧ w.heap[g]? = some (.cells cur 49)

theorem KeepS.later {w w' : World} {P Q S g : Nat} {o2 o4 o8 : Obj} {cur : Array Value} (h : KeepS w P Q S g o2 o4 o8 cur) (hb : Below w.heap.size w w') : KeepS w' P Q S g o2 o4 o8 cur :=
  ⟨keep_block hb h.1, keep_block hb h.2.1, keep_block hb h.2.2.1, keep_block hb h.2.2.2⟩

theorem KeepS.store {w : World} {P Q S g : Nat} {o2 o4 o8 : Obj} {cur : Array Value} (h : KeepS w P Q S g o2 o4 o8 cur) (hP : P ≠ g) (hQ : Q ≠ g) (hS : S ≠ g) (i : Nat) (v : Value) : KeepS (w.setCell ⟨g, i, none⟩ v) P Q S g o2 o4 o8 (cur.setIfInBounds i v) :=
  ⟨by rw [set_keep _ _ _ hP]; exact h.1, by rw [set_keep _ _ _ hQ]; exact h.2.1, by rw [set_keep _ _ _ hS]; exact h.2.2.1, setCell_block h.2.2.2 i v⟩

set_option maxHeartbeats 6400000 in
theorem each_point (a : Option Addr) (n cap s : Nat) (cs : Option Nat) (c : Nat → Option Nat) (fn : FuncId) (caps : Array Value) (f : Nat → Option Nat) (w : World) (h : IsV w a n cap c) (fs : Fr .f32 s cs)
    (hfn : ∀ (args : Array Value) (w : World), (callFunc fn args).run Try.prog w = .ok (.enter fn args) w)
    (hcall : ∀ (k : Nat) (w' : World), k < n → Below w.heap.size w w' → ∀ x y z, Fr .f32 x (c (k * 3)) → Fr .f32 y (c (k * 3 + 1)) → Fr .f32 z (c (k * 3 + 2)) → Calls Try.prog fn (#[.agg #[.float .f32 x, .float .f32 y, .float .f32 z]] ++ caps) w' (RetV (f (k * 3)) (f (k * 3 + 1)) (f (k * 3 + 2)) w'))
    (R : Bool) (hR : (okT n cs c && allV f n) = R) :
    Calls Try.prog 78 #[tV a n cap s, .func (Fn.func fn) #[] caps] w (RetG R s n f w) := by
  have HI := Lib.hid (fun A hA w' (hb : Below w.heap.size w w') => impl_is a n cap s cs c w' (h.later hb) fs A hA)
  cases hA : okT n cs c
  · rw [hA] at hR
    obtain rfl : R = false := by rw [← hR]; rfl
    clear hR hcall
    have HI2 := Lib.hid (HI.out false hA)
    clear HI hA h
    go_enter Try.func78, Try.ntmps78
    go_wp2_with fail
    refine (HI2.out _ (by (repeat' first | exact Below.refl _ _ | (refine Below.setCell ?_ (by first | omega | (simp; omega) | simp) _) | (refine below_drewN ?_ _) | (refine Below.alloc ?_ (by first | omega | (simp; omega) | simp) _) | (refine Below.trans ?_ (Below.mono (by assumption) (by first | omega | (simp; omega) | simp)))))).mono ?_
    rintro e w1 ⟨rfl, hb1⟩
    have hz1 := hb1.size
    simp only [World.size_alloc] at hz1
    obtain ⟨hc1, hf1⟩ := Fl.bcell hb1
    have g1 : w.heap.size < w1.heap.size := by omega
    have g2 : w.heap.size + 1 < w1.heap.size := by omega
    go_wp2
    refine bodyPost_ret ?ohr rfl (retG_no ?obel)
    case ohr => simp [results, Try.results78, go_sem, *]
    case obel => (repeat' first | exact Below.refl _ _ | (refine Below.setCell ?_ (by first | omega | (simp; omega) | simp) _) | (refine below_drewN ?_ _) | (refine Below.alloc ?_ (by first | omega | (simp; omega) | simp) _) | (refine Below.trans ?_ (Below.mono (by assumption) (by first | omega | (simp; omega) | simp))))
  rw [hA] at hR
  obtain ⟨hn3, hn32, hsf, _⟩ := okT_of hA
  have hR' : allV f n = R := hR
  have hok : okT n cs f = R := by
    unfold okT
    rw [hsf, hR', decide_eq_true (show (3 : Int) ≤ n by omega), decide_eq_true (show (n : Int) ≤ 32 by omega)]; rfl
  have HCH := Lib.hid (fun a cap w (h : IsV w a n cap f) => impl_checked a n cap s cs f w h fs R hok)
  have HI2 := Lib.hid (HI.out true hA)
  have HC := Lib.hid hcall
  have HY := Lib.hid h
  obtain ⟨s', hs'⟩ : ∃ s', (if R then s else 0) = s' := ⟨_, rfl⟩
  obtain ⟨N', hN'⟩ : ∃ N', (if R then n else 0) = N' := ⟨_, rfl⟩
  show Calls _ _ _ w (RetB R _ _ f w)
  rw [hs', hN']
  have HR := Lib.hid (And.intro hs' hN')
  obtain ⟨h2, h3, b, off, h5, h6⟩ := h
  obtain rfl := h5 (by omega)
  have H6 := Lib.hid h6
  have hlb : b < w.heap.size := by obtain ⟨x, hx, _⟩ := h6 0 (by omega); exact block_lt_of_cell hx
  clear hA hR hR' hok hcall hs' hN' h5 h6 HI
  unfold maxLen at h3
  go_enter Try.func78, Try.ntmps78
  go_wp2_with fail
  refine (HI2.out _ (by (repeat' first | exact Below.refl _ _ | (refine Below.setCell ?_ (by first | omega | (simp; omega) | simp) _) | (refine below_drewN ?_ _) | (refine Below.alloc ?_ (by first | omega | (simp; omega) | simp) _) | (refine Below.trans ?_ (Below.mono (by assumption) (by first | omega | (simp; omega) | simp)))))).mono ?_
  rintro e w1 ⟨rfl, hb1⟩
  have hzz1 := hb1.size
  simp only [World.size_alloc] at hzz1
  have q2 := keep_block hb1 (alloc_block (o' := .cells #[.slice none 0 0, .float .f32 0] 25) (new_block w (.cells #[.slice (some ⟨b, off, none⟩) n cap, .float .f32 s] 25)))
  have q4 : w1.heap[w.heap.size + 1]? = some (.cells #[.slice none 0 0, .float .f32 0] 25) := keep_block hb1 (by simpa using new_block (w.alloc (.cells #[.slice (some ⟨b, off, none⟩) n cap, .float .f32 s] 25)) (.cells #[.slice none 0 0, .float .f32 0] 25))
  have hbw : Below w.heap.size w w1 := by (repeat' first | exact Below.refl _ _ | (refine Below.setCell ?_ (by first | omega | (simp; omega) | simp) _) | (refine below_drewN ?_ _) | (refine Below.alloc ?_ (by first | omega | (simp; omega) | simp) _) | (refine Below.trans ?_ (Below.mono (by assumption) (by first | omega | (simp; omega) | simp))))
  have Q2 := Lib.hid q2
  have Q4 := Lib.hid q4
  have HBW := Lib.hid hbw
  have l2 := block_lt q2
  have l4 := block_lt q4
  have e20 := (cells_of (i := 0) q2).trans (show _ = some (.slice (some ⟨b, off, none⟩) n cap) from rfl)
  have e21 := (cells_of (i := 1) q2).trans (show _ = some (.float .f32 s) from rfl)
  clear q2 q4 hbw hb1
  go_wp2_with fail
  refine (clone_run w.heap.size _ n cap s c _ e20 e21 (HY.out.later HBW.out) ⟨hn3, hn32⟩).mono ?_
  rintro e w2 ⟨a2, cap2, rfl, ho2, hb2⟩
  obtain ⟨k2, k3, g, cur0, k5, k6, k7⟩ := ho2
  obtain ⟨rfl, hgB, hgL, hgh⟩ := k5 (by omega)
  have hz2 := hb2.size
  have HK0 := Lib.hid (show KeepS (w2.alloc (.cells #[.slice (some ⟨g, 0, none⟩) n cap2, .float .f32 s] 25)) w.heap.size (w.heap.size + 1) w2.heap.size g (.cells #[.slice (some ⟨b, off, none⟩) n cap, .float .f32 s] 25) (.cells #[.slice none 0 0, .float .f32 0] 25) _ cur0 from ⟨alloc_block (keep_block hb2 Q2.out), alloc_block (keep_block hb2 Q4.out), new_block _ _, alloc_block hgh⟩)
  have HS0 := Lib.hid k6
  have HB0 := Lib.hid (show Below w.heap.size w (w2.alloc (.cells #[.slice (some ⟨g, 0, none⟩) n cap2, .float .f32 s] 25)) from (HBW.out.trans (hb2.mono (by omega))).alloc (by omega) _)
  have hPg : w.heap.size ≠ g := by omega
  have hQg : w.heap.size + 1 ≠ g := by omega
  have hSg : w2.heap.size ≠ g := by omega
  have hPgl : w.heap.size ≤ g := by omega
  have hc2 := HK0.out.1
  have e20' := (cells_of (i := 0) hc2).trans (show _ = some (.slice (some ⟨b, off, none⟩) n cap) from rfl)
  have lP := block_lt hc2
  clear hb2 hgh k5 k6 k7 hc2 e20 e21
  go_wp2
  clear e20' lP
  go_loopw [17] (fun i wr => ∃ (k : Nat) (cur : Array Value), k ≤ n ∧ i = .int .i64 (k : Int) ∧ KeepS wr w.heap.size (w.heap.size + 1) w2.heap.size g (.cells #[.slice (some ⟨b, off, none⟩) n cap, .float .f32 s] 25) (.cells #[.slice none 0 0, .float .f32 0] 25) (.cells #[.slice (some ⟨g, 0, none⟩) n cap2, .float .f32 s] 25) cur ∧ n * 3 ≤ cur.size ∧ Done (k * 3) f cur ∧ Below w.heap.size w wr)
    (fun i _ => n - (intOf i).toNat)
  case atStart => exact ⟨0, cur0, by omega, rfl, HK0.out, HS0.out, fun j hj => absurd hj (by omega), HB0.out⟩
  case round =>
    obtain ⟨k, cur, hk, rfl, hks, hs, hd, hb⟩ := hrel
    have HK := Lib.hid hks
    have HSZ := Lib.hid hs
    have HD := Lib.hid hd
    have HB := Lib.hid hb
    have e8 := (cells_of (i := 0) hks.2.2.1).trans (show _ = some (Value.slice (some ⟨g, 0, none⟩) n cap2) from rfl)
    have e81 := (cells_of (i := 1) hks.2.2.1).trans (show _ = some (Value.float .f32 s) from rfl)
    have l8 := block_lt hks.2.2.1
    clear hks hs hd hb
    by_cases hlt : k < n
    · obtain ⟨x, y, z, hx, hy, hz, fx, fy, fz, hbr⟩ := at_v H6.out hlt HB.out
      clear e81
      go_wp2_with fail
      obtain ⟨wz, hwz⟩ : ∃ u, u = wr.alloc (.cells #[.float .f32 x, .float .f32 y, .float .f32 z] 49) := ⟨_, rfl⟩
      rw [← hwz]
      have hzz : wz.heap.size = wr.heap.size + 1 := by rw [hwz]; simp
      have zq : wz.heap[wr.heap.size]? = some (.cells #[.float .f32 x, .float .f32 y, .float .f32 z] 49) := by rw [hwz]; exact new_block _ _
      have z0 := (cells_of (i := 0) zq).trans (show _ = some (.float .f32 x) from rfl)
      have z1 := (cells_of (i := 1) zq).trans (show _ = some (.float .f32 y) from rfl)
      have z2 := (cells_of (i := 2) zq).trans (show _ = some (.float .f32 z) from rfl)
      have hbz : Below wr.heap.size wr wz := by rw [hwz]; exact (Below.refl _ _).alloc (Nat.le_refl _) _
      have hkz := HK.out.later hbz
      have e8z := (cells_of (i := 0) hkz.2.2.1).trans (show _ = some (Value.slice (some ⟨g, 0, none⟩) n cap2) from rfl)
      have lwr : wr.heap.size < wz.heap.size := by omega
      have l8z := block_lt hkz.2.2.1
      have HKZ := Lib.hid hkz
      have HBZ := Lib.hid (HB.out.trans (hbz.mono HB.out.size))
      have HCZ := Lib.hid (fun w' (hw' : Below wz.heap.size wz w') => HC.out k w' hlt (HBZ.out.trans (hw'.mono HBZ.out.size)) x y z fx fy fz)
      clear hwz zq hbz hkz e8 hx hy hz fx fy fz l8 hzz
      refine Loose.wp_region_below 6 [] (by kernel_rfl) (by kernel_rfl) (by simp [undef]) ?_
      apply Exists.intro
      simp only [List.take_succ_cons, List.take_zero, List.drop_succ_cons, List.drop_zero]
      repeat (first | (apply Loose.walk_step; intro K hK; apply Loose.turn_value (hwant := rfl) (hd := rfl); (focus (intro w' hw'; obtain ⟨hc, hf⟩ := Fl.bcell hw'; go_simp; first | done | rfl | exact ⟨rfl, rfl⟩)); go_simp; refine hK _ ?_; clear hK K) | (apply Loose.walk_step; intro K hK; apply Loose.turn_callVB (Nat.le_refl _) (hwant := rfl) (hd := rfl); (focus (intro w'; go_simp; first | done | rfl | exact ⟨rfl, rfl⟩)); (focus (intro w' hw'; exact HCZ.out w' hw')); intro x4 y4 z4 fx4 fy4 fz4; go_simp; refine hK _ ?_; clear hK K))
      refine Loose.walk_nil ?_
      intro w4 hcls4
      obtain ⟨hb4, _⟩ := hcls4
      obtain ⟨hc4, hf4⟩ := Fl.bcell hb4
      have hz4 := hb4.size
      try simp only [World.size_alloc, World.size_setCell, World.heap_drewN, World.size_drew] at hz4
      have hk4 := HKZ.out.later hb4
      have hdx : w4.cell? ⟨g, k * 3, none⟩ = some cur[k * 3]! := by
        rw [cells_of hk4.2.2.2]
        have : k * 3 < cur.size := by have := HSZ.out; omega
        simp [this]
      have hdy : w4.cell? ⟨g, k * 3 + 1, none⟩ = some cur[k * 3 + 1]! := by
        rw [cells_of hk4.2.2.2]
        have : k * 3 + 1 < cur.size := by have := HSZ.out; omega
        simp [this]
      have hdz : w4.cell? ⟨g, k * 3 + 2, none⟩ = some cur[k * 3 + 2]! := by
        rw [cells_of hk4.2.2.2]
        have : k * 3 + 2 < cur.size := by have := HSZ.out; omega
        simp [this]
      generalize cur[k * 3]! = o0 at *
      generalize cur[k * 3 + 1]! = o1 at *
      generalize cur[k * 3 + 2]! = o2 at *
      have hfx := free_of hk4.2.2.2 (k * 3)
      have hfy := free_of hk4.2.2.2 (k * 3 + 1)
      have hfz := free_of hk4.2.2.2 (k * 3 + 2)
      have HK4 := Lib.hid hk4
      have F4 := Lib.hid (And.intro fx4 (And.intro fy4 fz4))
      have HB4 := Lib.hid (HBZ.out.trans (hb4.mono HBZ.out.size))
      clear hk4 hb4 hc4 hf4 z0 z1 z2 e8z fx4 fy4 fz4
      go_wp2
      go_roundw
      case rel =>
        refine ⟨k + 1, _, by omega, by go_num, ((HK4.out.store hPg hQg hSg (k * 3) _).store hPg hQg hSg (k * 3 + 1) _).store hPg hQg hSg (k * 3 + 2) _, by simpa using HSZ.out, HD.out.three (by have := HSZ.out; omega) F4.out.1 F4.out.2.1 F4.out.2.2, ?_⟩
        exact ((HB4.out.setCell hPgl _).setCell hPgl _).setCell hPgl _
      case measure => simp [intOf]; omega
    · obtain rfl : n = k := by omega
      have hio : ∀ w', w'.heap[g]? = some (.cells cur 49) → IsR w.heap.size w2.heap.size w' (some ⟨g, 0, none⟩) n cap2 f := fun w' hw => ⟨k2, k3, g, cur, fun _ => ⟨rfl, hPgl, hgL, hw⟩, HSZ.out, HD.out⟩
      have HIO := Lib.hid hio
      clear hio
      go_wp2_with fail
      refine (HCH.out _ _ _ (HIO.out _ HK.out.2.2.2).v).mono ?_
      rintro e w5 ⟨rfl, hb5⟩
      have hk5 := HK.out.later hb5
      have HK5 := Lib.hid hk5
      have hz5 := hb5.size
      have e40 := (cells_of (i := 0) hk5.2.1).trans (show _ = some (Value.slice none 0 0) from rfl)
      have e41 := (cells_of (i := 1) hk5.2.1).trans (show _ = some (Value.float .f32 0) from rfl)
      have f40 := free_of hk5.2.1 0
      have f41 := free_of hk5.2.1 1
      have HB5 := Lib.hid (HB.out.trans (hb5.mono HB.out.size))
      have l5 := block_lt hk5.2.2.1
      clear hk5 hb5 e8 e81
      cases R
      · go_wp2
        have hR := HR.out
        simp only [Bool.false_eq_true, if_false] at hR
        obtain ⟨rfl, rfl⟩ := hR
        refine bodyPost_ret ?ohr rfl ⟨none, 0, rfl, isR_nil _ _ _ _, ?obel⟩
        case ohr => simp [results, Try.results78, go_sem, *]
        case obel => exact Below.setCell (Below.setCell HB5.out (Nat.le_succ _) _) (Nat.le_succ _) _
      · go_wp2
        have hR := HR.out
        simp only [if_true] at hR
        obtain ⟨rfl, rfl⟩ := hR
        refine bodyPost_ret ?ohr rfl ⟨some ⟨g, 0, none⟩, cap2, rfl, ?oio, ?obel⟩
        case ohr => simp [results, Try.results78, go_sem, *]
        case oio =>
          refine (HIO.out _ (by rw [set_keep _ _ _ (by omega), set_keep _ _ _ (by omega)]; exact HK5.out.2.2.2)).wider (by omega) (by simp; omega)
        case obel => exact Below.setCell (Below.setCell HB5.out (Nat.le_succ _) _) (Nat.le_succ _) _

end Th
end Go.Proofs.Ytggklnanhiomjab
