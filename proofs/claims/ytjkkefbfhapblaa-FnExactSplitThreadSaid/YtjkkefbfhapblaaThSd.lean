/- A thread split: the program's function. -/
import Derived.Test.YtjkkefbfhapblaaThSc
import Derived.Test.YtjkkefbfhapblaaThJs
import Derived.Test.YtjkkefbfhapblaaThSb
namespace Go.Proofs.Ytjkkefbfhapblaa
set_option linter.unusedSimpArgs false
set_option linter.unusedVariables false
open Go.RowKit
set_option maxRecDepth 20000
namespace LooseL
open Loose LooseP
section
variable {P : Program} {ops : Array Oper} {pre : Nat → Bool} {s k : Nat} {Q : Act → Prop} {o : Oper} {rest : List Oper} {V : Value → Prop} {Vs : List (Value → Prop)} {a : Act} {C0 C1 : Act → World → Prop}

/-- The operation with the mark is a call. -/
theorem walk_callM {d : Nat} {f : FuncId} {args : Array Value} (hks : k = s) (hwant : Region.wanted o (yielded ops a.tmps) = true) (hdst : o.dst = some d) (hV : ∃ v, V v)
    (henter : ∀ w', (execOp a.eval o).run P w' = .ok (.enter f args) w')
    (hrun : ∀ a' w, Like o a' a → C0 a' w → Calls P f args w (fun e w'' => ∃ v, e = .returned v ∧ V v ∧ C1 (a'.put (some d) v) w''))
    (h : ∀ v, V v → walk P ops pre s (two C0 C1) Q (k + 1) rest Vs (a.put (some d) v)) : walk P ops pre s (two C0 C1) Q k (o :: rest) (V :: Vs) a := by
  subst hks
  refine turn_mark (C := two C0 C1) hwant hV (fun a' w hl hc => ?_) (fun v hv => ?_)
  · rw [henter w]
    refine (hrun a' w hl hc).mono fun e w'' ⟨v, he, hv, h1⟩ => ⟨v, he, hv, ?_⟩
    rw [hdst]
    exact h1
  · rw [hdst]; exact h v hv
end
end LooseL
namespace Th
open Fl Rate

/-- The points between, and those around. -/
def cutA (i : Nat) (c : Nat → Option Nat) : Nat → Option Nat := fun j => c (j + i * 3)
def cutB (n k : Nat) (c : Nat → Option Nat) : Nat → Option Nat := fun j => if j < (n - k) * 3 then c (j + k * 3) else c (j - (n - k) * 3)

/-- A row of two lists that a region has made. -/
def phiL (B : Nat) (ob : Obj) (v : Value) (w : World) : Prop := ∃ b, v = .slice (some ⟨b, 0, none⟩) 2 2 ∧ B ≤ b ∧ w.heap[b]? = some ob

theorem phiL_stable (B : Nat) (ob : Obj) : LooseP.Stable (phiL B ob) := by
  rintro v w w' ⟨b, h1, h2, h3⟩ hb
  exact ⟨b, h1, h2, keep_block hb h3⟩

/-- Of two slots: their rows are not the same. -/
def Apart (d d' : Nat) (a : Act) : Prop := ∀ v v', a.tmps[d]? = some v → v ≠ undef → a.tmps[d']? = some v' → v' ≠ undef → v.ownBlock ≠ v'.ownBlock

theorem apart_put {a : Act} {B B' n m cap g : Nat} {f : Nat → Option Nat} {w0 w w' : World} {ds : List (Nat × (Value → World → Prop))} {xs : List Value} (hc : LooseP.Cls B' w0 ds a w) (hm : ((40 : Nat), phiW B n f) ∈ ds) (ho : w'.ownsRow w.heap.size 28 3 (.slice (some ⟨g, 0, none⟩) m cap) m xs) : Apart 40 50 (a.put (some 50) (.slice (some ⟨g, 0, none⟩) m cap)) := by
  intro v v' hv hn hv' hn'
  rw [Loose.put_other (by decide)] at hv
  obtain ⟨g1, cap1, ys, rfl, k2, _⟩ := hc.2 _ hm v hv hn
  have h1 := (k2.lt g1 rfl).2
  have h2 := (ho.lt g rfl).1
  have e : v' = .slice (some ⟨g, 0, none⟩) m cap := by
    simp only [Act.put] at hv'
    have hin : 50 < a.tmps.size := by
      have := (Array.getElem?_eq_some_iff.1 hv').1; simpa using this
    rw [Array.getElem?_setIfInBounds_self_of_lt hin] at hv'
    exact (Option.some.inj hv').symm
  rw [e]
  simp [Value.ownBlock]
  omega

theorem src_cut {w : World} {b off n p m : Nat} {c : Nat → Option Nat} {xs : List Value} (hlb : b < w.heap.size) (hx1 : xs.length = n * 3) (hx2 : ∀ j u, xs[j]? = some u → w.cell? ((⟨b, off, none⟩ : Addr).add j) = some u) (hx3 : ∀ i, i < n * 3 → ∃ x, xs[i]? = some (.float .f32 x) ∧ Fr .f32 x (c i)) (hpm : p + m ≤ n) :
    Src3 w ⟨b, off + p * 3, none⟩ m (fun j => c (j + p * 3)) ((xs.drop (p * 3)).take (m * 3)) := by
  refine ⟨⟨by rw [List.length_take, List.length_drop, hx1]; omega, fun j hj => ?_⟩, fun w' hb' j v hv => ?_⟩
  · obtain ⟨x, k1, k2⟩ := hx3 (j + p * 3) (by omega)
    exact ⟨x, by rw [List.getElem?_take_of_lt hj, List.getElem?_drop, Nat.add_comm]; exact k1, k2⟩
  · rw [List.getElem?_take] at hv
    split at hv
    · rw [List.getElem?_drop] at hv
      have hq := hx2 _ _ hv
      rw [show (⟨b, off, none⟩ : Addr).add (p * 3 + j) = ⟨b, off + (p * 3 + j), none⟩ by simp [Addr.add_lit]] at hq
      rw [show (⟨b, off + p * 3, none⟩ : Addr).add j = ⟨b, off + (p * 3 + j), none⟩ by simp [Addr.add_lit, Nat.add_assoc]]
      rw [hb'.cell (p := ⟨b, off + (p * 3 + j), none⟩) hlb]; exact hq
    · cases hv

theorem isR_self {w : World} {B n g cap : Nat} {f : Nat → Option Nat} {xs : List Value} (h : w.ownsRow B 28 3 (.slice (some ⟨g, 0, none⟩) n cap) n xs) (hp : FP (n * 3) f xs) : IsR g (g + 1) w (some ⟨g, 0, none⟩) n cap f := by
  obtain ⟨h1, ⟨hv, _⟩ | ⟨g', cap', cur, hv, hB, hh, hn, hm, hs, ht⟩⟩ := h
  · cases hv
  obtain ⟨rfl, rfl⟩ : g = g' ∧ cap = cap' := by simpa using hv
  refine ⟨hn, hm, g, cur, fun _ => ⟨rfl, Nat.le_refl _, Nat.lt_succ_self _, hh⟩, by omega, fun i hi => ?_⟩
  obtain ⟨x, k1, k2⟩ := hp.2 i hi
  refine ⟨x, ?_, k2⟩
  rw [← ht, List.getElem?_take_of_lt (by omega)] at k1
  simpa using k1

theorem three_stableS {φ ψ : Value → World → Prop} {d d' : Nat} (h : LooseP.Stable φ) (h' : LooseP.Stable ψ) : ∀ p ∈ [(d, φ), (d', ψ)], LooseP.Stable p.2 := duo_stableW h h'

/-- Two threads, and whether there are. -/
def RetS (R : Bool) (s n n' : Nat) (f f' : Nat → Option Nat) (w : World) (e : Ending) (w' : World) : Prop :=
  ∃ a cap b cap' B L B' L', e = .returned (.tuple #[tV a n cap s, tV b n' cap' s, .bool R]) ∧ IsR B L w' a n cap f ∧ IsR B' L' w' b n' cap' f' ∧ w.heap.size ≤ B ∧ B ≤ L ∧ L ≤ w'.heap.size ∧ w.heap.size ≤ B' ∧ B' ≤ L' ∧ L' ≤ w'.heap.size ∧ (L ≤ B' ∨ L' ≤ B) ∧ Below w.heap.size w w'

theorem retS_no {f f' : Nat → Option Nat} {w w' : World} (hb : Below w.heap.size w w') : RetS false 0 0 0 f f' w (.returned (.tuple #[tV none 0 0 0, tV none 0 0 0, .bool false])) w' :=
  ⟨none, 0, none, 0, w.heap.size, w.heap.size, w.heap.size, w.heap.size, rfl, isR_nil _ _ _ _, isR_nil _ _ _ _, Nat.le_refl _, Nat.le_refl _, hb.size, Nat.le_refl _, Nat.le_refl _, hb.size, .inl (Nat.le_refl _), hb⟩

def splitB (n : Nat) (i k : Int) (cs : Option Nat) (c : Nat → Option Nat) : Bool :=
  ((((okT n cs c && ptB n i) && ptB n k) && decide (i < k)) && okT (k.toNat - i.toNat) cs (cutA i.toNat c)) && okT (n - k.toNat + i.toNat) cs (cutB n k.toNat c)

set_option maxHeartbeats 12800000 in
theorem impl_SplitT (a : Option Addr) (n cap s : Nat) (cs : Option Nat) (c : Nat → Option Nat) (w : World) (h : IsV w a n cap c) (fs : Fr .f32 s cs) (i k : Int) (R : Bool) (hR : splitB n i k cs c = R) :
    Calls Try.prog 38 #[tV a n cap s, .int .i64 i, .int .i64 k] w (RetS R (if R then s else 0) (if R then k.toNat - i.toNat else 0) (if R then n - k.toNat + i.toNat else 0) (cutA i.toNat c) (cutB n k.toNat c) w) := by
  have HA0 := Lib.hid (fun A hA w' (hb : Below w.heap.size w w') => impl_is a n cap s cs c w' (h.later hb) fs A hA)
  cases hA : okT n cs c
  · obtain rfl : R = false := by rw [← hR]; unfold splitB; rw [hA]; rfl
    show Calls _ _ _ w (RetS false 0 0 0 _ _ w)
    have HA := Lib.hid (HA0.out false hA)
    clear hR h HA0 hA
    go_enter Try.func38, Try.ntmps38
    go_wp2_with fail
    obtain ⟨wc, hwc⟩ : ∃ u, u = ((w.alloc (.cells #[.slice a n cap, .float .f32 s] 33)).alloc (.cells #[.slice none 0 0, .float .f32 0] 33)).alloc (.cells #[.slice none 0 0, .float .f32 0] 33) := ⟨_, rfl⟩
    rw [← hwc]
    have HK := Lib.hid (show Box3 w.heap.size wc (.cells #[.slice a n cap, .float .f32 s] 33) (.cells #[.slice none 0 0, .float .f32 0] 33) (.cells #[.slice none 0 0, .float .f32 0] 33) from by rw [hwc]; exact three_boxes _ _ _ _)
    have HBW := Lib.hid (show Below w.heap.size w wc from by rw [hwc]; exact three_below _ _ _ _)
    clear hwc
    have e0 := (cells_of (i := 0) HK.out.1).trans (show _ = some (.slice a n cap) from rfl)
    have e1 := (cells_of (i := 1) HK.out.1).trans (show _ = some (.float .f32 s) from rfl)
    have u0 := (cells_of (i := 0) HK.out.2.1).trans (show _ = some (Value.slice none 0 0) from rfl)
    have u1 := (cells_of (i := 1) HK.out.2.1).trans (show _ = some (Value.float .f32 0) from rfl)
    have r0 := free_of HK.out.2.1 0
    have r1 := free_of HK.out.2.1 1
    have z0 := (cells_of (i := 0) HK.out.2.2).trans (show _ = some (Value.slice none 0 0) from rfl)
    have z1 := (cells_of (i := 1) HK.out.2.2).trans (show _ = some (Value.float .f32 0) from rfl)
    have y0 := free_of HK.out.2.2 0
    have y1 := free_of HK.out.2.2 1
    have l2 := block_lt HK.out.2.2
    have l1 : w.heap.size + 1 < wc.heap.size := by omega
    have l0 : w.heap.size < wc.heap.size := by omega
    refine (HA.out _ HBW.out).mono ?_
    rintro e w1 ⟨rfl, hbw1⟩
    have hkw1 := HK.out.later hbw1
    have hbww1 : Below w.heap.size w w1 := HBW.out.trans (hbw1.mono HBW.out.size)
    clear e0 e1 u0 u1 r0 r1 z0 z1 y0 y1 l0 l1 l2 HK HBW
    have HK := Lib.hid hkw1
    have HBW := Lib.hid hbww1
    clear hkw1 hbww1 hbw1
    have e0 := (cells_of (i := 0) HK.out.1).trans (show _ = some (.slice a n cap) from rfl)
    have e1 := (cells_of (i := 1) HK.out.1).trans (show _ = some (.float .f32 s) from rfl)
    have u0 := (cells_of (i := 0) HK.out.2.1).trans (show _ = some (Value.slice none 0 0) from rfl)
    have u1 := (cells_of (i := 1) HK.out.2.1).trans (show _ = some (Value.float .f32 0) from rfl)
    have r0 := free_of HK.out.2.1 0
    have r1 := free_of HK.out.2.1 1
    have z0 := (cells_of (i := 0) HK.out.2.2).trans (show _ = some (Value.slice none 0 0) from rfl)
    have z1 := (cells_of (i := 1) HK.out.2.2).trans (show _ = some (Value.float .f32 0) from rfl)
    have y0 := free_of HK.out.2.2 0
    have y1 := free_of HK.out.2.2 1
    have l2 := block_lt HK.out.2.2
    have l1 : w.heap.size + 1 < w1.heap.size := by omega
    have l0 : w.heap.size < w1.heap.size := by omega
    go_wp2
    refine bodyPost_ret ?ohr rfl (retS_no ?obel)
    case ohr => simp [results, Try.results38, go_sem, *]
    case obel => exact Below.setCell (Below.setCell (Below.setCell (Below.setCell HBW.out (by show w.heap.size ≤ w.heap.size + 1; omega) _) (by show w.heap.size ≤ w.heap.size + 1; omega) _) (by show w.heap.size ≤ w.heap.size + 2; omega) _) (by show w.heap.size ≤ w.heap.size + 2; omega) _
  have HA := Lib.hid (HA0.out true hA)
  obtain ⟨hn3, hn32, hsf, _⟩ := okT_of hA
  have HPI := Lib.hid (fun G w' (e0 : w'.cell? ⟨G, 0, none⟩ = some (.slice a n cap)) => impl_point G a n cap i w' e0 hn32)
  have HPK := Lib.hid (fun G w' (e0 : w'.cell? ⟨G, 0, none⟩ = some (.slice a n cap)) => impl_point G a n cap k w' e0 hn32)
  clear HA0
  cases hB : ptB n i
  · obtain rfl : R = false := by rw [← hR]; unfold splitB; rw [hA, hB]; rfl
    show Calls _ _ _ w (RetS false 0 0 0 _ _ w)
    rw [hB] at HPI
    clear hR h hA hB
    go_enter Try.func38, Try.ntmps38
    go_wp2_with fail
    obtain ⟨wc, hwc⟩ : ∃ u, u = ((w.alloc (.cells #[.slice a n cap, .float .f32 s] 33)).alloc (.cells #[.slice none 0 0, .float .f32 0] 33)).alloc (.cells #[.slice none 0 0, .float .f32 0] 33) := ⟨_, rfl⟩
    rw [← hwc]
    have HK := Lib.hid (show Box3 w.heap.size wc (.cells #[.slice a n cap, .float .f32 s] 33) (.cells #[.slice none 0 0, .float .f32 0] 33) (.cells #[.slice none 0 0, .float .f32 0] 33) from by rw [hwc]; exact three_boxes _ _ _ _)
    have HBW := Lib.hid (show Below w.heap.size w wc from by rw [hwc]; exact three_below _ _ _ _)
    clear hwc
    have e0 := (cells_of (i := 0) HK.out.1).trans (show _ = some (.slice a n cap) from rfl)
    have e1 := (cells_of (i := 1) HK.out.1).trans (show _ = some (.float .f32 s) from rfl)
    have u0 := (cells_of (i := 0) HK.out.2.1).trans (show _ = some (Value.slice none 0 0) from rfl)
    have u1 := (cells_of (i := 1) HK.out.2.1).trans (show _ = some (Value.float .f32 0) from rfl)
    have r0 := free_of HK.out.2.1 0
    have r1 := free_of HK.out.2.1 1
    have z0 := (cells_of (i := 0) HK.out.2.2).trans (show _ = some (Value.slice none 0 0) from rfl)
    have z1 := (cells_of (i := 1) HK.out.2.2).trans (show _ = some (Value.float .f32 0) from rfl)
    have y0 := free_of HK.out.2.2 0
    have y1 := free_of HK.out.2.2 1
    have l2 := block_lt HK.out.2.2
    have l1 : w.heap.size + 1 < wc.heap.size := by omega
    have l0 : w.heap.size < wc.heap.size := by omega
    refine (HA.out _ HBW.out).mono ?_
    rintro e w1 ⟨rfl, hbw1⟩
    have hkw1 := HK.out.later hbw1
    have hbww1 : Below w.heap.size w w1 := HBW.out.trans (hbw1.mono HBW.out.size)
    clear e0 e1 u0 u1 r0 r1 z0 z1 y0 y1 l0 l1 l2 HK HBW
    have HK := Lib.hid hkw1
    have HBW := Lib.hid hbww1
    clear hkw1 hbww1 hbw1
    have e0 := (cells_of (i := 0) HK.out.1).trans (show _ = some (.slice a n cap) from rfl)
    have e1 := (cells_of (i := 1) HK.out.1).trans (show _ = some (.float .f32 s) from rfl)
    have u0 := (cells_of (i := 0) HK.out.2.1).trans (show _ = some (Value.slice none 0 0) from rfl)
    have u1 := (cells_of (i := 1) HK.out.2.1).trans (show _ = some (Value.float .f32 0) from rfl)
    have r0 := free_of HK.out.2.1 0
    have r1 := free_of HK.out.2.1 1
    have z0 := (cells_of (i := 0) HK.out.2.2).trans (show _ = some (Value.slice none 0 0) from rfl)
    have z1 := (cells_of (i := 1) HK.out.2.2).trans (show _ = some (Value.float .f32 0) from rfl)
    have y0 := free_of HK.out.2.2 0
    have y1 := free_of HK.out.2.2 1
    have l2 := block_lt HK.out.2.2
    have l1 : w.heap.size + 1 < w1.heap.size := by omega
    have l0 : w.heap.size < w1.heap.size := by omega
    go_wp2_with fail
    refine (HPI.out _ _ e0).mono ?_
    rintro e w2 ⟨rfl, rfl⟩
    go_wp2
    refine bodyPost_ret ?ohr rfl (retS_no ?obel)
    case ohr => simp [results, Try.results38, go_sem, *]
    case obel => exact Below.setCell (Below.setCell (Below.setCell (Below.setCell HBW.out (by show w.heap.size ≤ w.heap.size + 1; omega) _) (by show w.heap.size ≤ w.heap.size + 1; omega) _) (by show w.heap.size ≤ w.heap.size + 2; omega) _) (by show w.heap.size ≤ w.heap.size + 2; omega) _
  cases hC : ptB n k
  · obtain rfl : R = false := by rw [← hR]; unfold splitB; rw [hA, hB, hC]; rfl
    show Calls _ _ _ w (RetS false 0 0 0 _ _ w)
    rw [hB] at HPI
    rw [hC] at HPK
    clear hR h hA hB hC
    go_enter Try.func38, Try.ntmps38
    go_wp2_with fail
    obtain ⟨wc, hwc⟩ : ∃ u, u = ((w.alloc (.cells #[.slice a n cap, .float .f32 s] 33)).alloc (.cells #[.slice none 0 0, .float .f32 0] 33)).alloc (.cells #[.slice none 0 0, .float .f32 0] 33) := ⟨_, rfl⟩
    rw [← hwc]
    have HK := Lib.hid (show Box3 w.heap.size wc (.cells #[.slice a n cap, .float .f32 s] 33) (.cells #[.slice none 0 0, .float .f32 0] 33) (.cells #[.slice none 0 0, .float .f32 0] 33) from by rw [hwc]; exact three_boxes _ _ _ _)
    have HBW := Lib.hid (show Below w.heap.size w wc from by rw [hwc]; exact three_below _ _ _ _)
    clear hwc
    have e0 := (cells_of (i := 0) HK.out.1).trans (show _ = some (.slice a n cap) from rfl)
    have e1 := (cells_of (i := 1) HK.out.1).trans (show _ = some (.float .f32 s) from rfl)
    have u0 := (cells_of (i := 0) HK.out.2.1).trans (show _ = some (Value.slice none 0 0) from rfl)
    have u1 := (cells_of (i := 1) HK.out.2.1).trans (show _ = some (Value.float .f32 0) from rfl)
    have r0 := free_of HK.out.2.1 0
    have r1 := free_of HK.out.2.1 1
    have z0 := (cells_of (i := 0) HK.out.2.2).trans (show _ = some (Value.slice none 0 0) from rfl)
    have z1 := (cells_of (i := 1) HK.out.2.2).trans (show _ = some (Value.float .f32 0) from rfl)
    have y0 := free_of HK.out.2.2 0
    have y1 := free_of HK.out.2.2 1
    have l2 := block_lt HK.out.2.2
    have l1 : w.heap.size + 1 < wc.heap.size := by omega
    have l0 : w.heap.size < wc.heap.size := by omega
    refine (HA.out _ HBW.out).mono ?_
    rintro e w1 ⟨rfl, hbw1⟩
    have hkw1 := HK.out.later hbw1
    have hbww1 : Below w.heap.size w w1 := HBW.out.trans (hbw1.mono HBW.out.size)
    clear e0 e1 u0 u1 r0 r1 z0 z1 y0 y1 l0 l1 l2 HK HBW
    have HK := Lib.hid hkw1
    have HBW := Lib.hid hbww1
    clear hkw1 hbww1 hbw1
    have e0 := (cells_of (i := 0) HK.out.1).trans (show _ = some (.slice a n cap) from rfl)
    have e1 := (cells_of (i := 1) HK.out.1).trans (show _ = some (.float .f32 s) from rfl)
    have u0 := (cells_of (i := 0) HK.out.2.1).trans (show _ = some (Value.slice none 0 0) from rfl)
    have u1 := (cells_of (i := 1) HK.out.2.1).trans (show _ = some (Value.float .f32 0) from rfl)
    have r0 := free_of HK.out.2.1 0
    have r1 := free_of HK.out.2.1 1
    have z0 := (cells_of (i := 0) HK.out.2.2).trans (show _ = some (Value.slice none 0 0) from rfl)
    have z1 := (cells_of (i := 1) HK.out.2.2).trans (show _ = some (Value.float .f32 0) from rfl)
    have y0 := free_of HK.out.2.2 0
    have y1 := free_of HK.out.2.2 1
    have l2 := block_lt HK.out.2.2
    have l1 : w.heap.size + 1 < w1.heap.size := by omega
    have l0 : w.heap.size < w1.heap.size := by omega
    go_wp2_with fail
    refine (HPI.out _ _ e0).mono ?_
    rintro e w2 ⟨rfl, rfl⟩
    go_wp2_with fail
    refine (HPK.out _ _ e0).mono ?_
    rintro e w3 ⟨rfl, rfl⟩
    go_wp2
    refine bodyPost_ret ?ohr rfl (retS_no ?obel)
    case ohr => simp [results, Try.results38, go_sem, *]
    case obel => exact Below.setCell (Below.setCell (Below.setCell (Below.setCell HBW.out (by show w.heap.size ≤ w.heap.size + 1; omega) _) (by show w.heap.size ≤ w.heap.size + 1; omega) _) (by show w.heap.size ≤ w.heap.size + 2; omega) _) (by show w.heap.size ≤ w.heap.size + 2; omega) _
  rw [hB] at HPI
  rw [hC] at HPK
  by_cases hD : ¬ i < k
  · obtain rfl : R = false := by rw [← hR]; unfold splitB; rw [hA, hB, hC, decide_eq_false hD]; rfl
    show Calls _ _ _ w (RetS false 0 0 0 _ _ w)
    have hD2 : k ≤ i := by omega
    clear hR h hA hB hC
    go_enter Try.func38, Try.ntmps38
    go_wp2_with fail
    obtain ⟨wc, hwc⟩ : ∃ u, u = ((w.alloc (.cells #[.slice a n cap, .float .f32 s] 33)).alloc (.cells #[.slice none 0 0, .float .f32 0] 33)).alloc (.cells #[.slice none 0 0, .float .f32 0] 33) := ⟨_, rfl⟩
    rw [← hwc]
    have HK := Lib.hid (show Box3 w.heap.size wc (.cells #[.slice a n cap, .float .f32 s] 33) (.cells #[.slice none 0 0, .float .f32 0] 33) (.cells #[.slice none 0 0, .float .f32 0] 33) from by rw [hwc]; exact three_boxes _ _ _ _)
    have HBW := Lib.hid (show Below w.heap.size w wc from by rw [hwc]; exact three_below _ _ _ _)
    clear hwc
    have e0 := (cells_of (i := 0) HK.out.1).trans (show _ = some (.slice a n cap) from rfl)
    have e1 := (cells_of (i := 1) HK.out.1).trans (show _ = some (.float .f32 s) from rfl)
    have u0 := (cells_of (i := 0) HK.out.2.1).trans (show _ = some (Value.slice none 0 0) from rfl)
    have u1 := (cells_of (i := 1) HK.out.2.1).trans (show _ = some (Value.float .f32 0) from rfl)
    have r0 := free_of HK.out.2.1 0
    have r1 := free_of HK.out.2.1 1
    have z0 := (cells_of (i := 0) HK.out.2.2).trans (show _ = some (Value.slice none 0 0) from rfl)
    have z1 := (cells_of (i := 1) HK.out.2.2).trans (show _ = some (Value.float .f32 0) from rfl)
    have y0 := free_of HK.out.2.2 0
    have y1 := free_of HK.out.2.2 1
    have l2 := block_lt HK.out.2.2
    have l1 : w.heap.size + 1 < wc.heap.size := by omega
    have l0 : w.heap.size < wc.heap.size := by omega
    refine (HA.out _ HBW.out).mono ?_
    rintro e w1 ⟨rfl, hbw1⟩
    have hkw1 := HK.out.later hbw1
    have hbww1 : Below w.heap.size w w1 := HBW.out.trans (hbw1.mono HBW.out.size)
    clear e0 e1 u0 u1 r0 r1 z0 z1 y0 y1 l0 l1 l2 HK HBW
    have HK := Lib.hid hkw1
    have HBW := Lib.hid hbww1
    clear hkw1 hbww1 hbw1
    have e0 := (cells_of (i := 0) HK.out.1).trans (show _ = some (.slice a n cap) from rfl)
    have e1 := (cells_of (i := 1) HK.out.1).trans (show _ = some (.float .f32 s) from rfl)
    have u0 := (cells_of (i := 0) HK.out.2.1).trans (show _ = some (Value.slice none 0 0) from rfl)
    have u1 := (cells_of (i := 1) HK.out.2.1).trans (show _ = some (Value.float .f32 0) from rfl)
    have r0 := free_of HK.out.2.1 0
    have r1 := free_of HK.out.2.1 1
    have z0 := (cells_of (i := 0) HK.out.2.2).trans (show _ = some (Value.slice none 0 0) from rfl)
    have z1 := (cells_of (i := 1) HK.out.2.2).trans (show _ = some (Value.float .f32 0) from rfl)
    have y0 := free_of HK.out.2.2 0
    have y1 := free_of HK.out.2.2 1
    have l2 := block_lt HK.out.2.2
    have l1 : w.heap.size + 1 < w1.heap.size := by omega
    have l0 : w.heap.size < w1.heap.size := by omega
    go_wp2_with fail
    refine (HPI.out _ _ e0).mono ?_
    rintro e w2 ⟨rfl, rfl⟩
    go_wp2_with fail
    refine (HPK.out _ _ e0).mono ?_
    rintro e w3 ⟨rfl, rfl⟩
    go_wp2
    refine bodyPost_ret ?ohr rfl (retS_no ?obel)
    case ohr => simp [results, Try.results38, go_sem, *]
    case obel => exact Below.setCell (Below.setCell (Below.setCell (Below.setCell HBW.out (by show w.heap.size ≤ w.heap.size + 1; omega) _) (by show w.heap.size ≤ w.heap.size + 1; omega) _) (by show w.heap.size ≤ w.heap.size + 2; omega) _) (by show w.heap.size ≤ w.heap.size + 2; omega) _
  have hD2 : i < k := Decidable.not_not.1 hD
  have hD3 : ¬ k ≤ i := by omega
  clear hD
  obtain ⟨R1, hR1⟩ : ∃ R, okT (k.toNat - i.toNat) cs (cutA i.toNat c) = R := ⟨_, rfl⟩
  obtain ⟨R2, hR2⟩ : ∃ R, okT (n - k.toNat + i.toNat) cs (cutB n k.toNat c) = R := ⟨_, rfl⟩
  have hT : (R1 && R2) = R := by rw [← hR]; unfold splitB; rw [hA, hB, hC, decide_eq_true hD2, hR1, hR2]; rfl
  unfold ptB at hB hC
  simp only [Bool.and_eq_true, decide_eq_true_eq] at hB hC
  obtain ⟨p, rfl⟩ : ∃ p : Nat, i = (p : Int) := ⟨i.toNat, by omega⟩
  obtain ⟨q, rfl⟩ : ∃ q : Nat, k = (q : Int) := ⟨k.toNat, by omega⟩
  rw [show (p : Int).toNat = p by simp] at hR1 hR2 ⊢
  rw [show (q : Int).toNat = q by simp] at hR1 hR2 ⊢
  have hpq : p < q := by omega
  have hqn : q < n := by omega
  obtain ⟨h2, h3, b, off, h5, h6⟩ := h
  obtain rfl := h5 (by omega)
  obtain ⟨xs, hx1, hx2, hx3, hx4⟩ := cells_v h6
  have hlb : b < w.heap.size := by obtain ⟨x, hx, _⟩ := h6 0 (by omega); exact block_lt_of_cell hx
  have HSA := Lib.hid (show Src3 w ⟨b, off + p * 3, none⟩ (q - p) (cutA p c) _ from src_cut hlb hx1 hx2 hx3 (by omega))
  have HS1 := Lib.hid (show Src3 w ⟨b, off + q * 3, none⟩ (n - q) (fun j => c (j + q * 3)) _ from src_cut (m := n - q) hlb hx1 hx2 hx3 (by omega))
  have HS2 := Lib.hid (show Src3 w ⟨b, off, none⟩ p c _ from by have := src_cut (p := 0) (m := p) (off := off) hlb hx1 hx2 hx3 (by omega); simpa using this)
  have HCH1 := Lib.hid (fun a cap w (h : IsV w a (q - p) cap (cutA p c)) => impl_checked a (q - p) cap s cs _ w h fs R1 hR1)
  have HCH2 := Lib.hid (fun a cap w (h : IsV w a (n - q + p) cap (cutB n q c)) => impl_checked a (n - q + p) cap s cs _ w h fs R2 hR2)
  have HCB := Lib.hid (show (fun j => if j < (n - q) * 3 then c (j + q * 3) else c (j - (n - q) * 3)) = cutB n q c from rfl)
  generalize (xs.drop (p * 3)).take ((q - p) * 3) = ya at *
  generalize (xs.drop (q * 3)).take ((n - q) * 3) = yb at *
  generalize xs.take (p * 3) = yc at *
  unfold maxLen at h3
  obtain ⟨sR, hsR⟩ : ∃ x, (if R then s else 0) = x := ⟨_, rfl⟩
  obtain ⟨nA, hnA⟩ : ∃ x, (if R then q - p else 0) = x := ⟨_, rfl⟩
  obtain ⟨nB, hnB⟩ : ∃ x, (if R then n - q + p else 0) = x := ⟨_, rfl⟩
  rw [hsR, hnA, hnB]
  have HR := Lib.hid (And.intro hT (And.intro hsR (And.intro hnA hnB)))
  have hc1 : ¬ cap = p := by omega
  have hc2 : ¬ cap = q := by omega
  have hc3 : p ≤ cap := by omega
  have hc4 : q ≤ cap := by omega
  have hpn : p ≤ n := by omega
  have hpq2 : p ≤ q := by omega
  have hqn2 : q ≤ n := by omega
  have hq9 : (q : Int) ≤ 9223372036854775807 := by omega
  have hp9 : (p : Int) ≤ 9223372036854775807 := by omega
  clear h5 h6 hx1 hx2 hx3 hx4 hA hB hC hR hR1 hR2 hT hsR hnA hnB
  go_enter Try.func38, Try.ntmps38
  go_wp2_with fail
  obtain ⟨wc, hwc⟩ : ∃ u, u = ((w.alloc (.cells #[.slice (some ⟨b, off, none⟩) n cap, .float .f32 s] 33)).alloc (.cells #[.slice none 0 0, .float .f32 0] 33)).alloc (.cells #[.slice none 0 0, .float .f32 0] 33) := ⟨_, rfl⟩
  rw [← hwc]
  have HK := Lib.hid (show Box3 w.heap.size wc (.cells #[.slice (some ⟨b, off, none⟩) n cap, .float .f32 s] 33) (.cells #[.slice none 0 0, .float .f32 0] 33) (.cells #[.slice none 0 0, .float .f32 0] 33) from by rw [hwc]; exact three_boxes _ _ _ _)
  have HBW := Lib.hid (show Below w.heap.size w wc from by rw [hwc]; exact three_below _ _ _ _)
  clear hwc
  have e0 := (cells_of (i := 0) HK.out.1).trans (show _ = some (.slice (some ⟨b, off, none⟩) n cap) from rfl)
  have e1 := (cells_of (i := 1) HK.out.1).trans (show _ = some (.float .f32 s) from rfl)
  have u0 := (cells_of (i := 0) HK.out.2.1).trans (show _ = some (Value.slice none 0 0) from rfl)
  have u1 := (cells_of (i := 1) HK.out.2.1).trans (show _ = some (Value.float .f32 0) from rfl)
  have r0 := free_of HK.out.2.1 0
  have r1 := free_of HK.out.2.1 1
  have z0 := (cells_of (i := 0) HK.out.2.2).trans (show _ = some (Value.slice none 0 0) from rfl)
  have z1 := (cells_of (i := 1) HK.out.2.2).trans (show _ = some (Value.float .f32 0) from rfl)
  have y0 := free_of HK.out.2.2 0
  have y1 := free_of HK.out.2.2 1
  have l2 := block_lt HK.out.2.2
  have l1 : w.heap.size + 1 < wc.heap.size := by omega
  have l0 : w.heap.size < wc.heap.size := by omega
  refine (HA.out _ HBW.out).mono ?_
  rintro e w1 ⟨rfl, hbw1⟩
  have hkw1 := HK.out.later hbw1
  have hbww1 : Below w.heap.size w w1 := HBW.out.trans (hbw1.mono HBW.out.size)
  clear e0 e1 u0 u1 r0 r1 z0 z1 y0 y1 l0 l1 l2 HK HBW
  have HK := Lib.hid hkw1
  have HBW := Lib.hid hbww1
  clear hkw1 hbww1 hbw1
  have e0 := (cells_of (i := 0) HK.out.1).trans (show _ = some (.slice (some ⟨b, off, none⟩) n cap) from rfl)
  have e1 := (cells_of (i := 1) HK.out.1).trans (show _ = some (.float .f32 s) from rfl)
  have u0 := (cells_of (i := 0) HK.out.2.1).trans (show _ = some (Value.slice none 0 0) from rfl)
  have u1 := (cells_of (i := 1) HK.out.2.1).trans (show _ = some (Value.float .f32 0) from rfl)
  have r0 := free_of HK.out.2.1 0
  have r1 := free_of HK.out.2.1 1
  have z0 := (cells_of (i := 0) HK.out.2.2).trans (show _ = some (Value.slice none 0 0) from rfl)
  have z1 := (cells_of (i := 1) HK.out.2.2).trans (show _ = some (Value.float .f32 0) from rfl)
  have y0 := free_of HK.out.2.2 0
  have y1 := free_of HK.out.2.2 1
  have l2 := block_lt HK.out.2.2
  have l1 : w.heap.size + 1 < w1.heap.size := by omega
  have l0 : w.heap.size < w1.heap.size := by omega
  go_wp2_with fail
  refine (HPI.out _ _ e0).mono ?_
  rintro e w2 ⟨rfl, rfl⟩
  go_wp2_with fail
  refine (HPK.out _ _ e0).mono ?_
  rintro e w3 ⟨rfl, rfl⟩
  go_wp2_with fail
  have HE := Lib.hid e0
  have HBQ := Lib.hid HBW.out
  have hl22 := l2
  have hst : ∀ x ∈ [((40 : Nat), phiW w1.heap.size (q - p) (cutA p c)), ((49 : Nat), phiL w1.heap.size (.cells #[.slice (some ⟨b, off + q * 3, none⟩) (n - q) (cap - q), .slice (some ⟨b, off, none⟩) p cap] 31))], LooseP.Stable x.2 := three_stableS (phiW_stable _ _ _) (phiL_stable _ _)
  have hu40 : ∀ x ∈ [((40 : Nat), phiW w1.heap.size (q - p) (cutA p c)), ((49 : Nat), phiL w1.heap.size (.cells #[.slice (some ⟨b, off + q * 3, none⟩) (n - q) (cap - q), .slice (some ⟨b, off, none⟩) p cap] 31))], x.1 = 40 → x.2 = phiW w1.heap.size (q - p) (cutA p c) := duo_firstW (by decide)
  have hu49 : ∀ x ∈ [((40 : Nat), phiW w1.heap.size (q - p) (cutA p c)), ((49 : Nat), phiL w1.heap.size (.cells #[.slice (some ⟨b, off + q * 3, none⟩) (n - q) (cap - q), .slice (some ⟨b, off, none⟩) p cap] 31))], x.1 = 49 → x.2 = phiL w1.heap.size (.cells #[.slice (some ⟨b, off + q * 3, none⟩) (n - q) (cap - q), .slice (some ⟨b, off, none⟩) p cap] 31) := duo_secondW (by decide)
  have hu50 : ∀ x ∈ [((40 : Nat), phiW w1.heap.size (q - p) (cutA p c)), ((50 : Nat), phiW w1.heap.size (n - q + p) (cutB n q c))], x.1 = 50 → x.2 = phiW w1.heap.size (n - q + p) (cutB n q c) := duo_secondW (by decide)
  refine LooseL.wp_regionC 16 15 (fun i => decide (i < 15)) (LooseP.Cls w1.heap.size w1 [((40 : Nat), phiW w1.heap.size (q - p) (cutA p c)), ((49 : Nat), phiL w1.heap.size (.cells #[.slice (some ⟨b, off + q * 3, none⟩) (n - q) (cap - q), .slice (some ⟨b, off, none⟩) p cap] 31))]) (fun (a1 : Act) (w2 : World) => LooseP.Cls w1.heap.size w1 [((40 : Nat), phiW w1.heap.size (q - p) (cutA p c)), ((50 : Nat), phiW w1.heap.size (n - q + p) (cutB n q c))] a1 w2 ∧ Apart 40 50 a1) (by decide) (fun i hi => by simp; omega) (by kernel_rfl) (by kernel_rfl) (by kernel_rfl) ⟨(Below.refl _ _).drew, fun p hp v hv hn => absurd (show v = undef from by simp at hp; rcases hp with rfl | rfl <;> simpa using hv.symm) hn⟩ ?_
  apply Exists.intro
  simp only [List.take_succ_cons, List.take_zero, List.drop_succ_cons, List.drop_zero]
  repeat (first | (apply LooseL.walk_before (by decide) rfl; intro K hK; apply LooseP.turn_value (hwant := rfl) (hd := rfl); (focus (intro w' hw'; obtain ⟨hc, hf⟩ := Fl.bcell hw'; go_simp; first | done | rfl | exact ⟨rfl, rfl⟩)); go_simp; refine hK _ ?_; clear hK K) | (apply LooseL.walk_before (by decide) rfl; intro K hK; refine LooseP.turn_callP (f := 83) (args := fun a => #[a.eval (.tmp 39)]) (V := fun v => ∃ g cap, v = .slice (some ⟨g, 0, none⟩) (q - p) cap) (φ := phiW w1.heap.size (q - p) (cutA p c)) (d := 40) hst (Nat.le_refl _) rfl rfl hu40 (by intro a' w'; go_simp; first | done | rfl | exact ⟨rfl, rfl⟩) ⟨_, 0, 0, rfl⟩ ?_ ?_; (focus (intro a' w' _ hcl; go_simp; exact (clone_v _ _ _ _ _ w' (HSA.out.later (HBQ.out.trans (hcl.1.mono HBQ.out.size))) (by omega) (by omega)).mono fun e w'' ⟨g, cap, xs, h1, h2, h3, h4⟩ => ⟨_, h1, ⟨g, cap, rfl⟩, ⟨g, cap, xs, rfl, own_wider h2 hcl.1.size, h3⟩, h4⟩)); (intro v hv; obtain ⟨gq, capq, rfl⟩ := hv; go_simp; refine hK _ ?_; clear hK K)) | (apply LooseL.walk_before (by decide) rfl; intro K hK; refine LooseP.turn_rowP (φ := phiL w1.heap.size (.cells #[.slice (some ⟨b, off + q * 3, none⟩) (n - q) (cap - q), .slice (some ⟨b, off, none⟩) p cap] 31)) (d := 49) (n := 2) (ob := .cells #[.slice (some ⟨b, off + q * 3, none⟩) (n - q) (cap - q), .slice (some ⟨b, off, none⟩) p cap] 31) hst (Nat.le_refl _) rfl rfl hu49 (by intro w'; go_simp; first | done | rfl | exact ⟨rfl, rfl⟩) (fun w' hw' => ⟨_, rfl, hw', new_block _ _⟩) ?_; intro b4 hb4B; go_simp; refine hK _ ?_; clear hK K) | (apply LooseL.walk_callM (d := 50) (f := 84) (args := #[.slice (some ⟨b4, 0, none⟩) 2 2]) (V := fun v => ∃ g cap, v = .slice (some ⟨g, 0, none⟩) (n - q + p) cap) (hks := rfl) (hwant := rfl) (hdst := rfl) (hV := ⟨_, 0, 0, rfl⟩) (henter := by intro w'; go_simp; first | done | rfl | exact ⟨rfl, rfl⟩); (focus (intro a' w' hl hc; obtain ⟨b5, j1, j2, j3⟩ := hc.at (List.mem_cons_of_mem _ (List.mem_singleton.2 rfl)) (hl.2 (.tmp 49) (by simp [Op.operands, Call.operands])) (by simp [Act.eval, undef]); obtain rfl : b4 = b5 := (by simpa [Act.eval] using j1); refine (concat_v b4 _ _ _ _ _ _ _ _ _ _ w' j3 (HS1.out.later (HBQ.out.trans (hc.1.mono HBQ.out.size))) (HS2.out.later (HBQ.out.trans (hc.1.mono HBQ.out.size))) ⟨by omega, by omega⟩ (by omega)).mono fun e w'' ⟨g, cap, xs, h1, h2, h3, h4⟩ => ⟨_, h1, ⟨g, cap, rfl⟩, LooseL.cls_turn (φ := phiW w1.heap.size (n - q + p) (cutB n q c)) (hc.later hst (Nat.le_refl _) h4) (by intro p hp hd; simp at hp; rcases hp with rfl | rfl <;> (first | exact absurd rfl hd | simp)) hu50 _ ⟨g, cap, xs, rfl, own_wider h2 hc.1.size, h3⟩, apart_put hc (List.mem_cons_self ..) h2⟩)); (intro v hv; obtain ⟨gr, capr, rfl⟩ := hv; go_simp)))
  refine LooseL.walk_nil ?_
  intro w5 hcl5 hap5
  have hb5 := hcl5.1
  obtain ⟨g8, c8, xs5, e8, own5, fp5⟩ := hcl5.at (List.mem_cons_self ..) (v := .slice (some ⟨gq, 0, none⟩) (q - p) capq) rfl (by simp [undef])
  obtain ⟨rfl, rfl⟩ : gq = g8 ∧ capq = c8 := by simpa using e8
  obtain ⟨g9, c9, xs6, e9, own6, fp6⟩ := hcl5.at (List.mem_cons_of_mem _ (List.mem_singleton.2 rfl)) (v := .slice (some ⟨gr, 0, none⟩) (n - q + p) capr) rfl (by simp [undef])
  obtain ⟨rfl, rfl⟩ : gr = g9 ∧ capr = c9 := by simpa using e9
  have hne := hap5 (.slice (some ⟨gq, 0, none⟩) (q - p) capq) (.slice (some ⟨gr, 0, none⟩) (n - q + p) capr) rfl (by simp [undef]) rfl (by simp [undef])
  simp [Value.ownBlock] at hne
  have hgq := (own5.lt gq rfl)
  have hgr := (own6.lt gr rfl)
  have HI1 := Lib.hid (isR_self own5 fp5)
  have HI2 := Lib.hid (isR_self own6 fp6)
  have hk5 := HK.out.later hb5
  have hbw5 := HBW.out.trans (hb5.mono HBW.out.size)
  have hz5 := hb5.size
  clear e0 e1 u0 u1 r0 r1 z0 z1 y0 y1 l0 l1 l2 HK HBW
  have HK := Lib.hid hk5
  have HBW := Lib.hid hbw5
  clear hk5 hbw5 hb5 hcl5 hap5 hst hu40 hu49 hu50 e8 e9 own5 own6 fp5 fp6 HE HBQ
  have e0 := (cells_of (i := 0) HK.out.1).trans (show _ = some (.slice (some ⟨b, off, none⟩) n cap) from rfl)
  have e1 := (cells_of (i := 1) HK.out.1).trans (show _ = some (.float .f32 s) from rfl)
  have u0 := (cells_of (i := 0) HK.out.2.1).trans (show _ = some (Value.slice none 0 0) from rfl)
  have u1 := (cells_of (i := 1) HK.out.2.1).trans (show _ = some (Value.float .f32 0) from rfl)
  have r0 := free_of HK.out.2.1 0
  have r1 := free_of HK.out.2.1 1
  have z0 := (cells_of (i := 0) HK.out.2.2).trans (show _ = some (Value.slice none 0 0) from rfl)
  have z1 := (cells_of (i := 1) HK.out.2.2).trans (show _ = some (Value.float .f32 0) from rfl)
  have y0 := free_of HK.out.2.2 0
  have y1 := free_of HK.out.2.2 1
  have l2 := block_lt HK.out.2.2
  have l1 : w.heap.size + 1 < w5.heap.size := by omega
  have l0 : w.heap.size < w5.heap.size := by omega
  go_wp2_with fail
  refine (HCH1.out _ _ _ HI1.out.v).mono ?_
  rintro e w6 ⟨rfl, hb6⟩
  have hk6 := HK.out.later hb6
  have hbw6 := HBW.out.trans (hb6.mono HBW.out.size)
  have hz6 := hb6.size
  have HI1n := Lib.hid (HI1.out.later hb6)
  have HI2n := Lib.hid (HI2.out.later hb6)
  clear e0 e1 u0 u1 r0 r1 z0 z1 y0 y1 l0 l1 l2 HK HBW
  have HK := Lib.hid hk6
  have HBW := Lib.hid hbw6
  clear hk6 hbw6 hb6 HI1 HI2
  have HI1 := HI1n
  have HI2 := HI2n
  clear HI1n HI2n
  have e0 := (cells_of (i := 0) HK.out.1).trans (show _ = some (.slice (some ⟨b, off, none⟩) n cap) from rfl)
  have e1 := (cells_of (i := 1) HK.out.1).trans (show _ = some (.float .f32 s) from rfl)
  have u0 := (cells_of (i := 0) HK.out.2.1).trans (show _ = some (Value.slice none 0 0) from rfl)
  have u1 := (cells_of (i := 1) HK.out.2.1).trans (show _ = some (Value.float .f32 0) from rfl)
  have r0 := free_of HK.out.2.1 0
  have r1 := free_of HK.out.2.1 1
  have z0 := (cells_of (i := 0) HK.out.2.2).trans (show _ = some (Value.slice none 0 0) from rfl)
  have z1 := (cells_of (i := 1) HK.out.2.2).trans (show _ = some (Value.float .f32 0) from rfl)
  have y0 := free_of HK.out.2.2 0
  have y1 := free_of HK.out.2.2 1
  have l2 := block_lt HK.out.2.2
  have l1 : w.heap.size + 1 < w6.heap.size := by omega
  have l0 : w.heap.size < w6.heap.size := by omega
  cases R1
  · cases R2
    · go_wp2_with fail
      obtain ⟨wp, hwp⟩ : ∃ u, u = w6.alloc (.cells #[.slice none 0 0, .float .f32 0] 33) := ⟨_, rfl⟩
      rw [← hwp]
      have q11 : wp.heap[w6.heap.size]? = some (.cells #[.slice none 0 0, .float .f32 0] 33) := by rw [hwp]; exact new_block _ _
      have hbp : Below w6.heap.size w6 wp := by rw [hwp]; exact (Below.refl _ _).alloc (Nat.le_refl _) _
      clear hwp
      refine (HCH2.out _ _ _ (HI2.out.later hbp).v).mono ?_
      rintro e w7 ⟨rfl, hb7⟩
      have hz7 := hb7.size
      have hzp := hbp.size
      have hb67 : Below w6.heap.size w6 w7 := hbp.trans (hb7.mono hzp)
      have hk7 := HK.out.later hb67
      have hbw7 := HBW.out.trans (hb67.mono HBW.out.size)
      have q117 := keep_block hb7 q11
      have HI1n := Lib.hid (HI1.out.later hb67)
      have HI2n := Lib.hid (HI2.out.later hb67)
      have hl6 := block_lt q117
      have hw26 : w.heap.size + 2 < w6.heap.size := l2
      clear e0 e1 u0 u1 r0 r1 z0 z1 y0 y1 l0 l1 l2 HK HBW
      have HK := Lib.hid hk7
      have HBW := Lib.hid hbw7
      clear hk7 hbw7 hb7 hbp hb67 q11 HI1 HI2
      have e0 := (cells_of (i := 0) HK.out.1).trans (show _ = some (.slice (some ⟨b, off, none⟩) n cap) from rfl)
      have e1 := (cells_of (i := 1) HK.out.1).trans (show _ = some (.float .f32 s) from rfl)
      have u0 := (cells_of (i := 0) HK.out.2.1).trans (show _ = some (Value.slice none 0 0) from rfl)
      have u1 := (cells_of (i := 1) HK.out.2.1).trans (show _ = some (Value.float .f32 0) from rfl)
      have r0 := free_of HK.out.2.1 0
      have r1 := free_of HK.out.2.1 1
      have z0 := (cells_of (i := 0) HK.out.2.2).trans (show _ = some (Value.slice none 0 0) from rfl)
      have z1 := (cells_of (i := 1) HK.out.2.2).trans (show _ = some (Value.float .f32 0) from rfl)
      have y0 := free_of HK.out.2.2 0
      have y1 := free_of HK.out.2.2 1
      have l2 := block_lt HK.out.2.2
      have l1 : w.heap.size + 1 < w7.heap.size := by omega
      have l0 : w.heap.size < w7.heap.size := by omega
      have hT := HR.out.1
      obtain rfl : R = false := by rw [← hT]; rfl
      have hR := HR.out.2
      simp only [Bool.false_eq_true, if_false] at hR
      obtain ⟨rfl, rfl, rfl⟩ := hR
      clear hT q117
      go_wp2
      refine bodyPost_ret ?ohr rfl (retS_no ?obel)
      case ohr => simp [results, Try.results38, go_sem, *]
      case obel =>
        have HBX := HBW.out
        refine Below.alloc ?_ (by simp only [World.size_setCell]; exact HBX.size) _
        iterate 4 (refine Below.setCell ?_ (by first | (show w.heap.size ≤ w.heap.size + 1; omega) | (show w.heap.size ≤ w.heap.size + 2; omega) | omega | (simp; omega) | simp) _)
        exact HBX
    · go_wp2_with fail
      obtain ⟨wp, hwp⟩ : ∃ u, u = w6.alloc (.cells #[.slice none 0 0, .float .f32 0] 33) := ⟨_, rfl⟩
      rw [← hwp]
      have q11 : wp.heap[w6.heap.size]? = some (.cells #[.slice none 0 0, .float .f32 0] 33) := by rw [hwp]; exact new_block _ _
      have hbp : Below w6.heap.size w6 wp := by rw [hwp]; exact (Below.refl _ _).alloc (Nat.le_refl _) _
      clear hwp
      refine (HCH2.out _ _ _ (HI2.out.later hbp).v).mono ?_
      rintro e w7 ⟨rfl, hb7⟩
      have hz7 := hb7.size
      have hzp := hbp.size
      have hb67 : Below w6.heap.size w6 w7 := hbp.trans (hb7.mono hzp)
      have hk7 := HK.out.later hb67
      have hbw7 := HBW.out.trans (hb67.mono HBW.out.size)
      have q117 := keep_block hb7 q11
      have HI1n := Lib.hid (HI1.out.later hb67)
      have HI2n := Lib.hid (HI2.out.later hb67)
      have hl6 := block_lt q117
      have hw26 : w.heap.size + 2 < w6.heap.size := l2
      clear e0 e1 u0 u1 r0 r1 z0 z1 y0 y1 l0 l1 l2 HK HBW
      have HK := Lib.hid hk7
      have HBW := Lib.hid hbw7
      clear hk7 hbw7 hb7 hbp hb67 q11 HI1 HI2
      have e0 := (cells_of (i := 0) HK.out.1).trans (show _ = some (.slice (some ⟨b, off, none⟩) n cap) from rfl)
      have e1 := (cells_of (i := 1) HK.out.1).trans (show _ = some (.float .f32 s) from rfl)
      have u0 := (cells_of (i := 0) HK.out.2.1).trans (show _ = some (Value.slice none 0 0) from rfl)
      have u1 := (cells_of (i := 1) HK.out.2.1).trans (show _ = some (Value.float .f32 0) from rfl)
      have r0 := free_of HK.out.2.1 0
      have r1 := free_of HK.out.2.1 1
      have z0 := (cells_of (i := 0) HK.out.2.2).trans (show _ = some (Value.slice none 0 0) from rfl)
      have z1 := (cells_of (i := 1) HK.out.2.2).trans (show _ = some (Value.float .f32 0) from rfl)
      have y0 := free_of HK.out.2.2 0
      have y1 := free_of HK.out.2.2 1
      have l2 := block_lt HK.out.2.2
      have l1 : w.heap.size + 1 < w7.heap.size := by omega
      have l0 : w.heap.size < w7.heap.size := by omega
      have hT := HR.out.1
      obtain rfl : R = false := by rw [← hT]; rfl
      have hR := HR.out.2
      simp only [Bool.false_eq_true, if_false] at hR
      obtain ⟨rfl, rfl, rfl⟩ := hR
      clear hT q117
      go_wp2
      refine bodyPost_ret ?ohr rfl (retS_no ?obel)
      case ohr => simp [results, Try.results38, go_sem, *]
      case obel =>
        have HBX := HBW.out
        refine Below.alloc ?_ (by simp only [World.size_setCell]; exact HBX.size) _
        iterate 4 (refine Below.setCell ?_ (by first | (show w.heap.size ≤ w.heap.size + 1; omega) | (show w.heap.size ≤ w.heap.size + 2; omega) | omega | (simp; omega) | simp) _)
        exact HBX
  · cases R2
    · go_wp2_with fail
      obtain ⟨wp, hwp⟩ : ∃ u, u = w6.alloc (.cells #[.slice (some ⟨gq, 0, none⟩) (q - p) capq, .float .f32 s] 33) := ⟨_, rfl⟩
      rw [← hwp]
      have q11 : wp.heap[w6.heap.size]? = some (.cells #[.slice (some ⟨gq, 0, none⟩) (q - p) capq, .float .f32 s] 33) := by rw [hwp]; exact new_block _ _
      have hbp : Below w6.heap.size w6 wp := by rw [hwp]; exact (Below.refl _ _).alloc (Nat.le_refl _) _
      clear hwp
      refine (HCH2.out _ _ _ (HI2.out.later hbp).v).mono ?_
      rintro e w7 ⟨rfl, hb7⟩
      have hz7 := hb7.size
      have hzp := hbp.size
      have hb67 : Below w6.heap.size w6 w7 := hbp.trans (hb7.mono hzp)
      have hk7 := HK.out.later hb67
      have hbw7 := HBW.out.trans (hb67.mono HBW.out.size)
      have q117 := keep_block hb7 q11
      have HI1n := Lib.hid (HI1.out.later hb67)
      have HI2n := Lib.hid (HI2.out.later hb67)
      have hl6 := block_lt q117
      have hw26 : w.heap.size + 2 < w6.heap.size := l2
      clear e0 e1 u0 u1 r0 r1 z0 z1 y0 y1 l0 l1 l2 HK HBW
      have HK := Lib.hid hk7
      have HBW := Lib.hid hbw7
      clear hk7 hbw7 hb7 hbp hb67 q11 HI1 HI2
      have e0 := (cells_of (i := 0) HK.out.1).trans (show _ = some (.slice (some ⟨b, off, none⟩) n cap) from rfl)
      have e1 := (cells_of (i := 1) HK.out.1).trans (show _ = some (.float .f32 s) from rfl)
      have u0 := (cells_of (i := 0) HK.out.2.1).trans (show _ = some (Value.slice none 0 0) from rfl)
      have u1 := (cells_of (i := 1) HK.out.2.1).trans (show _ = some (Value.float .f32 0) from rfl)
      have r0 := free_of HK.out.2.1 0
      have r1 := free_of HK.out.2.1 1
      have z0 := (cells_of (i := 0) HK.out.2.2).trans (show _ = some (Value.slice none 0 0) from rfl)
      have z1 := (cells_of (i := 1) HK.out.2.2).trans (show _ = some (Value.float .f32 0) from rfl)
      have y0 := free_of HK.out.2.2 0
      have y1 := free_of HK.out.2.2 1
      have l2 := block_lt HK.out.2.2
      have l1 : w.heap.size + 1 < w7.heap.size := by omega
      have l0 : w.heap.size < w7.heap.size := by omega
      have hT := HR.out.1
      obtain rfl : R = false := by rw [← hT]; rfl
      have hR := HR.out.2
      simp only [Bool.false_eq_true, if_false] at hR
      obtain ⟨rfl, rfl, rfl⟩ := hR
      clear hT q117
      go_wp2
      refine bodyPost_ret ?ohr rfl (retS_no ?obel)
      case ohr => simp [results, Try.results38, go_sem, *]
      case obel =>
        have HBX := HBW.out
        refine Below.alloc ?_ (by simp only [World.size_setCell]; exact HBX.size) _
        iterate 4 (refine Below.setCell ?_ (by first | (show w.heap.size ≤ w.heap.size + 1; omega) | (show w.heap.size ≤ w.heap.size + 2; omega) | omega | (simp; omega) | simp) _)
        exact HBX
    · go_wp2_with fail
      obtain ⟨wp, hwp⟩ : ∃ u, u = w6.alloc (.cells #[.slice (some ⟨gq, 0, none⟩) (q - p) capq, .float .f32 s] 33) := ⟨_, rfl⟩
      rw [← hwp]
      have q11 : wp.heap[w6.heap.size]? = some (.cells #[.slice (some ⟨gq, 0, none⟩) (q - p) capq, .float .f32 s] 33) := by rw [hwp]; exact new_block _ _
      have hbp : Below w6.heap.size w6 wp := by rw [hwp]; exact (Below.refl _ _).alloc (Nat.le_refl _) _
      clear hwp
      refine (HCH2.out _ _ _ (HI2.out.later hbp).v).mono ?_
      rintro e w7 ⟨rfl, hb7⟩
      have hz7 := hb7.size
      have hzp := hbp.size
      have hb67 : Below w6.heap.size w6 w7 := hbp.trans (hb7.mono hzp)
      have hk7 := HK.out.later hb67
      have hbw7 := HBW.out.trans (hb67.mono HBW.out.size)
      have q117 := keep_block hb7 q11
      have HI1n := Lib.hid (HI1.out.later hb67)
      have HI2n := Lib.hid (HI2.out.later hb67)
      have hl6 := block_lt q117
      have hw26 : w.heap.size + 2 < w6.heap.size := l2
      clear e0 e1 u0 u1 r0 r1 z0 z1 y0 y1 l0 l1 l2 HK HBW
      have HK := Lib.hid hk7
      have HBW := Lib.hid hbw7
      clear hk7 hbw7 hb7 hbp hb67 q11 HI1 HI2
      have e0 := (cells_of (i := 0) HK.out.1).trans (show _ = some (.slice (some ⟨b, off, none⟩) n cap) from rfl)
      have e1 := (cells_of (i := 1) HK.out.1).trans (show _ = some (.float .f32 s) from rfl)
      have u0 := (cells_of (i := 0) HK.out.2.1).trans (show _ = some (Value.slice none 0 0) from rfl)
      have u1 := (cells_of (i := 1) HK.out.2.1).trans (show _ = some (Value.float .f32 0) from rfl)
      have r0 := free_of HK.out.2.1 0
      have r1 := free_of HK.out.2.1 1
      have z0 := (cells_of (i := 0) HK.out.2.2).trans (show _ = some (Value.slice none 0 0) from rfl)
      have z1 := (cells_of (i := 1) HK.out.2.2).trans (show _ = some (Value.float .f32 0) from rfl)
      have y0 := free_of HK.out.2.2 0
      have y1 := free_of HK.out.2.2 1
      have l2 := block_lt HK.out.2.2
      have l1 : w.heap.size + 1 < w7.heap.size := by omega
      have l0 : w.heap.size < w7.heap.size := by omega
      have hT := HR.out.1
      obtain rfl : R = true := by rw [← hT]; rfl
      have hR := HR.out.2
      simp only [if_true] at hR
      obtain ⟨rfl, rfl, rfl⟩ := hR
      clear hT
      go_wp2
      obtain ⟨wq, hwq⟩ : ∃ u, u = w7.alloc (.cells #[.slice (some ⟨gr, 0, none⟩) (n - q + p) capr, .float .f32 s] 33) := ⟨_, rfl⟩
      rw [← hwq]
      have hkq : Box3 w.heap.size wq (.cells #[.slice (some ⟨b, off, none⟩) n cap, .float .f32 s] 33) (.cells #[.slice none 0 0, .float .f32 0] 33) (.cells #[.slice none 0 0, .float .f32 0] 33) := by rw [hwq]; exact ⟨alloc_block HK.out.1, alloc_block HK.out.2.1, alloc_block HK.out.2.2⟩
      have q11 : wq.heap[w6.heap.size]? = some (.cells #[.slice (some ⟨gq, 0, none⟩) (q - p) capq, .float .f32 s] 33) := by rw [hwq]; exact alloc_block q117
      have q13 : wq.heap[w7.heap.size]? = some (.cells #[.slice (some ⟨gr, 0, none⟩) (n - q + p) capr, .float .f32 s] 33) := by rw [hwq]; exact new_block _ _
      have HI1q := Lib.hid (show IsR gq (gq + 1) wq (some ⟨gq, 0, none⟩) (q - p) capq (cutA p c) by rw [hwq]; exact HI1n.out.alloc _)
      have HI2q := Lib.hid (show IsR gr (gr + 1) wq (some ⟨gr, 0, none⟩) (n - q + p) capr (cutB n q c) by rw [hwq]; exact HI2n.out.alloc _)
      have hbq : Below w.heap.size w wq := by rw [hwq]; exact HBW.out.alloc HBW.out.size _
      have hzq : w7.heap.size ≤ wq.heap.size := by rw [hwq]; simp
      clear e0 e1 u0 u1 r0 r1 z0 z1 y0 y1 l0 l1 l2 HK HBW
      have HK := Lib.hid hkq
      have HBW := Lib.hid hbq
      have s10 := (cells_of (i := 0) q11).trans (show _ = some (.slice (some ⟨gq, 0, none⟩) (q - p) capq) from rfl)
      have s11 := (cells_of (i := 1) q11).trans (show _ = some (.float .f32 s) from rfl)
      have s30 := (cells_of (i := 0) q13).trans (show _ = some (.slice (some ⟨gr, 0, none⟩) (n - q + p) capr) from rfl)
      have s31 := (cells_of (i := 1) q13).trans (show _ = some (.float .f32 s) from rfl)
      have l11 := block_lt q11
      have l13 := block_lt q13
      have n1 : ¬ w6.heap.size = w.heap.size + 1 := by omega
      have n2 : ¬ w6.heap.size = w.heap.size + 2 := by omega
      have n3 : ¬ w7.heap.size = w.heap.size + 1 := by omega
      have n4 : ¬ w7.heap.size = w.heap.size + 2 := by omega
      clear hwq hkq hbq q11 q13 q117 HI1n HI2n HA HPI HPK HSA HS1 HS2 HCH1 HCH2 HCB HR
      have e0 := (cells_of (i := 0) HK.out.1).trans (show _ = some (.slice (some ⟨b, off, none⟩) n cap) from rfl)
      have e1 := (cells_of (i := 1) HK.out.1).trans (show _ = some (.float .f32 s) from rfl)
      have u0 := (cells_of (i := 0) HK.out.2.1).trans (show _ = some (Value.slice none 0 0) from rfl)
      have u1 := (cells_of (i := 1) HK.out.2.1).trans (show _ = some (Value.float .f32 0) from rfl)
      have r0 := free_of HK.out.2.1 0
      have r1 := free_of HK.out.2.1 1
      have z0 := (cells_of (i := 0) HK.out.2.2).trans (show _ = some (Value.slice none 0 0) from rfl)
      have z1 := (cells_of (i := 1) HK.out.2.2).trans (show _ = some (Value.float .f32 0) from rfl)
      have y0 := free_of HK.out.2.2 0
      have y1 := free_of HK.out.2.2 1
      have l2 := block_lt HK.out.2.2
      have l1 : w.heap.size + 1 < wq.heap.size := by omega
      have l0 : w.heap.size < wq.heap.size := by omega
      go_region
      go_wp2
      refine bodyPost_ret ?ohr rfl ⟨some ⟨gq, 0, none⟩, capq, some ⟨gr, 0, none⟩, capr, gq, gq + 1, gr, gr + 1, rfl, ?o1, ?o2, by omega, by omega, ?o3, by omega, by omega, ?o4, by omega, ?obel⟩
      case o1 =>
        refine HI1q.out.keep fun g hg hgl _ => ?_
        rw [show ∀ (u : World) (i : Nat), u.drew.heap[i]? = u.heap[i]? from fun _ _ => rfl, set_keep _ _ _ (by show g ≠ w.heap.size + 2; omega), set_keep _ _ _ (by show g ≠ w.heap.size + 2; omega), set_keep _ _ _ (by omega), set_keep _ _ _ (by omega)]
      case o2 =>
        refine HI2q.out.keep fun g hg hgl _ => ?_
        rw [show ∀ (u : World) (i : Nat), u.drew.heap[i]? = u.heap[i]? from fun _ _ => rfl, set_keep _ _ _ (by show g ≠ w.heap.size + 2; omega), set_keep _ _ _ (by show g ≠ w.heap.size + 2; omega), set_keep _ _ _ (by omega), set_keep _ _ _ (by omega)]
      case o3 => simp only [World.size_drew, World.size_setCell]; omega
      case o4 => simp only [World.size_drew, World.size_setCell]; omega
      case obel =>
        refine (show ∀ {u : World}, Below w.heap.size w u → Below w.heap.size w u.drew from fun h => below_drewN h 1) ?_
        exact Below.setCell (Below.setCell (Below.setCell (Below.setCell HBW.out (by show w.heap.size ≤ w.heap.size + 1; omega) _) (by show w.heap.size ≤ w.heap.size + 1; omega) _) (by show w.heap.size ≤ w.heap.size + 2; omega) _) (by show w.heap.size ≤ w.heap.size + 2; omega) _
      case ohr => simp [results, Try.results38, go_sem, *]

end Th
end Go.Proofs.Ytjkkefbfhapblaa
