/- A thread split: the model's function. -/
import Derived.Test.YtjkkefbfhapblaaThSd
namespace Go.Proofs.Ytjkkefbfhapblaa
set_option linter.unusedSimpArgs false
set_option linter.unusedVariables false
open Go.RowKit
set_option maxRecDepth 20000
namespace Th
open Fl Rate

/-- Two threads, and whether there are; nothing is said of how their rows lie. -/
def RetSW (R : Bool) (s n n' : Nat) (f f' : Nat → Option Nat) (w : World) (e : Ending) (w' : World) : Prop :=
  ∃ a cap b cap', e = .returned (.tuple #[tV a n cap s, tV b n' cap' s, .bool R]) ∧ IsR w.heap.size w'.heap.size w' a n cap f ∧ IsR w.heap.size w'.heap.size w' b n' cap' f' ∧ Below w.heap.size w w'

theorem retSW_no {f f' : Nat → Option Nat} {w w' : World} (hb : Below w.heap.size w w') : RetSW false 0 0 0 f f' w (.returned (.tuple #[tV none 0 0 0, tV none 0 0 0, .bool false])) w' :=
  ⟨none, 0, none, 0, rfl, isR_nil _ _ _ _, isR_nil _ _ _ _, hb⟩

theorem splitB_eq (n : Nat) (i k : Int) (cs : Option Nat) (c : Nat → Option Nat) : splitB n i k cs c = (((((okT n cs c && ptB n i) && (okT n cs c && ptB n k)) && decide (i < k)) && okT (k.toNat - i.toNat) cs (cutA i.toNat c)) && okT (n - k.toNat + i.toNat) cs (cutB n k.toNat c)) := by
  unfold splitB
  generalize okT (k.toNat - i.toNat) cs _ = X
  generalize okT (n - k.toNat + i.toNat) cs _ = Y
  generalize decide (i < k) = D
  cases okT n cs c <;> cases ptB n i <;> cases ptB n k <;> rfl

theorem app_run2 {o : Oper} {a a' : Act} {w4 w' : World} {B S gw n capw n' cx s : Nat} {ad : Addr} {D D' F : Nat → Option Nat} {xs ys : List Value} (ho : o.op = .call { callee := .builtin .append, args := #[.tmp 46, .tmp 50], argTypes := #[31, 31] }) (h38 : a.eval (.tmp 46) = .slice (some ⟨gw, 0, none⟩) n capw) (h45 : a.eval (.tmp 50) = .slice (some ad) n' cx)
    (hc : LooseP.Cls w4.heap.size w4 [] a' w') (hO : w4.ownsRow B 28 3 (.slice (some ⟨gw, 0, none⟩) n capw) n xs) (hF : FP (n * 3) D xs) (hS : Src3 w4 ad n' D' ys) (hq : w4.heap[S]? = some (.cells #[.slice (some ⟨gw, 0, none⟩) n capw, .float .f32 s] 33)) (hB : B ≤ w4.heap.size) (hn0 : 0 < n) (hn : n ≤ 32) (hn' : n' ≤ 32)
    (HFP : ∀ xs ys, FP (n * 3) D xs → FP (n' * 3) D' ys → FP ((n + n') * 3) F (xs ++ ys)) :
    ∃ u w1, (execOp a.eval o).run Try.prog w' = .ok (.value u) w1 ∧ (∃ g cap, u = .slice (some ⟨g, 0, none⟩) (n + n') cap) ∧ (LooseP.Cls B w4 [((51 : Nat), phiW B (n + n') F)] (a'.put (some 51) u) w1 ∧ w1.heap[S]? = some (.cells #[.slice (some ⟨gw, 0, none⟩) n capw, .float .f32 s] 33)) := by
  obtain ⟨i0, hI, hI0, hI1, hI2⟩ := info_v
  have hO' := own_below hO hc.1
  have hq' := keep_block hc.1 hq
  obtain ⟨v', w1, hr, hown, hgrow, _⟩ := run_append_own (P := Try.prog) w' B 31 o.type 28 i0 (.agg #[.float .f32 0, .float .f32 0, .float .f32 0]) 3 12 Try.underlying31 hI hI0 hI1 hI2 rfl (by decide) _ n xs hO' ad n' cx ys hS.1.1 (hS.2 w' hc.1) hS.1.cell (by unfold maxLen; omega) (by omega) (Nat.le_trans hB hc.1.size)
  obtain ⟨g1, cap1, rfl⟩ := Joins.ownsRow_form hown (by omega)
  have hcl : LooseP.Cls B w4 [] a' w1 := And.intro (Below.grown (hc.1.mono hB) hgrow (Nat.le_trans hB hc.1.size) (own_ge hO' (Nat.le_refl _))) (fun p hp => by cases hp)
  refine ⟨_, w1, LooseL.run_app ho h38 h45 hr, ⟨g1, cap1, rfl⟩, LooseL.cls_turn (φ := phiW B (n + n') F) hcl (by intro p hp hd; rw [List.mem_singleton.1 hp] at hd; exact absurd rfl hd) (by intro p hp _; rw [List.mem_singleton.1 hp]) _ ⟨g1, cap1, _, rfl, hown, HFP _ _ hF hS.1⟩, ?_⟩
  rw [hgrow.block S (block_lt hq') (own_off hO' hq' (by decide))]; exact hq'

theorem own_low {w w' : World} {B e L g n cap : Nat} {xs : List Value} (h : w.ownsRow B e 3 (.slice (some ⟨g, 0, none⟩) n cap) n xs) (hb : Below L w w') (hg : g < L) : w'.ownsRow B e 3 (.slice (some ⟨g, 0, none⟩) n cap) n xs :=
  own_heap h fun g' hg' _ => hb.block g' (by simp [Value.ownBlock] at hg'; omega)

set_option maxHeartbeats 12800000 in
theorem spec_SplitT (a : Option Addr) (n cap s : Nat) (cs : Option Nat) (c : Nat → Option Nat) (w : World) (h : IsV w a n cap c) (fs : Fr .f32 s cs) (i k : Int) (R : Bool) (hR : splitB n i k cs c = R) :
    Calls Try.prog 37 #[tV a n cap s, .int .i64 i, .int .i64 k] w (RetSW R (if R then s else 0) (if R then k.toNat - i.toNat else 0) (if R then n - k.toNat + i.toNat else 0) (cutA i.toNat c) (cutB n k.toNat c) w) := by
  rw [splitB_eq] at hR
  have HA := Lib.hid (fun G w' (hb : Below w.heap.size w w') e0 e1 => spec_point G a n cap s cs c i w' e0 e1 (h.later hb) fs)
  have HA' := Lib.hid (fun G w' (hb : Below w.heap.size w w') e0 e1 => spec_point G a n cap s cs c k w' e0 e1 (h.later hb) fs)
  cases hQ : (okT n cs c && ptB n i)
  · obtain rfl : R = false := by rw [← hR]; rw [hQ]; rfl
    show Calls _ _ _ w (RetSW false 0 0 0 _ _ w)
    rw [hQ] at HA
    clear hR h hQ
    go_enter Try.func37, Try.ntmps37
    go_wp2_with fail
    obtain ⟨wc, hwc⟩ : ∃ u, u = ((w.alloc (.cells #[.slice a n cap, .float .f32 s] 33)).alloc (.cells #[.slice none 0 0, .float .f32 0] 33)).alloc (.cells #[.slice none 0 0, .float .f32 0] 33) := ⟨_, rfl⟩
    rw [← hwc]
    have HK := Lib.hid (show Box3 w.heap.size wc (.cells #[.slice a n cap, .float .f32 s] 33) (.cells #[.slice none 0 0, .float .f32 0] 33) (.cells #[.slice none 0 0, .float .f32 0] 33) from by rw [hwc]; exact three_boxes _ _ _ _)
    have HBW := Lib.hid (show Below w.heap.size w wc from by rw [hwc]; exact three_below _ _ _ _)
    clear hwc
    have e0 := (cells_of (i := 0) HK.out.1).trans (show _ = some (.slice a n cap) from rfl)
    have e1 := (cells_of (i := 1) HK.out.1).trans (show _ = some (.float .f32 s) from rfl)
    have u0 := (cells_of (i := 0) HK.out.2.1).trans (show _ = some (Value.slice none 0 0) from rfl)
    have u1 := (cells_of (i := 1) HK.out.2.1).trans (show _ = some (Value.float .f32 0) from rfl)
    have r0 := free_of HK.out.2.1 0
    have r1 := free_of HK.out.2.1 1
    have z0 := (cells_of (i := 0) HK.out.2.2).trans (show _ = some (Value.slice none 0 0) from rfl)
    have z1 := (cells_of (i := 1) HK.out.2.2).trans (show _ = some (Value.float .f32 0) from rfl)
    have y0 := free_of HK.out.2.2 0
    have y1 := free_of HK.out.2.2 1
    have l2 := block_lt HK.out.2.2
    have l1 : w.heap.size + 1 < wc.heap.size := by omega
    have l0 : w.heap.size < wc.heap.size := by omega
    refine (HA.out _ _ HBW.out e0 e1).mono ?_
    rintro e w1 ⟨rfl, hbw1⟩
    have hkw1 := HK.out.later hbw1
    have hbww1 : Below w.heap.size w w1 := HBW.out.trans (hbw1.mono HBW.out.size)
    clear e0 e1 u0 u1 r0 r1 z0 z1 y0 y1 l0 l1 l2 HK HBW
    have HK := Lib.hid hkw1
    have HBW := Lib.hid hbww1
    clear hkw1 hbww1 hbw1
    have e0 := (cells_of (i := 0) HK.out.1).trans (show _ = some (.slice a n cap) from rfl)
    have e1 := (cells_of (i := 1) HK.out.1).trans (show _ = some (.float .f32 s) from rfl)
    have u0 := (cells_of (i := 0) HK.out.2.1).trans (show _ = some (Value.slice none 0 0) from rfl)
    have u1 := (cells_of (i := 1) HK.out.2.1).trans (show _ = some (Value.float .f32 0) from rfl)
    have r0 := free_of HK.out.2.1 0
    have r1 := free_of HK.out.2.1 1
    have z0 := (cells_of (i := 0) HK.out.2.2).trans (show _ = some (Value.slice none 0 0) from rfl)
    have z1 := (cells_of (i := 1) HK.out.2.2).trans (show _ = some (Value.float .f32 0) from rfl)
    have y0 := free_of HK.out.2.2 0
    have y1 := free_of HK.out.2.2 1
    have l2 := block_lt HK.out.2.2
    have l1 : w.heap.size + 1 < w1.heap.size := by omega
    have l0 : w.heap.size < w1.heap.size := by omega
    go_wp2
    refine bodyPost_ret ?ohr rfl (retSW_no ?obel)
    case ohr => simp [results, Try.results37, go_sem, *]
    case obel => exact Below.setCell (Below.setCell (Below.setCell (Below.setCell HBW.out (by show w.heap.size ≤ w.heap.size + 1; omega) _) (by show w.heap.size ≤ w.heap.size + 1; omega) _) (by show w.heap.size ≤ w.heap.size + 2; omega) _) (by show w.heap.size ≤ w.heap.size + 2; omega) _
  cases hQ' : (okT n cs c && ptB n k)
  · obtain rfl : R = false := by rw [← hR]; rw [hQ, hQ']; rfl
    show Calls _ _ _ w (RetSW false 0 0 0 _ _ w)
    rw [hQ] at HA
    rw [hQ'] at HA'
    clear hR h hQ hQ'
    go_enter Try.func37, Try.ntmps37
    go_wp2_with fail
    obtain ⟨wc, hwc⟩ : ∃ u, u = ((w.alloc (.cells #[.slice a n cap, .float .f32 s] 33)).alloc (.cells #[.slice none 0 0, .float .f32 0] 33)).alloc (.cells #[.slice none 0 0, .float .f32 0] 33) := ⟨_, rfl⟩
    rw [← hwc]
    have HK := Lib.hid (show Box3 w.heap.size wc (.cells #[.slice a n cap, .float .f32 s] 33) (.cells #[.slice none 0 0, .float .f32 0] 33) (.cells #[.slice none 0 0, .float .f32 0] 33) from by rw [hwc]; exact three_boxes _ _ _ _)
    have HBW := Lib.hid (show Below w.heap.size w wc from by rw [hwc]; exact three_below _ _ _ _)
    clear hwc
    have e0 := (cells_of (i := 0) HK.out.1).trans (show _ = some (.slice a n cap) from rfl)
    have e1 := (cells_of (i := 1) HK.out.1).trans (show _ = some (.float .f32 s) from rfl)
    have u0 := (cells_of (i := 0) HK.out.2.1).trans (show _ = some (Value.slice none 0 0) from rfl)
    have u1 := (cells_of (i := 1) HK.out.2.1).trans (show _ = some (Value.float .f32 0) from rfl)
    have r0 := free_of HK.out.2.1 0
    have r1 := free_of HK.out.2.1 1
    have z0 := (cells_of (i := 0) HK.out.2.2).trans (show _ = some (Value.slice none 0 0) from rfl)
    have z1 := (cells_of (i := 1) HK.out.2.2).trans (show _ = some (Value.float .f32 0) from rfl)
    have y0 := free_of HK.out.2.2 0
    have y1 := free_of HK.out.2.2 1
    have l2 := block_lt HK.out.2.2
    have l1 : w.heap.size + 1 < wc.heap.size := by omega
    have l0 : w.heap.size < wc.heap.size := by omega
    refine (HA.out _ _ HBW.out e0 e1).mono ?_
    rintro e w1 ⟨rfl, hbw1⟩
    have hkw1 := HK.out.later hbw1
    have hbww1 : Below w.heap.size w w1 := HBW.out.trans (hbw1.mono HBW.out.size)
    clear e0 e1 u0 u1 r0 r1 z0 z1 y0 y1 l0 l1 l2 HK HBW
    have HK := Lib.hid hkw1
    have HBW := Lib.hid hbww1
    clear hkw1 hbww1 hbw1
    have e0 := (cells_of (i := 0) HK.out.1).trans (show _ = some (.slice a n cap) from rfl)
    have e1 := (cells_of (i := 1) HK.out.1).trans (show _ = some (.float .f32 s) from rfl)
    have u0 := (cells_of (i := 0) HK.out.2.1).trans (show _ = some (Value.slice none 0 0) from rfl)
    have u1 := (cells_of (i := 1) HK.out.2.1).trans (show _ = some (Value.float .f32 0) from rfl)
    have r0 := free_of HK.out.2.1 0
    have r1 := free_of HK.out.2.1 1
    have z0 := (cells_of (i := 0) HK.out.2.2).trans (show _ = some (Value.slice none 0 0) from rfl)
    have z1 := (cells_of (i := 1) HK.out.2.2).trans (show _ = some (Value.float .f32 0) from rfl)
    have y0 := free_of HK.out.2.2 0
    have y1 := free_of HK.out.2.2 1
    have l2 := block_lt HK.out.2.2
    have l1 : w.heap.size + 1 < w1.heap.size := by omega
    have l0 : w.heap.size < w1.heap.size := by omega
    go_wp2_with fail
    refine (HA'.out _ _ HBW.out e0 e1).mono ?_
    rintro e w2 ⟨rfl, hbw2⟩
    have hkw2 := HK.out.later hbw2
    have hbww2 : Below w.heap.size w w2 := HBW.out.trans (hbw2.mono HBW.out.size)
    clear e0 e1 u0 u1 r0 r1 z0 z1 y0 y1 l0 l1 l2 HK HBW
    have HK := Lib.hid hkw2
    have HBW := Lib.hid hbww2
    clear hkw2 hbww2 hbw2
    have e0 := (cells_of (i := 0) HK.out.1).trans (show _ = some (.slice a n cap) from rfl)
    have e1 := (cells_of (i := 1) HK.out.1).trans (show _ = some (.float .f32 s) from rfl)
    have u0 := (cells_of (i := 0) HK.out.2.1).trans (show _ = some (Value.slice none 0 0) from rfl)
    have u1 := (cells_of (i := 1) HK.out.2.1).trans (show _ = some (Value.float .f32 0) from rfl)
    have r0 := free_of HK.out.2.1 0
    have r1 := free_of HK.out.2.1 1
    have z0 := (cells_of (i := 0) HK.out.2.2).trans (show _ = some (Value.slice none 0 0) from rfl)
    have z1 := (cells_of (i := 1) HK.out.2.2).trans (show _ = some (Value.float .f32 0) from rfl)
    have y0 := free_of HK.out.2.2 0
    have y1 := free_of HK.out.2.2 1
    have l2 := block_lt HK.out.2.2
    have l1 : w.heap.size + 1 < w2.heap.size := by omega
    have l0 : w.heap.size < w2.heap.size := by omega
    go_wp2
    refine bodyPost_ret ?ohr rfl (retSW_no ?obel)
    case ohr => simp [results, Try.results37, go_sem, *]
    case obel => exact Below.setCell (Below.setCell (Below.setCell (Below.setCell HBW.out (by show w.heap.size ≤ w.heap.size + 1; omega) _) (by show w.heap.size ≤ w.heap.size + 1; omega) _) (by show w.heap.size ≤ w.heap.size + 2; omega) _) (by show w.heap.size ≤ w.heap.size + 2; omega) _
  rw [hQ] at HA
  rw [hQ'] at HA'
  by_cases hD : ¬ i < k
  · obtain rfl : R = false := by rw [← hR]; rw [hQ, hQ', decide_eq_false hD]; rfl
    show Calls _ _ _ w (RetSW false 0 0 0 _ _ w)
    have hD2 : k ≤ i := by omega
    clear hR h hQ hQ'
    go_enter Try.func37, Try.ntmps37
    go_wp2_with fail
    obtain ⟨wc, hwc⟩ : ∃ u, u = ((w.alloc (.cells #[.slice a n cap, .float .f32 s] 33)).alloc (.cells #[.slice none 0 0, .float .f32 0] 33)).alloc (.cells #[.slice none 0 0, .float .f32 0] 33) := ⟨_, rfl⟩
    rw [← hwc]
    have HK := Lib.hid (show Box3 w.heap.size wc (.cells #[.slice a n cap, .float .f32 s] 33) (.cells #[.slice none 0 0, .float .f32 0] 33) (.cells #[.slice none 0 0, .float .f32 0] 33) from by rw [hwc]; exact three_boxes _ _ _ _)
    have HBW := Lib.hid (show Below w.heap.size w wc from by rw [hwc]; exact three_below _ _ _ _)
    clear hwc
    have e0 := (cells_of (i := 0) HK.out.1).trans (show _ = some (.slice a n cap) from rfl)
    have e1 := (cells_of (i := 1) HK.out.1).trans (show _ = some (.float .f32 s) from rfl)
    have u0 := (cells_of (i := 0) HK.out.2.1).trans (show _ = some (Value.slice none 0 0) from rfl)
    have u1 := (cells_of (i := 1) HK.out.2.1).trans (show _ = some (Value.float .f32 0) from rfl)
    have r0 := free_of HK.out.2.1 0
    have r1 := free_of HK.out.2.1 1
    have z0 := (cells_of (i := 0) HK.out.2.2).trans (show _ = some (Value.slice none 0 0) from rfl)
    have z1 := (cells_of (i := 1) HK.out.2.2).trans (show _ = some (Value.float .f32 0) from rfl)
    have y0 := free_of HK.out.2.2 0
    have y1 := free_of HK.out.2.2 1
    have l2 := block_lt HK.out.2.2
    have l1 : w.heap.size + 1 < wc.heap.size := by omega
    have l0 : w.heap.size < wc.heap.size := by omega
    refine (HA.out _ _ HBW.out e0 e1).mono ?_
    rintro e w1 ⟨rfl, hbw1⟩
    have hkw1 := HK.out.later hbw1
    have hbww1 : Below w.heap.size w w1 := HBW.out.trans (hbw1.mono HBW.out.size)
    clear e0 e1 u0 u1 r0 r1 z0 z1 y0 y1 l0 l1 l2 HK HBW
    have HK := Lib.hid hkw1
    have HBW := Lib.hid hbww1
    clear hkw1 hbww1 hbw1
    have e0 := (cells_of (i := 0) HK.out.1).trans (show _ = some (.slice a n cap) from rfl)
    have e1 := (cells_of (i := 1) HK.out.1).trans (show _ = some (.float .f32 s) from rfl)
    have u0 := (cells_of (i := 0) HK.out.2.1).trans (show _ = some (Value.slice none 0 0) from rfl)
    have u1 := (cells_of (i := 1) HK.out.2.1).trans (show _ = some (Value.float .f32 0) from rfl)
    have r0 := free_of HK.out.2.1 0
    have r1 := free_of HK.out.2.1 1
    have z0 := (cells_of (i := 0) HK.out.2.2).trans (show _ = some (Value.slice none 0 0) from rfl)
    have z1 := (cells_of (i := 1) HK.out.2.2).trans (show _ = some (Value.float .f32 0) from rfl)
    have y0 := free_of HK.out.2.2 0
    have y1 := free_of HK.out.2.2 1
    have l2 := block_lt HK.out.2.2
    have l1 : w.heap.size + 1 < w1.heap.size := by omega
    have l0 : w.heap.size < w1.heap.size := by omega
    go_wp2_with fail
    refine (HA'.out _ _ HBW.out e0 e1).mono ?_
    rintro e w2 ⟨rfl, hbw2⟩
    have hkw2 := HK.out.later hbw2
    have hbww2 : Below w.heap.size w w2 := HBW.out.trans (hbw2.mono HBW.out.size)
    clear e0 e1 u0 u1 r0 r1 z0 z1 y0 y1 l0 l1 l2 HK HBW
    have HK := Lib.hid hkw2
    have HBW := Lib.hid hbww2
    clear hkw2 hbww2 hbw2
    have e0 := (cells_of (i := 0) HK.out.1).trans (show _ = some (.slice a n cap) from rfl)
    have e1 := (cells_of (i := 1) HK.out.1).trans (show _ = some (.float .f32 s) from rfl)
    have u0 := (cells_of (i := 0) HK.out.2.1).trans (show _ = some (Value.slice none 0 0) from rfl)
    have u1 := (cells_of (i := 1) HK.out.2.1).trans (show _ = some (Value.float .f32 0) from rfl)
    have r0 := free_of HK.out.2.1 0
    have r1 := free_of HK.out.2.1 1
    have z0 := (cells_of (i := 0) HK.out.2.2).trans (show _ = some (Value.slice none 0 0) from rfl)
    have z1 := (cells_of (i := 1) HK.out.2.2).trans (show _ = some (Value.float .f32 0) from rfl)
    have y0 := free_of HK.out.2.2 0
    have y1 := free_of HK.out.2.2 1
    have l2 := block_lt HK.out.2.2
    have l1 : w.heap.size + 1 < w2.heap.size := by omega
    have l0 : w.heap.size < w2.heap.size := by omega
    go_wp2
    refine bodyPost_ret ?ohr rfl (retSW_no ?obel)
    case ohr => simp [results, Try.results37, go_sem, *]
    case obel => exact Below.setCell (Below.setCell (Below.setCell (Below.setCell HBW.out (by show w.heap.size ≤ w.heap.size + 1; omega) _) (by show w.heap.size ≤ w.heap.size + 1; omega) _) (by show w.heap.size ≤ w.heap.size + 2; omega) _) (by show w.heap.size ≤ w.heap.size + 2; omega) _
  have hD2 : i < k := Decidable.not_not.1 hD
  have hD3 : ¬ k ≤ i := by omega
  clear hD
  obtain ⟨R1, hR1⟩ : ∃ R, okT (k.toNat - i.toNat) cs (cutA i.toNat c) = R := ⟨_, rfl⟩
  obtain ⟨R2, hR2⟩ : ∃ R, okT (n - k.toNat + i.toNat) cs (cutB n k.toNat c) = R := ⟨_, rfl⟩
  have hT : (R1 && R2) = R := by rw [← hR]; rw [hQ, hQ', decide_eq_true hD2, hR1, hR2]; rfl
  simp only [Bool.and_eq_true] at hQ hQ'
  obtain ⟨hA, hB⟩ := hQ
  obtain ⟨_, hC⟩ := hQ'
  obtain ⟨hn3, hn32, hsf, _⟩ := okT_of hA
  unfold ptB at hB hC
  simp only [Bool.and_eq_true, decide_eq_true_eq] at hB hC
  obtain ⟨p, rfl⟩ : ∃ p : Nat, i = (p : Int) := ⟨i.toNat, by omega⟩
  obtain ⟨q, rfl⟩ : ∃ q : Nat, k = (q : Int) := ⟨k.toNat, by omega⟩
  rw [show (p : Int).toNat = p by simp] at hR1 hR2 ⊢
  rw [show (q : Int).toNat = q by simp] at hR1 hR2 ⊢
  have hpq : p < q := by omega
  have hqn : q < n := by omega
  obtain ⟨h2, h3, b, off, h5, h6⟩ := h
  obtain rfl := h5 (by omega)
  obtain ⟨xs, hx1, hx2, hx3, hx4⟩ := cells_v h6
  have hlb : b < w.heap.size := by obtain ⟨x, hx, _⟩ := h6 0 (by omega); exact block_lt_of_cell hx
  have HSA := Lib.hid (show Src3 w ⟨b, off + p * 3, none⟩ (q - p) (cutA p c) _ from src_cut hlb hx1 hx2 hx3 (by omega))
  have HS1 := Lib.hid (show Src3 w ⟨b, off + q * 3, none⟩ (n - q) (fun j => c (j + q * 3)) _ from src_cut (m := n - q) hlb hx1 hx2 hx3 (by omega))
  have HS2 := Lib.hid (show Src3 w ⟨b, off, none⟩ p c _ from by have := src_cut (p := 0) (m := p) (off := off) hlb hx1 hx2 hx3 (by omega); simpa using this)
  have HCH1 := Lib.hid (fun G a cap w e0 e1 (h : IsV w a (q - p) cap (cutA p c)) => spec_is G a (q - p) cap s cs _ w e0 e1 h fs R1 hR1)
  have HCH2 := Lib.hid (fun G a cap w e0 e1 (h : IsV w a (n - q + p) cap (cutB n q c)) => spec_is G a (n - q + p) cap s cs _ w e0 e1 h fs R2 hR2)
  have HCB := Lib.hid (show (fun j => if j < (n - q) * 3 then c (j + q * 3) else c (j - (n - q) * 3)) = cutB n q c from rfl)
  generalize (xs.drop (p * 3)).take ((q - p) * 3) = ya at *
  generalize (xs.drop (q * 3)).take ((n - q) * 3) = yb at *
  generalize xs.take (p * 3) = yc at *
  unfold maxLen at h3
  obtain ⟨sR, hsR⟩ : ∃ x, (if R then s else 0) = x := ⟨_, rfl⟩
  obtain ⟨nA, hnA⟩ : ∃ x, (if R then q - p else 0) = x := ⟨_, rfl⟩
  obtain ⟨nB, hnB⟩ : ∃ x, (if R then n - q + p else 0) = x := ⟨_, rfl⟩
  rw [hsR, hnA, hnB]
  have HR := Lib.hid (And.intro hT (And.intro hsR (And.intro hnA hnB)))
  have hc1 : ¬ cap = p := by omega
  have hc2 : ¬ cap = q := by omega
  have hc3 : p ≤ cap := by omega
  have hc4 : q ≤ cap := by omega
  have hpn : p ≤ n := by omega
  have hpq2 : p ≤ q := by omega
  have hqn2 : q ≤ n := by omega
  have hq9 : (q : Int) ≤ 9223372036854775807 := by omega
  have hp9 : (p : Int) ≤ 9223372036854775807 := by omega
  clear h5 h6 hx1 hx2 hx3 hx4 hA hB hC hR hR1 hR2 hT hsR hnA hnB
  go_enter Try.func37, Try.ntmps37
  go_wp2_with fail
  obtain ⟨wc, hwc⟩ : ∃ u, u = ((w.alloc (.cells #[.slice (some ⟨b, off, none⟩) n cap, .float .f32 s] 33)).alloc (.cells #[.slice none 0 0, .float .f32 0] 33)).alloc (.cells #[.slice none 0 0, .float .f32 0] 33) := ⟨_, rfl⟩
  rw [← hwc]
  have HK := Lib.hid (show Box3 w.heap.size wc (.cells #[.slice (some ⟨b, off, none⟩) n cap, .float .f32 s] 33) (.cells #[.slice none 0 0, .float .f32 0] 33) (.cells #[.slice none 0 0, .float .f32 0] 33) from by rw [hwc]; exact three_boxes _ _ _ _)
  have HBW := Lib.hid (show Below w.heap.size w wc from by rw [hwc]; exact three_below _ _ _ _)
  clear hwc
  have e0 := (cells_of (i := 0) HK.out.1).trans (show _ = some (.slice (some ⟨b, off, none⟩) n cap) from rfl)
  have e1 := (cells_of (i := 1) HK.out.1).trans (show _ = some (.float .f32 s) from rfl)
  have u0 := (cells_of (i := 0) HK.out.2.1).trans (show _ = some (Value.slice none 0 0) from rfl)
  have u1 := (cells_of (i := 1) HK.out.2.1).trans (show _ = some (Value.float .f32 0) from rfl)
  have r0 := free_of HK.out.2.1 0
  have r1 := free_of HK.out.2.1 1
  have z0 := (cells_of (i := 0) HK.out.2.2).trans (show _ = some (Value.slice none 0 0) from rfl)
  have z1 := (cells_of (i := 1) HK.out.2.2).trans (show _ = some (Value.float .f32 0) from rfl)
  have y0 := free_of HK.out.2.2 0
  have y1 := free_of HK.out.2.2 1
  have l2 := block_lt HK.out.2.2
  have l1 : w.heap.size + 1 < wc.heap.size := by omega
  have l0 : w.heap.size < wc.heap.size := by omega
  refine (HA.out _ _ HBW.out e0 e1).mono ?_
  rintro e w1 ⟨rfl, hbw1⟩
  have hkw1 := HK.out.later hbw1
  have hbww1 : Below w.heap.size w w1 := HBW.out.trans (hbw1.mono HBW.out.size)
  clear e0 e1 u0 u1 r0 r1 z0 z1 y0 y1 l0 l1 l2 HK HBW
  have HK := Lib.hid hkw1
  have HBW := Lib.hid hbww1
  clear hkw1 hbww1 hbw1
  have e0 := (cells_of (i := 0) HK.out.1).trans (show _ = some (.slice (some ⟨b, off, none⟩) n cap) from rfl)
  have e1 := (cells_of (i := 1) HK.out.1).trans (show _ = some (.float .f32 s) from rfl)
  have u0 := (cells_of (i := 0) HK.out.2.1).trans (show _ = some (Value.slice none 0 0) from rfl)
  have u1 := (cells_of (i := 1) HK.out.2.1).trans (show _ = some (Value.float .f32 0) from rfl)
  have r0 := free_of HK.out.2.1 0
  have r1 := free_of HK.out.2.1 1
  have z0 := (cells_of (i := 0) HK.out.2.2).trans (show _ = some (Value.slice none 0 0) from rfl)
  have z1 := (cells_of (i := 1) HK.out.2.2).trans (show _ = some (Value.float .f32 0) from rfl)
  have y0 := free_of HK.out.2.2 0
  have y1 := free_of HK.out.2.2 1
  have l2 := block_lt HK.out.2.2
  have l1 : w.heap.size + 1 < w1.heap.size := by omega
  have l0 : w.heap.size < w1.heap.size := by omega
  go_wp2_with fail
  refine (HA'.out _ _ HBW.out e0 e1).mono ?_
  rintro e w2 ⟨rfl, hbw2⟩
  have hkw2 := HK.out.later hbw2
  have hbww2 : Below w.heap.size w w2 := HBW.out.trans (hbw2.mono HBW.out.size)
  clear e0 e1 u0 u1 r0 r1 z0 z1 y0 y1 l0 l1 l2 HK HBW
  have HK := Lib.hid hkw2
  have HBW := Lib.hid hbww2
  clear hkw2 hbww2 hbw2
  have e0 := (cells_of (i := 0) HK.out.1).trans (show _ = some (.slice (some ⟨b, off, none⟩) n cap) from rfl)
  have e1 := (cells_of (i := 1) HK.out.1).trans (show _ = some (.float .f32 s) from rfl)
  have u0 := (cells_of (i := 0) HK.out.2.1).trans (show _ = some (Value.slice none 0 0) from rfl)
  have u1 := (cells_of (i := 1) HK.out.2.1).trans (show _ = some (Value.float .f32 0) from rfl)
  have r0 := free_of HK.out.2.1 0
  have r1 := free_of HK.out.2.1 1
  have z0 := (cells_of (i := 0) HK.out.2.2).trans (show _ = some (Value.slice none 0 0) from rfl)
  have z1 := (cells_of (i := 1) HK.out.2.2).trans (show _ = some (Value.float .f32 0) from rfl)
  have y0 := free_of HK.out.2.2 0
  have y1 := free_of HK.out.2.2 1
  have l2 := block_lt HK.out.2.2
  have l1 : w.heap.size + 1 < w2.heap.size := by omega
  have l0 : w.heap.size < w2.heap.size := by omega
  go_wp2_with fail
  obtain ⟨i0, hI, hI0, hI1, hI2⟩ := info_v
  have hlw2 := l2
  have HBQ := Lib.hid HBW.out
  have hl22 := l2
  have hst : ∀ x ∈ [((32 : Nat), phiW w2.heap.size (q - p) (cutA p c)), ((9 : Nat), phiB w2.heap.size)], LooseP.Stable x.2 := duo_stableW (phiW_stable _ _ _) (phiB_stable _)
  have hst' : ∀ x ∈ [((35 : Nat), phiWT w2.heap.size (q - p) s (cutA p c)), ((9 : Nat), phiB w2.heap.size)], LooseP.Stable x.2 := duo_stableW (phiWT_stable _ _ _ _) (phiB_stable _)
  have huc : ∀ x ∈ [((32 : Nat), phiW w2.heap.size (q - p) (cutA p c)), ((9 : Nat), phiB w2.heap.size)], x.1 = 32 → x.2 = phiW w2.heap.size (q - p) (cutA p c) := duo_firstW (by decide)
  have hub : ∀ x ∈ [((32 : Nat), phiW w2.heap.size (q - p) (cutA p c)), ((9 : Nat), phiB w2.heap.size)], x.1 = 9 → x.2 = phiB w2.heap.size := duo_secondW (by decide)
  have hub' : ∀ x ∈ [((35 : Nat), phiWT w2.heap.size (q - p) s (cutA p c)), ((9 : Nat), phiB w2.heap.size)], x.1 = 9 → x.2 = phiB w2.heap.size := duo_secondW (by decide)
  refine LooseL.wp_region 11 9 (fun i => decide (i < 9)) [((32 : Nat), phiW w2.heap.size (q - p) (cutA p c)), ((9 : Nat), phiB w2.heap.size)] [((35 : Nat), phiWT w2.heap.size (q - p) s (cutA p c)), ((9 : Nat), phiB w2.heap.size)] (by decide) (fun i hi => by simp; omega) (by kernel_rfl) (by kernel_rfl) (by kernel_rfl) (by simp [undef]) ?_
  apply Exists.intro
  simp only [List.take_succ_cons, List.take_zero, List.drop_succ_cons, List.drop_zero]
  repeat (first | (apply LooseL.walk_before (by decide) rfl; intro K hK; apply LooseP.turn_value (hwant := rfl) (hd := rfl); (focus (intro w' hw'; obtain ⟨hc, hf⟩ := Fl.bcell hw'; go_simp; first | done | rfl | exact ⟨rfl, rfl⟩)); go_simp; refine hK _ ?_; clear hK K) | (apply LooseL.walk_before (by decide) rfl; intro K hK; apply LooseP.turn_row0 (ob := .cells #[] 28) hst (Nat.le_refl _) (hwant := rfl) (hd := rfl); (focus (intro w'; go_simp; first | done | rfl | exact ⟨rfl, rfl⟩)); intro b3; go_simp; refine hK _ ?_; clear hK K) | (apply LooseL.walk_before (by decide) rfl; intro K hK; refine LooseP.turn_append0 (d := 32) (φ := phiW w2.heap.size (q - p) (cutA p c)) hst (Nat.le_refl _) rfl rfl huc (.tmp 26) (.tmp 31) 31 rfl 28 i0 (.agg #[.float .f32 0, .float .f32 0, .float .f32 0]) 3 12 Try.underlying31 hI hI0 hI1 hI2 rfl (by decide) ⟨b3, 0, none⟩ rfl _ (q - p) _ ya rfl HSA.out.1.1 (fun w' hb' => HSA.out.2 w' (HBQ.out.trans (hb'.mono HBQ.out.size))) (by omega) (by unfold maxLen; omega) (by omega) (fun v' w0 w' hB ho => by obtain ⟨g, cap, rfl⟩ := Joins.ownsRow_form ho (by omega); exact ⟨g, cap, ya, rfl, own_wider ho hB, HSA.out.1⟩) ?_; (intro gq capq; go_simp; refine hK _ ?_; clear hK K)) | (apply LooseL.walk_put (d := 35) (V := fun v => ∃ g cap, v = .agg #[.slice (some ⟨g, 0, none⟩) (q - p) cap, .float .f32 s]) (hks := rfl) (hwant := rfl) (hdst := rfl) (hV := ⟨_, 0, 0, rfl⟩); (focus (intro a' w' hl hc; obtain ⟨g9, cap9, xs9, k1, k2, k3⟩ := hc.at (List.mem_cons_self ..) (hl.2 (.tmp 32) (by simp [Op.operands])) (by simp [Act.eval, undef]); refine ⟨.agg #[.slice (some ⟨gq, 0, none⟩) (q - p) capq, .float .f32 s], w', (by go_simp; first | done | rfl | exact ⟨rfl, rfl⟩), ⟨gq, capq, rfl⟩, LooseL.cls_turn hc (by intro p hp hd; simp at hp; rcases hp with rfl | rfl <;> (first | exact absurd rfl hd | simp)) (duo_firstW (by decide)) _ ?_⟩; obtain ⟨rfl, rfl⟩ : gq = g9 ∧ capq = cap9 := (by simpa [Act.eval] using k1); exact ⟨_, _, _, rfl, k2, k3⟩)); (intro v hv; obtain ⟨gw, capw, rfl⟩ := hv; go_simp)) | (apply LooseL.walk_box (d := 9) (φ := phiB w2.heap.size) (ob := .cells #[.slice none 0 0, .float .f32 0] 33) (hk := by decide) (hst := hst) (hst' := hst') (hB := Nat.le_refl _) (hwant := rfl) (hdst := rfl) (huni := hub) (huni' := hub') (hrun := by intro w'; go_simp; first | done | rfl | exact ⟨rfl, rfl⟩) (hφ := fun w' hw' => ⟨_, rfl, hw', new_block _ _⟩); (intro K hK S hS; go_simp; refine hK _ ?_; clear hK K)))
  refine LooseL.walk_nil ?_
  intro w3 hcls3
  have hb3 := hcls3.1
  obtain ⟨g8, c8, xsA, e8, own3, fp3⟩ := hcls3.at (List.mem_cons_self ..) (v := .agg #[.slice (some ⟨gw, 0, none⟩) (q - p) capw, .float .f32 s]) rfl (by simp [undef])
  obtain ⟨rfl, rfl⟩ : gw = g8 ∧ capw = c8 := by simpa using e8
  obtain ⟨S8, hS8, hSB, hqS⟩ := hcls3.at (List.mem_cons_of_mem _ (List.mem_cons_self ..)) (v := .pointer (some ⟨S, 0, none⟩)) rfl (by simp [undef])
  obtain rfl : S = S8 := by simpa using hS8
  obtain ⟨gA, hgA⟩ : ∃ x, x = gw := ⟨_, rfl⟩
  obtain ⟨cA, hcA⟩ : ∃ x, x = capw := ⟨_, rfl⟩
  obtain ⟨SA, hSxA⟩ : ∃ x, x = S := ⟨_, rfl⟩
  rw [← hgA, ← hcA] at own3
  rw [← hSxA] at hqS hSB
  rw [← hgA, ← hcA, ← hSxA]
  clear hgA hcA hSxA
  have hz3 := hb3.size
  have hS2 : w.heap.size + 2 < SA := by omega
  have hkS := HK.out.later hb3
  have hbS := HBW.out.trans (hb3.mono HBW.out.size)
  have s0 := (cells_of (i := 0) hqS).trans (show _ = some (Value.slice none 0 0) from rfl)
  have s1 := (cells_of (i := 1) hqS).trans (show _ = some (Value.float .f32 0) from rfl)
  have t0 := free_of hqS 0
  have t1 := free_of hqS 1
  have lS3 := block_lt hqS
  have HQ3 := Lib.hid hqS
  have HO3 := Lib.hid own3
  have HFA := Lib.hid fp3
  clear e0 e1 u0 u1 r0 r1 z0 z1 y0 y1 l0 l1 l2 HK HBW
  have HKS := Lib.hid hkS
  have HBS := Lib.hid hbS
  have HB3 := Lib.hid hb3
  clear hcls3 hst hst' huc hub hub' e8 hS8 hqS own3 fp3 hb3 hkS hbS
  go_wp2_with fail
  obtain ⟨w4, hw4⟩ : ∃ u, u = (w3.setCell ⟨SA, 0, none⟩ (.slice (some ⟨gA, 0, none⟩) (q - p) cA)).setCell ⟨SA, 1, none⟩ (.float .f32 s) := ⟨_, rfl⟩
  rw [← hw4]
  have hz4 : w3.heap.size ≤ w4.heap.size := by rw [hw4]; simp
  have hq4 : w4.heap[SA]? = some (.cells #[.slice (some ⟨gA, 0, none⟩) (q - p) cA, .float .f32 s] 33) := by rw [hw4]; simpa using setCell_block (setCell_block HQ3.out 0 (.slice (some ⟨gA, 0, none⟩) (q - p) cA)) 1 (.float .f32 s)
  have hb4 : Below w2.heap.size w2 w4 := by rw [hw4]; exact Below.setCell (Below.setCell HB3.out hSB (p := ⟨SA, 0, none⟩) _) hSB (p := ⟨SA, 1, none⟩) _
  have hk4 : Box3 w.heap.size w4 (.cells #[.slice (some ⟨b, off, none⟩) n cap, .float .f32 s] 33) (.cells #[.slice none 0 0, .float .f32 0] 33) (.cells #[.slice none 0 0, .float .f32 0] 33) := by
    rw [hw4]
    exact ⟨by rw [set_keep _ _ _ (by omega), set_keep _ _ _ (by omega)]; exact HKS.out.1, by rw [set_keep _ _ _ (by omega), set_keep _ _ _ (by omega)]; exact HKS.out.2.1, by rw [set_keep _ _ _ (by omega), set_keep _ _ _ (by omega)]; exact HKS.out.2.2⟩
  have hO4 : w4.ownsRow w2.heap.size 28 3 (.slice (some ⟨gA, 0, none⟩) (q - p) cA) (q - p) xsA := by rw [hw4]; exact own_set (own_set HO3.out HQ3.out (by decide)) (setCell_block HQ3.out 0 _) (by decide)
  have HK := Lib.hid hk4
  have HBW := Lib.hid (show Below w.heap.size w w4 from HBQ.out.trans (hb4.mono HBQ.out.size))
  have HBA := Lib.hid hb4
  have HOA := Lib.hid hO4
  have HQA := Lib.hid hq4
  clear hw4 hk4 hb4 hO4 hq4 s0 s1 t0 t1 HKS HBS HO3 HQ3 HB3 HBQ lS3 hz3 hl22
  have e0 := (cells_of (i := 0) HK.out.1).trans (show _ = some (.slice (some ⟨b, off, none⟩) n cap) from rfl)
  have e1 := (cells_of (i := 1) HK.out.1).trans (show _ = some (.float .f32 s) from rfl)
  have u0 := (cells_of (i := 0) HK.out.2.1).trans (show _ = some (Value.slice none 0 0) from rfl)
  have u1 := (cells_of (i := 1) HK.out.2.1).trans (show _ = some (Value.float .f32 0) from rfl)
  have r0 := free_of HK.out.2.1 0
  have r1 := free_of HK.out.2.1 1
  have z0 := (cells_of (i := 0) HK.out.2.2).trans (show _ = some (Value.slice none 0 0) from rfl)
  have z1 := (cells_of (i := 1) HK.out.2.2).trans (show _ = some (Value.float .f32 0) from rfl)
  have y0 := free_of HK.out.2.2 0
  have y1 := free_of HK.out.2.2 1
  have l2 := block_lt HK.out.2.2
  have l1 : w.heap.size + 1 < w4.heap.size := by omega
  have l0 : w.heap.size < w4.heap.size := by omega
  have HBQ := Lib.hid HBW.out
  have hl22 := l2
  have hst : ∀ x ∈ [((41 : Nat), phiW w4.heap.size (n - q) (fun j => c (j + q * 3))), ((10 : Nat), phiB w4.heap.size)], LooseP.Stable x.2 := duo_stableW (phiW_stable _ _ _) (phiB_stable _)
  have hst' : ∀ x ∈ [((44 : Nat), phiWT w4.heap.size (n - q) s (fun j => c (j + q * 3))), ((10 : Nat), phiB w4.heap.size)], LooseP.Stable x.2 := duo_stableW (phiWT_stable _ _ _ _) (phiB_stable _)
  have huc : ∀ x ∈ [((41 : Nat), phiW w4.heap.size (n - q) (fun j => c (j + q * 3))), ((10 : Nat), phiB w4.heap.size)], x.1 = 41 → x.2 = phiW w4.heap.size (n - q) (fun j => c (j + q * 3)) := duo_firstW (by decide)
  have hub : ∀ x ∈ [((41 : Nat), phiW w4.heap.size (n - q) (fun j => c (j + q * 3))), ((10 : Nat), phiB w4.heap.size)], x.1 = 10 → x.2 = phiB w4.heap.size := duo_secondW (by decide)
  have hub' : ∀ x ∈ [((44 : Nat), phiWT w4.heap.size (n - q) s (fun j => c (j + q * 3))), ((10 : Nat), phiB w4.heap.size)], x.1 = 10 → x.2 = phiB w4.heap.size := duo_secondW (by decide)
  refine LooseL.wp_region 10 8 (fun i => decide (i < 8)) [((41 : Nat), phiW w4.heap.size (n - q) (fun j => c (j + q * 3))), ((10 : Nat), phiB w4.heap.size)] [((44 : Nat), phiWT w4.heap.size (n - q) s (fun j => c (j + q * 3))), ((10 : Nat), phiB w4.heap.size)] (by decide) (fun i hi => by simp; omega) (by kernel_rfl) (by kernel_rfl) (by kernel_rfl) (by simp [undef]) ?_
  apply Exists.intro
  simp only [List.take_succ_cons, List.take_zero, List.drop_succ_cons, List.drop_zero]
  repeat (first | (apply LooseL.walk_before (by decide) rfl; intro K hK; apply LooseP.turn_value (hwant := rfl) (hd := rfl); (focus (intro w' hw'; obtain ⟨hc, hf⟩ := Fl.bcell hw'; go_simp; first | done | rfl | exact ⟨rfl, rfl⟩)); go_simp; refine hK _ ?_; clear hK K) | (apply LooseL.walk_before (by decide) rfl; intro K hK; apply LooseP.turn_row0 (ob := .cells #[] 28) hst (Nat.le_refl _) (hwant := rfl) (hd := rfl); (focus (intro w'; go_simp; first | done | rfl | exact ⟨rfl, rfl⟩)); intro b3; go_simp; refine hK _ ?_; clear hK K) | (apply LooseL.walk_before (by decide) rfl; intro K hK; refine LooseP.turn_append0 (d := 41) (φ := phiW w4.heap.size (n - q) (fun j => c (j + q * 3))) hst (Nat.le_refl _) rfl rfl huc (.tmp 36) (.tmp 40) 31 rfl 28 i0 (.agg #[.float .f32 0, .float .f32 0, .float .f32 0]) 3 12 Try.underlying31 hI hI0 hI1 hI2 rfl (by decide) ⟨b3, 0, none⟩ rfl _ (n - q) _ yb rfl HS1.out.1.1 (fun w' hb' => HS1.out.2 w' (HBQ.out.trans (hb'.mono HBQ.out.size))) (by omega) (by unfold maxLen; omega) (by omega) (fun v' w0 w' hB ho => by obtain ⟨g, cap, rfl⟩ := Joins.ownsRow_form ho (by omega); exact ⟨g, cap, yb, rfl, own_wider ho hB, HS1.out.1⟩) ?_; (intro gq capq; go_simp; refine hK _ ?_; clear hK K)) | (apply LooseL.walk_put (d := 44) (V := fun v => ∃ g cap, v = .agg #[.slice (some ⟨g, 0, none⟩) (n - q) cap, .float .f32 s]) (hks := rfl) (hwant := rfl) (hdst := rfl) (hV := ⟨_, 0, 0, rfl⟩); (focus (intro a' w' hl hc; obtain ⟨g9, cap9, xs9, k1, k2, k3⟩ := hc.at (List.mem_cons_self ..) (hl.2 (.tmp 41) (by simp [Op.operands])) (by simp [Act.eval, undef]); refine ⟨.agg #[.slice (some ⟨gq, 0, none⟩) (n - q) capq, .float .f32 s], w', (by go_simp; first | done | rfl | exact ⟨rfl, rfl⟩), ⟨gq, capq, rfl⟩, LooseL.cls_turn hc (by intro p hp hd; simp at hp; rcases hp with rfl | rfl <;> (first | exact absurd rfl hd | simp)) (duo_firstW (by decide)) _ ?_⟩; obtain ⟨rfl, rfl⟩ : gq = g9 ∧ capq = cap9 := (by simpa [Act.eval] using k1); exact ⟨_, _, _, rfl, k2, k3⟩)); (intro v hv; obtain ⟨gw, capw, rfl⟩ := hv; go_simp)) | (apply LooseL.walk_box (d := 10) (φ := phiB w4.heap.size) (ob := .cells #[.slice none 0 0, .float .f32 0] 33) (hk := by decide) (hst := hst) (hst' := hst') (hB := Nat.le_refl _) (hwant := rfl) (hdst := rfl) (huni := hub) (huni' := hub') (hrun := by intro w'; go_simp; first | done | rfl | exact ⟨rfl, rfl⟩) (hφ := fun w' hw' => ⟨_, rfl, hw', new_block _ _⟩); (intro K hK S hS; go_simp; refine hK _ ?_; clear hK K)))
  refine LooseL.walk_nil ?_
  intro w5 hcls3
  have hb3 := hcls3.1
  obtain ⟨g8, c8, xsB, e8, own3, fp3⟩ := hcls3.at (List.mem_cons_self ..) (v := .agg #[.slice (some ⟨gw, 0, none⟩) (n - q) capw, .float .f32 s]) rfl (by simp [undef])
  obtain ⟨rfl, rfl⟩ : gw = g8 ∧ capw = c8 := by simpa using e8
  obtain ⟨S8, hS8, hSB, hqS⟩ := hcls3.at (List.mem_cons_of_mem _ (List.mem_cons_self ..)) (v := .pointer (some ⟨S, 0, none⟩)) rfl (by simp [undef])
  obtain rfl : S = S8 := by simpa using hS8
  obtain ⟨gB, hgB⟩ : ∃ x, x = gw := ⟨_, rfl⟩
  obtain ⟨cB, hcB⟩ : ∃ x, x = capw := ⟨_, rfl⟩
  obtain ⟨SB, hSxB⟩ : ∃ x, x = S := ⟨_, rfl⟩
  rw [← hgB, ← hcB] at own3
  rw [← hSxB] at hqS hSB
  rw [← hgB, ← hcB, ← hSxB]
  clear hgB hcB hSxB
  have hz3 := hb3.size
  have hS2 : w.heap.size + 2 < SB := by omega
  have hkS := HK.out.later hb3
  have hbS := HBW.out.trans (hb3.mono HBW.out.size)
  have s0 := (cells_of (i := 0) hqS).trans (show _ = some (Value.slice none 0 0) from rfl)
  have s1 := (cells_of (i := 1) hqS).trans (show _ = some (Value.float .f32 0) from rfl)
  have t0 := free_of hqS 0
  have t1 := free_of hqS 1
  have lS3 := block_lt hqS
  have HQ3 := Lib.hid hqS
  have HO3 := Lib.hid own3
  have HFB := Lib.hid fp3
  clear e0 e1 u0 u1 r0 r1 z0 z1 y0 y1 l0 l1 l2 HK HBW
  have HKS := Lib.hid hkS
  have HBS := Lib.hid hbS
  have HB3 := Lib.hid hb3
  clear hcls3 hst hst' huc hub hub' e8 hS8 hqS own3 fp3 hb3 hkS hbS
  go_wp2_with fail
  obtain ⟨w6, hw4⟩ : ∃ u, u = (w5.setCell ⟨SB, 0, none⟩ (.slice (some ⟨gB, 0, none⟩) (n - q) cB)).setCell ⟨SB, 1, none⟩ (.float .f32 s) := ⟨_, rfl⟩
  rw [← hw4]
  have hz4 : w5.heap.size ≤ w6.heap.size := by rw [hw4]; simp
  have hq4 : w6.heap[SB]? = some (.cells #[.slice (some ⟨gB, 0, none⟩) (n - q) cB, .float .f32 s] 33) := by rw [hw4]; simpa using setCell_block (setCell_block HQ3.out 0 (.slice (some ⟨gB, 0, none⟩) (n - q) cB)) 1 (.float .f32 s)
  have hb4 : Below w4.heap.size w4 w6 := by rw [hw4]; exact Below.setCell (Below.setCell HB3.out hSB (p := ⟨SB, 0, none⟩) _) hSB (p := ⟨SB, 1, none⟩) _
  have hk4 : Box3 w.heap.size w6 (.cells #[.slice (some ⟨b, off, none⟩) n cap, .float .f32 s] 33) (.cells #[.slice none 0 0, .float .f32 0] 33) (.cells #[.slice none 0 0, .float .f32 0] 33) := by
    rw [hw4]
    exact ⟨by rw [set_keep _ _ _ (by omega), set_keep _ _ _ (by omega)]; exact HKS.out.1, by rw [set_keep _ _ _ (by omega), set_keep _ _ _ (by omega)]; exact HKS.out.2.1, by rw [set_keep _ _ _ (by omega), set_keep _ _ _ (by omega)]; exact HKS.out.2.2⟩
  have hO4 : w6.ownsRow w4.heap.size 28 3 (.slice (some ⟨gB, 0, none⟩) (n - q) cB) (n - q) xsB := by rw [hw4]; exact own_set (own_set HO3.out HQ3.out (by decide)) (setCell_block HQ3.out 0 _) (by decide)
  have HK := Lib.hid hk4
  have HBW := Lib.hid (show Below w.heap.size w w6 from HBQ.out.trans (hb4.mono HBQ.out.size))
  have HBB := Lib.hid hb4
  have HOB := Lib.hid hO4
  have HQB := Lib.hid hq4
  clear hw4 hk4 hb4 hO4 hq4 s0 s1 t0 t1 HKS HBS HO3 HQ3 HB3 HBQ lS3 hz3 hl22
  have e0 := (cells_of (i := 0) HK.out.1).trans (show _ = some (.slice (some ⟨b, off, none⟩) n cap) from rfl)
  have e1 := (cells_of (i := 1) HK.out.1).trans (show _ = some (.float .f32 s) from rfl)
  have u0 := (cells_of (i := 0) HK.out.2.1).trans (show _ = some (Value.slice none 0 0) from rfl)
  have u1 := (cells_of (i := 1) HK.out.2.1).trans (show _ = some (Value.float .f32 0) from rfl)
  have r0 := free_of HK.out.2.1 0
  have r1 := free_of HK.out.2.1 1
  have z0 := (cells_of (i := 0) HK.out.2.2).trans (show _ = some (Value.slice none 0 0) from rfl)
  have z1 := (cells_of (i := 1) HK.out.2.2).trans (show _ = some (Value.float .f32 0) from rfl)
  have y0 := free_of HK.out.2.2 0
  have y1 := free_of HK.out.2.2 1
  have l2 := block_lt HK.out.2.2
  have l1 : w.heap.size + 1 < w6.heap.size := by omega
  have l0 : w.heap.size < w6.heap.size := by omega
  have hgA := (HOA.out.lt gA rfl).2
  have lSA := block_lt HQA.out
  have lSB := block_lt HQB.out
  have hl24 : w4.heap.size ≤ w6.heap.size := HBB.out.size
  have hw24 : w2.heap.size ≤ w4.heap.size := HBA.out.size
  have hSAB : w4.heap.size ≤ SB := by omega
  have hgA2 := (HOA.out.lt gA rfl).1
  have HOA6 := Lib.hid (own_below HOA.out HBB.out)
  have HQA6 := Lib.hid (keep_block HBB.out HQA.out)
  have HFPB := Lib.hid (fun xs ys (h : FP ((n - q) * 3) (fun j => c (j + q * 3)) xs) (h' : FP (p * 3) c ys) => (show FP ((n - q + p) * 3) (cutB n q c) (xs ++ ys) from FP.append h h'))
  have HS26 := Lib.hid (HS2.out.later HBW.out)
  have b0 := (cells_of (i := 0) HQB.out).trans (show _ = some (Value.slice (some ⟨gB, 0, none⟩) (n - q) cB) from rfl)
  clear hz4
  refine LooseL.wp_regionC 7 6 (fun i => decide (i < 6)) (LooseP.Cls w6.heap.size w6 []) (fun (a1 : Act) (w1 : World) => LooseP.Cls w4.heap.size w6 [((51 : Nat), phiW w4.heap.size (n - q + p) (cutB n q c))] a1 w1 ∧ w1.heap[SB]? = some (.cells #[.slice (some ⟨gB, 0, none⟩) (n - q) cB, .float .f32 s] 33)) (by decide) (fun i hi => by simp; omega) (by kernel_rfl) (by kernel_rfl) (by kernel_rfl) ⟨(Below.refl _ _).drew, fun p hp => by cases hp⟩ ?_
  apply Exists.intro
  simp only [List.take_succ_cons, List.take_zero, List.drop_succ_cons, List.drop_zero]
  repeat (first | (apply LooseL.walk_before (by decide) rfl; intro K hK; apply LooseP.turn_value (hwant := rfl) (hd := rfl); (focus (intro w' hw'; obtain ⟨hc, hf⟩ := Fl.bcell hw'; go_simp; first | done | rfl | exact ⟨rfl, rfl⟩)); go_simp; refine hK _ ?_; clear hK K) | (apply LooseL.walk_put (d := 51) (V := fun v => ∃ g cap, v = .slice (some ⟨g, 0, none⟩) (n - q + p) cap) (hks := rfl) (hwant := rfl) (hdst := rfl) (hV := ⟨_, 0, 0, rfl⟩); (focus (intro a' w' hl hc; exact app_run2 rfl rfl rfl hc HOB.out HFB.out HS26.out HQB.out hl24 (by omega) (by omega) (by omega) HFPB.out)); (intro v hv; obtain ⟨gj, capj, rfl⟩ := hv; go_simp)))
  refine LooseL.walk_nil ?_
  intro w7 hcl7 hq7
  obtain ⟨g8, c8, xs7, e8, own7, fp7⟩ := hcl7.at (List.mem_singleton.2 rfl) (v := .slice (some ⟨gj, 0, none⟩) (n - q + p) capj) rfl (by simp [undef])
  obtain ⟨rfl, rfl⟩ : gj = g8 ∧ capj = c8 := by simpa using e8
  have hb7 := hcl7.1
  have hz7 := hb7.size
  have hgj := (own7.lt gj rfl)
  have hk7 := HK.out.low hb7 (by omega)
  have hbw7 := HBW.out.trans (hb7.mono (show w.heap.size ≤ w4.heap.size by omega))
  have hoA7 := own_low HOA6.out hb7 hgA
  have hqA7 : w7.heap[SA]? = _ := (hb7.block SA lSA).trans HQA6.out
  have d0 := (cells_of (i := 0) hq7).trans (show _ = some (Value.slice (some ⟨gB, 0, none⟩) (n - q) cB) from rfl)
  have x0 := free_of hq7 0
  have lSB7 := block_lt hq7
  have HK7 := Lib.hid hk7
  have HBW7 := Lib.hid hbw7
  have HOA7 := Lib.hid hoA7
  have HQA7 := Lib.hid hqA7
  have HQ7 := Lib.hid hq7
  have HO7 := Lib.hid own7
  have HF7 := Lib.hid fp7
  clear e0 e1 u0 u1 r0 r1 z0 z1 y0 y1 l0 l1 l2 HK HBW
  clear b0 hcl7 hq7 e8 own7 fp7 hb7 hk7 hbw7 hoA7 hqA7 HOA6 HQA6 HOB HQB HFPB HS26 HBB HBA
  go_wp2_with fail
  obtain ⟨w8, hw8⟩ : ∃ u, u = w7.setCell ⟨SB, 0, none⟩ (.slice (some ⟨gj, 0, none⟩) (n - q + p) capj) := ⟨_, rfl⟩
  rw [← hw8]
  have hz8 : w7.heap.size ≤ w8.heap.size := by rw [hw8]; simp
  have HK := Lib.hid (show Box3 w.heap.size w8 (.cells #[.slice (some ⟨b, off, none⟩) n cap, .float .f32 s] 33) (.cells #[.slice none 0 0, .float .f32 0] 33) (.cells #[.slice none 0 0, .float .f32 0] 33) from by
    rw [hw8]
    exact ⟨by rw [set_keep _ _ _ (by omega)]; exact HK7.out.1, by rw [set_keep _ _ _ (by omega)]; exact HK7.out.2.1, by rw [set_keep _ _ _ (by omega)]; exact HK7.out.2.2⟩)
  have HBW := Lib.hid (show Below w.heap.size w w8 from by rw [hw8]; exact Below.setCell HBW7.out (show w.heap.size ≤ SB by omega) (p := ⟨SB, 0, none⟩) _)
  have HX1 := Lib.hid (show w8.heap[SA]? = some (.cells #[.slice (some ⟨gA, 0, none⟩) (q - p) cA, .float .f32 s] 33) from by rw [hw8, set_keep _ _ _ (by omega)]; exact HQA7.out)
  have HX2 := Lib.hid (show w8.heap[SB]? = some (.cells #[.slice (some ⟨gj, 0, none⟩) (n - q + p) capj, .float .f32 s] 33) from by rw [hw8]; simpa using setCell_block HQ7.out 0 (.slice (some ⟨gj, 0, none⟩) (n - q + p) capj))
  have HI1 := Lib.hid (show IsR gA (gA + 1) w8 (some ⟨gA, 0, none⟩) (q - p) cA (cutA p c) from by rw [hw8]; exact isR_self (own_set HOA7.out HQ7.out (by decide)) HFA.out)
  have HI2 := Lib.hid (show IsR gj (gj + 1) w8 (some ⟨gj, 0, none⟩) (n - q + p) capj (cutB n q c) from by rw [hw8]; exact isR_self (own_set HO7.out HQ7.out (by decide)) HF7.out)
  clear hw8 d0 x0 HK7 HBW7 HOA7 HQA7 HQ7 HO7 HF7 HFA HFB HOA HQA
  have e0 := (cells_of (i := 0) HK.out.1).trans (show _ = some (.slice (some ⟨b, off, none⟩) n cap) from rfl)
  have e1 := (cells_of (i := 1) HK.out.1).trans (show _ = some (.float .f32 s) from rfl)
  have u0 := (cells_of (i := 0) HK.out.2.1).trans (show _ = some (Value.slice none 0 0) from rfl)
  have u1 := (cells_of (i := 1) HK.out.2.1).trans (show _ = some (Value.float .f32 0) from rfl)
  have r0 := free_of HK.out.2.1 0
  have r1 := free_of HK.out.2.1 1
  have z0 := (cells_of (i := 0) HK.out.2.2).trans (show _ = some (Value.slice none 0 0) from rfl)
  have z1 := (cells_of (i := 1) HK.out.2.2).trans (show _ = some (Value.float .f32 0) from rfl)
  have y0 := free_of HK.out.2.2 0
  have y1 := free_of HK.out.2.2 1
  have l2 := block_lt HK.out.2.2
  have l1 : w.heap.size + 1 < w8.heap.size := by omega
  have l0 : w.heap.size < w8.heap.size := by omega
  have a0 := (cells_of (i := 0) HX1.out).trans (show _ = some (Value.slice (some ⟨gA, 0, none⟩) (q - p) cA) from rfl)
  have a1 := (cells_of (i := 1) HX1.out).trans (show _ = some (Value.float .f32 s) from rfl)
  have b0 := (cells_of (i := 0) HX2.out).trans (show _ = some (Value.slice (some ⟨gj, 0, none⟩) (n - q + p) capj) from rfl)
  have b1 := (cells_of (i := 1) HX2.out).trans (show _ = some (Value.float .f32 s) from rfl)
  have lA := block_lt HX1.out
  have lB := block_lt HX2.out
  refine (HCH1.out SA _ _ _ a0 a1 HI1.out.v).mono ?_
  rintro e w9 ⟨rfl, hb⟩
  have hk := HK.out.later hb
  have hbw := HBW.out.trans (hb.mono HBW.out.size)
  have hx1 := Lib.hid (keep_block hb HX1.out)
  have hx2 := Lib.hid (keep_block hb HX2.out)
  have hi1 := Lib.hid (HI1.out.later hb)
  have hi2 := Lib.hid (HI2.out.later hb)
  have hzw9 := hb.size
  clear e0 e1 u0 u1 r0 r1 z0 z1 y0 y1 l0 l1 l2 HK HBW a0 a1 b0 b1 lA lB HX1 HX2 HI1 HI2
  have HK := Lib.hid hk
  have HBW := Lib.hid hbw
  have HX1 := hx1
  have HX2 := hx2
  have HI1 := hi1
  have HI2 := hi2
  clear hk hbw hx1 hx2 hi1 hi2 hb
  have e0 := (cells_of (i := 0) HK.out.1).trans (show _ = some (.slice (some ⟨b, off, none⟩) n cap) from rfl)
  have e1 := (cells_of (i := 1) HK.out.1).trans (show _ = some (.float .f32 s) from rfl)
  have u0 := (cells_of (i := 0) HK.out.2.1).trans (show _ = some (Value.slice none 0 0) from rfl)
  have u1 := (cells_of (i := 1) HK.out.2.1).trans (show _ = some (Value.float .f32 0) from rfl)
  have r0 := free_of HK.out.2.1 0
  have r1 := free_of HK.out.2.1 1
  have z0 := (cells_of (i := 0) HK.out.2.2).trans (show _ = some (Value.slice none 0 0) from rfl)
  have z1 := (cells_of (i := 1) HK.out.2.2).trans (show _ = some (Value.float .f32 0) from rfl)
  have y0 := free_of HK.out.2.2 0
  have y1 := free_of HK.out.2.2 1
  have l2 := block_lt HK.out.2.2
  have l1 : w.heap.size + 1 < w9.heap.size := by omega
  have l0 : w.heap.size < w9.heap.size := by omega
  have a0 := (cells_of (i := 0) HX1.out).trans (show _ = some (Value.slice (some ⟨gA, 0, none⟩) (q - p) cA) from rfl)
  have a1 := (cells_of (i := 1) HX1.out).trans (show _ = some (Value.float .f32 s) from rfl)
  have b0 := (cells_of (i := 0) HX2.out).trans (show _ = some (Value.slice (some ⟨gj, 0, none⟩) (n - q + p) capj) from rfl)
  have b1 := (cells_of (i := 1) HX2.out).trans (show _ = some (Value.float .f32 s) from rfl)
  have lA := block_lt HX1.out
  have lB := block_lt HX2.out
  cases R1
  · obtain rfl : R = false := by rw [← HR.out.1]; rfl
    have hR := HR.out.2
    simp only [Bool.false_eq_true, if_false] at hR
    obtain ⟨rfl, rfl, rfl⟩ := hR
    go_wp2
    refine bodyPost_ret ?ohr rfl (retSW_no ?obel)
    case ohr => simp [results, Try.results37, go_sem, *]
    case obel => exact Below.setCell (Below.setCell (Below.setCell (Below.setCell HBW.out (by show w.heap.size ≤ w.heap.size + 1; omega) _) (by show w.heap.size ≤ w.heap.size + 1; omega) _) (by show w.heap.size ≤ w.heap.size + 2; omega) _) (by show w.heap.size ≤ w.heap.size + 2; omega) _
  go_wp2_with fail
  refine (HCH2.out SB _ _ _ b0 b1 HI2.out.v).mono ?_
  rintro e wA ⟨rfl, hb⟩
  have hk := HK.out.later hb
  have hbw := HBW.out.trans (hb.mono HBW.out.size)
  have hx1 := Lib.hid (keep_block hb HX1.out)
  have hx2 := Lib.hid (keep_block hb HX2.out)
  have hi1 := Lib.hid (HI1.out.later hb)
  have hi2 := Lib.hid (HI2.out.later hb)
  have hzwA := hb.size
  clear e0 e1 u0 u1 r0 r1 z0 z1 y0 y1 l0 l1 l2 HK HBW a0 a1 b0 b1 lA lB HX1 HX2 HI1 HI2
  have HK := Lib.hid hk
  have HBW := Lib.hid hbw
  have HX1 := hx1
  have HX2 := hx2
  have HI1 := hi1
  have HI2 := hi2
  clear hk hbw hx1 hx2 hi1 hi2 hb
  have e0 := (cells_of (i := 0) HK.out.1).trans (show _ = some (.slice (some ⟨b, off, none⟩) n cap) from rfl)
  have e1 := (cells_of (i := 1) HK.out.1).trans (show _ = some (.float .f32 s) from rfl)
  have u0 := (cells_of (i := 0) HK.out.2.1).trans (show _ = some (Value.slice none 0 0) from rfl)
  have u1 := (cells_of (i := 1) HK.out.2.1).trans (show _ = some (Value.float .f32 0) from rfl)
  have r0 := free_of HK.out.2.1 0
  have r1 := free_of HK.out.2.1 1
  have z0 := (cells_of (i := 0) HK.out.2.2).trans (show _ = some (Value.slice none 0 0) from rfl)
  have z1 := (cells_of (i := 1) HK.out.2.2).trans (show _ = some (Value.float .f32 0) from rfl)
  have y0 := free_of HK.out.2.2 0
  have y1 := free_of HK.out.2.2 1
  have l2 := block_lt HK.out.2.2
  have l1 : w.heap.size + 1 < wA.heap.size := by omega
  have l0 : w.heap.size < wA.heap.size := by omega
  have a0 := (cells_of (i := 0) HX1.out).trans (show _ = some (Value.slice (some ⟨gA, 0, none⟩) (q - p) cA) from rfl)
  have a1 := (cells_of (i := 1) HX1.out).trans (show _ = some (Value.float .f32 s) from rfl)
  have b0 := (cells_of (i := 0) HX2.out).trans (show _ = some (Value.slice (some ⟨gj, 0, none⟩) (n - q + p) capj) from rfl)
  have b1 := (cells_of (i := 1) HX2.out).trans (show _ = some (Value.float .f32 s) from rfl)
  have lA := block_lt HX1.out
  have lB := block_lt HX2.out
  cases R2
  · obtain rfl : R = false := by rw [← HR.out.1]; rfl
    have hR := HR.out.2
    simp only [Bool.false_eq_true, if_false] at hR
    obtain ⟨rfl, rfl, rfl⟩ := hR
    go_wp2
    refine bodyPost_ret ?ohr rfl (retSW_no ?obel)
    case ohr => simp [results, Try.results37, go_sem, *]
    case obel => exact Below.setCell (Below.setCell (Below.setCell (Below.setCell HBW.out (by show w.heap.size ≤ w.heap.size + 1; omega) _) (by show w.heap.size ≤ w.heap.size + 1; omega) _) (by show w.heap.size ≤ w.heap.size + 2; omega) _) (by show w.heap.size ≤ w.heap.size + 2; omega) _
  obtain rfl : R = true := by rw [← HR.out.1]; rfl
  have hR := HR.out.2
  simp only [if_true] at hR
  obtain ⟨rfl, rfl, rfl⟩ := hR
  go_wp2
  have n1 : ¬ SA = w.heap.size + 1 := by omega
  have n2 : ¬ SA = w.heap.size + 2 := by omega
  have n3 : ¬ SB = w.heap.size + 1 := by omega
  have n4 : ¬ SB = w.heap.size + 2 := by omega
  have hgA3 : w.heap.size + 2 < gA := by omega
  have hgj3 : w.heap.size + 2 < gj := by omega
  have hgA4 : gA < wA.heap.size := by omega
  have hgj4 : gj < wA.heap.size := by omega
  clear HA HA' HSA HS1 HS2 HCH1 HCH2 HCB HR
  go_region
  go_wp2
  refine bodyPost_ret ?ohr rfl ⟨some ⟨gA, 0, none⟩, cA, some ⟨gj, 0, none⟩, capj, rfl, ?o1, ?o2, ?obel⟩
  case o1 =>
    refine (HI1.out.keep fun g hg hgl _ => ?_).wider (by omega) (by simp only [World.size_drew, World.size_setCell]; omega)
    rw [show ∀ (u : World) (i : Nat), u.drew.heap[i]? = u.heap[i]? from fun _ _ => rfl, set_keep _ _ _ (by show g ≠ w.heap.size + 2; omega), set_keep _ _ _ (by show g ≠ w.heap.size + 2; omega), set_keep _ _ _ (by omega), set_keep _ _ _ (by omega)]
  case o2 =>
    refine (HI2.out.keep fun g hg hgl _ => ?_).wider (by omega) (by simp only [World.size_drew, World.size_setCell]; omega)
    rw [show ∀ (u : World) (i : Nat), u.drew.heap[i]? = u.heap[i]? from fun _ _ => rfl, set_keep _ _ _ (by show g ≠ w.heap.size + 2; omega), set_keep _ _ _ (by show g ≠ w.heap.size + 2; omega), set_keep _ _ _ (by omega), set_keep _ _ _ (by omega)]
  case obel =>
    refine (show ∀ {u : World}, Below w.heap.size w u → Below w.heap.size w u.drew from fun h => below_drewN h 1) ?_
    exact Below.setCell (Below.setCell (Below.setCell (Below.setCell HBW.out (by show w.heap.size ≤ w.heap.size + 1; omega) _) (by show w.heap.size ≤ w.heap.size + 1; omega) _) (by show w.heap.size ≤ w.heap.size + 2; omega) _) (by show w.heap.size ≤ w.heap.size + 2; omega) _
  case ohr => simp [results, Try.results37, go_sem, *]

end Th
end Go.Proofs.Ytjkkefbfhapblaa
