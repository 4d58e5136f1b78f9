/- Flat sheets: the program's function. -/
import Derived.Test.YtpmnjbgfdhhomaaSheetE
namespace Go.Proofs.Ytpmnjbgfdhhomaa
set_option linter.unusedSimpArgs false
set_option linter.unusedVariables false
open Go.RowKit
namespace Sh
open Fl Rate

theorem heap3 (w : World) (a b c : Obj) : (((w.alloc a).alloc b).alloc c).heap[w.heap.size]? = some a ∧ (((w.alloc a).alloc b).alloc c).heap[w.heap.size + 1]? = some b ∧ (((w.alloc a).alloc b).alloc c).heap[w.heap.size + 1 + 1]? = some c := by
  have e : (((w.alloc a).alloc b).alloc c).heap = ((w.heap.push a).push b).push c := rfl
  rw [e]
  have s1 : (w.heap.push a).size = w.heap.size + 1 := Array.size_push _
  have s2 : ((w.heap.push a).push b).size = w.heap.size + 1 + 1 := by rw [Array.size_push, s1]
  refine ⟨?_, ?_, ?_⟩
  · rw [Array.getElem?_push, if_neg (by omega), Array.getElem?_push, if_neg (by omega), Array.getElem?_push, if_pos rfl]
  · rw [Array.getElem?_push, if_neg (by omega), Array.getElem?_push, if_pos s1.symm]
  · rw [Array.getElem?_push, if_pos s2.symm]

theorem cell3 (w : World) (a b c : Array Value) (ta tb tc : TypeId) (i : Nat) : (((w.alloc (.cells a ta)).alloc (.cells b tb)).alloc (.cells c tc)).cell? ⟨w.heap.size, i, none⟩ = a[i]? ∧ (((w.alloc (.cells a ta)).alloc (.cells b tb)).alloc (.cells c tc)).cell? ⟨w.heap.size + 1, i, none⟩ = b[i]? ∧
    (((w.alloc (.cells a ta)).alloc (.cells b tb)).alloc (.cells c tc)).cell? ⟨w.heap.size + 1 + 1, i, none⟩ = c[i]? ∧ (((w.alloc (.cells a ta)).alloc (.cells b tb)).alloc (.cells c tc)).frozen? ⟨w.heap.size + 1 + 1, i, none⟩ = false := by
  obtain ⟨h1, h2, h3⟩ := heap3 w (.cells a ta) (.cells b tb) (.cells c tc)
  exact ⟨Loose.cells_of h1 i, Loose.cells_of h2 i, Loose.cells_of h3 i, Loose.free_of h3 i⟩

theorem impl_flat1 (k : Nat) (p : Addr) (x : Nat) (c : Option Nat) (w : World) (fx : Fr .f32 x c) (hp : w.cell? p = some (.float .f32 x)) : Calls Try.prog 34 #[.int .i64 ((k : Nat) : Int), .pointer (some p)] w (RetC .f32 (op2 .mul .f32 (Mks.msC (k : Int)) c) (some 0) w) := by
  have fk := (Mks.ms_facts (k : Int)).2
  have hf0 : Fr .f32 0 (some 0) := Fr.const (by decide +kernel) (by decide)
  go_enter Try.func34, Try.ntmps34
  go_wp2_with (go_at_call 35; refine (product_run _ _ _ _ _ fk fx).mono ?_; rintro e w' ⟨r, rfl, hr, hb⟩)
  go_ret
  exact ⟨_, _, rfl, by assumption, hf0, by assumption⟩

set_option maxRecDepth 20000 in
theorem impl_flat_bad (m : Int) (x s n : Nat) (w : World) (hx : x < 4294967296) (cx cy : Nat → Option Nat) (B : Bool) (hB : (fin .f32 x && cmpC .gtr (ord .f32 (cl .f32 x) (some 0))) = B) (h : (decide (2 ≤ m) && decide (m ≤ 48) && B) = false) : Calls Try.prog 8 #[.int .i64 m, .float .f32 x, .float .f32 s] w (RetSh false n s false cx cy w) := by
  have HL := Lib.hid (fun w => impl_length x w hx)
  rw [hB] at HL
  clear hB
  by_cases h1 : 2 ≤ m
  · have t1 : ¬ m < 2 := by omega
    by_cases h2 : m ≤ 48
    · have t2 : ¬ 48 < m := by omega
      obtain rfl : B = false := by simpa [h1, h2] using h
      clear h
      go_enter Try.func8, Try.ntmps8
      go_wp2_with fail
      refine (HL.out _).mono ?_
      rintro e w1 ⟨rfl, hb1⟩
      have hz1 := hb1.size
      simp only [World.size_alloc] at hz1
      obtain ⟨hc1, hf1⟩ := Fl.bcell hb1
      have g1 : w.heap.size + 1 < w1.heap.size := by omega
      go_wp2
      refine bodyPost_ret ?ohr rfl (.inr ⟨rfl, rfl, ?obel⟩)
      case ohr => simp [results, Try.results8, go_sem, *]
      case obel => (repeat' first | exact Below.refl _ _ | (refine Below.setCell ?_ (by first | omega | (simp; omega) | simp) _) | (refine below_drewN ?_ _) | (refine Below.alloc ?_ (by first | omega | (simp; omega) | simp) _) | (refine Below.trans ?_ (Below.mono (by assumption) (by first | omega | (simp; omega) | simp))))
    · have t2 : 48 < m := by omega
      clear h
      go_enter Try.func8, Try.ntmps8
      go_wp2
      refine bodyPost_ret ?ohr rfl (.inr ⟨rfl, rfl, ?obel⟩)
      case ohr => simp [results, Try.results8, go_sem, *]
      case obel => (repeat' first | exact Below.refl _ _ | (refine Below.setCell ?_ (by first | omega | (simp; omega) | simp) _) | (refine below_drewN ?_ _) | (refine Below.alloc ?_ (by first | omega | (simp; omega) | simp) _) | (refine Below.trans ?_ (Below.mono (by assumption) (by first | omega | (simp; omega) | simp))))
  · have t1 : m < 2 := by omega
    clear h
    go_enter Try.func8, Try.ntmps8
    go_wp2
    refine bodyPost_ret ?ohr rfl (.inr ⟨rfl, rfl, ?obel⟩)
    case ohr => simp [results, Try.results8, go_sem, *]
    case obel => (repeat' first | exact Below.refl _ _ | (refine Below.setCell ?_ (by first | omega | (simp; omega) | simp) _) | (refine below_drewN ?_ _) | (refine Below.alloc ?_ (by first | omega | (simp; omega) | simp) _) | (refine Below.trans ?_ (Below.mono (by assumption) (by first | omega | (simp; omega) | simp))))

set_option maxRecDepth 20000 in
set_option maxHeartbeats 3200000 in
theorem impl_flat_good (n x s : Nat) (w : World) (wx : (Lit.float .f32 x).wf = true) (ws : (Lit.float .f32 s).wf = true) (h2 : 2 ≤ n) (hn : n ≤ 48) (hB : (fin .f32 x && cmpC .gtr (ord .f32 (cl .f32 x) (some 0))) = true)
    (A : Bool) (hV : (allC (fun k => op2 .mul .f32 (Mks.msC ((k : Nat) : Int)) (cl .f32 x)) (fun _ => some 0) n && finC (cl .f32 s)) = A) :
    Calls Try.prog 8 #[.int .i64 (n : Int), .float .f32 x, .float .f32 s] w (RetSh A n s false (fun k => op2 .mul .f32 (Mks.msC ((k : Nat) : Int)) (cl .f32 x)) (fun _ => some 0) w) := by
  have HL := Lib.hid (fun w => impl_length x w (Fl.lt32 wx))
  rw [hB] at HL
  have fx : Fr .f32 x (cl .f32 x) := ⟨rfl, Fl.lt32 wx⟩
  have HEV := Lib.hid (fun w1 hcall => impl_even1 ⟨w.heap.size, 0, none⟩ n s false (fun k => op2 .mul .f32 (Mks.msC ((k : Nat) : Int)) (cl .f32 x)) (fun _ => some 0) w1 ws (by omega) hn hcall A hV)
  have t1 : ¬ (n : Int) < 2 := by omega
  have t2 : ¬ 48 < (n : Int) := by omega
  clear hB hV
  go_enter Try.func8, Try.ntmps8
  go_wp2_with fail
  refine (HL.out _).mono ?_
  rintro e w1 ⟨rfl, hb1⟩
  have hz1 := hb1.size
  simp only [World.size_alloc] at hz1
  obtain ⟨hc1, hf1⟩ := Fl.bcell hb1
  have hg0 : w1.cell? ⟨w.heap.size, 0, none⟩ = some (.float .f32 x) := by rw [hc1 _ _ (by first | omega | (simp; omega) | simp)]; simp
  have g1 : w.heap.size + 1 < w1.heap.size := by omega
  have hr0 : w1.cell? ⟨w.heap.size + 1, 0, none⟩ = some (.slice none 0 0) := by rw [hc1 _ _ (by first | omega | (simp; omega) | simp)]; first | exact (cell3 _ _ _ _ _ _ _ 0).2.2.1 | simp
  have hr1 : w1.cell? ⟨w.heap.size + 1, 1, none⟩ = some (.slice none 0 0) := by rw [hc1 _ _ (by first | omega | (simp; omega) | simp)]; first | exact (cell3 _ _ _ _ _ _ _ 1).2.2.1 | simp
  have hr2 : w1.cell? ⟨w.heap.size + 1, 2, none⟩ = some (.bool false) := by rw [hc1 _ _ (by first | omega | (simp; omega) | simp)]; first | exact (cell3 _ _ _ _ _ _ _ 2).2.2.1 | simp
  have hs0 : w1.frozen? ⟨w.heap.size + 1, 0, none⟩ = false := by rw [hf1 _ _ (by first | omega | (simp; omega) | simp)]; first | exact (cell3 _ _ _ _ _ _ _ 0).2.2.2 | simp
  have hs1 : w1.frozen? ⟨w.heap.size + 1, 1, none⟩ = false := by rw [hf1 _ _ (by first | omega | (simp; omega) | simp)]; first | exact (cell3 _ _ _ _ _ _ _ 1).2.2.2 | simp
  have hs2 : w1.frozen? ⟨w.heap.size + 1, 2, none⟩ = false := by rw [hf1 _ _ (by first | omega | (simp; omega) | simp)]; first | exact (cell3 _ _ _ _ _ _ _ 2).2.2.2 | simp
  have hbw : Below w.heap.size w w1 := by (repeat' first | exact Below.refl _ _ | (refine Below.setCell ?_ (by first | omega | (simp; omega) | simp) _) | (refine below_drewN ?_ _) | (refine Below.alloc ?_ (by first | omega | (simp; omega) | simp) _) | (refine Below.trans ?_ (Below.mono (by assumption) (by first | omega | (simp; omega) | simp))))
  have HBW := Lib.hid hbw
  clear hbw hc1 hf1 hb1
  go_wp2_with fail
  refine (HEV.out _ (fun k w' hk hb' => impl_flat1 k ⟨w.heap.size, 0, none⟩ x _ w' fx ((hb'.cell (by show w.heap.size < _; omega)).trans hg0))).mono ?_
  rintro e w2 (⟨rfl, gp, gs, cp, cs, rfl, hne, hgp, hgs, hcp, hcs, hmp, hms, hIC, hIS, hb2⟩ | ⟨rfl, rfl, hb2⟩)
  all_goals
    obtain ⟨hc2, hf2⟩ := Fl.bcell hb2
    have hz2 := hb2.size
    have e0 := (hc2 _ 0 g1).trans hr0
    have e1 := (hc2 _ 1 g1).trans hr1
    have e2 := (hc2 _ 2 g1).trans hr2
    have s0 := (hf2 _ 0 g1).trans hs0
    have s1 := (hf2 _ 1 g1).trans hs1
    have s2 := (hf2 _ 2 g1).trans hs2
    have HB2 := Lib.hid (HBW.out.trans (hb2.mono (by omega)))
    clear hc2 hf2 hb2 hr0 hr1 hr2 hs0 hs1 hs2
  · have HIC := Lib.hid hIC
    have HIS := Lib.hid hIS
    clear hIC hIS
    go_wp2
    refine bodyPost_ret ?ohr rfl (.inl ⟨rfl, gp, gs, cp, cs, rfl, hne, by omega, by omega, hcp, hcs, hmp, hms, ?oic, ?ois, ?obel⟩)
    case ohr => simp [results, Try.results8, go_sem, *]
    case oic => exact HIC.out.same (by rw [set_keep _ _ _ (by omega), set_keep _ _ _ (by omega), set_keep _ _ _ (by omega)])
    case ois => exact HIS.out.same (by rw [set_keep _ _ _ (by omega), set_keep _ _ _ (by omega), set_keep _ _ _ (by omega)])
    case obel => exact Below.setCell (Below.setCell (Below.setCell HB2.out (by simp; try omega) _) (by simp; try omega) _) (by simp; try omega) _
  · go_wp2
    refine bodyPost_ret ?ohr rfl (.inr ⟨rfl, rfl, ?obel⟩)
    case ohr => simp [results, Try.results8, go_sem, *]
    case obel => exact Below.setCell (Below.setCell (Below.setCell HB2.out (by simp; try omega) _) (by simp; try omega) _) (by simp; try omega) _

end Sh
end Go.Proofs.Ytpmnjbgfdhhomaa
