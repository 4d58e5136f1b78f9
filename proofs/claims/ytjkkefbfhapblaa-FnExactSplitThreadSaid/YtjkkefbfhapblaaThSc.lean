/- Rows of vectors grown and joined by package slices. -/
import Derived.Test.YtjkkefbfhapblaaThJo
import Derived.Lib.AppendZeros
import Derived.Laws.Cover3
namespace Go.Proofs.Ytjkkefbfhapblaa
set_option linter.unusedSimpArgs false
set_option linter.unusedVariables false
open Go.RowKit
set_option maxRecDepth 20000
namespace Th
open Fl Rate

/-- Vectors that lie somewhere: their cells, in all worlds that leave what is below. -/
def Src3 (w : World) (ad : Addr) (m : Nat) (f : Nat → Option Nat) (ys : List Value) : Prop := FP (m * 3) f ys ∧ ∀ w', Below w.heap.size w w' → ∀ j v, ys[j]? = some v → w'.cell? (ad.add j) = some v

theorem Src3.later {w w' : World} {ad : Addr} {m : Nat} {f : Nat → Option Nat} {ys : List Value} (h : Src3 w ad m f ys) (hb : Below w.heap.size w w') : Src3 w' ad m f ys :=
  ⟨h.1, fun w'' hb' => h.2 w'' (hb.trans (hb'.mono hb.size))⟩

set_option maxHeartbeats 3200000 in
theorem clone_v (ad : Addr) (m cp : Nat) (f : Nat → Option Nat) (ys : List Value) (w : World) (h : Src3 w ad m f ys) (hm : m ≤ 32) (h0 : 0 < m) : Calls Try.prog 83 #[.slice (some ad) m cp] w (RetO m f w) := by
  obtain ⟨i0, hI, hI0, hI1, hI2⟩ := info_v
  obtain ⟨wa, hwa⟩ : ∃ u, u = w.alloc (.cells #[] 28) := ⟨_, rfl⟩
  have hown0 : wa.ownsRow w.heap.size 28 3 (.slice (some ⟨w.heap.size, 0, none⟩) 0 0) 0 [] := by rw [hwa]; exact World.ownsRow_made w #[] 0 (Nat.le_refl _) (Nat.zero_le _) rfl
  have hba : Below w.heap.size w wa := by rw [hwa]; exact (Below.refl _ _).alloc (Nat.le_refl _) _
  have HO0 := Lib.hid hown0
  have HBA := Lib.hid hba
  have HS := Lib.hid h
  have hza := hba.size
  clear hown0 hba h
  go_enter Try.func83, Try.ntmps83
  have HWA := Lib.hid hwa
  clear hwa
  have hnil : ∀ w' : World, (binOp BinOp.eql 31 (.slice (some ad) m cp) (.slice none 0 0)).run Try.prog w' = .ok (.bool false) w' := fun w' => by first | rfl | kernel_rfl | simp [binOp, go_sem]
  go_wp2_with (first
    | (at_builtin; rw [← HWA.out]; refine wpList_append_own _ rfl (.tmp 5) (.tmp 6) 31 rfl w.heap.size 28 i0 _ 3 12 Try.underlying31 hI hI0 hI1 hI2 rfl (by decide) (.slice (some ⟨w.heap.size, 0, none⟩) 0 0) 0 [] rfl HO0.out ad m _ ys rfl HS.out.1.1 (HS.out.2 _ HBA.out) HS.out.1.cell (by unfold maxLen; omega) (by omega) hza ?_; intro v5 w5 hown5 hgrow5 hnil5; have HB5 := Lib.hid (show Below w.heap.size w w5 from HBA.out.grown hgrow5 hza (fun k hk => (World.ownsRow.lt HO0.out k hk).1)); have HO5 := Lib.hid hown5; clear hown5 hgrow5 hnil5))
  go_ret
  have hO := HO5.out
  rw [Nat.zero_add, List.nil_append] at hO
  obtain ⟨g9, c9, rfl⟩ := Joins.ownsRow_form hO h0
  exact ⟨g9, c9, _, rfl, hO, HS.out.1, HB5.out⟩

set_option maxHeartbeats 3200000 in
theorem grow_v (m : Nat) (w : World) (hm : m ≤ 64) (h0 : 0 < m) : Calls Try.prog 114 #[.slice none 0 0, .int .i64 (m : Int)] w fun e w' => ∃ g cap, e = .returned (.slice (some ⟨g, 0, none⟩) 0 cap) ∧ w'.ownsRow w.heap.size 28 3 (.slice (some ⟨g, 0, none⟩) 0 cap) 0 [] ∧ Below w.heap.size w w' := by
  obtain ⟨i0, hI, hI0, hI1, hI2⟩ := info_v
  have ut : Try.prog.underlying 3 = some (.int .i64) := Try.underlying3
  have hz := fun w' => Lib.run_append_nil_zeros (P := Try.prog) w' 31 3 31 28 i0 (.agg #[.float .f32 0, .float .f32 0, .float .f32 0]) .i64 .i64 Try.underlying31 ut hI hI0 m h0 (by omega) (by omega) (by rw [hI2]; omega)
  have hpos : (0 : Int) < (m : Int) := by omega
  have hnn : ¬ (m : Int) < 0 := by omega
  have hmm : (m : Int) ≤ 9223372036854775807 := by omega
  go_enter Try.func114, Try.ntmps114
  go_wp2_with (at_builtin; refine Lib.wpList_append_run _ rfl _ _ _ _ rfl _ _ rfl rfl _ _ (hz _) ?_)
  refine bodyPost_ret ?ohr rfl ⟨w.heap.size, grownCap w m 0 28, rfl, ?own, ?bel⟩
  case ohr => simp [results, Try.results114, go_sem, *]
  case bel => exact ((Below.refl _ _).alloc (Nat.le_refl _) _).drew
  case own =>
    refine ⟨rfl, .inr ⟨w.heap.size, _, _, rfl, Nat.le_refl _, new_block w _, Nat.zero_le _, grownCap_le_maxLen w m 0 28 (by unfold maxLen; omega), ?_, by simp⟩⟩
    have hge := grownCap_ge w m 0 28
    simp [size_zeroCells]
    omega

theorem own_widerC {w : World} {B B' e size n : Nat} {v : Value} {xs : List Value} (h : w.ownsRow B e size v n xs) (hB : B' ≤ B) : w.ownsRow B' e size v n xs := by
  obtain ⟨h1, h2 | ⟨g, cap, cur, rfl, h4, h5⟩⟩ := h
  · exact ⟨h1, .inl h2⟩
  · exact ⟨h1, .inr ⟨g, cap, cur, rfl, Nat.le_trans hB h4, h5⟩⟩

/-- The lengths together, so far. -/
def lenK (m1 m2 : Nat) : Nat → Int
  | 0 => 0
  | 1 => (m1 : Int)
  | _ => (m1 : Int) + (m2 : Int)

set_option maxHeartbeats 6400000 in
theorem concat_v (L : Nat) (ad1 ad2 : Addr) (m1 m2 c1 c2 : Nat) (f1 f2 : Nat → Option Nat) (ys zs : List Value) (w : World) (q : w.heap[L]? = some (.cells #[.slice (some ad1) m1 c1, .slice (some ad2) m2 c2] 31)) (h1 : Src3 w ad1 m1 f1 ys) (h2 : Src3 w ad2 m2 f2 zs) (hm1 : 0 < m1 ∧ m1 ≤ 32) (hm2 : m2 ≤ 32) :
    Calls Try.prog 84 #[.slice (some ⟨L, 0, none⟩) 2 2] w (RetO (m1 + m2) (fun j => if j < m1 * 3 then f1 j else f2 (j - m1 * 3)) w) := by
  obtain ⟨i0, hI, hI0, hI1, hI2⟩ := info_v
  have lL := block_lt q
  have Q := Lib.hid q
  have H1 := Lib.hid h1
  have H2 := Lib.hid h2
  have hn1 : ¬ (m1 : Int) < 0 := by omega
  have hn2 : ¬ (m1 : Int) + (m2 : Int) < 0 := by omega
  have hw1 : IntKind.i64.wrap ((m1 : Int) + (m2 : Int)) = (m1 : Int) + (m2 : Int) := IntWalk.i64_in _ (by omega)
  have hw2 : IntKind.i64.wrap (m1 : Int) = (m1 : Int) := IntWalk.i64_in _ (by omega)
  clear q h1 h2
  go_enter Try.func84, Try.ntmps84
  go_wp2
  go_loopw [11, 3] (fun i s wr => ∃ (k : Nat) (sv : Int), k ≤ 2 ∧ i = .int .i64 (k : Int) ∧ s = .int .i64 sv ∧ sv = lenK m1 m2 k ∧ Below w.heap.size w wr) (fun i _ _ => 2 - (intOf i).toNat)
  case atStart => exact ⟨0, 0, by omega, rfl, rfl, rfl, Below.refl _ _⟩
  case round =>
    obtain ⟨k, sv, hk, rfl, rfl, hsv, hbel⟩ := hrel
    have HB := Lib.hid hbel
    have hbs := hbel.size
    have q := keep_block hbel Q.out
    have e0 := (cells_of (i := 0) q).trans (show _ = some (.slice (some ad1) m1 c1) from rfl)
    have e1 := (cells_of (i := 1) q).trans (show _ = some (.slice (some ad2) m2 c2) from rfl)
    have lr := block_lt q
    clear hbel q
    have hk3 : k = 0 ∨ k = 1 ∨ k = 2 := by omega
    rcases hk3 with rfl | rfl | rfl
    · obtain rfl : sv = 0 := hsv
      go_wp2
      go_roundw
      case rel => exact ⟨1, _, by omega, rfl, rfl, rfl, HB.out⟩
      case measure => simp [intOf]
    · obtain rfl : sv = (m1 : Int) := hsv
      go_wp2
      go_roundw
      case rel => exact ⟨2, _, by omega, rfl, rfl, rfl, HB.out⟩
      case measure => simp [intOf]
    · obtain rfl : sv = (m1 : Int) + (m2 : Int) := hsv
      go_wp2_with fail
      have hg := grow_v (m1 + m2) wr (by omega) (by omega)
      rw [show (((m1 + m2 : Nat)) : Int) = (m1 : Int) + (m2 : Int) from by omega] at hg
      refine hg.mono ?_
      rintro e w1 ⟨g1, cap1, rfl, own1, hb1⟩
      have HO1 := Lib.hid (own_widerC own1 hbs)
      have HB1 := Lib.hid (HB.out.trans (hb1.mono hbs))
      clear hg own1 hb1 e0 e1 lr HB hbs
      go_wp2
      go_loopw [27, 6] (fun i v wr => ∃ (k : Nat) (n' : Nat) (xs : List Value), i = .int .i64 (k : Int) ∧ ((k = 0 ∧ 0 = n' ∧ [] = xs) ∨ (k = 1 ∧ m1 = n' ∧ ys = xs) ∨ (k = 2 ∧ m1 + m2 = n' ∧ ys ++ zs = xs)) ∧ wr.ownsRow w.heap.size 28 3 v n' xs ∧ Below w.heap.size w wr) (fun i _ _ => 2 - (intOf i).toNat)
      case atStart => exact ⟨0, 0, [], rfl, .inl ⟨rfl, rfl, rfl⟩, HO1.out, HB1.out⟩
      clear HO1 HB1
      obtain ⟨k, n', xs, rfl, hk, hown, hbel⟩ := hrel
      have HB := Lib.hid hbel
      have HO := Lib.hid hown
      have hbs := hbel.size
      have q := keep_block hbel Q.out
      have e0 := (cells_of (i := 0) q).trans (show _ = some (.slice (some ad1) m1 c1) from rfl)
      have e1 := (cells_of (i := 1) q).trans (show _ = some (.slice (some ad2) m2 c2) from rfl)
      have lr := block_lt q
      clear hbel q hown
      rcases hk with ⟨rfl, rfl, rfl⟩ | ⟨rfl, rfl, rfl⟩ | ⟨rfl, rfl, rfl⟩
      · skip
        go_wp2_with (first
          | (
            at_builtin
            refine wpList_append_own _ rfl (.tmp 31) (.tmp 32) 31 rfl w.heap.size 28 i0 _ 3 12 Try.underlying31 hI hI0 hI1 hI2 rfl (by decide) _ 0 [] rfl HO.out ad1 m1 _ ys rfl H1.out.1.1 (H1.out.2 _ HB.out) H1.out.1.cell (by unfold maxLen; omega) (by omega) hbs ?_
            intro v8 w8 hown8 hgrow8 hnil8
            have HB8 := Lib.hid (show Below w.heap.size w w8 from HB.out.grown hgrow8 hbs (fun k hk => (World.ownsRow.lt HO.out k hk).1))
            have HO8 := Lib.hid hown8
            clear hown8 hgrow8 hnil8
            skip))
        go_roundw
        case rel => exact ⟨1, m1, ys, rfl, .inr (.inl ⟨rfl, rfl, rfl⟩), by have h := HO8.out; rwa [Nat.zero_add, List.nil_append] at h, HB8.out⟩
        case measure => simp [intOf]
      · skip
        go_wp2_with (first
          | (
            at_builtin
            refine wpList_append_own _ rfl (.tmp 31) (.tmp 32) 31 rfl w.heap.size 28 i0 _ 3 12 Try.underlying31 hI hI0 hI1 hI2 rfl (by decide) _ m1 ys rfl HO.out ad2 m2 _ zs rfl H2.out.1.1 (H2.out.2 _ HB.out) H2.out.1.cell (by unfold maxLen; omega) (by omega) hbs ?_
            intro v8 w8 hown8 hgrow8 hnil8
            have HB8 := Lib.hid (show Below w.heap.size w w8 from HB.out.grown hgrow8 hbs (fun k hk => (World.ownsRow.lt HO.out k hk).1))
            have HO8 := Lib.hid hown8
            clear hown8 hgrow8 hnil8
            skip))
        go_roundw
        case rel => exact ⟨2, m1 + m2, ys ++ zs, rfl, .inr (.inr ⟨rfl, rfl, rfl⟩), HO8.out, HB8.out⟩
        case measure => simp [intOf]
      · obtain ⟨g9, c9, rfl⟩ := Joins.ownsRow_form HO.out (by omega)
        go_wp2
        go_ret
        exact ⟨g9, c9, _, rfl, HO.out, FP.append H1.out.1 H2.out.1, HB.out⟩

end Th
end Go.Proofs.Ytjkkefbfhapblaa
