/- Flat sheets: the model's function. -/
import Derived.Test.YtpmnjbgfdhhomaaSheetO
namespace Go.Proofs.Ytpmnjbgfdhhomaa
set_option linter.unusedSimpArgs false
set_option linter.unusedVariables false
open Go.RowKit
namespace Sh
open Fl Rate

theorem spec_flat_bad (m : Int) (x s n : Nat) (w : World) (wx : (Lit.float .f32 x).wf = true) (cx cy : Nat → Option Nat) (A B : Bool) (hA : (decide (2 ≤ m) && decide (m ≤ 48)) = A) (hB : (fin .f32 x && cmpC .gtr (ord .f32 (cl .f32 x) (some 0))) = B) (h : (A && B) = false) : Calls Try.prog 7 #[.int .i64 m, .float .f32 x, .float .f32 s] w (RetSh false n s false cx cy w) := by
  have HI := Lib.hid (fun w => spec_inr m 2 48 w)
  have HB := Lib.hid (fun w => spec_above x w wx)
  rw [hA] at HI
  rw [hB] at HB
  clear hA hB
  cases A
  all_goals cases B
  all_goals (first | (cases h; done) | clear h)
  all_goals
    go_enter Try.func7, Try.ntmps7
    go_wp2_with fail
    refine (HI.out _).mono ?_
    rintro e w1 ⟨rfl, hb1⟩
    have hz1 := hb1.size
    simp only [World.size_alloc] at hz1
    obtain ⟨hc1, hf1⟩ := Fl.bcell hb1
    have g1 : w.heap.size < w1.heap.size := by omega
    go_wp2_with (go_at_call 30; refine (HB.out _).mono ?_; rintro e w2 ⟨rfl, hb2⟩; have hz2 := hb2.size; obtain ⟨hc2, hf2⟩ := Fl.bcell hb2; have g2 : w.heap.size < w2.heap.size := by omega)
    refine bodyPost_ret ?ohr rfl (.inr ⟨rfl, rfl, ?obel⟩)
    case ohr => simp [results, Try.results7, go_sem, *]
    case obel => (repeat' first | exact Below.refl _ _ | (refine Below.setCell ?_ (by first | omega | (simp; omega) | simp) _) | (refine below_drewN ?_ _) | (refine Below.alloc ?_ (by first | omega | (simp; omega) | simp) _) | (refine Below.trans ?_ (Below.mono (by assumption) (by first | omega | (simp; omega) | simp))))

set_option maxRecDepth 20000 in
set_option maxHeartbeats 6400000 in
theorem spec_flat_good (n : Nat) (x s : Nat) (w : World) (wx : (Lit.float .f32 x).wf = true) (ws : (Lit.float .f32 s).wf = true) (h2 : 2 ≤ n) (hn : n ≤ 48) (hA : (decide ((2 : Int) ≤ (n : Int)) && decide ((n : Int) ≤ 48)) = true) (hB : (fin .f32 x && cmpC .gtr (ord .f32 (cl .f32 x) (some 0))) = true)
    (A : Bool) (hV : (allC (fun k => op2 .mul .f32 (Mks.msC (k : Int)) (cl .f32 x)) (fun _ => some 0) n && finC (cl .f32 s)) = A) :
    Calls Try.prog 7 #[.int .i64 (n : Int), .float .f32 x, .float .f32 s] w (RetSh A n s false (fun k => op2 .mul .f32 (Mks.msC (k : Int)) (cl .f32 x)) (fun _ => some 0) w) := by
  obtain ⟨i0, hi, hz0, hz1, hz2⟩ := info_parts C_info
  obtain ⟨j0, hj, hy0, hy1, hy2⟩ := info_parts S_info
  have HI := Lib.hid (fun w => spec_inr (n : Int) 2 48 w)
  have HB := Lib.hid (fun w => spec_above x w wx)
  rw [hA] at HI
  rw [hB] at HB
  have fx : Fr .f32 x (cl .f32 x) := ⟨rfl, Fl.lt32 wx⟩
  have fs : Fr .f32 s (cl .f32 s) := ⟨rfl, Fl.lt32 ws⟩
  have HG := Lib.hid (fun gp gs cp cs w' (hp : IsC w' gp n (fun k => op2 .mul .f32 (Mks.msC (k : Int)) (cl .f32 x)) (fun _ => some 0)) (hs : IsS w' gs n s) => spec_give gp gs n cp cs s false _ _ _ w' hp hs fs (by omega) hn A hV)
  clear hA hB hV
  go_enter Try.func7, Try.ntmps7
  go_wp2_with fail
  refine (HI.out _).mono ?_
  rintro e w1 ⟨rfl, hb1⟩
  have hz1' := hb1.size
  simp only [World.size_alloc] at hz1'
  go_wp2_with fail
  refine (HB.out _).mono ?_
  rintro e w2 ⟨rfl, hb2⟩
  have hz2' := hb2.size
  have hR : w2.heap[w.heap.size]? = some (.cells #[.slice none 0 0, .slice none 0 0, .bool false] 26) := by
    rw [hb2.block _ (by omega), hb1.block _ (by simp)]
    exact new_block _ _
  have hw2 : Below w.heap.size w w2 := ((Below.refl _ _).alloc (Nat.le_refl _) _).trans ((hb1.trans (hb2.mono (by simp; omega))).mono (by simp))
  have HR := Lib.hid hR
  have HW2 := Lib.hid hw2
  obtain ⟨S, hS⟩ : ∃ S, S = w2.heap.size := ⟨_, rfl⟩
  have hRS : w.heap.size < S := by omega
  clear hR hw2 hb1 hb2
  go_wp2
  rw [← hS]
  have hloop : ∀ b : Bool, (w2.alloc (.cells #[.slice none 0 0, .slice none 0 0, .bool b] 26)).heap[S]? = some (.cells #[.slice none 0 0, .slice none 0 0, .bool b] 26) := by
    intro b
    rw [hS]
    exact new_block _ _
  have hSe : S ≤ w2.heap.size := by omega
  have HSS := Lib.hid hS
  clear hS
  go_loopw [9] (fun i wr => ∃ (k : Nat) (vp vs : Value) (xs : List Value), k ≤ n ∧ i = .int .i64 k ∧ wr.heap[S]? = some (.cells #[vp, vs, .bool false] 26) ∧ wr.ownsRow (S + 1) 40 1 vp k xs ∧ Pts k (fun k => op2 .mul .f32 (Mks.msC (k : Int)) (cl .f32 x)) (fun _ => some 0) xs ∧ wr.ownsRow (S + 1) 22 1 vs k (List.replicate k (.float .f32 s)) ∧ Below S w2 wr)
    (fun i _ => n - (intOf i).toNat)
  case atStart =>
    refine ⟨0, .slice none 0 0, .slice none 0 0, [], Nat.zero_le _, rfl, ?_, ⟨rfl, .inl ⟨rfl, rfl⟩⟩, ⟨rfl, fun j hj => absurd hj (Nat.not_lt_zero _)⟩, ⟨rfl, .inl ⟨rfl, rfl⟩⟩, ?_⟩
    · first | exact hloop _ | (rw [HSS.out]; simp [World.setCell, Array.getElem?_modify])
    · (repeat' first | exact Below.refl _ _ | (refine Below.setCell ?_ (by first | omega | (simp; omega) | simp) _) | (refine below_drewN ?_ _) | (refine Below.alloc ?_ (by first | omega | (simp; omega) | simp) _) | (refine Below.trans ?_ (Below.mono (by assumption) (by first | omega | (simp; omega) | simp))))
  case round =>
    clear hloop
    obtain ⟨k, vp, vs, xs, hk, rfl, hblk, hop, hpts, hos, hbel⟩ := hrel
    have hSl : S < wr.heap.size := (Array.getElem?_eq_some_iff.1 hblk).1
    have hd0 : wr.cell? ⟨S, 0, none⟩ = some vp := by rw [Loose.cells_of hblk]; rfl
    have hd1 : wr.cell? ⟨S, 1, none⟩ = some vs := by rw [Loose.cells_of hblk]; rfl
    have hd2 : wr.cell? ⟨S, 2, none⟩ = some (.bool false) := by rw [Loose.cells_of hblk]; rfl
    have HBK := Lib.hid hblk
    have HP := Lib.hid hpts
    have HO := Lib.hid hop
    have HOS0 := Lib.hid hos
    have HB0 := Lib.hid hbel
    have hbs := hbel.size
    clear hblk hpts hop hos hbel
    by_cases hlt : k < n
    · clear hd2
      have fk := (Mks.ms_facts (k : Int)).2
      have hfree0 := Loose.free_of HBK.out 0
      have hf0 : Fr .f32 0 (some 0) := Fr.const (by decide +kernel) (by decide)
      go_wp2_with (first
        | (refine Fl.wpList_fl rfl rfl rfl rfl rfl fk fx ?_; intro r n' hr; have HBK5 := Lib.hid (show (wr.drewN n').heap[S]? = _ from HBK.out); have HB4 := Lib.hid (below_drewN HB0.out n'); have HOS4 := Lib.hid (show (wr.drewN n').ownsRow (S + 1) 22 1 vs k (List.replicate k (.float .f32 s)) from HOS0.out); have HOP4 := Lib.hid (show (wr.drewN n').ownsRow (S + 1) 40 1 vp k xs from HO.out); have HOP := Lib.hid (World.ownsRow.alloc HOP4.out (.cells #[.complex .f32 r 0] 40)))
        | (
          at_builtin
          refine wpList_append_own _ rfl (.tmp 26) (.tmp 32) 23 rfl (S + 1) 40 i0 (.complex .f32 0 0) 1 8 Try.underlying23 hi hz0 hz1 hz2 rfl (by decide) vp k xs rfl HOP.out ⟨_, 0, none⟩ 1 1 [.complex .f32 _ _] rfl rfl (cell_new _ _ _ _ (by first | rfl | simp)) (by intro u hu; rw [List.mem_singleton.1 hu]; rfl) (by unfold maxLen; omega) (by omega) (by simp; omega) ?_
          intro v5 w5 hown5 hgrow5 hnil5
          obtain ⟨g5, cap5, rfl⟩ := Joins.ownsRow_form hown5 (by omega)
          have hz45 := hgrow5.size
          obtain ⟨hS5, hos5, hb5⟩ := appended HBK5.out HOP4.out HOS4.out HB4.out hgrow5 (by decide)
          have hd5 := (Loose.cells_of (i := 0) hS5).trans (show _ = some vp from rfl)
          have hd5' := (Loose.cells_of (i := 1) hS5).trans (show _ = some vs from rfl)
          have hf5 := Loose.free_of hS5 0
          have hf5' := Loose.free_of hS5 1
          have hz5 : S < w5.heap.size := (Array.getElem?_eq_some_iff.1 hS5).1
          have HS5 := Lib.hid (CMk.setCell_block hS5 0 (.slice (some ⟨g5, 0, none⟩) (k + 1) cap5))
          have HOS5 := Lib.hid (own_set (i := 0) (u := (.slice (some ⟨g5, 0, none⟩) (k + 1) cap5)) hos5)
          have HOP5 := Lib.hid (own_set (i := 0) (u := (.slice (some ⟨g5, 0, none⟩) (k + 1) cap5)) hown5)
          have HB5 := Lib.hid (Below.setCell hb5 (Nat.le_refl _) (p := ⟨S, 0, none⟩) (.slice (some ⟨g5, 0, none⟩) (k + 1) cap5))
          have HOS := Lib.hid (World.ownsRow.alloc HOS5.out (.cells #[.float .f32 s] 22))
          clear hS5 hown5 hgrow5 hnil5 hos5 hb5 HOP
          skip)
        | (
          at_builtin
          refine wpList_append_own _ rfl (.tmp 36) (.tmp 38) 24 rfl (S + 1) 22 j0 (.float .f32 0) 1 4 Try.underlying24 hj hy0 hy1 hy2 rfl (by decide) vs k (List.replicate k (.float .f32 s)) rfl HOS.out ⟨_, 0, none⟩ 1 1 [.float .f32 s] rfl rfl (cell_new _ _ _ _ (by first | rfl | simp)) (by intro u hu; rw [List.mem_singleton.1 hu]; rfl) (by unfold maxLen; omega) (by omega) (by simp; omega) ?_
          intro v7 w7 hown7 hgrow7 hnil7
          obtain ⟨g7, cap7, rfl⟩ := Joins.ownsRow_form hown7 (by omega)
          have hz57 := hgrow7.size
          simp only [World.size_alloc, World.size_setCell] at hz57
          obtain ⟨hS7, hop7, hb7⟩ := appended HS5.out HOS5.out HOP5.out HB5.out hgrow7 (by decide)
          have hd7 := (Loose.cells_of (i := 1) hS7).trans (show _ = some vs from rfl)
          have hf7 := Loose.free_of hS7 1
          have HS7 := Lib.hid hS7
          have HOP7 := Lib.hid hop7
          have HB7 := Lib.hid hb7
          have HW7 := Lib.hid hown7
          clear hS7 hop7 hb7 hown7 hgrow7 hnil7
          skip))
      go_roundw
      case rel =>
        refine ⟨k + 1, (.slice (some ⟨g5, 0, none⟩) (k + 1) cap5), (.slice (some ⟨g7, 0, none⟩) (k + 1) cap7), _, by omega, by go_num, CMk.setCell_block HS7.out 1 _, own_set HOP7.out, HP.out.next hr hf0, ?_, Below.setCell HB7.out (Nat.le_refl _) _⟩
        have h := own_set (i := 1) (u := (.slice (some ⟨g7, 0, none⟩) (k + 1) cap7)) HW7.out
        rw [List.replicate_succ']
        exact h
      case measure => simp [intOf]; omega
    · obtain rfl : n = k := by omega
      obtain ⟨gp, cp, rfl, hgp, hcp, hmp, hIC⟩ := isC_of HO.out HP.out (by omega)
      obtain ⟨gs, cs, rfl, hgs, hcs, hms, hIS⟩ := isS_of HOS0.out (by omega)
      have hne : gp ≠ gs := by
        rcases ne_own HO.out HOS0.out (by decide) with h | h
        · simp [Value.ownBlock] at h
        · simpa [Value.ownBlock] using h
      have hRr : wr.heap[w.heap.size]? = some (.cells #[.slice none 0 0, .slice none 0 0, .bool false] 26) := by rw [HB0.out.block _ hRS]; exact HR.out
      have HIC := Lib.hid hIC
      have HIS := Lib.hid hIS
      have HNE := Lib.hid hne
      have HCP := Lib.hid (And.intro hcp (And.intro hcs (And.intro hmp hms)))
      have HRr := Lib.hid hRr
      have hlR : w.heap.size < wr.heap.size := by omega
      clear hIC hIS hne hcp hcs hmp hms hRr
      go_wp2_with fail
      refine (HG.out _ _ _ _ _ HIC.out HIS.out).mono ?_
      rintro e w9 ⟨rfl, hb9⟩
      have hz9 := hb9.size
      have hR9 : w9.heap[w.heap.size]? = some (.cells #[.slice none 0 0, .slice none 0 0, .bool false] 26) := by rw [hb9.block _ hlR]; exact HRr.out
      have hd90 : w9.cell? ⟨w.heap.size, 0, none⟩ = some (.slice none 0 0) := by rw [Loose.cells_of hR9]; rfl
      have hd91 : w9.cell? ⟨w.heap.size, 1, none⟩ = some (.slice none 0 0) := by rw [Loose.cells_of hR9]; rfl
      have hd92 : w9.cell? ⟨w.heap.size, 2, none⟩ = some (.bool false) := by rw [Loose.cells_of hR9]; rfl
      have hf90 := Loose.free_of hR9 0
      have hf91 := Loose.free_of hR9 1
      have hf92 := Loose.free_of hR9 2
      have hw9 : Below w.heap.size w w9 := HW2.out.trans ((HB0.out.mono (Nat.le_of_lt hRS)).trans (hb9.mono (Nat.le_of_lt hlR)))
      have HW9 := Lib.hid hw9
      have HIC9 := Lib.hid (HIC.out.later hb9)
      have HIS9 := Lib.hid (HIS.out.later hb9)
      clear hR9 hw9 hb9 hd0 hd1 hd2
      cases A
      · go_wp2
        refine bodyPost_ret ?ohr rfl (.inr ⟨rfl, rfl, ?obel⟩)
        case ohr => simp [results, Try.results7, go_sem, *]
        case obel => exact Below.setCell (Below.setCell (Below.setCell HW9.out (Nat.le_refl _) _) (Nat.le_refl _) _) (Nat.le_refl _) _
      · go_wp2
        refine bodyPost_ret ?ohr rfl (.inl ⟨rfl, gp, gs, cp, cs, rfl, HNE.out, by omega, by omega, HCP.out.1, HCP.out.2.1, HCP.out.2.2.1, HCP.out.2.2.2, ?oic, ?ois, ?obel⟩)
        case ohr => simp [results, Try.results7, go_sem, *]
        case oic => exact HIC9.out.same (by rw [set_keep _ _ _ (by omega), set_keep _ _ _ (by omega), set_keep _ _ _ (by omega)])
        case ois => exact HIS9.out.same (by rw [set_keep _ _ _ (by omega), set_keep _ _ _ (by omega), set_keep _ _ _ (by omega)])
        case obel => exact Below.setCell (Below.setCell (Below.setCell HW9.out (Nat.le_refl _) _) (Nat.le_refl _) _) (Nat.le_refl _) _

end Sh
end Go.Proofs.Ytpmnjbgfdhhomaa
