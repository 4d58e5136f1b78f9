/- Rings: the program's function. -/
import Derived.Test.YtpmnjbgfdhhomaaSheetO
import Derived.Test.YtpmnjbgfdhhomaaCirc
namespace Go.Proofs.Ytpmnjbgfdhhomaa
set_option linter.unusedSimpArgs false
set_option linter.unusedVariables false
open Go.RowKit
namespace Sh
open Fl Rate

set_option maxRecDepth 20000 in
set_option maxHeartbeats 6400000 in
theorem impl_even2 (p0 p1 : Addr) (n s : Nat) (b : Bool) (cx cy : Nat → Option Nat) (w : World) (ws : (Lit.float .f32 s).wf = true) (h2 : 2 ≤ n) (hn : n ≤ 48)
    (hcall : ∀ k w', k < n → Below w.heap.size w w' → Calls Try.prog 44 #[.int .i64 ((k : Nat) : Int), .pointer (some p0), .pointer (some p1)] w' (RetC .f32 (cx k) (cy k) w')) (A : Bool) (hV : (allC cx cy n && finC (cl .f32 s)) = A) :
    Calls Try.prog 33 #[.int .i64 (n : Int), .float .f32 s, .bool b, .func (Fn.func 44) #[] #[.pointer (some p0), .pointer (some p1)]] w (RetSh A n s b cx cy w) := by
  obtain ⟨i0, hi, hz0, hz1, hz2i⟩ := info_parts C_info
  obtain ⟨j0, hj, hy0, hy1, hy2⟩ := info_parts S_info
  have fs : Fr .f32 s (cl .f32 s) := ⟨rfl, Fl.lt32 ws⟩
  have HG := Lib.hid (fun gp gs cp cs w' (hp : IsC w' gp n cx cy) (hs : IsS w' gs n s) => impl_checked gp gs n cp cs s b _ _ _ w' hp hs fs (by omega) hn A hV)
  have HCALL := Lib.hid hcall
  clear hV hcall
  go_enter Try.func33, Try.ntmps33
  obtain ⟨w2, hw2⟩ : ∃ w2, w2 = w.alloc (.cells #[.slice none 0 0, .slice none 0 0, .bool false] 26) := ⟨_, rfl⟩
  have hR : w2.heap[w.heap.size]? = some (.cells #[.slice none 0 0, .slice none 0 0, .bool false] 26) := by
    rw [hw2]; exact new_block _ _
  have hz2 : w2.heap.size = w.heap.size + 1 := by rw [hw2]; simp
  have hb2 : Below w.heap.size w w2 := by rw [hw2]; exact (Below.refl _ _).alloc (Nat.le_refl _) _
  have HR := Lib.hid hR
  have HW2 := Lib.hid hb2
  obtain ⟨S, hS⟩ : ∃ S, S = w2.heap.size := ⟨_, rfl⟩
  have hRS : w.heap.size < S := by omega
  have hS1 : w.heap.size + 1 = S := by omega
  have HWW := Lib.hid hw2
  have HS1 := Lib.hid hS1
  clear hR hb2 hw2 hS1 hz2
  go_wp2
  rw [show w.alloc (.cells #[.slice none 0 0, .slice none 0 0, .bool false] 26) = w2 from HWW.out.symm]
  rw [show w.heap.size + 1 = S from HS1.out]
  have hloop : ∀ b : Bool, (w2.alloc (.cells #[.slice none 0 0, .slice none 0 0, .bool b] 26)).heap[S]? = some (.cells #[.slice none 0 0, .slice none 0 0, .bool b] 26) := by
    intro b
    rw [hS]
    exact new_block _ _
  have hSe : S ≤ w2.heap.size := by omega
  have HSS := Lib.hid hS
  clear hS
  go_loopw [15, 23] (fun i ur wr => (∀ b, ur = .slice (some ⟨b, 0, none⟩) 1 1 → b < wr.heap.size) ∧ ∃ (k : Nat) (vp vs : Value) (xs : List Value), k ≤ n ∧ i = .int .i64 k ∧ wr.heap[S]? = some (.cells #[vp, vs, .bool b] 26) ∧ wr.ownsRow (S + 1) 40 1 vp k xs ∧ Pts k cx cy xs ∧ wr.ownsRow (S + 1) 22 1 vs k (List.replicate k (.float .f32 s)) ∧ Below S w2 wr)
    (fun i _ _ => n - (intOf i).toNat)
  case atStart =>
    refine ⟨by intro b hb; simp [undef] at hb, 0, .slice none 0 0, .slice none 0 0, [], Nat.zero_le _, rfl, ?_, ⟨rfl, .inl ⟨rfl, rfl⟩⟩, ⟨rfl, fun j hj => absurd hj (Nat.not_lt_zero _)⟩, ⟨rfl, .inl ⟨rfl, rfl⟩⟩, ?_⟩
    · first | exact hloop _ | (rw [HSS.out]; simp [World.setCell, Array.getElem?_modify])
    · (repeat' first | exact Below.refl _ _ | (refine Below.setCell ?_ (by first | omega | (simp; omega) | simp) _) | (refine below_drewN ?_ _) | (refine Below.alloc ?_ (by first | omega | (simp; omega) | simp) _) | (refine Below.trans ?_ (Below.mono (by assumption) (by first | omega | (simp; omega) | simp))))
  case round =>
    clear hloop
    obtain ⟨hsl, k, vp, vs, xs, hk, rfl, hblk, hop, hpts, hos, hbel⟩ := hrel
    have HSL := Lib.hid hsl
    clear hsl
    have hSl : S < wr.heap.size := (Array.getElem?_eq_some_iff.1 hblk).1
    have hd0 : wr.cell? ⟨S, 0, none⟩ = some vp := by rw [Loose.cells_of hblk]; rfl
    have hd1 : wr.cell? ⟨S, 1, none⟩ = some vs := by rw [Loose.cells_of hblk]; rfl
    have hd2 : wr.cell? ⟨S, 2, none⟩ = some (.bool b) := by rw [Loose.cells_of hblk]; rfl
    have HBK := Lib.hid hblk
    have HP := Lib.hid hpts
    have HO := Lib.hid hop
    have HOS0 := Lib.hid hos
    have HB0 := Lib.hid hbel
    have hbs := hbel.size
    clear hblk hpts hop hos hbel
    by_cases hlt : k < n
    · clear hd2
      have hww : w.heap.size ≤ wr.heap.size := by omega
      have HCL := Lib.hid (fun w' (hw' : Below wr.heap.size wr w') => HCALL.out k w' hlt ((HW2.out.trans (HB0.out.mono (Nat.le_of_lt hRS))).trans (hw'.mono hww)))
      have hfree0 := Loose.free_of HBK.out 0
      go_wp2_with fail
      refine LooseS.wp_region 6 23 (fun ob => ∃ p4 q4, ob = .cells #[.complex .f32 p4 q4] 40 ∧ Fr .f32 p4 (cx k) ∧ Fr .f32 q4 (cy k)) (by kernel_rfl) (by kernel_rfl) (by intro b hb; exact HSL.out b (by simpa using hb)) ?_
      apply Exists.intro
      simp only [List.take_succ_cons, List.take_zero, List.drop_succ_cons, List.drop_zero]
      repeat (first | (apply Loose.walk_step; intro K hK; apply LooseS.turn_value (hwant := rfl) (hd := rfl); (focus (intro w' hw'; obtain ⟨hc, hf⟩ := Fl.bcell hw'; go_simp; first | done | rfl | exact ⟨rfl, rfl⟩)); go_simp; refine hK _ ?_; clear hK K) | (apply Loose.walk_step; intro K hK; apply LooseS.turn_callC (Nat.le_refl _) (hwant := rfl) (hd := rfl); (focus (intro w'; go_simp; first | done | rfl | exact ⟨rfl, rfl⟩)); (focus (intro w' hw'; go_at_call 44; exact HCL.out w' hw')); intro sx sy fsx fsy; go_simp; refine hK _ ?_; clear hK K) | (apply Loose.walk_step; intro K hK; apply LooseS.turn_row (Nat.le_refl _) (hwant := rfl) (hdst := rfl) (ob := .cells #[.complex .f32 sx sy] 40) (hφ := ⟨sx, sy, rfl, fsx, fsy⟩); (focus (intro w'; go_simp; first | done | rfl | exact ⟨rfl, rfl⟩)); intro b4 hb4B; go_simp; refine hK _ ?_; clear hK K))
      refine Loose.walk_nil ?_
      intro w4 hcls4
      obtain ⟨hb4, hrow4⟩ := hcls4
      obtain ⟨ob4, hob4, qx, qy, rfl, fqx, fqy⟩ := hrow4 _ hb4B rfl
      have hz4 := hb4.size
      obtain ⟨hc4, hf4⟩ := Fl.bcell hb4
      have hS4 : w4.heap[S]? = some (.cells #[vp, vs, .bool b] 26) := by rw [hb4.block S hSl]; exact HBK.out
      have HBK5 := Lib.hid hS4
      have HB4 := Lib.hid (HB0.out.trans (hb4.mono (Nat.le_of_lt hSl)))
      have HOS4 := Lib.hid (own_below HOS0.out hb4)
      have HOP4 := Lib.hid (own_below HO.out hb4)
      have HOP := Lib.hid HOP4.out
      have hd40 := (Loose.cells_of (i := 0) hS4).trans (show _ = some vp from rfl)
      have hf40 := Loose.free_of hS4 0
      have hz4' : S < w4.heap.size := (Array.getElem?_eq_some_iff.1 hS4).1
      have HOB4 := Lib.hid hob4
      have hb4l : b4 < w4.heap.size := (Array.getElem?_eq_some_iff.1 hob4).1
      clear hS4 hb4 hob4 hrow4
      go_wp2_with (first
        | (
          at_builtin
          refine wpList_append_own _ rfl (.tmp 19) (.tmp 23) 23 rfl (S + 1) 40 i0 (.complex .f32 0 0) 1 8 Try.underlying23 hi hz0 hz1 hz2i rfl (by decide) vp k xs rfl HOP.out ⟨b4, 0, none⟩ 1 1 [.complex .f32 qx qy] rfl rfl (row_cell HOB4.out) (by intro u hu; rw [List.mem_singleton.1 hu]; rfl) (by unfold maxLen; omega) (by omega) (by omega) ?_
          intro v5 w5 hown5 hgrow5 hnil5
          obtain ⟨g5, cap5, rfl⟩ := Joins.ownsRow_form hown5 (by omega)
          have hz45 := hgrow5.size
          obtain ⟨hS5, hos5, hb5⟩ := appended0 HBK5.out HOP4.out HOS4.out HB4.out hgrow5 (by decide)
          have hd5 := (Loose.cells_of (i := 0) hS5).trans (show _ = some vp from rfl)
          have hd5' := (Loose.cells_of (i := 1) hS5).trans (show _ = some vs from rfl)
          have hf5 := Loose.free_of hS5 0
          have hf5' := Loose.free_of hS5 1
          have hz5 : S < w5.heap.size := (Array.getElem?_eq_some_iff.1 hS5).1
          have HS5 := Lib.hid (CMk.setCell_block hS5 0 (.slice (some ⟨g5, 0, none⟩) (k + 1) cap5))
          have HOS5 := Lib.hid (own_set (i := 0) (u := (.slice (some ⟨g5, 0, none⟩) (k + 1) cap5)) hos5)
          have HOP5 := Lib.hid (own_set (i := 0) (u := (.slice (some ⟨g5, 0, none⟩) (k + 1) cap5)) hown5)
          have HB5 := Lib.hid (Below.setCell hb5 (Nat.le_refl _) (p := ⟨S, 0, none⟩) (.slice (some ⟨g5, 0, none⟩) (k + 1) cap5))
          have HOS := Lib.hid (World.ownsRow.alloc HOS5.out (.cells #[.float .f32 s] 22))
          clear hS5 hown5 hgrow5 hnil5 hos5 hb5 HOP
          skip)
        | (
          at_builtin
          refine wpList_append_own _ rfl (.tmp 27) (.tmp 29) 24 rfl (S + 1) 22 j0 (.float .f32 0) 1 4 Try.underlying24 hj hy0 hy1 hy2 rfl (by decide) vs k (List.replicate k (.float .f32 s)) rfl HOS.out ⟨_, 0, none⟩ 1 1 [.float .f32 s] rfl rfl (cell_new _ _ _ _ (by first | rfl | simp)) (by intro u hu; rw [List.mem_singleton.1 hu]; rfl) (by unfold maxLen; omega) (by omega) (by simp; omega) ?_
          intro v7 w7 hown7 hgrow7 hnil7
          obtain ⟨g7, cap7, rfl⟩ := Joins.ownsRow_form hown7 (by omega)
          have hz57 := hgrow7.size
          simp only [World.size_alloc, World.size_setCell] at hz57
          obtain ⟨hS7, hop7, hb7⟩ := appended HS5.out HOS5.out HOP5.out HB5.out hgrow7 (by decide)
          have hd7 := (Loose.cells_of (i := 1) hS7).trans (show _ = some vs from rfl)
          have hf7 := Loose.free_of hS7 1
          have HS7 := Lib.hid hS7
          have HOP7 := Lib.hid hop7
          have HB7 := Lib.hid hb7
          have HW7 := Lib.hid hown7
          clear hS7 hop7 hb7 hown7 hgrow7 hnil7
          skip))
      go_roundw
      case rel =>
        refine ⟨by intro b hb; simp at hb; subst hb; simp; omega, k + 1, (.slice (some ⟨g5, 0, none⟩) (k + 1) cap5), (.slice (some ⟨g7, 0, none⟩) (k + 1) cap7), _, by omega, by go_num, CMk.setCell_block HS7.out 1 _, own_set HOP7.out, HP.out.next fqx fqy, ?_, Below.setCell HB7.out (Nat.le_refl _) _⟩
        have h := own_set (i := 1) (u := (.slice (some ⟨g7, 0, none⟩) (k + 1) cap7)) HW7.out
        rw [List.replicate_succ']
        exact h
      case measure => simp [intOf]; omega
    · obtain rfl : n = k := by omega
      obtain ⟨gp, cp, rfl, hgp, hcp, hmp, hIC⟩ := isC_of HO.out HP.out (by omega)
      obtain ⟨gs, cs, rfl, hgs, hcs, hms, hIS⟩ := isS_of HOS0.out (by omega)
      have hne : gp ≠ gs := by
        rcases ne_own HO.out HOS0.out (by decide) with h | h
        · simp [Value.ownBlock] at h
        · simpa [Value.ownBlock] using h
      have hRr : wr.heap[w.heap.size]? = some (.cells #[.slice none 0 0, .slice none 0 0, .bool false] 26) := by rw [HB0.out.block _ hRS]; exact HR.out
      have HIC := Lib.hid hIC
      have HIS := Lib.hid hIS
      have HNE := Lib.hid hne
      have HCP := Lib.hid (And.intro hcp (And.intro hcs (And.intro hmp hms)))
      have HRr := Lib.hid hRr
      have hlR : w.heap.size < wr.heap.size := by omega
      clear hIC hIS hne hcp hcs hmp hms hRr
      go_wp2_with fail
      refine (HG.out _ _ _ _ _ HIC.out HIS.out).mono ?_
      rintro e w9 ⟨rfl, hb9⟩
      have hz9 := hb9.size
      have hR9 : w9.heap[w.heap.size]? = some (.cells #[.slice none 0 0, .slice none 0 0, .bool false] 26) := by rw [hb9.block _ hlR]; exact HRr.out
      have hd90 : w9.cell? ⟨w.heap.size, 0, none⟩ = some (.slice none 0 0) := by rw [Loose.cells_of hR9]; rfl
      have hd91 : w9.cell? ⟨w.heap.size, 1, none⟩ = some (.slice none 0 0) := by rw [Loose.cells_of hR9]; rfl
      have hd92 : w9.cell? ⟨w.heap.size, 2, none⟩ = some (.bool false) := by rw [Loose.cells_of hR9]; rfl
      have hf90 := Loose.free_of hR9 0
      have hf91 := Loose.free_of hR9 1
      have hf92 := Loose.free_of hR9 2
      have hw9 : Below w.heap.size w w9 := HW2.out.trans ((HB0.out.mono (Nat.le_of_lt hRS)).trans (hb9.mono (Nat.le_of_lt hlR)))
      have HW9 := Lib.hid hw9
      have HIC9 := Lib.hid (HIC.out.later hb9)
      have HIS9 := Lib.hid (HIS.out.later hb9)
      clear hR9 hw9 hb9 hd0 hd1 hd2
      cases A
      · go_wp2
        refine bodyPost_ret ?ohr rfl (.inr ⟨rfl, rfl, ?obel⟩)
        case ohr => simp [results, Try.results33, go_sem, *]
        case obel => exact Below.setCell (Below.setCell (Below.setCell HW9.out (Nat.le_refl _) _) (Nat.le_refl _) _) (Nat.le_refl _) _
      · go_wp2
        refine bodyPost_ret ?ohr rfl (.inl ⟨rfl, gp, gs, cp, cs, rfl, HNE.out, by omega, by omega, HCP.out.1, HCP.out.2.1, HCP.out.2.2.1, HCP.out.2.2.2, ?oic, ?ois, ?obel⟩)
        case ohr => simp [results, Try.results33, go_sem, *]
        case oic => exact HIC9.out.same (by rw [set_keep _ _ _ (by omega), set_keep _ _ _ (by omega), set_keep _ _ _ (by omega)])
        case ois => exact HIS9.out.same (by rw [set_keep _ _ _ (by omega), set_keep _ _ _ (by omega), set_keep _ _ _ (by omega)])
        case obel => exact Below.setCell (Below.setCell (Below.setCell HW9.out (Nat.le_refl _) _) (Nat.le_refl _) _) (Nat.le_refl _) _

theorem heap3 (w : World) (a b c : Obj) : (((w.alloc a).alloc b).alloc c).heap[w.heap.size]? = some a ∧ (((w.alloc a).alloc b).alloc c).heap[w.heap.size + 1]? = some b ∧ (((w.alloc a).alloc b).alloc c).heap[w.heap.size + 1 + 1]? = some c := by
  have e : (((w.alloc a).alloc b).alloc c).heap = ((w.heap.push a).push b).push c := rfl
  rw [e]
  have s1 : (w.heap.push a).size = w.heap.size + 1 := Array.size_push _
  have s2 : ((w.heap.push a).push b).size = w.heap.size + 1 + 1 := by rw [Array.size_push, s1]
  refine ⟨?_, ?_, ?_⟩
  · rw [Array.getElem?_push, if_neg (by omega), Array.getElem?_push, if_neg (by omega), Array.getElem?_push, if_pos rfl]
  · rw [Array.getElem?_push, if_neg (by omega), Array.getElem?_push, if_pos s1.symm]
  · rw [Array.getElem?_push, if_pos s2.symm]

theorem cell3 (w : World) (a b c : Array Value) (ta tb tc : TypeId) (i : Nat) : (((w.alloc (.cells a ta)).alloc (.cells b tb)).alloc (.cells c tc)).cell? ⟨w.heap.size, i, none⟩ = a[i]? ∧ (((w.alloc (.cells a ta)).alloc (.cells b tb)).alloc (.cells c tc)).cell? ⟨w.heap.size + 1, i, none⟩ = b[i]? ∧
    (((w.alloc (.cells a ta)).alloc (.cells b tb)).alloc (.cells c tc)).cell? ⟨w.heap.size + 1 + 1, i, none⟩ = c[i]? ∧ (((w.alloc (.cells a ta)).alloc (.cells b tb)).alloc (.cells c tc)).frozen? ⟨w.heap.size + 1 + 1, i, none⟩ = false := by
  obtain ⟨h1, h2, h3⟩ := heap3 w (.cells a ta) (.cells b tb) (.cells c tc)
  exact ⟨Loose.cells_of h1 i, Loose.cells_of h2 i, Loose.cells_of h3 i, Loose.free_of h3 i⟩

theorem impl_ring1 (k : Nat) (p q : Addr) (n x : Nat) (c : Option Nat) (re im : Nat → Option Nat) (w : World) (hk : k < n) (fx : Fr .f32 x c) (hpt : Circ.Points n re im) (hp : w.cell? p = some (.int .i64 (n : Int))) (hq : w.cell? q = some (.float .f32 x)) :
    Calls Try.prog 44 #[.int .i64 ((k : Nat) : Int), .pointer (some p), .pointer (some q)] w (RetC .f32 (Circ.pcx re c k) (Circ.pcx im c k) w) := by
  have HC := Lib.hid (fun w => Circ.impl_circle n k x c re im w hk fx hpt)
  clear hpt
  go_enter Try.func44, Try.ntmps44
  go_wp2_with fail
  refine (HC.out _).mono ?_
  rintro e w' ⟨sx, sy, rfl, fsx, fsy, hb⟩
  go_wp2
  go_ret
  exact ⟨_, _, rfl, fsx, fsy, hb⟩

set_option maxRecDepth 20000 in
theorem impl_ring_bad (m : Int) (x s n : Nat) (w : World) (hx : x < 4294967296) (cx cy : Nat → Option Nat) (B : Bool) (hB : (fin .f32 x && cmpC .gtr (ord .f32 (cl .f32 x) (some 0))) = B) (h : (decide (3 ≤ m) && decide (m ≤ 48) && B) = false) : Calls Try.prog 13 #[.int .i64 m, .float .f32 x, .float .f32 s] w (RetSh false n s true cx cy w) := by
  have HL := Lib.hid (fun w => impl_length x w hx)
  rw [hB] at HL
  clear hB
  by_cases h1 : 3 ≤ m
  · have t1 : ¬ m < 3 := by omega
    by_cases h2 : m ≤ 48
    · have t2 : ¬ 48 < m := by omega
      obtain rfl : B = false := by simpa [h1, h2] using h
      clear h
      go_enter Try.func13, Try.ntmps13
      go_wp2_with fail
      refine (HL.out _).mono ?_
      rintro e w1 ⟨rfl, hb1⟩
      have hz1 := hb1.size
      simp only [World.size_alloc] at hz1
      obtain ⟨hc1, hf1⟩ := Fl.bcell hb1
      have g1 : w.heap.size + 1 + 1 < w1.heap.size := by omega
      go_wp2
      refine bodyPost_ret ?ohr rfl (.inr ⟨rfl, rfl, ?obel⟩)
      case ohr => simp [results, Try.results13, go_sem, *]
      case obel => (repeat' first | exact Below.refl _ _ | (refine Below.setCell ?_ (by first | omega | (simp; omega) | simp) _) | (refine below_drewN ?_ _) | (refine Below.alloc ?_ (by first | omega | (simp; omega) | simp) _) | (refine Below.trans ?_ (Below.mono (by assumption) (by first | omega | (simp; omega) | simp))))
    · have t2 : 48 < m := by omega
      clear h
      go_enter Try.func13, Try.ntmps13
      go_wp2
      refine bodyPost_ret ?ohr rfl (.inr ⟨rfl, rfl, ?obel⟩)
      case ohr => simp [results, Try.results13, go_sem, *]
      case obel => (repeat' first | exact Below.refl _ _ | (refine Below.setCell ?_ (by first | omega | (simp; omega) | simp) _) | (refine below_drewN ?_ _) | (refine Below.alloc ?_ (by first | omega | (simp; omega) | simp) _) | (refine Below.trans ?_ (Below.mono (by assumption) (by first | omega | (simp; omega) | simp))))
  · have t1 : m < 3 := by omega
    clear h
    go_enter Try.func13, Try.ntmps13
    go_wp2
    refine bodyPost_ret ?ohr rfl (.inr ⟨rfl, rfl, ?obel⟩)
    case ohr => simp [results, Try.results13, go_sem, *]
    case obel => (repeat' first | exact Below.refl _ _ | (refine Below.setCell ?_ (by first | omega | (simp; omega) | simp) _) | (refine below_drewN ?_ _) | (refine Below.alloc ?_ (by first | omega | (simp; omega) | simp) _) | (refine Below.trans ?_ (Below.mono (by assumption) (by first | omega | (simp; omega) | simp))))

set_option maxRecDepth 20000 in
set_option maxHeartbeats 3200000 in
theorem impl_ring_good (n x s : Nat) (w : World) (wx : (Lit.float .f32 x).wf = true) (ws : (Lit.float .f32 s).wf = true) (h2 : 3 ≤ n) (hn : n ≤ 48) (hB : (fin .f32 x && cmpC .gtr (ord .f32 (cl .f32 x) (some 0))) = true) (re im : Nat → Option Nat) (hpt : Circ.Points n re im)
    (A : Bool) (hV : (allC (fun k => Circ.pcx re (cl .f32 x) k) (fun k => Circ.pcx im (cl .f32 x) k) n && finC (cl .f32 s)) = A) :
    Calls Try.prog 13 #[.int .i64 (n : Int), .float .f32 x, .float .f32 s] w (RetSh A n s true (fun k => Circ.pcx re (cl .f32 x) k) (fun k => Circ.pcx im (cl .f32 x) k) w) := by
  have HL := Lib.hid (fun w => impl_length x w (Fl.lt32 wx))
  rw [hB] at HL
  have fx : Fr .f32 x (cl .f32 x) := ⟨rfl, Fl.lt32 wx⟩
  have HEV := Lib.hid (fun w1 hcall => impl_even2 ⟨w.heap.size, 0, none⟩ ⟨w.heap.size + 1, 0, none⟩ n s true (fun k => Circ.pcx re (cl .f32 x) k) (fun k => Circ.pcx im (cl .f32 x) k) w1 ws (by omega) hn hcall A hV)
  have HPTS := Lib.hid hpt
  clear hpt
  have t1 : ¬ (n : Int) < 3 := by omega
  have t2 : ¬ 48 < (n : Int) := by omega
  clear hB hV
  go_enter Try.func13, Try.ntmps13
  go_wp2_with fail
  refine (HL.out _).mono ?_
  rintro e w1 ⟨rfl, hb1⟩
  have hz1 := hb1.size
  simp only [World.size_alloc] at hz1
  obtain ⟨hc1, hf1⟩ := Fl.bcell hb1
  have hg0 : w1.cell? ⟨w.heap.size, 0, none⟩ = some (.int .i64 (n : Int)) := by rw [hc1 _ _ (by first | omega | (simp; omega) | simp)]; exact (cell3 _ _ _ _ _ _ _ 0).1
  have hg1 : w1.cell? ⟨w.heap.size + 1, 0, none⟩ = some (.float .f32 x) := by rw [hc1 _ _ (by first | omega | (simp; omega) | simp)]; exact (cell3 _ _ _ _ _ _ _ 0).2.1
  have g1 : w.heap.size + 1 + 1 < w1.heap.size := by omega
  have hr0 : w1.cell? ⟨w.heap.size + 1 + 1, 0, none⟩ = some (.slice none 0 0) := by rw [hc1 _ _ (by first | omega | (simp; omega) | simp)]; first | exact (cell3 _ _ _ _ _ _ _ 0).2.2.1 | simp
  have hr1 : w1.cell? ⟨w.heap.size + 1 + 1, 1, none⟩ = some (.slice none 0 0) := by rw [hc1 _ _ (by first | omega | (simp; omega) | simp)]; first | exact (cell3 _ _ _ _ _ _ _ 1).2.2.1 | simp
  have hr2 : w1.cell? ⟨w.heap.size + 1 + 1, 2, none⟩ = some (.bool false) := by rw [hc1 _ _ (by first | omega | (simp; omega) | simp)]; first | exact (cell3 _ _ _ _ _ _ _ 2).2.2.1 | simp
  have hs0 : w1.frozen? ⟨w.heap.size + 1 + 1, 0, none⟩ = false := by rw [hf1 _ _ (by first | omega | (simp; omega) | simp)]; first | exact (cell3 _ _ _ _ _ _ _ 0).2.2.2 | simp
  have hs1 : w1.frozen? ⟨w.heap.size + 1 + 1, 1, none⟩ = false := by rw [hf1 _ _ (by first | omega | (simp; omega) | simp)]; first | exact (cell3 _ _ _ _ _ _ _ 1).2.2.2 | simp
  have hs2 : w1.frozen? ⟨w.heap.size + 1 + 1, 2, none⟩ = false := by rw [hf1 _ _ (by first | omega | (simp; omega) | simp)]; first | exact (cell3 _ _ _ _ _ _ _ 2).2.2.2 | simp
  have hbw : Below w.heap.size w w1 := by (repeat' first | exact Below.refl _ _ | (refine Below.setCell ?_ (by first | omega | (simp; omega) | simp) _) | (refine below_drewN ?_ _) | (refine Below.alloc ?_ (by first | omega | (simp; omega) | simp) _) | (refine Below.trans ?_ (Below.mono (by assumption) (by first | omega | (simp; omega) | simp))))
  have HBW := Lib.hid hbw
  clear hbw hc1 hf1 hb1
  go_wp2_with fail
  refine (HEV.out _ (fun k w' hk hb' => impl_ring1 k ⟨w.heap.size, 0, none⟩ ⟨w.heap.size + 1, 0, none⟩ n x _ re im w' hk fx HPTS.out ((hb'.cell (by show w.heap.size < _; omega)).trans hg0) ((hb'.cell (by show w.heap.size + 1 < _; omega)).trans hg1))).mono ?_
  rintro e w2 (⟨rfl, gp, gs, cp, cs, rfl, hne, hgp, hgs, hcp, hcs, hmp, hms, hIC, hIS, hb2⟩ | ⟨rfl, rfl, hb2⟩)
  all_goals
    obtain ⟨hc2, hf2⟩ := Fl.bcell hb2
    have hz2 := hb2.size
    have e0 := (hc2 _ 0 g1).trans hr0
    have e1 := (hc2 _ 1 g1).trans hr1
    have e2 := (hc2 _ 2 g1).trans hr2
    have s0 := (hf2 _ 0 g1).trans hs0
    have s1 := (hf2 _ 1 g1).trans hs1
    have s2 := (hf2 _ 2 g1).trans hs2
    have HB2 := Lib.hid (HBW.out.trans (hb2.mono (by omega)))
    clear hc2 hf2 hb2 hr0 hr1 hr2 hs0 hs1 hs2
  · have HIC := Lib.hid hIC
    have HIS := Lib.hid hIS
    clear hIC hIS
    go_wp2
    refine bodyPost_ret ?ohr rfl (.inl ⟨rfl, gp, gs, cp, cs, rfl, hne, by omega, by omega, hcp, hcs, hmp, hms, ?oic, ?ois, ?obel⟩)
    case ohr => simp [results, Try.results13, go_sem, *]
    case oic => exact HIC.out.same (by rw [set_keep _ _ _ (by omega), set_keep _ _ _ (by omega), set_keep _ _ _ (by omega)])
    case ois => exact HIS.out.same (by rw [set_keep _ _ _ (by omega), set_keep _ _ _ (by omega), set_keep _ _ _ (by omega)])
    case obel => exact Below.setCell (Below.setCell (Below.setCell HB2.out (by simp; try omega) _) (by simp; try omega) _) (by simp; try omega) _
  · go_wp2
    refine bodyPost_ret ?ohr rfl (.inr ⟨rfl, rfl, ?obel⟩)
    case ohr => simp [results, Try.results13, go_sem, *]
    case obel => exact Below.setCell (Below.setCell (Below.setCell HB2.out (by simp; try omega) _) (by simp; try omega) _) (by simp; try omega) _

end Sh
end Go.Proofs.Ytpmnjbgfdhhomaa
