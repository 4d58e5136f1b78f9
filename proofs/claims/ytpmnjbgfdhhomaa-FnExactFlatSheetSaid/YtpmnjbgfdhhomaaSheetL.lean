/- Sheets: comparison and marks. -/
import Derived.Test.YtpmnjbgfdhhomaaSheetO
namespace Go.Proofs.Ytpmnjbgfdhhomaa
set_option linter.unusedSimpArgs false
set_option linter.unusedVariables false
open Go.RowKit
namespace Sh
open Fl Rate _root_.Go.Proofs.Ytpmnjbgfdhhomaa.Frame

/-- A sheet's two rows, in blocks from B on and below L. -/
def ShOk (B L : Nat) (w : World) (ap aq : Option Addr) (n cp cs s : Nat) (cx cy : Nat → Option Nat) : Prop :=
  n ≤ cp ∧ n ≤ cs ∧ cp ≤ maxLen ∧ cs ≤ maxLen ∧ n ≤ 48 ∧ (Lit.float .f32 s).wf = true ∧ ∃ gp gs, gp ≠ gs ∧ (0 < n → ap = some ⟨gp, 0, none⟩ ∧ aq = some ⟨gs, 0, none⟩ ∧ B ≤ gp ∧ B ≤ gs ∧ gp < L ∧ gs < L ∧ IsC w gp n cx cy ∧ IsS w gs n s)

theorem ShOk.keep {B L : Nat} {w w' : World} {ap aq : Option Addr} {n cp cs s : Nat} {cx cy : Nat → Option Nat} (h : ShOk B L w ap aq n cp cs s cx cy) (hb : ∀ g, g < L → g < w.heap.size → w'.heap[g]? = w.heap[g]?) : ShOk B L w' ap aq n cp cs s cx cy := by
  obtain ⟨h1, h2, h3, h4, h5, h6, gp, gs, h7, h8⟩ := h
  refine ⟨h1, h2, h3, h4, h5, h6, gp, gs, h7, fun h0 => ?_⟩
  obtain ⟨k1, k2, k3, k4, k5, k6, k7, k8⟩ := h8 h0
  exact ⟨k1, k2, k3, k4, k5, k6, k7.same (hb gp k5 k7.lt), k8.same (hb gs k6 k8.lt)⟩

theorem ShOk.later {B L : Nat} {w w' : World} {ap aq : Option Addr} {n cp cs s : Nat} {cx cy : Nat → Option Nat} (h : ShOk B L w ap aq n cp cs s cx cy) (hb : Below w.heap.size w w') : ShOk B L w' ap aq n cp cs s cx cy := h.keep fun g _ hg => hb.block g hg

theorem ShOk.isX {B L : Nat} {w : World} {ap aq : Option Addr} {n cp cs s : Nat} {cx cy : Nat → Option Nat} (h : ShOk B L w ap aq n cp cs s cx cy) : CEq.IsX w ap n cp cx cy := by
  obtain ⟨h1, h2, h3, h4, h5, h6, gp, gs, h7, h8⟩ := h
  refine ⟨h1, h3, gp, 0, fun h0 => (h8 h0).1, fun i hi => ?_⟩
  obtain ⟨k1, k2, k3, k4, k5, k6, k7, k8⟩ := h8 (by omega)
  rw [Nat.zero_add]
  exact k7.at hi

theorem ShOk.nums {B L : Nat} {w : World} {ap aq : Option Addr} {n cp cs s : Nat} {cx cy : Nat → Option Nat} (h : ShOk B L w ap aq n cp cs s cx cy) : IsNums .f32 w aq n cs (List.replicate n s) := by
  obtain ⟨h1, h2, h3, h4, h5, h6, gp, gs, h7, h8⟩ := h
  refine ⟨List.length_replicate, h2, h4, fun m hm => ?_, gs, 0, fun h0 => (h8 h0).2.1, fun i hi => ?_⟩
  · rw [(List.mem_replicate.1 hm).2]; exact h6
  · obtain ⟨k1, k2, k3, k4, k5, k6, k7, k8⟩ := h8 (by omega)
    rw [Nat.zero_add, List.getD_eq_getElem?_getD, List.getElem?_replicate, if_pos hi]
    exact k8.at hi

theorem RetSh.gen {A : Bool} {n s : Nat} {b : Bool} {cx cy : Nat → Option Nat} {w w' : World} {e : Ending} (h : RetSh A n s b cx cy w e w') (hn : n ≤ 48) (ws : (Lit.float .f32 s).wf = true) :
    ∃ ap aq cp cs, e = .returned (.tuple #[.agg #[.slice ap (if A then n else 0) cp, .slice aq (if A then n else 0) cs, .bool (A && b)], .bool A]) ∧ ShOk w.heap.size w'.heap.size w' ap aq (if A then n else 0) cp cs s cx cy ∧ Below w.heap.size w w' := by
  rcases h with ⟨rfl, gp, gs, cp, cs, rfl, hne, hgp, hgs, hcp, hcs, hmp, hms, hIC, hIS, hb⟩ | ⟨rfl, rfl, hb⟩
  · exact ⟨_, _, cp, cs, rfl, ⟨hcp, hcs, hmp, hms, hn, ws, gp, gs, hne, fun _ => ⟨rfl, rfl, hgp, hgs, hIC.lt, hIS.lt, hIC, hIS⟩⟩, hb⟩
  · exact ⟨none, none, 0, 0, rfl, ⟨Nat.le_refl _, Nat.le_refl _, Nat.zero_le _, Nat.zero_le _, Nat.zero_le _, ws, 0, 1, by decide, fun h => absurd h (by simp)⟩, hb⟩

set_option maxRecDepth 20000 in
set_option maxHeartbeats 1600000 in
theorem eq_sheet (B L B' L' : Nat) (ap aq ap' aq' : Option Addr) (n cp cs cp' cs' s : Nat) (b : Bool) (cx cy : Nat → Option Nat) (w : World) (h : ShOk B L w ap aq n cp cs s cx cy) (h' : ShOk B' L' w ap' aq' n cp' cs' s cx cy) :
    Calls Try.prog 9 #[.agg #[.slice ap n cp, .slice aq n cs, .bool b], .agg #[.slice ap' n cp', .slice aq' n cs', .bool b]] w (RetD (.bool true) w) := by
  have HX := Lib.hid (fun w' (hb : Below w.heap.size w w') => CEq.eq_complexes ap ap' n cp cp' cx cy w' (h.later hb).isX (h'.later hb).isX)
  have HN := Lib.hid (fun w' (hb : Below w.heap.size w w') => Nums.eq_floats aq aq' n cs cs' _ _ w' (h.later hb).nums (h'.later hb).nums (fun _ _ => rfl))
  clear h h'
  go_enter Try.func9, Try.ntmps9
  go_wp2_with fail
  refine (HX.out _ (by (repeat' first | exact Below.refl _ _ | (refine Below.setCell ?_ (by first | omega | (simp; omega) | simp) _) | (refine below_drewN ?_ _) | (refine Below.alloc ?_ (by first | omega | (simp; omega) | simp) _) | (refine Below.trans ?_ (Below.mono (by assumption) (by first | omega | (simp; omega) | simp)))))).mono ?_
  rintro e w1 ⟨rfl, hb1⟩
  have hz1 := hb1.size
  simp only [World.size_alloc] at hz1
  obtain ⟨hc1, hf1⟩ := Fl.bcell hb1
  have g1 : w.heap.size < w1.heap.size := by omega
  have g2 : w.heap.size + 1 < w1.heap.size := by omega
  go_wp2_with fail
  refine (HN.out _ (by (repeat' first | exact Below.refl _ _ | (refine Below.setCell ?_ (by first | omega | (simp; omega) | simp) _) | (refine below_drewN ?_ _) | (refine Below.alloc ?_ (by first | omega | (simp; omega) | simp) _) | (refine Below.trans ?_ (Below.mono (by assumption) (by first | omega | (simp; omega) | simp)))))).mono ?_
  rintro e w2 ⟨rfl, hb2⟩
  have hz2 := hb2.size
  obtain ⟨hc2, hf2⟩ := Fl.bcell hb2
  have g3 : w.heap.size < w2.heap.size := by omega
  cases b
  all_goals
    go_wp2
    go_ret
    exact ⟨rfl, by (repeat' first | exact Below.refl _ _ | (refine Below.setCell ?_ (by first | omega | (simp; omega) | simp) _) | (refine below_drewN ?_ _) | (refine Below.alloc ?_ (by first | omega | (simp; omega) | simp) _) | (refine Below.trans ?_ (Below.mono (by assumption) (by first | omega | (simp; omega) | simp))))⟩

/-- Both rows bear marks. -/
def Marked (B : Nat) (w : World) (ap aq : Option Addr) (n cp cs : Nat) : Prop := CMk.Mk B w ap n cp 1 ∧ FMk.Mk B w aq n cs (1 + (n : Int))

theorem Marked.on {B : Nat} {w w' : World} {ap aq : Option Addr} {n cp cs : Nat} (h : Marked B w ap aq n cp cs) (hb : Below w.heap.size w w') : Marked B w' ap aq n cp cs := ⟨h.1.on hb, h.2.on hb⟩

theorem markC_keep {B : Nat} {w w' : World} {a : Option Addr} {n cap : Nat} {K : Int} (h : CMk.Mk B w a n cap K) {g : Nat} (hg : 0 < n → a ≠ some ⟨g, 0, none⟩) (hb : ∀ b, (0 < n → b ≠ g) → b < w.heap.size → w'.heap[b]? = w.heap[b]?) : CMk.Mk B w' a n cap K := by
  obtain ⟨h1, h2, h3, g', cur, h5, h6⟩ := h
  refine ⟨h1, h2, h3, g', cur, fun h => ⟨(h5 h).1, (h5 h).2.1, ?_⟩, h6⟩
  rw [hb g' (fun _ e => hg h (by rw [(h5 h).1, e])) (Array.getElem?_eq_some_iff.1 (h5 h).2.2).1]
  exact (h5 h).2.2

set_option maxRecDepth 20000 in
set_option maxHeartbeats 1600000 in
theorem mark_sheet (B L : Nat) (ap aq : Option Addr) (n cp cs s : Nat) (b : Bool) (cx cy : Nat → Option Nat) (w : World) (h : ShOk B L w ap aq n cp cs s cx cy) (hL : L ≤ w.heap.size) (hBL : B ≤ L) :
    Calls Try.prog 10 #[.agg #[.slice ap n cp, .slice aq n cs, .bool b], .int .i64 1] w fun e w' => e = .returned (.int .i64 (1 + (n : Int) + (n : Int))) ∧ Marked B w' ap aq n cp cs ∧ Below B w w' ∧ ∀ g, g < w.heap.size → (g < B ∨ L ≤ g) → w'.heap[g]? = w.heap[g]? := by
  obtain ⟨h1, h2, h3, h4, h5, h6, gp, gs, h7, h8⟩ := h
  have H8 := Lib.hid h8
  clear h8
  have HC := Lib.hid (fun w' (hb : Below w.heap.size w w') (hz : w.heap.size ≤ w'.heap.size) => show Calls Try.prog 38 #[.slice ap n cp, .int .i64 1] w' (fun e w'' => e = .returned (.int .i64 (1 + (n : Int))) ∧ CMk.Mk B w'' ap n cp 1 ∧ Below B w' w'' ∧ ∀ b, (0 < n → b ≠ gp) → b < w'.heap.size → w''.heap[b]? = w'.heap[b]?) from by
    by_cases h0 : 0 < n
    · obtain ⟨k1, k2, k3, k4, k5, k6, ⟨cur, c1, c2, c3⟩, k8⟩ := H8.out h0
      exact (CMk.mark B ap n cp 1 (by omega) w' h1 h3 (by omega) gp cur (fun _ => ⟨k1, k3, by rw [hb.block gp (by omega)]; exact c1⟩) c2).mono fun e w'' ⟨x, y, z, t⟩ => ⟨x, y, z, fun b hb => t b (hb h0)⟩
    · exact (CMk.mark B ap n cp 1 (by omega) w' h1 h3 (by omega) w'.heap.size #[] (fun h => absurd h h0) (by simp; omega)).mono fun e w'' ⟨x, y, z, t⟩ => ⟨x, y, z, fun b _ hl => t b (by omega) hl⟩)
  have HF := Lib.hid (fun w' (hg : 0 < n → w'.heap[gs]? = w.heap[gs]?) => show Calls Try.prog 39 #[.slice aq n cs, .int .i64 (1 + (n : Int))] w' (fun e w'' => e = .returned (.int .i64 (1 + (n : Int) + (n : Int))) ∧ FMk.Mk B w'' aq n cs (1 + (n : Int)) ∧ Below B w' w'' ∧ ∀ b, (0 < n → b ≠ gs) → b < w'.heap.size → w''.heap[b]? = w'.heap[b]?) from by
    by_cases h0 : 0 < n
    · obtain ⟨k1, k2, k3, k4, k5, k6, k7, ⟨cur, c1, c2, c3⟩⟩ := H8.out h0
      exact (FMk.mark B aq n cs (1 + (n : Int)) (by omega) w' h2 h4 (by omega) gs cur (fun _ => ⟨k2, k4, by rw [hg h0]; exact c1⟩) c2).mono fun e w'' ⟨x, y, z, t⟩ => ⟨x, y, z, fun b hb => t b (hb h0)⟩
    · exact (FMk.mark B aq n cs (1 + (n : Int)) (by omega) w' h2 h4 (by omega) w'.heap.size #[] (fun h => absurd h h0) (by simp; omega)).mono fun e w'' ⟨x, y, z, t⟩ => ⟨x, y, z, fun b _ hl => t b (by omega) hl⟩)
  have HE := Lib.hid (fun (h0 : 0 < n) => let k := H8.out h0; And.intro k.1 (And.intro k.2.1 (And.intro k.2.2.1 (And.intro k.2.2.2.1 (And.intro k.2.2.2.2.1 k.2.2.2.2.2.1)))))
  have hBw : B ≤ w.heap.size := Nat.le_trans hBL hL
  have hsz1 : ∀ {w' w'' : World}, Below B w' w'' → w'.heap.size ≤ w''.heap.size := fun h => h.size
  go_enter Try.func10, Try.ntmps10
  go_wp2_with fail
  refine (HC.out _ (by (repeat' first | exact Below.refl _ _ | (refine Below.setCell ?_ (by first | omega | (simp; omega) | simp) _) | (refine below_drewN ?_ _) | (refine Below.alloc ?_ (by first | omega | (simp; omega) | simp) _) | (refine Below.trans ?_ (Below.mono (by assumption) (by first | omega | (simp; omega) | simp))))) (by simp)).mono ?_
  rintro e w1 ⟨rfl, hm1, hb1, hk1⟩
  have hz1 := hb1.size
  simp only [World.size_alloc] at hz1
  have hbx : w1.heap[w.heap.size]? = some (.cells #[.slice ap n cp, .slice aq n cs, .bool b] 26) := by
    rw [hk1 _ (fun h0 => by have := (HE.out h0).2.2.2.2.1; omega) (by simp)]; exact new_block _ _
  have e0 := (Loose.cells_of (i := 1) hbx).trans (show _ = some (Value.slice aq n cs) from rfl)
  have HM1 := Lib.hid hm1
  have HB1 := Lib.hid hb1
  have HK1 := Lib.hid hk1
  clear hm1 hb1 hk1 hbx
  go_wp2_with fail
  refine (HF.out _ (fun h0 => ?_)).mono ?_
  · have hgs := (HE.out h0).2.2.2.2.2
    rw [HK1.out gs (fun _ e => h7 e.symm) (by simp; omega), Below.heap_alloc _ _ _ (by omega)]
  rintro e w2 ⟨rfl, hm2, hb2, hk2⟩
  have HM2 := Lib.hid hm2
  have HB2 := Lib.hid hb2
  have HK2 := Lib.hid hk2
  clear hm2 hb2 hk2
  go_wp2
  go_ret
  refine ⟨rfl, ⟨markC_keep HM1.out (g := gs) (fun h0 => ?_) HK2.out, HM2.out⟩, ?_, fun g hg hgB => ?_⟩
  · rw [(HE.out h0).1]
    exact fun e => h7 (Addr.mk.inj (Option.some.inj e)).1
  · exact ((Below.refl _ _).alloc hBw _).trans (HB1.out.trans HB2.out)
  · have hb12 : ∀ (h0 : 0 < n), g ≠ gp ∧ g ≠ gs := fun h0 => by
      obtain ⟨_, _, k3, k4, k5, k6⟩ := HE.out h0
      omega
    have hz2 := HB1.out.size
    simp only [World.size_alloc] at hz2
    rw [HK2.out g (fun h0 => (hb12 h0).2) (by omega), HK1.out g (fun h0 => (hb12 h0).1) (by simp; omega), Below.heap_alloc _ _ _ hg]

set_option maxRecDepth 20000 in
set_option maxHeartbeats 1600000 in
theorem held_sheet (B : Nat) (ap aq : Option Addr) (n cp cs : Nat) (b : Bool) (w : World) (h : Marked B w ap aq n cp cs) (hn : n ≤ 48) :
    Calls Try.prog 11 #[.agg #[.slice ap n cp, .slice aq n cs, .bool b], .int .i64 1] w (RetD (.int .i64 (1 + (n : Int) + (n : Int))) w) := by
  have HC := Lib.hid (fun w' (hb : Below w.heap.size w w') => CMk.held B ap n cp 1 (by omega) w' (h.on hb).1)
  have HF := Lib.hid (fun w' (hb : Below w.heap.size w w') => FMk.held B aq n cs (1 + (n : Int)) (by omega) w' (h.on hb).2)
  clear h
  obtain ⟨p, hp⟩ : ∃ p : Int, p = 1 + (n : Int) := ⟨_, rfl⟩
  have hp0 : 0 ≤ p := by omega
  obtain ⟨q, hq⟩ : ∃ q : Int, q = p + (n : Int) := ⟨_, rfl⟩
  have hq0 : 0 ≤ q := by omega
  rw [← hp] at HC HF ⊢
  rw [← hq] at HF ⊢
  have HPQ := Lib.hid (And.intro hp hq)
  clear hp hq
  go_enter Try.func11, Try.ntmps11
  go_wp2_with fail
  refine (HC.out _ (by (repeat' first | exact Below.refl _ _ | (refine Below.setCell ?_ (by first | omega | (simp; omega) | simp) _) | (refine below_drewN ?_ _) | (refine Below.alloc ?_ (by first | omega | (simp; omega) | simp) _) | (refine Below.trans ?_ (Below.mono (by assumption) (by first | omega | (simp; omega) | simp)))))).mono ?_
  rintro e w1 ⟨rfl, hb1⟩
  have hz1 := hb1.size
  simp only [World.size_alloc] at hz1
  obtain ⟨hc1, hf1⟩ := Fl.bcell hb1
  have g1 : w.heap.size < w1.heap.size := by omega
  go_wp2_with fail
  refine (HF.out _ (by (repeat' first | exact Below.refl _ _ | (refine Below.setCell ?_ (by first | omega | (simp; omega) | simp) _) | (refine below_drewN ?_ _) | (refine Below.alloc ?_ (by first | omega | (simp; omega) | simp) _) | (refine Below.trans ?_ (Below.mono (by assumption) (by first | omega | (simp; omega) | simp)))))).mono ?_
  rintro e w2 ⟨rfl, hb2⟩
  have hz2 := hb2.size
  go_wp2
  go_ret
  exact ⟨rfl, by (repeat' first | exact Below.refl _ _ | (refine Below.setCell ?_ (by first | omega | (simp; omega) | simp) _) | (refine below_drewN ?_ _) | (refine Below.alloc ?_ (by first | omega | (simp; omega) | simp) _) | (refine Below.trans ?_ (Below.mono (by assumption) (by first | omega | (simp; omega) | simp))))⟩
end Sh
end Go.Proofs.Ytpmnjbgfdhhomaa
