/- Basins of their own. -/
import Derived.Test.YtjkkefbfhapblabBaMi
import Derived.Test.YtjkkefbfhapblabLooseP
namespace Go.Proofs.Ytjkkefbfhapblab
set_option linter.unusedSimpArgs false
set_option linter.unusedVariables false
open Go.RowKit
set_option maxRecDepth 20000
namespace LooseP
open Fl Loose
variable {P : Program} {ops : Array Oper} {K : Act → Prop} {a : Act} {o : Oper} {B : Nat} {w0 : World} {ds : List (Nat × (Value → World → Prop))}

/-- A new box. -/
theorem turn_allocP {φ : Value → World → Prop} {d : Nat} {ob : Obj} (hst : ∀ p ∈ ds, Stable p.2) (hB : B ≤ w0.heap.size) (hwant : Region.wanted o (yielded ops a.tmps) = true) (hdst : o.dst = some d) (huni : ∀ p ∈ ds, p.1 = d → p.2 = φ)
    (hrun : ∀ w', (execOp a.eval o).run P w' = .ok (.value (.pointer (some ⟨w'.heap.size, 0, none⟩))) (w'.alloc ob)) (hφ : ∀ w' : World, B ≤ w'.heap.size → φ (.pointer (some ⟨w'.heap.size, 0, none⟩)) (w'.alloc ob))
    (hk : ∀ b, B ≤ b → K (a.put (some d) (.pointer (some ⟨b, 0, none⟩)))) : turn P ops (Cls B w0 ds) (fun u => ∃ b, B ≤ b ∧ u = .pointer (some ⟨b, 0, none⟩)) o K a := by
  refine turn_set hwant ⟨_, B, Nat.le_refl _, rfl⟩ (fun a' w _ hw => ?_) (fun u hu => by obtain ⟨b, hb, rfl⟩ := hu; rw [hdst]; exact hk b hb)
  rw [hrun w]
  have hle : B ≤ w.heap.size := Nat.le_trans hB hw.1.size
  refine ⟨⟨_, hle, rfl⟩, ?_⟩
  rw [hdst]
  exact (hw.later hst hB ((Below.refl _ _).alloc (Nat.le_refl _) _)).set huni _ (hφ w hle)
end LooseP
namespace Ba
open Fl Rate

/-- A new basin in the world as it stands. -/
def phiN (W H : Int) (B : Nat) (v : Value) (w : World) : Prop := ∃ g, v = bV W H (some ⟨g, 0, none⟩) 0 0 ∧ w.ownsRow B 22 1 (.slice (some ⟨g, 0, none⟩) 0 0) 0 []

theorem phiN_stable (W H : Int) (B : Nat) : LooseP.Stable (phiN W H B) := by
  rintro v w w' ⟨g, h1, h2⟩ hb
  exact ⟨g, h1, own_below h2 hb⟩

/-- A new box in the world as it stands. -/
def phiB (B : Nat) (v : Value) (w : World) : Prop := ∃ b, v = .pointer (some ⟨b, 0, none⟩) ∧ B ≤ b ∧ w.heap[b]? = some (.cells #[.int .i64 0, .int .i64 0, .slice none 0 0] 33)

theorem phiB_stable (B : Nat) : LooseP.Stable (phiB B) := by
  rintro v w w' ⟨b, h1, h2, h3⟩ hb
  exact ⟨b, h1, h2, keep_block hb h3⟩

theorem two_stable {d d' : Nat} {φ ψ : Value → World → Prop} (h : LooseP.Stable φ) (h' : LooseP.Stable ψ) : ∀ p ∈ [(d, φ), (d', ψ)], LooseP.Stable p.2 := by
  intro p hp
  rcases List.mem_cons.1 hp with rfl | hp
  · exact h
  · rw [List.mem_singleton.1 hp]; exact h'

theorem two_first {d d' : Nat} {φ ψ : Value → World → Prop} (h : d' ≠ d) : ∀ p ∈ [(d, φ), (d', ψ)], p.1 = d → p.2 = φ := by
  intro p hp e
  rcases List.mem_cons.1 hp with rfl | hp
  · rfl
  · rw [List.mem_singleton.1 hp] at e; exact absurd e h

theorem two_second {d d' : Nat} {φ ψ : Value → World → Prop} (h : d ≠ d') : ∀ p ∈ [(d, φ), (d', ψ)], p.1 = d' → p.2 = ψ := by
  intro p hp e
  rcases List.mem_cons.1 hp with rfl | hp
  · exact absurd e h
  · rw [List.mem_singleton.1 hp]

theorem own_lower {w : World} {B B' e size n : Nat} {v : Value} {xs : List Value} (h : w.ownsRow B e size v n xs) (hB : B' ≤ B) : w.ownsRow B' e size v n xs := by
  obtain ⟨h1, h2 | ⟨g, cap, cur, h3, h4, h5⟩⟩ := h
  · exact ⟨h1, .inl h2⟩
  · exact ⟨h1, .inr ⟨g, cap, cur, h3, Nat.le_trans hB h4, h5⟩⟩

theorem new_phi {W H : Int} {w0 w : World} (hb : Below w0.heap.size w0 w) : Calls Try.prog 87 #[.int .i64 W, .int .i64 H] w (fun e w'' => ∃ v, e = .returned v ∧ (∃ g, v = bV W H (some ⟨g, 0, none⟩) 0 0) ∧ phiN W H w0.heap.size v w'' ∧ Below w.heap.size w w'') :=
  (spec_new W H w).mono fun e w'' ⟨g, he, ho, hb'⟩ => ⟨_, he, ⟨g, rfl⟩, ⟨g, rfl, own_lower ho hb.size⟩, hb'⟩

theorem add_at (b off j : Nat) : (⟨b, off, none⟩ : Addr).add j = ⟨b, off + j, none⟩ := by
  simp only [Addr.add]
  split <;> simp_all

/-- The values of a list. -/
theorem pick_list {w : World} {b off : Nat} {c : Nat → Option Nat} (n : Nat) (h : ∀ i, i < n → ∃ x, w.cell? ⟨b, off + i, none⟩ = some (.float .f32 x) ∧ Fr .f32 x (c i)) :
    ∃ L : List Value, FPts n c L ∧ ∀ j u, L[j]? = some u → w.cell? ((⟨b, off, none⟩ : Addr).add j) = some u ∧ u.oneCell' = true := by
  induction n with
  | zero => exact ⟨[], FPts.nil _, fun j u hu => by simp at hu⟩
  | succ n ih =>
    obtain ⟨L, h1, h2⟩ := ih (fun i hi => h i (by omega))
    obtain ⟨x, h3, h4⟩ := h n (by omega)
    refine ⟨L ++ [.float .f32 x], h1.next h4, fun j u hu => ?_⟩
    by_cases hj : j < L.length
    · rw [List.getElem?_append_left hj] at hu
      exact h2 j u hu
    · rw [List.getElem?_append_right (by omega)] at hu
      have e : j - L.length = 0 := by
        have := (List.getElem?_eq_some_iff.1 hu).1
        simp at this; omega
      rw [e] at hu
      simp at hu
      subst hu
      have : j = n := by have := h1.1; omega
      subst this
      exact ⟨by rw [add_at]; exact h3, rfl⟩

theorem isO_put {B L : Nat} {w : World} {g n cap i : Nat} {c : Nat → Option Nat} (h : IsO B L w (some ⟨g, 0, none⟩) n cap c) {y : Nat} {d : Option Nat} (fy : Fr .f32 y d) (hi : i < n) :
    IsO B L (w.setCell ⟨g, i, none⟩ (.float .f32 y)) (some ⟨g, 0, none⟩) n cap (fun k => if k = i then d else c k) := by
  obtain ⟨h2, h3, g', cur, h5, h6, h7⟩ := h
  have h8 := h5 (by omega)
  obtain rfl : g = g' := by simpa using h8.1
  refine ⟨h2, h3, g, cur.setIfInBounds i (.float .f32 y), fun _ => ⟨rfl, h8.2.1, h8.2.2.1, setCell_block h8.2.2.2 i _⟩, by simpa using h6, fun k hk => ?_⟩
  by_cases e : k = i
  · subst e
    exact ⟨y, by rw [Array.getElem?_setIfInBounds_self_of_lt (by omega)], by simpa using fy⟩
  · obtain ⟨x, k1, k2⟩ := h7 k hk
    exact ⟨x, by rw [Array.getElem?_setIfInBounds_ne (fun e' => e e'.symm)]; exact k1, by simpa [e] using k2⟩

theorem isO_cell {B L : Nat} {w : World} {a : Option Addr} {n cap : Nat} {c : Nat → Option Nat} (h : IsO B L w a n cap c) (hn : 0 < n) : ∃ g, a = some ⟨g, 0, none⟩ ∧ B ≤ g ∧ g < L ∧ g < w.heap.size ∧ n ≤ cap ∧ cap ≤ maxLen ∧ (∀ i, w.frozen? ⟨g, i, none⟩ = false) ∧ (∀ T cs, T ≠ 22 → ∀ S, w.heap[S]? = some (.cells cs T) → S ≠ g) ∧ ∀ i, i < n → ∃ x, w.cell? ⟨g, i, none⟩ = some (.float .f32 x) := by
  obtain ⟨h2, h3, g, cur, h5, h6, h7⟩ := h
  obtain ⟨k1, k2, k3, k4⟩ := h5 hn
  refine ⟨g, k1, k2, k3, block_lt k4, h2, h3, free_of k4, fun T cs hT S hS e => ?_, fun i hi => ?_⟩
  · subst e
    rw [k4] at hS
    simp only [Option.some.injEq, Obj.cells.injEq] at hS
    exact hT hS.2.1.symm
  · obtain ⟨x, h8, _⟩ := h7 i hi
    exact ⟨x, by rw [cells_of k4]; exact h8⟩

set_option maxHeartbeats 6400000 in
theorem spec_own (G : Nat) (W H : Int) (a : Option Addr) (n cap : Nat) (c : Nat → Option Nat) (w : World) (h : IsY w a n cap c) (hG : w.heap[G]? = some (.cells #[.int .i64 W, .int .i64 H, .slice a n cap] 33)) (hn : 9 ≤ n ∧ n ≤ 256) :
    Calls Try.prog 65 #[.pointer (some ⟨G, 0, none⟩)] w (RetV W H n c w) := by
  obtain ⟨i0, hi, hz0, hz1, hz2⟩ := info_parts Nums.A_info32
  have lG := block_lt hG
  have HQ := Lib.hid hG
  have H6 := Lib.hid h
  clear hG h
  go_enter Try.func65, Try.ntmps65
  go_wp2
  obtain ⟨wc1, hwc⟩ : ∃ x, x = w.alloc (.cells #[.int .i64 0, .int .i64 0, .slice none 0 0] 33) := ⟨_, rfl⟩
  rw [← hwc]
  have q2 : wc1.heap[G]? = some (.cells #[.int .i64 W, .int .i64 H, .slice a n cap] 33) := by rw [hwc]; exact alloc_block HQ.out
  have q4 : wc1.heap[w.heap.size]? = some (.cells #[.int .i64 0, .int .i64 0, .slice none 0 0] 33) := by rw [hwc]; exact new_block _ _
  have HBW := Lib.hid (show Below w.heap.size w wc1 by rw [hwc]; exact (Below.refl _ _).alloc (Nat.le_refl _) _)
  have hzc1 : w.heap.size + 1 ≤ wc1.heap.size := by rw [hwc]; simp
  clear hwc
  have Q2 := Lib.hid q2
  have l2 := block_lt q2
  have e20 := (cells_of (i := 0) q2).trans (show _ = some (.int .i64 W) from rfl)
  have e21 := (cells_of (i := 1) q2).trans (show _ = some (.int .i64 H) from rfl)
  have e22 := (cells_of (i := 2) q2).trans (show _ = some (.slice a n cap) from rfl)
  clear q2
  have Q4 := Lib.hid q4
  have l4 := block_lt q4
  clear q4
  refine LooseP.wp_region 10 [((12 : Nat), phiN W H wc1.heap.size), ((3 : Nat), phiB wc1.heap.size)] (by kernel_rfl) (by kernel_rfl) (by simp [undef]) ?_
  apply Exists.intro
  simp only [List.take_succ_cons, List.take_zero, List.drop_succ_cons, List.drop_zero]
  have hst : ∀ p ∈ [((12 : Nat), phiN W H wc1.heap.size), ((3 : Nat), phiB wc1.heap.size)], LooseP.Stable p.2 := two_stable (phiN_stable _ _ _) (phiB_stable _)
  repeat (first | (apply Loose.walk_step; intro K hK; apply LooseP.turn_value (hwant := rfl) (hd := rfl); (focus (intro w' hw'; obtain ⟨hc, hf⟩ := Fl.bcell hw'; go_simp; first | done | rfl | exact ⟨rfl, rfl⟩)); go_simp; refine hK _ ?_; clear hK K) | (apply Loose.walk_step; intro K hK; refine LooseP.turn_callP (f := 87) (args := fun a => #[a.eval (.tmp 7), a.eval (.tmp 11)]) (V := fun v => ∃ g, v = bV W H (some ⟨g, 0, none⟩) 0 0) (φ := phiN W H wc1.heap.size) (d := 12) hst (Nat.le_refl _) rfl rfl (two_first (by decide)) (by intro a' w'; go_simp; first | done | rfl | exact ⟨rfl, rfl⟩) ⟨_, 0, rfl⟩ ?_ ?_; (focus (intro a' w' _ hcl; go_simp; exact new_phi hcl.1)); (intro v hv; obtain ⟨gv, rfl⟩ := hv; go_simp; refine hK _ ?_; clear hK K)) | (apply Loose.walk_step; intro K hK; refine LooseP.turn_allocP (φ := phiB wc1.heap.size) (d := 3) (ob := .cells #[.int .i64 0, .int .i64 0, .slice none 0 0] 33) hst (Nat.le_refl _) rfl rfl (two_second (by decide)) (by intro w'; go_simp; first | done | rfl | exact ⟨rfl, rfl⟩) (fun w' hw' => ⟨_, rfl, hw', new_block _ _⟩) ?_; (intro Sb hSb; go_simp; refine hK _ ?_; clear hK K)))
  refine Loose.walk_nil ?_
  intro w3 hcls3
  have hb3 := hcls3.1
  obtain ⟨g3, hg3, ho3⟩ := hcls3.at (v := bV W H (some ⟨gv, 0, none⟩) 0 0) (List.mem_cons_self ..) rfl (by simp [undef])
  obtain rfl : gv = g3 := by simpa using hg3
  obtain ⟨S3, hS3, _, hq3⟩ := hcls3.at (v := .pointer (some ⟨Sb, 0, none⟩)) (List.mem_cons_of_mem _ (List.mem_singleton.2 rfl)) rfl (by simp [undef])
  obtain rfl : Sb = S3 := by simpa using hS3
  clear hcls3 hst hg3 hS3
  have c30 := (cells_of (i := 0) hq3).trans (show _ = some (.int .i64 0) from rfl)
  have c31 := (cells_of (i := 1) hq3).trans (show _ = some (.int .i64 0) from rfl)
  have c32 := (cells_of (i := 2) hq3).trans (show _ = some (.slice none 0 0) from rfl)
  have f30 := free_of hq3 0
  have f31 := free_of hq3 1
  have f32 := free_of hq3 2
  have lS3 := block_lt hq3
  have HQ3 := Lib.hid hq3
  have HO3 := Lib.hid ho3
  have HB3 := Lib.hid hb3
  clear ho3 hb3 e20 e21 e22 hq3
  have HS0 := Lib.hid (show ((((w3.setCell ⟨Sb, 0, none⟩ (.int .i64 W)).setCell ⟨Sb, 1, none⟩ (.int .i64 H)).setCell ⟨Sb, 2, none⟩ (.slice (some ⟨gv, 0, none⟩) 0 0)).heap[Sb]? = some (.cells #[.int .i64 W, .int .i64 H, .slice (some ⟨gv, 0, none⟩) 0 0] 33)) from by simpa using setCell_block (setCell_block (setCell_block HQ3.out 0 (.int .i64 W)) 1 (.int .i64 H)) 2 (.slice (some ⟨gv, 0, none⟩) 0 0))
  have HO0 := Lib.hid (own_set (i := 2) (u := .slice (some ⟨gv, 0, none⟩) 0 0) (own_set (i := 1) (u := .int .i64 H) (own_set (i := 0) (u := .int .i64 W) HO3.out HQ3.out (by decide)) (setCell_block HQ3.out 0 _) (by decide)) (setCell_block (setCell_block HQ3.out 0 _) 1 _) (by decide))
  have HB0 := Lib.hid (show Below wc1.heap.size wc1 (((w3.setCell ⟨Sb, 0, none⟩ (.int .i64 W)).setCell ⟨Sb, 1, none⟩ (.int .i64 H)).setCell ⟨Sb, 2, none⟩ (.slice (some ⟨gv, 0, none⟩) 0 0)) from Below.setCell (Below.setCell (Below.setCell HB3.out hSb (p := ⟨Sb, 0, none⟩) _) hSb (p := ⟨Sb, 1, none⟩) _) hSb (p := ⟨Sb, 2, none⟩) _)
  have hz3 := HB3.out.size
  go_wp2_with fail
  obtain ⟨w4, hw4⟩ : ∃ x, x = (((w3.setCell ⟨Sb, 0, none⟩ (.int .i64 W)).setCell ⟨Sb, 1, none⟩ (.int .i64 H)).setCell ⟨Sb, 2, none⟩ (.slice (some ⟨gv, 0, none⟩) 0 0)) := ⟨_, rfl⟩
  rw [← hw4] at HS0 HO0 HB0 ⊢
  clear hw4 c30 c31 c32 f30 f31 f32 HQ3 HO3 HB3
  have hz4 := HB0.out.size
  have q2 := (HB0.out.block _ l2).trans Q2.out
  have s2 := (cells_of (i := 2) HS0.out).trans (show _ = some (.slice (some ⟨gv, 0, none⟩) 0 0) from rfl)
  have lS := block_lt HS0.out
  have e22 := (cells_of (i := 2) q2).trans (show _ = some (.slice a n cap) from rfl)
  have lG4 : G < w4.heap.size := by omega
  clear q2
  refine LooseP.wp_region 6 [] (by kernel_rfl) (by kernel_rfl) (by intro p hp; cases hp) ?_
  apply Exists.intro
  simp only [List.take_succ_cons, List.take_zero, List.drop_succ_cons, List.drop_zero]
  repeat (apply Loose.walk_step; intro K hK; apply LooseP.turn_value (hwant := rfl) (hd := rfl); (focus (intro w' hw'; obtain ⟨hc, hf⟩ := Fl.bcell hw'; go_simp; first | done | rfl | exact ⟨rfl, rfl⟩)); go_simp; refine hK _ ?_; clear hK K)
  refine Loose.walk_nil ?_
  intro w5 hcls5
  have hb5 := hcls5.1
  have hz5 := hb5.size
  have HS5 := Lib.hid (keep_block hb5 HS0.out)
  have HO5 := Lib.hid (own_below HO0.out hb5)
  have HB5 := Lib.hid (HB0.out.trans (hb5.mono (by omega)))
  have hh := H6.out.later (HBW.out.trans ((HB5.out).mono (by omega)))
  obtain ⟨h2, h3, b, off, h5, h6⟩ := hh
  obtain rfl := h5 (by omega)
  obtain ⟨L, hL1, hL2⟩ := pick_list n h6
  have HL := Lib.hid (And.intro hL1 hL2)
  clear hcls5 hb5 h5 h6 hL1 hL2 s2 e22
  go_wp2_with (first
    | (
      at_builtin
      refine wpList_append_own _ rfl (.tmp 14) (.tmp 18) 29 rfl wc1.heap.size 22 i0 (.float .f32 0) 1 4 Try.underlying29 hi hz0 hz1 hz2 rfl (by decide) (.slice (some ⟨gv, 0, none⟩) 0 0) 0 [] rfl HO5.out ⟨b, off, none⟩ n cap L rfl (by rw [HL.out.1.1]; omega) (fun j u hu => (HL.out.2 j u hu).1) (fun u hu => by obtain ⟨j, hj⟩ := List.mem_iff_getElem?.1 hu; exact (HL.out.2 j u hj).2) (by unfold maxLen; omega) (by omega) (by omega) ?_
      intro v6 w6 hown6 hgrow6 hnil6
      rw [Nat.zero_add, List.nil_append] at hown6
      obtain ⟨g6, cap6, rfl⟩ := Joins.ownsRow_form hown6 (by omega)
      have hz6 := hgrow6.size
      obtain ⟨hS6, hb6⟩ := appended HS5.out HO5.out HB5.out (by omega) hgrow6 (by decide)
      have d60 := (cells_of (i := 0) hS6).trans (show _ = some (.int .i64 W) from rfl)
      have d61 := (cells_of (i := 1) hS6).trans (show _ = some (.int .i64 H) from rfl)
      have d62 := (cells_of (i := 2) hS6).trans (show _ = some (.slice (some ⟨gv, 0, none⟩) 0 0) from rfl)
      have f62 := free_of hS6 2
      have l6 := block_lt hS6
      have q4 := (hb6.block _ l4).trans Q4.out
      have c90 := (cells_of (i := 0) q4).trans (show _ = some (.int .i64 0) from rfl)
      have c91 := (cells_of (i := 1) q4).trans (show _ = some (.int .i64 0) from rfl)
      have c92 := (cells_of (i := 2) q4).trans (show _ = some (.slice none 0 0) from rfl)
      have f90 := free_of q4 0
      have f91 := free_of q4 1
      have f92 := free_of q4 2
      have l9 := block_lt q4
      have hne : ¬ w.heap.size = Sb := by omega
      have hne' : ¬ Sb = w.heap.size := by omega
      obtain ⟨av, capv, hav, hio⟩ := isO_of (own_set (i := 2) (u := .slice (some ⟨g6, 0, none⟩) n cap6) hown6 hS6 (by decide)) HL.out.1 (by omega)
      have HIO := Lib.hid hio
      have HAV := Lib.hid hav
      have HB6 := Lib.hid hb6
      clear hS6 hown6 hgrow6 hnil6 hb6 q4 hio hav
      skip))
  obtain ⟨rfl, rfl⟩ : some ⟨g6, 0, none⟩ = av ∧ cap6 = capv := by simpa using HAV.out
  refine bodyPost_ret ?ohr rfl ⟨some ⟨g6, 0, none⟩, cap6, rfl, ?oio, ?obel⟩
  case ohr => simp [results, Try.results65, go_sem, *]
  case oio =>
    refine (HIO.out.keep fun g hg _ _ => ?_).wider (by omega) (by simp)
    rw [set_keep _ _ _ (by omega), set_keep _ _ _ (by omega), set_keep _ _ _ (by omega)]
  case obel => exact Below.setCell (Below.setCell (Below.setCell (Below.setCell (HBW.out.trans (HB6.out.mono (by omega))) (show w.heap.size ≤ Sb by omega) (p := ⟨Sb, 2, none⟩) _) (by simp) (p := ⟨w.heap.size, 0, none⟩) _) (by simp) (p := ⟨w.heap.size, 1, none⟩) _) (by simp) (p := ⟨w.heap.size, 2, none⟩) _

/-- A list that slices.Clone gives. -/
theorem impl_sclone (a : Option Addr) (n cap : Nat) (c : Nat → Option Nat) (w : World) (h : IsY w a n cap c) (hn : 9 ≤ n ∧ n ≤ 256) : Calls Try.prog 108 #[.slice a n cap] w (RetO n c w) := by
  obtain ⟨i0, hi, hz0, hz1, hz2⟩ := info_parts Nums.A_info32
  obtain ⟨h2, h3, b, off, h5, h6⟩ := h
  obtain rfl := h5 (by omega)
  obtain ⟨L, hL1, hL2⟩ := pick_list n h6
  have HL := Lib.hid (And.intro hL1 hL2)
  have HK := Lib.hid (fun (w' : World) (hb : Below w.heap.size w w') j u (hu : L[j]? = some u) => (show w'.cell? ((⟨b, off, none⟩ : Addr).add j) = some u from by
    have h1 := (hL2 j u hu).1
    rw [add_at] at h1 ⊢
    rw [hb.cell (block_lt_of_cell h1)]; exact h1))
  clear h5 h6 hL1 hL2
  have hown0 : (w.alloc (.cells #[] 22)).ownsRow w.heap.size 22 1 (.slice (some ⟨w.heap.size, 0, none⟩) 0 0) 0 [] := ⟨rfl, .inr ⟨w.heap.size, 0, #[], rfl, Nat.le_refl _, new_block _ _, Nat.le_refl _, Nat.zero_le _, rfl, rfl⟩⟩
  have HO0 := Lib.hid hown0
  clear hown0
  have hnil : ∀ w' : World, (binOp BinOp.eql 29 (.slice (some ⟨b, off, none⟩) n cap) (.slice none 0 0)).run Try.prog w' = .ok (.bool false) w' := fun w' => by first | rfl | kernel_rfl | simp [binOp, go_sem]
  go_enter Try.func108, Try.ntmps108
  go_wp2_with (first
    | (
      at_builtin
      refine wpList_append_own _ rfl (.tmp 5) (.tmp 6) 29 rfl w.heap.size 22 i0 (.float .f32 0) 1 4 Try.underlying29 hi hz0 hz1 hz2 rfl (by decide) (.slice (some ⟨w.heap.size, 0, none⟩) 0 0) 0 [] rfl HO0.out ⟨b, off, none⟩ n cap L rfl (by rw [HL.out.1.1]; omega) (HK.out _ ((Below.refl _ _).alloc (Nat.le_refl _) _)) (fun u hu => by obtain ⟨j, hj⟩ := List.mem_iff_getElem?.1 hu; exact (HL.out.2 j u hj).2) (by unfold maxLen; omega) (by omega) (by simp) ?_
      intro v6 w6 hown6 hgrow6 hnil6
      rw [Nat.zero_add, List.nil_append] at hown6
      obtain ⟨av, capv, rfl, hio⟩ := isO_of hown6 HL.out.1 (by omega)
      have HIO := Lib.hid hio
      have HB6 := Lib.hid (Below.grown ((Below.refl w.heap.size w).alloc (Nat.le_refl _) (.cells #[] 22)) hgrow6 (by simp) (fun k hk => by simp [Value.ownBlock] at hk; omega))
      clear hown6 hgrow6 hnil6 hio
      skip))
  refine bodyPost_ret ?ohr rfl ⟨av, capv, rfl, HIO.out, HB6.out⟩
  simp [results, Try.results108, go_sem, *]

/-- A row of its own in the world as it stands. -/
def phiR (B n : Nat) (c : Nat → Option Nat) (v : Value) (w : World) : Prop := ∃ a cap L, v = .slice a n cap ∧ L ≤ w.heap.size ∧ IsO B L w a n cap c

theorem phiR_stable (B n : Nat) (c : Nat → Option Nat) : LooseP.Stable (phiR B n c) := by
  rintro v w w' ⟨a, cap, L, h1, h2, h3⟩ hb
  exact ⟨a, cap, L, h1, Nat.le_trans h2 hb.size, h3.later hb⟩

theorem clone_phi {a : Option Addr} {n cap : Nat} {c : Nat → Option Nat} {w0 w : World} (h : IsY w0 a n cap c) (hb : Below w0.heap.size w0 w) (hn : 9 ≤ n ∧ n ≤ 256) :
    Calls Try.prog 108 #[.slice a n cap] w (fun e w'' => ∃ v, e = .returned v ∧ (∃ a cap, v = .slice a n cap) ∧ phiR w0.heap.size n c v w'' ∧ Below w.heap.size w w'') :=
  (impl_sclone a n cap c w (h.later hb) hn).mono fun e w'' ⟨a', cap', he, ho, hb'⟩ => ⟨_, he, ⟨a', cap', rfl⟩, ⟨a', cap', _, rfl, Nat.le_refl _, ho.wider hb.size (Nat.le_refl _)⟩, hb'⟩

set_option maxHeartbeats 3200000 in
theorem impl_clone (W H : Int) (a : Option Addr) (n cap : Nat) (c : Nat → Option Nat) (w : World) (h : IsY w a n cap c) (hn : 9 ≤ n ∧ n ≤ 256) : Calls Try.prog 68 #[bV W H a n cap] w (RetV W H n c w) := by
  have HY := Lib.hid h
  clear h
  go_enter Try.func68, Try.ntmps68
  go_wp2_with fail
  obtain ⟨w1, hw1⟩ : ∃ x, x = (w.alloc (.cells #[.int .i64 W, .int .i64 H, .slice a n cap] 33)).alloc (.cells #[.int .i64 0, .int .i64 0, .slice none 0 0] 33) := ⟨_, rfl⟩
  rw [← hw1]
  have q2 : w1.heap[w.heap.size]? = some (.cells #[.int .i64 W, .int .i64 H, .slice a n cap] 33) := by rw [hw1]; exact alloc_block (new_block _ _)
  have q4 : w1.heap[w.heap.size + 1]? = some (.cells #[.int .i64 0, .int .i64 0, .slice none 0 0] 33) := by rw [hw1]; simpa using new_block (w.alloc (.cells #[.int .i64 W, .int .i64 H, .slice a n cap] 33)) (.cells #[.int .i64 0, .int .i64 0, .slice none 0 0] 33)
  have HB1 := Lib.hid (show Below w.heap.size w w1 by rw [hw1]; (repeat' first | exact Below.refl _ _ | (refine Below.setCell ?_ (by first | omega | (simp; omega) | simp) _) | (refine below_drewN ?_ _) | (refine Below.alloc ?_ (by first | omega | (simp; omega) | simp) _) | (refine Below.trans ?_ (Below.mono (by assumption) (by first | omega | (simp; omega) | simp)))))
  have hz1 : w.heap.size + 2 ≤ w1.heap.size := by rw [hw1]; simp
  clear hw1
  have Q2 := Lib.hid q2
  have l2 := block_lt q2
  have e20 := (cells_of (i := 0) q2).trans (show _ = some (.int .i64 W) from rfl)
  have e21 := (cells_of (i := 1) q2).trans (show _ = some (.int .i64 H) from rfl)
  have e22 := (cells_of (i := 2) q2).trans (show _ = some (.slice a n cap) from rfl)
  clear q2
  have Q4 := Lib.hid q4
  have l4 := block_lt q4
  clear q4
  have HW := Lib.hid (HY.out.later HB1.out)
  refine LooseP.wp_region 7 [((9 : Nat), phiR w1.heap.size n c)] (by kernel_rfl) (by kernel_rfl) (by simp [undef]) ?_
  apply Exists.intro
  simp only [List.take_succ_cons, List.take_zero, List.drop_succ_cons, List.drop_zero]
  have hst : ∀ p ∈ [((9 : Nat), phiR w1.heap.size n c)], LooseP.Stable p.2 := by intro p hp; rw [List.mem_singleton.1 hp]; exact phiR_stable _ _ _
  repeat (first | (apply Loose.walk_step; intro K hK; apply LooseP.turn_value (hwant := rfl) (hd := rfl); (focus (intro w' hw'; obtain ⟨hc, hf⟩ := Fl.bcell hw'; go_simp; first | done | rfl | exact ⟨rfl, rfl⟩)); go_simp; refine hK _ ?_; clear hK K) | (apply Loose.walk_step; intro K hK; refine LooseP.turn_callP (f := 108) (args := fun a => #[a.eval (.tmp 8)]) (V := fun v => ∃ a cap, v = .slice a n cap) (φ := phiR w1.heap.size n c) (d := 9) hst (Nat.le_refl _) rfl rfl (by intro p hp _; rw [List.mem_singleton.1 hp]) (by intro a' w'; go_simp; first | done | rfl | exact ⟨rfl, rfl⟩) ⟨_, none, 0, rfl⟩ ?_ ?_; (focus (intro a' w' _ hcl; go_simp; exact clone_phi HW.out hcl.1 hn)); (intro v hv; obtain ⟨av, capv, rfl⟩ := hv; go_simp; refine hK _ ?_; clear hK K)))
  refine Loose.walk_nil ?_
  intro w2 hcls2
  have hb2 := hcls2.1
  obtain ⟨a3, cap3, L3, he3, hL3, ho3⟩ := hcls2.at (v := .slice av n capv) (List.mem_singleton.2 rfl) rfl (by simp [undef])
  obtain ⟨rfl, rfl⟩ : av = a3 ∧ capv = cap3 := by simpa using he3
  have q4 := keep_block hb2 Q4.out
  have hz2 := hb2.size
  have c90 := (cells_of (i := 0) q4).trans (show _ = some (.int .i64 0) from rfl)
  have c91 := (cells_of (i := 1) q4).trans (show _ = some (.int .i64 0) from rfl)
  have c92 := (cells_of (i := 2) q4).trans (show _ = some (.slice none 0 0) from rfl)
  have f90 := free_of q4 0
  have f91 := free_of q4 1
  have f92 := free_of q4 2
  have HO3 := Lib.hid ho3
  have HB2 := Lib.hid (HB1.out.trans (hb2.mono (by omega)))
  clear hcls2 hst he3 ho3 q4 hb2
  go_wp2
  refine bodyPost_ret ?ohr rfl ⟨av, capv, rfl, ?oio, ?obel⟩
  case ohr => simp [results, Try.results68, go_sem, *]
  case oio =>
    refine (HO3.out.keep fun g hg _ _ => ?_).wider (by omega) (by simp; omega)
    rw [set_keep _ _ _ (by omega), set_keep _ _ _ (by omega), set_keep _ _ _ (by omega)]
  case obel => exact Below.setCell (Below.setCell (Below.setCell HB2.out (by simp) (p := ⟨w.heap.size + 1, 0, none⟩) _) (by simp) (p := ⟨w.heap.size + 1, 1, none⟩) _) (by simp) (p := ⟨w.heap.size + 1, 2, none⟩) _

end Ba
end Go.Proofs.Ytjkkefbfhapblab
