/- Blobs in basins. -/
import Derived.Test.YtbinjkaanbhikaaBaFl
import Derived.Test.YtbinjkaanbhikaaHalf
namespace Go.Proofs.Ytbinjkaanbhikaa
set_option linter.unusedSimpArgs false
set_option linter.unusedVariables false
open Go.RowKit
set_option maxRecDepth 20000
namespace Ba
open Fl Rate

theorem new_at {w : World} {o : Obj} {b : Nat} (hb : b = w.heap.size) : (w.alloc o).heap[b]? = some o := by subst hb; exact new_block w o

theorem two32 : Fr .f32 1073741824 (some 1073741824) := Fr.const (by decide +kernel) (by decide)

def halfC (side : Int) : Option Nat := op2 .quo .f32 (Mks.msC side) (some 1073741824)

/-- A way, or the one across the joined edge. -/
def gapC (d : Option Nat) (side : Int) : Option Nat :=
  if cmpC .gtr (ord .f32 d (halfC side)) = true then op2 .sub .f32 d (Mks.msC side)
  else if cmpC .lss (ord .f32 d ((halfC side).map (Op.negFloat .f32))) = true then op2 .add .f32 d (Mks.msC side) else d

theorem impl_short (x : Nat) (d : Option Nat) (side : Int) (w : World) (f : Fr .f32 x d) : Calls Try.prog 95 #[.float .f32 x, .int .i64 side] w (RetF .f32 (gapC d side) w) := by
  have fs := (Mks.ms_facts side).2
  have f2 := two32
  unfold gapC
  obtain ⟨h, hh⟩ : ∃ h, halfC side = h := ⟨_, rfl⟩
  have hq : op2 .quo .f32 (Mks.msC side) (some 1073741824) = h := hh
  rw [hh]
  cases h1 : cmpC .gtr (ord .f32 d h)
  all_goals cases h2 : cmpC .lss (ord .f32 d (h.map (Op.negFloat .f32)))
  all_goals
    simp only [Bool.false_eq_true, if_true, if_false]
    go_enter Try.func95, Try.ntmps95
    go_wp2_with (first | (refine Fl.wpList_cmp rfl rfl rfl rfl rfl (by assumption) (by first | assumption | exact Fl.neg32_fr (by assumption)) ?_; try simp only [h1, h2]) | (refine Fl.wpList_fl rfl rfl rfl rfl rfl (by assumption) (by assumption) ?_; intro r n' hr; try rw [hq] at hr))
    go_ret
    exact ⟨_, rfl, by assumption, by (repeat' first | exact Below.refl _ _ | (refine Below.setCell ?_ (by first | omega | (simp; omega) | simp) _) | (refine below_drewN ?_ _) | (refine Below.alloc ?_ (by first | omega | (simp; omega) | simp) _) | (refine Below.trans ?_ (Below.mono (by assumption) (by first | omega | (simp; omega) | simp))))⟩

theorem spec_gap (x y : Nat) (a b : Option Nat) (side : Int) (w : World) (f : Fr .f32 x a) (g : Fr .f32 y b) : Calls Try.prog 93 #[.float .f32 x, .float .f32 y, .int .i64 side] w (RetF .f32 (gapC (op2 .sub .f32 a b) side) w) := by
  have fs := (Mks.ms_facts side).2
  have f2 := two32
  unfold gapC
  obtain ⟨d, hd⟩ : ∃ d, op2 .sub .f32 a b = d := ⟨_, rfl⟩
  rw [hd]
  obtain ⟨h, hh⟩ : ∃ h, halfC side = h := ⟨_, rfl⟩
  have hq : op2 .quo .f32 (Mks.msC side) (some 1073741824) = h := hh
  rw [hh]
  cases h1 : cmpC .gtr (ord .f32 d h)
  all_goals cases h2 : cmpC .lss (ord .f32 d (h.map (Op.negFloat .f32)))
  all_goals
    simp only [Bool.false_eq_true, if_true, if_false]
    go_enter Try.func93, Try.ntmps93
    go_wp2_with (first | (refine Fl.wpList_cmp rfl rfl rfl rfl rfl (by assumption) (by first | assumption | exact Fl.neg32_fr (by assumption)) ?_; try simp only [h1, h2]) | (refine Fl.wpList_fl rfl rfl rfl rfl rfl (by assumption) (by assumption) ?_; intro r n' hr; first | rw [hd] at hr | rw [hq] at hr | skip))
    go_ret
    exact ⟨_, rfl, by assumption, by (repeat' first | exact Below.refl _ _ | (refine Below.setCell ?_ (by first | omega | (simp; omega) | simp) _) | (refine below_drewN ?_ _) | (refine Below.alloc ?_ (by first | omega | (simp; omega) | simp) _) | (refine Below.trans ?_ (Below.mono (by assumption) (by first | omega | (simp; omega) | simp))))⟩

/-- How far a cell is from the blob's middle, squared. -/
def farC (W H : Int) (x y : Option Nat) (k : Nat) : Option Nat :=
  op2 .add .f32 (op2 .mul .f32 (gapC (op2 .sub .f32 (Mks.msC ((k : Int) % W)) x) W) (gapC (op2 .sub .f32 (Mks.msC ((k : Int) % W)) x) W)) (op2 .mul .f32 (gapC (op2 .sub .f32 (Mks.msC ((k : Int) / W)) y) H) (gapC (op2 .sub .f32 (Mks.msC ((k : Int) / W)) y) H))

/-- The spin of a cell of a basin with a blob. -/
def blobC (W H : Int) (x y m s : Option Nat) (k : Nat) : Option Nat := if cmpC .leq (ord .f32 (farC W H x y k) m) = true then s else some 0

theorem blob_eq (W H : Int) (x y m s : Option Nat) (k : Nat) (b : Bool) (h : cmpC .leq (ord .f32 (farC W H x y k) m) = b) : blobC W H x y m s k = if b then s else some 0 := by
  unfold blobC; rw [h]

set_option maxHeartbeats 3200000 in
theorem impl_blob1 (W H : Int) (a : Option Addr) (n cap x1 y1 : Nat) (p0 p1 p2 p3 p4 p5 : Nat) (x y m s : Nat) (cx cy cm cs : Option Nat) (w : World) (hx : (x1 : Int) < W) (hy : (y1 : Int) < H) (s1 : 3 ≤ W ∧ W ≤ 16)
    (fx : Fr .f32 x cx) (fy : Fr .f32 y cy) (fm : Fr .f32 m cm) (fs : Fr .f32 s cs) (e0 : w.cell? ⟨p0, 0, none⟩ = some (.float .f32 x)) (e1 : w.cell? ⟨p1, 0, none⟩ = some (.int .i64 W)) (e2 : w.cell? ⟨p2, 0, none⟩ = some (.float .f32 y)) (e3 : w.cell? ⟨p3, 0, none⟩ = some (.int .i64 H)) (e4 : w.cell? ⟨p4, 0, none⟩ = some (.float .f32 m)) (e5 : w.cell? ⟨p5, 0, none⟩ = some (.float .f32 s)) :
    Calls Try.prog 94 #[bV W H a n cap, .int .i64 (x1 : Int), .int .i64 (y1 : Int), .pointer (some ⟨p0, 0, none⟩), .pointer (some ⟨p1, 0, none⟩), .pointer (some ⟨p2, 0, none⟩), .pointer (some ⟨p3, 0, none⟩), .pointer (some ⟨p4, 0, none⟩), .pointer (some ⟨p5, 0, none⟩)] w (RetF .f32 (blobC W H cx cy cm cs ((W * (y1 : Int)).toNat + x1)) w) := by
  have l0 := block_lt_of_cell e0
  have l1 := block_lt_of_cell e1
  have l2 := block_lt_of_cell e2
  have l3 := block_lt_of_cell e3
  have l4 := block_lt_of_cell e4
  have l5 := block_lt_of_cell e5
  have hdm := cell_divmod (y := y1) s1.1 hx
  have fX := (Mks.ms_facts (x1 : Int)).2
  have fY := (Mks.ms_facts (y1 : Int)).2
  have z0 := zero32
  obtain ⟨b, hb0⟩ : ∃ b, cmpC .leq (ord .f32 (farC W H cx cy ((W * (y1 : Int)).toNat + x1)) cm) = b := ⟨_, rfl⟩
  rw [blob_eq _ _ _ _ _ _ _ b hb0]
  unfold farC at hb0
  rw [hdm.1, hdm.2] at hb0
  clear hdm
  obtain ⟨res, hres⟩ : ∃ q, (if b = true then cs else some 0) = q := ⟨_, rfl⟩
  rw [hres]
  go_enter Try.func94, Try.ntmps94
  go_wp2
  refine Loose.wp_region_below 12 [] (by kernel_rfl) (by kernel_rfl) (by simp [undef]) ?_
  apply Exists.intro
  simp only [List.take_succ_cons, List.take_zero, List.drop_succ_cons, List.drop_zero]
  repeat (first | (apply Loose.walk_step; intro K hK; apply Loose.turn_value (hwant := rfl) (hd := rfl); (focus (intro w' hw'; obtain ⟨hc, hf⟩ := Fl.bcell hw'; go_simp; first | done | rfl | exact ⟨rfl, rfl⟩)); go_simp; refine hK _ ?_; clear hK K) | (apply Loose.walk_step; intro K hK; refine Loose.turn_fl (Nat.le_refl _) rfl rfl rfl rfl rfl rfl (by assumption) (by assumption) ?_; intro r hr; go_simp; refine hK _ ?_; clear hK K) | (apply Loose.walk_step; intro K hK; apply Loose.turn_callF (Nat.le_refl _) (hwant := rfl) (hd := rfl); (focus (intro w'; go_simp; first | done | rfl | exact ⟨rfl, rfl⟩)); (focus (intro w'; go_at_call 95; exact impl_short _ _ _ _ (by assumption))); intro r hr; go_simp; refine hK _ ?_; clear hK K))
  refine Loose.walk_nil ?_
  intro w1 hcls1
  obtain ⟨hb1, _⟩ := hcls1
  obtain ⟨hc1, hf1⟩ := Fl.bcell hb1
  have hz1 := hb1.size
  try simp only [World.size_alloc, World.size_setCell, World.heap_drewN, World.size_drew] at hz1
  have d4 : w1.cell? ⟨p4, 0, none⟩ = some (.float .f32 m) := (hc1 _ _ (by simp; omega)).trans (by go_simp)
  have d5 : w1.cell? ⟨p5, 0, none⟩ = some (.float .f32 s) := (hc1 _ _ (by simp; omega)).trans (by go_simp)
  have k4 : p4 < w1.heap.size := by omega
  have k5 : p5 < w1.heap.size := by omega
  go_wp2
  refine Loose.wp_region_below 8 [] (by kernel_rfl) (by kernel_rfl) (by simp [undef]) ?_
  apply Exists.intro
  simp only [List.take_succ_cons, List.take_zero, List.drop_succ_cons, List.drop_zero]
  repeat (first | (apply Loose.walk_step; intro K hK; apply Loose.turn_value (hwant := rfl) (hd := rfl); (focus (intro w' hw'; obtain ⟨hc, hf⟩ := Fl.bcell hw'; go_simp; first | done | rfl | exact ⟨rfl, rfl⟩)); go_simp; refine hK _ ?_; clear hK K) | (apply Loose.walk_step; intro K hK; refine Loose.turn_fl (Nat.le_refl _) rfl rfl rfl rfl rfl rfl (by assumption) (by assumption) ?_; intro r hr; go_simp; refine hK _ ?_; clear hK K) | (apply Loose.walk_step; intro K hK; apply Loose.turn_callF (Nat.le_refl _) (hwant := rfl) (hd := rfl); (focus (intro w'; go_simp; first | done | rfl | exact ⟨rfl, rfl⟩)); (focus (intro w'; go_at_call 69; exact product_run _ _ _ _ _ (by assumption) (by assumption))); intro r hr; go_simp; refine hK _ ?_; clear hK K))
  refine Loose.walk_nil ?_
  intro w2 hcls2
  obtain ⟨hb2, _⟩ := hcls2
  obtain ⟨hc2, hf2⟩ := Fl.bcell hb2
  have hz2 := hb2.size
  try simp only [World.size_alloc, World.size_setCell, World.heap_drewN, World.size_drew] at hz2
  have d6 : w2.cell? ⟨p5, 0, none⟩ = some (.float .f32 s) := (hc2 _ _ (by first | omega | (simp; omega))).trans d5
  cases b
  all_goals
    simp only [Bool.false_eq_true, if_false, if_true] at hres
    subst hres
    go_wp2_with (refine Fl.wpList_cmp rfl rfl rfl rfl rfl (by assumption) (by assumption) ?_; try simp only [hb0])
    go_ret
    exact ⟨_, rfl, by assumption, by (repeat' first | exact Below.refl _ _ | (refine Below.setCell ?_ (by first | omega | (simp; omega) | simp) _) | (refine below_drewN ?_ _) | (refine Below.alloc ?_ (by first | omega | (simp; omega) | simp) _) | (refine Below.trans ?_ (Below.mono (by assumption) (by first | omega | (simp; omega) | simp))))⟩

theorem enter_blob1 (args : Array Value) (w : World) : (callFunc 94 args).run Try.prog w = .ok (.enter 94 args) w := by go_simp

theorem four_y (w : World) (x y m s : Nat) (cx cy cm cs : Option Nat) (fx : Fr .f32 x cx) (fy : Fr .f32 y cy) (fm : Fr .f32 m cm) (fs : Fr .f32 s cs) (b : Nat) (hb : w.heap[b]? = some (.cells #[.float .f32 x, .float .f32 y, .float .f32 m, .float .f32 s] 28)) :
    IsY w (some ⟨b, 0, none⟩) 4 4 (fun k => match k with | 0 => cx | 1 => cy | 2 => cm | _ => cs) := by
  refine ⟨Nat.le_refl _, by unfold maxLen; omega, b, 0, fun _ => rfl, fun i hi => ?_⟩
  match i, hi with
  | 0, _ => exact ⟨x, (cells_of (i := 0) hb).trans rfl, fx⟩
  | 1, _ => exact ⟨y, (cells_of (i := 1) hb).trans rfl, fy⟩
  | 2, _ => exact ⟨m, (cells_of (i := 2) hb).trans rfl, fm⟩
  | 3, _ => exact ⟨s, (cells_of (i := 3) hb).trans rfl, fs⟩

/-- Whether the numbers of a blob are finite. -/
def blobB (cx cy cr cs : Option Nat) : Bool := (finC cx && finC cy) && (finC cr && finC cs)

theorem impl_four (w : World) (x y m s : Nat) (cx cy cm cs : Option Nat) (fx : Fr .f32 x cx) (fy : Fr .f32 y cy) (fm : Fr .f32 m cm) (fs : Fr .f32 s cs) (b : Nat) (hb : w.heap[b]? = some (.cells #[.float .f32 x, .float .f32 y, .float .f32 m, .float .f32 s] 28)) :
    Calls Try.prog 54 #[.slice (some ⟨b, 0, none⟩) 4 4, .func (Fn.func 55) #[] #[]] w (RetD (.bool (blobB cx cy cm cs)) w) := by
  have h := impl_all _ _ _ _ w (four_y w x y m s cx cy cm cs fx fy fm fs b hb)
  have e : allF (fun k => match k with | 0 => cx | 1 => cy | 2 => cm | _ => cs) 4 = blobB cx cy cm cs := by
    simp only [allF, blobB, Bool.true_and]
    cases finC cx <;> cases finC cy <;> cases finC cm <;> cases finC cs <;> rfl
  rw [e] at h
  exact h


end Ba
end Go.Proofs.Ytbinjkaanbhikaa
