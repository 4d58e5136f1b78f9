/- Tracers that are drawn: the program's functions and the model's. -/
import Derived.Test.YtjkkefbfhapblabRate
import Derived.Test.YtjkkefbfhapblabCEq
import Derived.Test.YtjkkefbfhapblabMarkC
import Derived.OwnWalk
import Derived.Laws.AppendOwn
import Derived.Lib.SmallJoins
namespace Go.Proofs.Ytjkkefbfhapblab
set_option linter.unusedSimpArgs false
set_option linter.unusedVariables false
open Go.RowKit
set_option maxRecDepth 20000
namespace Nt
open Fl Rate

theorem cells_of {w : World} {g : Nat} {c : Array Value} {t : TypeId} {i : Nat} (h : w.heap[g]? = some (.cells c t)) : w.cell? ⟨g, i, none⟩ = c[i]? := by
  simp [World.cell?, h]

theorem free_of {w : World} {g : Nat} {c : Array Value} {t : TypeId} (h : w.heap[g]? = some (.cells c t)) (i : Nat) : w.frozen? ⟨g, i, none⟩ = false := by
  simp [World.frozen?, h]

theorem setCell_block {w : World} {g : Nat} {c : Array Value} {t : TypeId} (h : w.heap[g]? = some (.cells c t)) (i : Nat) (v : Value) : (w.setCell ⟨g, i, none⟩ v).heap[g]? = some (.cells (c.setIfInBounds i v) t) := by
  simp [World.setCell, Array.getElem?_modify, h]

theorem set_keep (w : World) {g b : Nat} (i : Nat) (v : Value) (h : b ≠ g) : (w.setCell ⟨g, i, none⟩ v).heap[b]? = w.heap[b]? := by
  simp [World.setCell, Array.getElem?_modify]
  intro e; exact absurd e.symm h

theorem new_block (w : World) (o : Obj) : (w.alloc o).heap[w.heap.size]? = some o := by
  show (w.heap.push o)[w.heap.size]? = some o
  simp

theorem block_lt {w : World} {g : Nat} {o : Obj} (h : w.heap[g]? = some o) : g < w.heap.size := (Array.getElem?_eq_some_iff.1 h).1

theorem keep_block {p w : World} {g : Nat} {o : Obj} (hb : Below p.heap.size p w) (h : p.heap[g]? = some o) : w.heap[g]? = some o := by
  rw [hb.block g (block_lt h)]; exact h

theorem alloc_block {w : World} {g : Nat} {o o' : Obj} (h : w.heap[g]? = some o) : (w.alloc o').heap[g]? = some o := by
  rw [Below.heap_alloc _ _ _ (block_lt h)]; exact h

theorem fl_int (n : Int) : Fr .f32 (floatOfInt .f32 n) (cl .f32 (floatOfInt .f32 n)) := ⟨rfl, by unfold floatOfInt FloatKind.nearest; exact FloatKind.f32.format.write_lt _⟩

theorem z0 : Fr .f32 0 (some 0) := Fr.const (by decide +kernel) (by decide)

theorem wf_lt' (b : Nat) (h : b < 2 ^ FloatKind.f32.format.width) : (Lit.float .f32 b).wf = true := by
  have h' : b < 4294967296 := h
  simpa [Lit.wf] using h'

/-! ### What is asked of the arguments -/

/-- Whether a number is finite and at least 0. -/
def sizB (x : Nat) : Bool := fin .f32 x && cmpC .geq (ord .f32 (cl .f32 x) (some 0))

theorem impl_size (x : Nat) (w : World) (hx : x < 4294967296) : Calls Try.prog 42 #[.float .f32 x] w (RetD (.bool (sizB x)) w) := by
  have f : Fr .f32 x (cl .f32 x) := ⟨rfl, hx⟩
  have z0 := z0
  unfold sizB
  cases ff : fin .f32 x
  all_goals
    go_enter Try.func42, Try.ntmps42
    go_wp2_with (first | (go_at_call 57; refine (Finite.impl_finite _ _ (by assumption)).mono ?_; rintro e w' ⟨rfl, rfl⟩) | (refine Fl.wpList_cmp rfl rfl rfl rfl rfl (by assumption) (by assumption) ?_))
    go_ret
    exact ⟨by first | rfl | simp, by (repeat' first | exact Below.refl _ _ | (refine Below.setCell ?_ (by first | omega | (simp; omega) | simp) _) | (refine below_drewN ?_ _) | (refine Below.alloc ?_ (by first | omega | (simp; omega) | simp) _) | (refine Below.trans ?_ (Below.mono (by assumption) (by first | omega | (simp; omega) | simp))))⟩

theorem spec_size (x : Nat) (w : World) (wx : (Lit.float .f32 x).wf = true) : Calls Try.prog 40 #[.float .f32 x] w (RetD (.bool (sizB x)) w) := by
  have f : Fr .f32 x (cl .f32 x) := ⟨rfl, Fl.lt32 wx⟩
  have z0 := z0
  unfold sizB
  cases ff : fin .f32 x
  all_goals
    go_enter Try.func40, Try.ntmps40
    go_wp2_with (first | (go_at_call 54; refine (Finite.spec_finite _ _ (by assumption)).mono ?_; rintro e w' ⟨n, rfl, rfl⟩) | (refine Fl.wpList_cmp rfl rfl rfl rfl rfl (by assumption) (by assumption) ?_))
    go_ret
    exact ⟨by first | rfl | simp, by (repeat' first | exact Below.refl _ _ | (refine Below.setCell ?_ (by first | omega | (simp; omega) | simp) _) | (refine below_drewN ?_ _) | (refine Below.alloc ?_ (by first | omega | (simp; omega) | simp) _) | (refine Below.trans ?_ (Below.mono (by assumption) (by first | omega | (simp; omega) | simp))))⟩

def inB (n a b : Int) : Bool := decide (a ≤ n) && decide (n ≤ b)

theorem spec_in (n a b : Int) (w : World) : Calls Try.prog 39 #[.int .i64 n, .int .i64 a, .int .i64 b] w fun e w' => e = .returned (.bool (inB n a b)) ∧ w = w' := by
  unfold inB
  by_cases h1 : a ≤ n
  all_goals by_cases h2 : n ≤ b
  all_goals
    go_enter Try.func39, Try.ntmps39
    go_wp2
    go_ret
    exact ⟨by first | rfl | simp [h1, h2], rfl⟩

/-! ### The draws -/

def nextS (s : Int) : Int := (1103515245 * s + 12345).tmod 2147483648

theorem next_bd {s : Int} (h : 0 ≤ s ∧ s ≤ 2147483647) : 0 ≤ nextS s ∧ nextS s ≤ 2147483647 := by
  unfold nextS
  rw [Int.tmod_eq_emod_of_nonneg (by omega)]
  omega

def seedN (s : Int) : Nat → Int
  | 0 => s
  | k + 1 => nextS (seedN s k)

theorem seed_bd {s : Int} (h : 0 ≤ s ∧ s ≤ 2147483647) : ∀ k, 0 ≤ seedN s k ∧ seedN s k ≤ 2147483647
  | 0 => h
  | k + 1 => next_bd (seed_bd h k)

/-- The number of a seed. -/
def dv (c : Option Nat) (t : Int) : Option Nat := op2 .mul .f32 c (op2 .quo .f32 (cl .f32 (floatOfInt .f32 (t.tdiv 65536 - 16384))) (some 1182793728))

theorem s14 : Fr .f32 1182793728 (some 1182793728) := Fr.const (by decide +kernel) (by decide)

def RetDr (c : Option Nat) (t : Int) (w : World) (e : Ending) (w' : World) : Prop := ∃ r, e = .returned (.tuple #[.float .f32 r, .int .i64 t]) ∧ Fr .f32 r (dv c t) ∧ Below w.heap.size w w'

theorem spec_draw (z : Nat) (c : Option Nat) (s : Int) (w : World) (fz : Fr .f32 z c) (hs : 0 ≤ s ∧ s ≤ 2147483647) : Calls Try.prog 41 #[.float .f32 z, .int .i64 s] w (RetDr c (nextS s) w) := by
  have m1 : IntKind.i64.wrap (1103515245 * s) = 1103515245 * s := IntWalk.i64_in _ (by omega)
  have m2 : IntKind.i64.wrap (1103515245 * s + 12345) = 1103515245 * s + 12345 := IntWalk.i64_in _ (by omega)
  have hb := next_bd hs
  unfold nextS at hb ⊢
  obtain ⟨T, hT⟩ : ∃ T, (1103515245 * s + 12345).tmod 2147483648 = T := ⟨_, rfl⟩
  unfold RetDr dv
  rw [hT] at hb ⊢
  obtain ⟨Q, hQ⟩ : ∃ Q, T.tdiv 65536 = Q := ⟨_, rfl⟩
  have hq : 0 ≤ Q ∧ Q ≤ 32768 := by
    rw [← hQ, Int.tdiv_eq_ediv_of_nonneg hb.1]
    omega
  rw [hQ]
  have m3 : wrap64 Q = Q := IntWalk.wrap64_in _ (by omega)
  have m4 : wrap64 (Q - 16384) = Q - 16384 := IntWalk.wrap64_in _ (by omega)
  have fq := fl_int (Q - 16384)
  have f14 := s14
  clear hs hb hq
  go_enter Try.func41, Try.ntmps41
  go_wp2_with (first | (refine Fl.wpList_fl rfl rfl rfl rfl rfl (by assumption) (by assumption) ?_; intro r nd hr))
  refine bodyPost_ret ?ohr rfl ⟨_, rfl, by assumption, ?obel⟩
  case ohr => simp [results, Try.results41, go_sem, *]
  case obel => (repeat' first | exact Below.refl _ _ | (refine Below.setCell ?_ (by first | omega | (simp; omega) | simp) _) | (refine below_drewN ?_ _) | (refine Below.alloc ?_ (by first | omega | (simp; omega) | simp) _) | (refine Below.trans ?_ (Below.mono (by assumption) (by first | omega | (simp; omega) | simp))))


theorem impl_draw (S Z z : Nat) (c : Option Nat) (s : Int) (w : World) (eS : w.heap[S]? = some (.cells #[.int .i64 s] 2)) (eZ : w.heap[Z]? = some (.cells #[.float .f32 z] 22)) (fz : Fr .f32 z c) (hs : 0 ≤ s ∧ s ≤ 2147483647) :
    Calls Try.prog 43 #[.pointer (some ⟨S, 0, none⟩), .pointer (some ⟨Z, 0, none⟩)] w fun e w' => ∃ r, e = .returned (.float .f32 r) ∧ Fr .f32 r (dv c (nextS s)) ∧ w'.heap[S]? = some (.cells #[.int .i64 (nextS s)] 2) ∧ (∀ b, b ≠ S → b < w.heap.size → w'.heap[b]? = w.heap[b]?) ∧ Below S w w' := by
  have m1 : IntKind.i64.wrap (1103515245 * s) = 1103515245 * s := IntWalk.i64_in _ (by omega)
  have m2 : IntKind.i64.wrap (1103515245 * s + 12345) = 1103515245 * s + 12345 := IntWalk.i64_in _ (by omega)
  have hb := next_bd hs
  unfold nextS at hb ⊢
  obtain ⟨T, hT⟩ : ∃ T, (1103515245 * s + 12345).tmod 2147483648 = T := ⟨_, rfl⟩
  unfold dv
  rw [hT] at hb ⊢
  obtain ⟨Q, hQ⟩ : ∃ Q, T.tdiv 65536 = Q := ⟨_, rfl⟩
  have hq : 0 ≤ Q ∧ Q ≤ 32768 := by
    rw [← hQ, Int.tdiv_eq_ediv_of_nonneg hb.1]
    omega
  rw [hQ]
  have m3 : wrap64 Q = Q := IntWalk.wrap64_in _ (by omega)
  have m4 : wrap64 (Q - 16384) = Q - 16384 := IntWalk.wrap64_in _ (by omega)
  have fq := fl_int (Q - 16384)
  have f14 := s14
  have lS := block_lt eS
  have lZ := block_lt eZ
  have hne : S ≠ Z := by
    rintro rfl
    rw [eS] at eZ
    cases eZ
  have c0 := (cells_of (i := 0) eS).trans (show _ = some (.int .i64 s) from rfl)
  have f0 := free_of eS 0
  have eS1 := setCell_block eS 0 (.int .i64 T)
  have eZ1 : (w.setCell ⟨S, 0, none⟩ (.int .i64 T)).heap[Z]? = some (.cells #[.float .f32 z] 22) := by rw [set_keep _ _ _ (fun e => hne e.symm)]; exact eZ
  have c1 := (cells_of (i := 0) eS1).trans (show _ = some (.int .i64 T) from rfl)
  have c2 := (cells_of (i := 0) eZ1).trans (show _ = some (.float .f32 z) from rfl)
  have HS1 := Lib.hid (show (w.setCell ⟨S, 0, none⟩ (.int .i64 T)).heap[S]? = some (.cells #[.int .i64 T] 2) from eS1)
  have HK1 := Lib.hid (show ∀ b, b ≠ S → (w.setCell ⟨S, 0, none⟩ (.int .i64 T)).heap[b]? = w.heap[b]? from fun b hb => set_keep w 0 (.int .i64 T) hb)
  have HB1 := Lib.hid (show Below S w (w.setCell ⟨S, 0, none⟩ (.int .i64 T)) from Below.setCell (p := ⟨S, 0, none⟩) (Below.refl S w) (Nat.le_refl S) _)
  have hz1 : (w.setCell ⟨S, 0, none⟩ (.int .i64 T)).heap.size = w.heap.size := by simp
  clear hs hb hq eS eZ eS1 eZ1 hne
  go_enter Try.func43, Try.ntmps43
  go_wp2_with (first | (refine Fl.wpList_fl rfl rfl rfl rfl rfl (by assumption) (by assumption) ?_; intro r nd hr))
  refine (Rate.product_run _ _ _ _ _ fz (by assumption)).mono ?_
  rintro e w2 ⟨r2, rfl, fr2, hb2⟩
  have HB2 := Lib.hid (show Below w.heap.size (w.setCell ⟨S, 0, none⟩ (.int .i64 T)) w2 from Below.trans (by (repeat' first | exact Below.refl _ _ | (refine below_drewN ?_ _))) (hb2.mono (by first | omega | (simp; done) | (simp; omega))))
  clear hb2 c0 c1 c2 f0
  go_wp2
  refine bodyPost_ret ?ohr rfl ⟨r2, rfl, fr2, ?o1, ?o2, ?o3⟩
  case ohr => simp [results, Try.results43, go_sem, *]
  case o1 => rw [HB2.out.block S lS]; exact HS1.out
  case o2 => intro b hb hbl; rw [HB2.out.block b hbl]; exact HK1.out b hb
  case o3 => exact HB1.out.trans (HB2.out.mono (by omega))

end Nt
end Go.Proofs.Ytjkkefbfhapblab
