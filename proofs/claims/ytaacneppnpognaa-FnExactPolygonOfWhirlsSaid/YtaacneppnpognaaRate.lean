/- How fast a polygon turns: the program's function and the model's. -/
import Derived.Test.YtaacneppnpognaaRows
import Derived.Test.YtaacneppnpognaaRet
import Derived.Test.YtaacneppnpognaaFinite
import Derived.Test.YtaacneppnpognaaFin
namespace Go.Proofs.Ytaacneppnpognaa
set_option linter.unusedSimpArgs false
set_option linter.unusedVariables false
open Go.RowKit
namespace Rate
open Fl

/-- A number of a class, and whether there is one. -/
def RetFB (c : Option Nat) (b : Bool) (w : World) (e : Ending) (w' : World) : Prop := ∃ r, e = .returned (.tuple #[.float .f32 r, .bool b]) ∧ Fr .f32 r c ∧ Below w.heap.size w w'

/-- Whether a class is that of a finite number. -/
def finC (c : Option Nat) : Bool := match c with
  | none => false
  | some b => fin .f32 b

theorem fin_cl {r : Nat} {c : Option Nat} (f : Fr .f32 r c) : fin .f32 r = finC c := by
  cases c with
  | some b => rw [eq_of_some f]; rfl
  | none =>
    show fin .f32 r = false
    cases h : fin .f32 r
    · rfl
    · obtain ⟨s, m, p, hd⟩ := decode_fin h
      have := cl_none_iff.1 f.1
      rw [hd] at this; cases this

theorem product_run (x y : Nat) (c d : Option Nat) (w : World) (f0 : Fr .f32 x c) (f1 : Fr .f32 y d) :
    Calls Try.prog 55 #[.float .f32 x, .float .f32 y] w (RetF .f32 (op2 .mul .f32 c d) w) := by
  go_enter Try.func55, Try.ntmps55
  go_wp2_with (first | (refine Fl.wpList_fl rfl rfl rfl rfl rfl (by assumption) (by assumption) ?_; intro r n hr))
  go_ret
  exact ⟨_, rfl, by assumption, below_drewN (Below.refl _ _) _⟩

theorem impl_length (x : Nat) (w : World) (hx : x < 4294967296) : Calls Try.prog 49 #[.float .f32 x] w (RetD (.bool (fin .f32 x && cmpC .gtr (ord .f32 (cl .f32 x) (some 0)))) w) := by
  have f : Fr .f32 x (cl .f32 x) := ⟨rfl, hx⟩
  have z0 : Fr .f32 0 (some 0) := Fr.const (by decide +kernel) (by decide)
  cases ff : fin .f32 x
  all_goals
    go_enter Try.func49, Try.ntmps49
    go_wp2_with (first | (go_at_call 30; refine (Finite.impl_finite _ _ (by assumption)).mono ?_; rintro e w' ⟨rfl, rfl⟩) | (refine Fl.wpList_cmp rfl rfl rfl rfl rfl (by assumption) (by assumption) ?_))
    go_ret
    exact ⟨by first | rfl | simp, by (repeat' first | exact Below.refl _ _ | (refine Below.setCell ?_ (by first | omega | (simp; omega) | simp) _) | (refine below_drewN ?_ _) | (refine Below.alloc ?_ (by first | omega | (simp; omega) | simp) _) | (refine Below.trans ?_ (Below.mono (by assumption) (by first | omega | (simp; omega) | simp))))⟩

theorem impl_polygon (n : Int) (x : Nat) (w : World) (hx : x < 4294967296) : Calls Try.prog 54 #[.int .i64 n, .float .f32 x] w (RetD (.bool (decide (1 ≤ n) && decide (n ≤ 32) && (fin .f32 x && cmpC .gtr (ord .f32 (cl .f32 x) (some 0))))) w) := by
  by_cases h1 : 1 ≤ n
  all_goals by_cases h2 : n ≤ 32
  all_goals (try have d1 := decide_eq_true h1)
  all_goals (try have d1 := decide_eq_false h1)
  all_goals (try have d2 := decide_eq_true h2)
  all_goals (try have d2 := decide_eq_false h2)
  all_goals
    go_enter Try.func54, Try.ntmps54
    go_wp2_with (first | (go_at_call 49; refine (impl_length _ _ hx).mono ?_; rintro e w' ⟨rfl, hb⟩; have hz := hb.size; try simp only [World.size_alloc, World.size_setCell, World.heap_drewN, World.size_drew] at hz; obtain ⟨hc, hf⟩ := Fl.bcell hb; try (have g : w.heap.size < w'.heap.size := by omega); try (have g : w.heap.size ≤ w'.heap.size := by omega)))
    go_ret
    exact ⟨by first | rfl | (rw [d1, d2]; rfl) | simp [h1, h2], by (repeat' first | exact Below.refl _ _ | (refine Below.setCell ?_ (by first | omega | (simp; omega) | simp) _) | (refine below_drewN ?_ _) | (refine Below.alloc ?_ (by first | omega | (simp; omega) | simp) _) | (refine Below.trans ?_ (Below.mono (by assumption) (by first | omega | (simp; omega) | simp))))⟩

theorem spec_in (n : Int) (w : World) : Calls Try.prog 52 #[.int .i64 n, .int .i64 1, .int .i64 32] w (RetD (.bool (decide (1 ≤ n) && decide (n ≤ 32))) w) := by
  by_cases h1 : 1 ≤ n
  all_goals by_cases h2 : n ≤ 32
  all_goals
    go_enter Try.func52, Try.ntmps52
    go_wp2
    go_ret
    exact ⟨by first | rfl | simp [h1, h2], by (repeat' first | exact Below.refl _ _ | (refine Below.setCell ?_ (by first | omega | (simp; omega) | simp) _) | (refine below_drewN ?_ _) | (refine Below.alloc ?_ (by first | omega | (simp; omega) | simp) _) | (refine Below.trans ?_ (Below.mono (by assumption) (by first | omega | (simp; omega) | simp))))⟩

theorem spec_above (x : Nat) (w : World) (wx : (Lit.float .f32 x).wf = true) : Calls Try.prog 47 #[.float .f32 x] w (RetD (.bool (fin .f32 x && cmpC .gtr (ord .f32 (cl .f32 x) (some 0)))) w) := by
  have f : Fr .f32 x (cl .f32 x) := ⟨rfl, Fl.lt32 wx⟩
  have z0 : Fr .f32 0 (some 0) := Fr.const (by decide +kernel) (by decide)
  cases ff : fin .f32 x
  all_goals
    go_enter Try.func47, Try.ntmps47
    go_wp2_with (first | (go_at_call 43; refine (Finite.spec_finite _ _ (by assumption)).mono ?_; rintro e w' ⟨n, rfl, rfl⟩) | (refine Fl.wpList_cmp rfl rfl rfl rfl rfl (by assumption) (by assumption) ?_))
    go_ret
    exact ⟨by first | rfl | simp, by (repeat' first | exact Below.refl _ _ | (refine Below.setCell ?_ (by first | omega | (simp; omega) | simp) _) | (refine below_drewN ?_ _) | (refine Below.alloc ?_ (by first | omega | (simp; omega) | simp) _) | (refine Below.trans ?_ (Below.mono (by assumption) (by first | omega | (simp; omega) | simp))))⟩

theorem impl_checked (r : Nat) (c : Option Nat) (w : World) (f : Fr .f32 r c) : Calls Try.prog 56 #[.float .f32 r] w (RetFB (if finC c then c else some 0) (finC c) w) := by
  have hr : r < 4294967296 := f.2
  have e := fin_cl f
  rw [← e]
  clear e
  have z0 : Fr .f32 0 (some 0) := Fr.const (by decide +kernel) (by decide)
  cases ff : fin .f32 r
  all_goals
    go_enter Try.func56, Try.ntmps56
    go_wp2_with (first | (go_at_call 30; refine (Finite.impl_finite _ _ (by assumption)).mono ?_; rintro e w' ⟨rfl, rfl⟩))
    go_ret2
    exact ⟨_, rfl, by first | exact z0 | exact f, by (repeat' first | exact Below.refl _ _ | (refine Below.setCell ?_ (by first | omega | (simp; omega) | simp) _) | (refine below_drewN ?_ _) | (refine Below.alloc ?_ (by first | omega | (simp; omega) | simp) _) | (refine Below.trans ?_ (Below.mono (by assumption) (by first | omega | (simp; omega) | simp))))⟩

theorem spec_checked (r : Nat) (c : Option Nat) (w : World) (f : Fr .f32 r c) : Calls Try.prog 53 #[.float .f32 r] w (RetFB (if finC c then c else some 0) (finC c) w) := by
  have wr : (Lit.float .f32 r).wf = true := wf_of_lt .f32 r f.2
  have e := fin_cl f
  rw [← e]
  clear e
  have z0 : Fr .f32 0 (some 0) := Fr.const (by decide +kernel) (by decide)
  cases ff : fin .f32 r
  all_goals
    go_enter Try.func53, Try.ntmps53
    go_wp2_with (first | (go_at_call 43; refine (Finite.spec_finite _ _ (by assumption)).mono ?_; rintro e w' ⟨n, rfl, rfl⟩))
    go_ret2
    exact ⟨_, rfl, by first | exact z0 | exact f, by (repeat' first | exact Below.refl _ _ | (refine Below.setCell ?_ (by first | omega | (simp; omega) | simp) _) | (refine below_drewN ?_ _) | (refine Below.alloc ?_ (by first | omega | (simp; omega) | simp) _) | (refine Below.trans ?_ (Below.mono (by assumption) (by first | omega | (simp; omega) | simp))))⟩

/-- The rate. -/
abbrev rateC (n : Int) (r s : Option Nat) : Option Nat := op2 .quo .f32 (op2 .mul .f32 s (cl .f32 (floatOfInt .f32 (n - 1)))) (op2 .mul .f32 (op2 .mul .f32 (some 1117645287) r) r)

theorem impl_bad (n : Int) (x y : Nat) (w : World) (hx : x < 4294967296) (h : (decide (1 ≤ n) && decide (n ≤ 32) && (fin .f32 x && cmpC .gtr (ord .f32 (cl .f32 x) (some 0)))) = false) : Calls Try.prog 26 #[.int .i64 n, .float .f32 x, .float .f32 y] w (RetFB (some 0) false w) := by
  have HP := Lib.hid (fun w => impl_polygon n x w hx)
  rw [h] at HP
  clear h
  have z0 : Fr .f32 0 (some 0) := Fr.const (by decide +kernel) (by decide)
  go_enter Try.func26, Try.ntmps26
  go_wp2_with (first | (go_at_call 54; refine (HP.out _).mono ?_; rintro e w' ⟨rfl, hb⟩; have hz := hb.size; try simp only [World.size_alloc, World.size_setCell, World.heap_drewN, World.size_drew] at hz; obtain ⟨hc, hf⟩ := Fl.bcell hb; try (have g : w.heap.size < w'.heap.size := by omega); try (have g : w.heap.size ≤ w'.heap.size := by omega)))
  go_ret2
  exact ⟨_, rfl, z0, by (repeat' first | exact Below.refl _ _ | (refine Below.setCell ?_ (by first | omega | (simp; omega) | simp) _) | (refine below_drewN ?_ _) | (refine Below.alloc ?_ (by first | omega | (simp; omega) | simp) _) | (refine Below.trans ?_ (Below.mono (by assumption) (by first | omega | (simp; omega) | simp))))⟩

theorem impl_good (n : Int) (x y : Nat) (w : World) (hx : x < 4294967296) (hy : y < 4294967296) (h1 : 1 ≤ n) (h2 : n ≤ 32) (h : (decide (1 ≤ n) && decide (n ≤ 32) && (fin .f32 x && cmpC .gtr (ord .f32 (cl .f32 x) (some 0)))) = true) (R : Option Nat) (B : Bool) (hR : (if finC (rateC n (cl .f32 x) (cl .f32 y)) then rateC n (cl .f32 x) (cl .f32 y) else some 0) = R) (hB : finC (rateC n (cl .f32 x) (cl .f32 y)) = B) :
    Calls Try.prog 26 #[.int .i64 n, .float .f32 x, .float .f32 y] w (RetFB R B w) := by
  have HP := Lib.hid (fun w => impl_polygon n x w hx)
  rw [h] at HP
  clear h
  have fx : Fr .f32 x (cl .f32 x) := ⟨rfl, hx⟩
  have fy : Fr .f32 y (cl .f32 y) := ⟨rfl, hy⟩
  have hc := fun r w f => impl_checked r (rateC n (cl .f32 x) (cl .f32 y)) w f
  rw [hR, hB] at hc
  clear hR hB
  have HC := Lib.hid hc
  clear hc
  have fk : Fr .f32 1117645287 (some 1117645287) := Fr.const (by decide +kernel) (by decide)
  have fn : Fr .f32 (floatOfInt .f32 (n - 1)) (cl .f32 (floatOfInt .f32 (n - 1))) := ⟨rfl, by unfold floatOfInt FloatKind.nearest; exact FloatKind.f32.format.write_lt _⟩
  go_enter Try.func26, Try.ntmps26
  go_wp2_with (first | (go_at_call 54; refine (HP.out _).mono ?_; rintro e w' ⟨rfl, hb⟩; have hz := hb.size; try simp only [World.size_alloc, World.size_setCell, World.heap_drewN, World.size_drew] at hz; obtain ⟨hc, hf⟩ := Fl.bcell hb; try (have g : w.heap.size < w'.heap.size := by omega); try (have g : w.heap.size ≤ w'.heap.size := by omega)) | (go_at_call 55; refine (product_run _ _ _ _ _ (by assumption) (by assumption)).mono ?_; rintro e w' ⟨r, rfl, hr, hb⟩; have hz := hb.size; try simp only [World.size_alloc, World.size_setCell, World.heap_drewN, World.size_drew] at hz; obtain ⟨hc, hf⟩ := Fl.bcell hb; try (have g : w.heap.size < w'.heap.size := by omega); try (have g : w.heap.size ≤ w'.heap.size := by omega)) | (go_at_call 56; refine (HC.out _ _ (by assumption)).mono ?_; rintro e w' ⟨q, rfl, hq, hb⟩) | (refine Fl.wpList_fl rfl rfl rfl rfl rfl (by assumption) (by assumption) ?_; intro r n hr))
  go_ret2
  exact ⟨_, rfl, by assumption, by (repeat' first | exact Below.refl _ _ | (refine Below.setCell ?_ (by first | omega | (simp; omega) | simp) _) | (refine below_drewN ?_ _) | (refine Below.alloc ?_ (by first | omega | (simp; omega) | simp) _) | (refine Below.trans ?_ (Below.mono (by assumption) (by first | omega | (simp; omega) | simp))))⟩

theorem spec_bad (n : Int) (x y : Nat) (w : World) (wx : (Lit.float .f32 x).wf = true) (wy : (Lit.float .f32 y).wf = true) (A B F : Bool) (hA : (decide (1 ≤ n) && decide (n ≤ 32)) = A) (hB : (fin .f32 x && cmpC .gtr (ord .f32 (cl .f32 x) (some 0))) = B) (hF : fin .f32 y = F) (h : (A && B && F) = false) : Calls Try.prog 25 #[.int .i64 n, .float .f32 x, .float .f32 y] w (RetFB (some 0) false w) := by
  have HI := Lib.hid (fun w => spec_in n w)
  have HA := Lib.hid (fun w => spec_above x w wx)
  rw [hA] at HI
  rw [hB] at HA
  clear hA hB
  have z0 : Fr .f32 0 (some 0) := Fr.const (by decide +kernel) (by decide)
  cases A
  all_goals cases B
  all_goals cases F
  all_goals (first | (cases h; done) | clear h)
  all_goals
    go_enter Try.func25, Try.ntmps25
    go_wp2_with (first | (go_at_call 52; refine (HI.out _).mono ?_; rintro e w' ⟨rfl, hb⟩; have hz := hb.size; try simp only [World.size_alloc, World.size_setCell, World.heap_drewN, World.size_drew] at hz; obtain ⟨hc, hf⟩ := Fl.bcell hb; try (have g : w.heap.size < w'.heap.size := by omega); try (have g : w.heap.size ≤ w'.heap.size := by omega)) | (go_at_call 47; refine (HA.out _).mono ?_; rintro e w' ⟨rfl, hb⟩; have hz := hb.size; try simp only [World.size_alloc, World.size_setCell, World.heap_drewN, World.size_drew] at hz; obtain ⟨hc, hf⟩ := Fl.bcell hb; try (have g : w.heap.size < w'.heap.size := by omega); try (have g : w.heap.size ≤ w'.heap.size := by omega)) | (go_at_call 43; refine (Finite.spec_finite _ _ (by assumption)).mono ?_; rintro e w' ⟨n, rfl, rfl⟩))
    go_ret2
    exact ⟨_, rfl, z0, by (repeat' first | exact Below.refl _ _ | (refine Below.setCell ?_ (by first | omega | (simp; omega) | simp) _) | (refine below_drewN ?_ _) | (refine Below.alloc ?_ (by first | omega | (simp; omega) | simp) _) | (refine Below.trans ?_ (Below.mono (by assumption) (by first | omega | (simp; omega) | simp))))⟩

theorem spec_good (n : Int) (x y : Nat) (w : World) (wx : (Lit.float .f32 x).wf = true) (wy : (Lit.float .f32 y).wf = true) (h1 : 1 ≤ n) (h2 : n ≤ 32) (h : (decide (1 ≤ n) && decide (n ≤ 32)) = true) (h' : (fin .f32 x && cmpC .gtr (ord .f32 (cl .f32 x) (some 0))) = true) (ff : fin .f32 y = true) (R : Option Nat) (B : Bool) (hR : (if finC (rateC n (cl .f32 x) (cl .f32 y)) then rateC n (cl .f32 x) (cl .f32 y) else some 0) = R) (hB : finC (rateC n (cl .f32 x) (cl .f32 y)) = B) :
    Calls Try.prog 25 #[.int .i64 n, .float .f32 x, .float .f32 y] w (RetFB R B w) := by
  have HI := Lib.hid (fun w => spec_in n w)
  have HA := Lib.hid (fun w => spec_above x w wx)
  rw [h] at HI
  rw [h'] at HA
  clear h h'
  have fx : Fr .f32 x (cl .f32 x) := ⟨rfl, Fl.lt32 wx⟩
  have fy : Fr .f32 y (cl .f32 y) := ⟨rfl, Fl.lt32 wy⟩
  have hc := fun r w f => spec_checked r (rateC n (cl .f32 x) (cl .f32 y)) w f
  rw [hR, hB] at hc
  clear hR hB
  have HC := Lib.hid hc
  clear hc
  have fk : Fr .f32 1117645287 (some 1117645287) := Fr.const (by decide +kernel) (by decide)
  have fn : Fr .f32 (floatOfInt .f32 (n - 1)) (cl .f32 (floatOfInt .f32 (n - 1))) := ⟨rfl, by unfold floatOfInt FloatKind.nearest; exact FloatKind.f32.format.write_lt _⟩
  go_enter Try.func25, Try.ntmps25
  go_wp2_with (first | (go_at_call 52; refine (HI.out _).mono ?_; rintro e w' ⟨rfl, hb⟩; have hz := hb.size; try simp only [World.size_alloc, World.size_setCell, World.heap_drewN, World.size_drew] at hz; obtain ⟨hc, hf⟩ := Fl.bcell hb; try (have g : w.heap.size < w'.heap.size := by omega); try (have g : w.heap.size ≤ w'.heap.size := by omega)) | (go_at_call 47; refine (HA.out _).mono ?_; rintro e w' ⟨rfl, hb⟩; have hz := hb.size; try simp only [World.size_alloc, World.size_setCell, World.heap_drewN, World.size_drew] at hz; obtain ⟨hc, hf⟩ := Fl.bcell hb; try (have g : w.heap.size < w'.heap.size := by omega); try (have g : w.heap.size ≤ w'.heap.size := by omega)) | (go_at_call 43; refine (Finite.spec_finite _ _ (by assumption)).mono ?_; rintro e w' ⟨n, rfl, rfl⟩) | (go_at_call 53; refine (HC.out _ _ (by assumption)).mono ?_; rintro e w' ⟨q, rfl, hq, hb⟩) | (refine Fl.wpList_fl rfl rfl rfl rfl rfl (by assumption) (by assumption) ?_; intro r n hr))
  go_ret2
  exact ⟨_, rfl, by assumption, by (repeat' first | exact Below.refl _ _ | (refine Below.setCell ?_ (by first | omega | (simp; omega) | simp) _) | (refine below_drewN ?_ _) | (refine Below.alloc ?_ (by first | omega | (simp; omega) | simp) _) | (refine Below.trans ?_ (Below.mono (by assumption) (by first | omega | (simp; omega) | simp))))⟩

theorem inf_enc (s : Bool) : FloatKind.f32.decode (FloatKind.f32.encode (.infinity s)) = .infinity s := by cases s <;> decide +kernel

theorem not_fin_of {c : Option Nat} (h : c = none ∨ ∃ s, c = some (FloatKind.f32.encode (.infinity s))) : finC c = false := by
  rcases h with rfl | ⟨s, rfl⟩
  · rfl
  · show fin .f32 _ = false
    cases s <;> decide +kernel

/-- Of a number that is not finite, a product and a quotient are not finite. -/
theorem mul_inf {c : Option Nat} {s : Bool} (d : Option Nat) (h : c = some (FloatKind.f32.encode (.infinity s))) : op2 .mul .f32 c d = none ∨ ∃ s, op2 .mul .f32 c d = some (FloatKind.f32.encode (.infinity s)) := by
  subst h
  cases d with
  | none => exact .inl rfl
  | some b =>
    show floatBits .mul .f32 _ b = none ∨ ∃ s, floatBits .mul .f32 _ b = _
    have e : ∀ r, floatBits .mul .f32 (FloatKind.f32.encode (.infinity s)) b = r ↔ ((FloatKind.f32.decode (FloatKind.f32.encode (.infinity s))).product (FloatKind.f32.decode b)).map FloatKind.f32.encode = r := fun r => Iff.rfl
    simp only [e, inf_enc]
    cases FloatKind.f32.decode b with
    | nan => exact .inl rfl
    | infinity t => exact .inr ⟨_, rfl⟩
    | number t n j =>
      by_cases hn : n = 0
      · subst hn; exact .inl rfl
      · simp only [Ieee.Datum.product, if_neg hn]; exact .inr ⟨_, rfl⟩

theorem quo_inf {c : Option Nat} {s : Bool} (d : Option Nat) (h : c = some (FloatKind.f32.encode (.infinity s))) : op2 .quo .f32 c d = none ∨ ∃ s, op2 .quo .f32 c d = some (FloatKind.f32.encode (.infinity s)) := by
  subst h
  cases d with
  | none => exact .inl rfl
  | some b =>
    show floatBits .quo .f32 _ b = none ∨ ∃ s, floatBits .quo .f32 _ b = _
    have e : ∀ r, floatBits .quo .f32 (FloatKind.f32.encode (.infinity s)) b = r ↔ ((FloatKind.f32.decode (FloatKind.f32.encode (.infinity s))).quotient (FloatKind.f32.format.fractionBits + 2) (FloatKind.f32.decode b)).map FloatKind.f32.encode = r := fun r => Iff.rfl
    simp only [e, inf_enc]
    cases FloatKind.f32.decode b with
    | nan => exact .inl rfl
    | infinity t => exact .inl rfl
    | number t n j => exact .inr ⟨_, rfl⟩

theorem inf_cl {y : Nat} (hy : y < 4294967296) (h : fin .f32 y = false) : cl .f32 y = none ∨ ∃ s, cl .f32 y = some (FloatKind.f32.encode (.infinity s)) := by
  rcases decode_inf h with ⟨s, hd⟩ | ⟨s, u, hd⟩
  · have hc : cl .f32 y = some y := cl_some_iff.2 (by rw [hd]; rfl)
    refine .inr ⟨s, ?_⟩
    rw [hc]
    change Ieee.single.read y = _ at hd
    unfold Ieee.Format.read at hd
    simp only [show Ieee.single.signWeight = 2147483648 from by decide, show Ieee.single.binade = 8388608 from by decide, show Ieee.single.infRung = 2139095040 from by decide] at hd
    split at hd
    · cases hd
    · split at hd
      · cases hd
      · split at hd
        · next h3 =>
          cases hd
          have e1 : FloatKind.f32.encode (.infinity true) = 4286578688 := by decide +kernel
          have e2 : FloatKind.f32.encode (.infinity false) = 2139095040 := by decide +kernel
          by_cases hs : y / 2147483648 % 2 = 1
          · rw [hs, beq_self_eq_true, e1]; congr 1; omega
          · have e3 : (y / 2147483648 % 2 == 1) = false := by simpa using hs
            rw [e3, e2]; congr 1; omega
        · cases hd
  · exact .inl (cl_none_iff.2 (by rw [hd]; rfl))

theorem rate_inf {n : Int} {r : Option Nat} {y : Nat} (hy : y < 4294967296) (h : fin .f32 y = false) : finC (rateC n r (cl .f32 y)) = false := by
  refine not_fin_of ?_
  unfold rateC
  rcases inf_cl hy h with h | ⟨s, h⟩
  · rw [h]; exact .inl rfl
  · rcases mul_inf (cl .f32 (floatOfInt .f32 (n - 1))) h with h2 | ⟨s2, h2⟩
    · rw [h2]; exact .inl rfl
    · exact quo_inf _ h2

theorem both (n : Int) (x y : Nat) (wx : (Lit.float .f32 x).wf = true) (wy : (Lit.float .f32 y).wf = true) : ∃ R B, (∀ w, Calls Try.prog 25 #[.int .i64 n, .float .f32 x, .float .f32 y] w (RetFB R B w)) ∧ (∀ w, Calls Try.prog 26 #[.int .i64 n, .float .f32 x, .float .f32 y] w (RetFB R B w)) := by
  have hx := Fl.lt32 wx
  have hy := Fl.lt32 wy
  cases h1 : (decide (1 ≤ n) && decide (n ≤ 32))
  · exact ⟨some 0, false, fun w => spec_bad n x y w wx wy _ _ _ h1 rfl rfl rfl, fun w => impl_bad n x y w hx (by rw [h1]; rfl)⟩
  · cases h2 : (fin .f32 x && cmpC .gtr (ord .f32 (cl .f32 x) (some 0)))
    · exact ⟨some 0, false, fun w => spec_bad n x y w wx wy _ _ _ h1 h2 rfl rfl, fun w => impl_bad n x y w hx (by rw [h1, h2]; rfl)⟩
    · have hn : 1 ≤ n ∧ n ≤ 32 := by simpa using h1
      have hi := fun w => impl_good n x y w hx hy hn.1 hn.2 (by rw [h1, h2]; rfl) _ _ rfl rfl
      cases ff : fin .f32 y
      · rw [rate_inf hy ff] at hi
        simp only [Bool.false_eq_true, if_false] at hi
        exact ⟨some 0, false, fun w => spec_bad n x y w wx wy _ _ _ h1 h2 ff rfl, hi⟩
      · exact ⟨_, _, fun w => spec_good n x y w wx wy hn.1 hn.2 h1 h2 ff _ _ rfl rfl, hi⟩
end Rate
end Go.Proofs.Ytaacneppnpognaa
