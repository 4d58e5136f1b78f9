/- A point of the unit circle: the program's function and the model's. -/
import Derived.Test.YtpmnjbgfdhhomaaQuart
import Derived.Test.YtpmnjbgfdhhomaaCplx
import Derived.Test.YtpmnjbgfdhhomaaSineB
namespace Go.Proofs.Ytpmnjbgfdhhomaa
set_option linter.unusedSimpArgs false
set_option linter.unusedVariables false
open Go.RowKit
namespace Turn
open Fl Flat

/-- The sine of a number of turns, as a class. -/
def sineF (c : Option Nat) : Option Nat :=
  partSine (cmpC .geq (ord .f64 (partC (cmpC .lss (ord .f64 (rawC c) (some 0))) c) half)) (cmpC .gtr (ord .f64 (lowC (cmpC .geq (ord .f64 (partC (cmpC .lss (ord .f64 (rawC c) (some 0))) c) half)) (partC (cmpC .lss (ord .f64 (rawC c) (some 0))) c)) quarter)) (partC (cmpC .lss (ord .f64 (rawC c) (some 0))) c)

theorem sineF_bd {c : Option Nat} (h : Bd 52 c) : Bd 110 (sineF c) := sine_bd (part_bd h _) _ _

theorem sineF_run {c : Option Nat} (h : Bd 51 c) : (∀ x w, Fr .f64 x c → Calls Try.prog 55 #[.float .f64 x] w (RetF .f64 (sineF c) w)) ∧ (∀ x w, Fr .f64 x c → Calls Try.prog 72 #[.float .f64 x] w (RetF .f64 (sineF c) w)) := by
  have hB := h.mono (show (51 : Int) ≤ 52 by omega)
  obtain ⟨b, rfl, k51⟩ := h
  have k := k51.mono (show (51 : Int) ≤ 52 by omega)
  obtain ⟨s, m, p, hd⟩ := k.isNum
  have hn := (whole_ok k).1
  have hv := val_of_cl (decode_at hd) k51
  obtain ⟨t1, t2, t3⟩ := big_tests hd
  have h0 : cmpC .neq (ord .f64 (op2 .sub .f64 (some b) (some b)) (some 0)) = false := by rw [fin_sub hd]; decide +kernel
  have e51 : ((51 : Int) + 1074).toNat = 1125 := rfl
  have e2 : 2 ^ 1126 = 2 * 2 ^ 1125 := by decide +kernel
  have hp := Nat.two_pow_pos 1125
  rw [e51] at hv
  have g1 : cmpC .geq (ord .f64 (some b) (some 4841369599423283200)) = false := by
    rw [t1, e2]
    refine decide_eq_false ?_
    generalize val (FloatKind.f64.decode b) = V at *
    generalize 2 ^ 1125 = K at *
    omega
  have g2 : cmpC .leq (ord .f64 (some b) (some 14064741636278059008)) = false := by
    rw [t2, e2]
    refine decide_eq_false ?_
    generalize val (FloatKind.f64.decode b) = V at *
    generalize 2 ^ 1125 = K at *
    omega
  clear t1 t2 t3
  have sb : ∀ neg below high, Bd 110 (endC (backC high (lowC below (partC neg (some b))))) := fun neg below high => end_bd (back_bd (low_bd (part_bd hB neg) below) high)
  constructor
  · intro x w f
    have hx' := eq_of_some f
    subst hx'
    exact impl_sine _ _ w f hn _ _ _ rfl rfl rfl (sb _ _ _)
  · intro x w f
    have hx' := eq_of_some f
    subst hx'
    exact spec_sine _ _ w f hn _ _ _ h0 g1 g2 rfl rfl rfl (sb _ _ _)

theorem impl_sineF (x : Nat) (c : Option Nat) (w : World) (f : Fr .f64 x c) (h : Bd 51 c) : Calls Try.prog 55 #[.float .f64 x] w (RetF .f64 (sineF c) w) := (sineF_run h).1 x w f
theorem spec_sineF (x : Nat) (c : Option Nat) (w : World) (f : Fr .f64 x c) (h : Bd 51 c) : Calls Try.prog 72 #[.float .f64 x] w (RetF .f64 (sineF c) w) := (sineF_run h).2 x w f

theorem impl_nc (x y : Nat) (c d : Option Nat) (w : World) (fx : Fr .f64 x c) (fy : Fr .f64 y d) (h1 : Fits .f64 .f32 c) (h2 : Fits .f64 .f32 d) : Calls Try.prog 56 #[.complex .f64 x y] w (RetC .f32 (convC .f64 .f32 c) (convC .f64 .f32 d) w) := by
  have HF1 := Lib.hid h1
  have HF2 := Lib.hid h2
  clear h1 h2
  go_enter Try.func56, Try.ntmps56
  go_wp2_with (first | (go_at_call 58; refine (Root.impl_narrow _ _ _ (by assumption) (by first | exact HF1.out | exact HF2.out)).mono ?_; rintro e w' ⟨r, rfl, hr, hb⟩; have hz := hb.size; try simp only [World.size_alloc, World.size_setCell, World.heap_drewN, World.size_drew] at hz; obtain ⟨hc, hf⟩ := Fl.bcell hb; try (have g : w.heap.size < w'.heap.size := by omega); try (have g : w.heap.size ≤ w'.heap.size := by omega)))
  go_ret
  exact ⟨_, _, rfl, by assumption, by assumption, by (repeat' first | exact Below.refl _ _ | (refine Below.setCell ?_ (by first | omega | (simp; omega) | simp) _) | (refine below_drewN ?_ _) | (refine Below.alloc ?_ (by first | omega | (simp; omega) | simp) _) | (refine Below.trans ?_ (Below.mono (by assumption) (by first | omega | (simp; omega) | simp))))⟩

theorem abs_raw (x : Nat) (w : World) (hx : x < 18446744073709551616) : Calls Try.prog 53 #[.float .f64 x] w (RetD (.float .f64 (x % 9223372036854775808)) w) := by
  have hb := float64bits_run x
  have hf := float64frombits_run
  have ha := abs_bits x hx
  clear hx
  go_enter Try.func53, Try.ntmps53
  go_wp2
  go_ret
  exact ⟨rfl, Below.refl _ _⟩

theorem isnan_run (x : Nat) (c : Option Nat) (w : World) (f : Fr .f64 x c) : Calls Try.prog 50 #[.float .f64 x] w (RetD (.bool (cmpC .neq (ord .f64 c c))) w) := by
  go_enter Try.func50, Try.ntmps50
  go_wp2_with (first | (refine Fl.wpList_cmp rfl rfl rfl rfl rfl (by assumption) (by assumption) ?_))
  go_ret
  exact ⟨rfl, by (repeat' first | exact Below.refl _ _ | (refine Below.setCell ?_ (by first | omega | (simp; omega) | simp) _) | (refine below_drewN ?_ _) | (refine Below.alloc ?_ (by first | omega | (simp; omega) | simp) _) | (refine Below.trans ?_ (Below.mono (by assumption) (by first | omega | (simp; omega) | simp))))⟩

theorem isinf_zero (x : Nat) (w : World) (hx : x < 18446744073709551616) (c : Option Nat) (fc : Fr .f64 (x % 9223372036854775808) c) (big : Bool) (h : cmpC .gtr (ord .f64 c (some 9218868437227405311)) = big) : Calls Try.prog 51 #[.float .f64 x, .int .i64 0] w (RetD (.bool big) w) := by
  have fm : Fr .f64 9218868437227405311 (some 9218868437227405311) := Fr.const (by decide +kernel) (by decide)
  go_enter Try.func51, Try.ntmps51
  go_wp2_with (first | (go_at_call 53; refine (abs_raw _ _ hx).mono ?_; rintro e w' ⟨rfl, hb⟩; have hz := hb.size; try simp only [World.size_alloc, World.size_setCell, World.heap_drewN, World.size_drew] at hz; obtain ⟨hc, hf⟩ := Fl.bcell hb; try (have g : w.heap.size < w'.heap.size := by omega); try (have g : w.heap.size ≤ w'.heap.size := by omega)) | (refine Fl.wpList_cmp rfl rfl rfl rfl rfl (by assumption) (by assumption) ?_))
  go_ret
  exact ⟨by first | rfl | rw [h], by (repeat' first | exact Below.refl _ _ | (refine Below.setCell ?_ (by first | omega | (simp; omega) | simp) _) | (refine below_drewN ?_ _) | (refine Below.alloc ?_ (by first | omega | (simp; omega) | simp) _) | (refine Below.trans ?_ (Below.mono (by assumption) (by first | omega | (simp; omega) | simp))))⟩

theorem impl_pnan (x : Nat) (c : Option Nat) (w : World) (f : Fr .f64 x c) (nan : Bool) (h1 : cmpC .neq (ord .f64 c c) = nan) (hi : nan = false → ∀ w, Calls Try.prog 51 #[.float .f64 x, .int .i64 0] w (RetD (.bool true) w)) :
    Calls Try.prog 21 #[.float .f64 x] w (RetC .f32 none none w) := by
  have hn : Fr .f32 2143289344 none := ⟨by decide +kernel, by decide⟩
  have hb := Bits.frombits_run 2143289344
  have hnan : ∀ w, Calls Try.prog 52 #[] w (RetF .f32 none w) := by
    intro w
    go_enter Try.func52, Try.ntmps52
    go_wp2
    go_ret
    exact ⟨_, rfl, hn, Below.refl _ _⟩
  have HN := Lib.hid hnan
  clear hnan hb hn
  cases nan
  · have HI := Lib.hid (hi rfl)
    clear hi
    go_enter Try.func21, Try.ntmps21
    go_wp2_with (first | (go_at_call 50; refine (isnan_run _ _ _ (by assumption)).mono ?_; rintro e w' ⟨rfl, hb⟩; try simp only [h1]; have hz := hb.size; try simp only [World.size_alloc, World.size_setCell, World.heap_drewN, World.size_drew] at hz; obtain ⟨hc, hf⟩ := Fl.bcell hb; try (have g : w.heap.size < w'.heap.size := by omega); try (have g : w.heap.size ≤ w'.heap.size := by omega)) | (go_at_call 51; refine (HI.out _).mono ?_; rintro e w' ⟨rfl, hb⟩; have hz := hb.size; try simp only [World.size_alloc, World.size_setCell, World.heap_drewN, World.size_drew] at hz; obtain ⟨hc, hf⟩ := Fl.bcell hb; try (have g : w.heap.size < w'.heap.size := by omega); try (have g : w.heap.size ≤ w'.heap.size := by omega)) | (go_at_call 52; refine (HN.out _).mono ?_; rintro e w' ⟨r, rfl, hr, hb⟩; have hz := hb.size; try simp only [World.size_alloc, World.size_setCell, World.heap_drewN, World.size_drew] at hz; obtain ⟨hc, hf⟩ := Fl.bcell hb; try (have g : w.heap.size < w'.heap.size := by omega); try (have g : w.heap.size ≤ w'.heap.size := by omega)))
    go_ret
    exact ⟨_, _, rfl, by assumption, by assumption, by (repeat' first | exact Below.refl _ _ | (refine Below.setCell ?_ (by first | omega | (simp; omega) | simp) _) | (refine below_drewN ?_ _) | (refine Below.alloc ?_ (by first | omega | (simp; omega) | simp) _) | (refine Below.trans ?_ (Below.mono (by assumption) (by first | omega | (simp; omega) | simp))))⟩
  · clear hi
    go_enter Try.func21, Try.ntmps21
    go_wp2_with (first | (go_at_call 50; refine (isnan_run _ _ _ (by assumption)).mono ?_; rintro e w' ⟨rfl, hb⟩; try simp only [h1]; have hz := hb.size; try simp only [World.size_alloc, World.size_setCell, World.heap_drewN, World.size_drew] at hz; obtain ⟨hc, hf⟩ := Fl.bcell hb; try (have g : w.heap.size < w'.heap.size := by omega); try (have g : w.heap.size ≤ w'.heap.size := by omega)) | (go_at_call 52; refine (HN.out _).mono ?_; rintro e w' ⟨r, rfl, hr, hb⟩; have hz := hb.size; try simp only [World.size_alloc, World.size_setCell, World.heap_drewN, World.size_drew] at hz; obtain ⟨hc, hf⟩ := Fl.bcell hb; try (have g : w.heap.size < w'.heap.size := by omega); try (have g : w.heap.size ≤ w'.heap.size := by omega)))
    go_ret
    exact ⟨_, _, rfl, by assumption, by assumption, by (repeat' first | exact Below.refl _ _ | (refine Below.setCell ?_ (by first | omega | (simp; omega) | simp) _) | (refine below_drewN ?_ _) | (refine Below.alloc ?_ (by first | omega | (simp; omega) | simp) _) | (refine Below.trans ?_ (Below.mono (by assumption) (by first | omega | (simp; omega) | simp))))⟩

theorem spec_pnan (x : Nat) (c : Option Nat) (w : World) (f : Fr .f64 x c) (h0 : cmpC .neq (ord .f64 (op2 .sub .f64 c c) (some 0)) = true) : Calls Try.prog 43 #[.float .f64 x] w (RetC .f32 none none w) := by
  have f0 : Fr .f64 0 (some 0) := Fr.const (by decide +kernel) (by decide)
  have hn : Fr .f32 2143289344 none := ⟨by decide +kernel, by decide⟩
  have hb := Bits.frombits_run 2143289344
  have hnan : ∀ w, Calls Try.prog 71 #[.int .i64 2143289344] w (RetF .f32 none w) := by
    intro w
    go_enter Try.func71, Try.ntmps71
    go_wp2
    go_ret
    exact ⟨_, rfl, hn, Below.refl _ _⟩
  have HN := Lib.hid hnan
  clear hnan hb hn
  go_enter Try.func43, Try.ntmps43
  go_wp2_with (first | (refine Fl.wpList_cmp rfl rfl rfl rfl rfl (by assumption) (by assumption) ?_; try simp only [h0]) | (refine Fl.wpList_fl rfl rfl rfl rfl rfl (by assumption) (by assumption) ?_; intro r n hr) | (go_at_call 71; refine (HN.out _).mono ?_; rintro e w' ⟨r, rfl, hr, hb⟩; have hz := hb.size; try simp only [World.size_alloc, World.size_setCell, World.heap_drewN, World.size_drew] at hz; obtain ⟨hc, hf⟩ := Fl.bcell hb; try (have g : w.heap.size < w'.heap.size := by omega); try (have g : w.heap.size ≤ w'.heap.size := by omega)))
  go_ret
  exact ⟨_, _, rfl, by assumption, by assumption, by (repeat' first | exact Below.refl _ _ | (refine Below.setCell ?_ (by first | omega | (simp; omega) | simp) _) | (refine below_drewN ?_ _) | (refine Below.alloc ?_ (by first | omega | (simp; omega) | simp) _) | (refine Below.trans ?_ (Below.mono (by assumption) (by first | omega | (simp; omega) | simp))))⟩

theorem impl_pbig (x : Nat) (c : Option Nat) (w : World) (f : Fr .f64 x c) (hd : ∃ s m p, FloatKind.f64.decode x = .number s m p) (h1 : cmpC .neq (ord .f64 c c) = false) (hi : ∀ w, Calls Try.prog 51 #[.float .f64 x, .int .i64 0] w (RetD (.bool false) w))
    (ha : cmpC .geq (ord .f64 (c.map fun b => b % 9223372036854775808) (some 4841369599423283200)) = true) : Calls Try.prog 21 #[.float .f64 x] w (RetC .f32 (some 1065353216) (some 0) w) := by
  have z1 : Fr .f32 1065353216 (some 1065353216) := Fr.const (by decide +kernel) (by decide)
  have z0 : Fr .f32 0 (some 0) := Fr.const (by decide +kernel) (by decide)
  have HI := Lib.hid hi
  have HD := Lib.hid hd
  clear hi hd
  have fu : Fr .f64 4841369599423283200 (some 4841369599423283200) := Fr.const (by decide +kernel) (by decide)
  have fd : Fr .f64 14064741636278059008 (some 14064741636278059008) := Fr.const (by decide +kernel) (by decide)
  go_enter Try.func21, Try.ntmps21
  go_wp2_with (first | (go_at_call 50; refine (isnan_run _ _ _ (by assumption)).mono ?_; rintro e w' ⟨rfl, hb⟩; try simp only [h1]; have hz := hb.size; try simp only [World.size_alloc, World.size_setCell, World.heap_drewN, World.size_drew] at hz; obtain ⟨hc, hf⟩ := Fl.bcell hb; try (have g : w.heap.size < w'.heap.size := by omega); try (have g : w.heap.size ≤ w'.heap.size := by omega)) | (go_at_call 51; refine (HI.out _).mono ?_; rintro e w' ⟨rfl, hb⟩; have hz := hb.size; try simp only [World.size_alloc, World.size_setCell, World.heap_drewN, World.size_drew] at hz; obtain ⟨hc, hf⟩ := Fl.bcell hb; try (have g : w.heap.size < w'.heap.size := by omega); try (have g : w.heap.size ≤ w'.heap.size := by omega)) | (go_at_call 53; refine (abs_walk _ _ _ (by assumption) HD.out).mono ?_; rintro e w' ⟨r, rfl, hr, hb⟩; have hz := hb.size; try simp only [World.size_alloc, World.size_setCell, World.heap_drewN, World.size_drew] at hz) | (refine Fl.wpList_cmp rfl rfl rfl rfl rfl (by assumption) (by assumption) ?_; try simp only [ha]))
  go_ret
  exact ⟨_, _, rfl, z1, z0, by (repeat' first | exact Below.refl _ _ | (refine Below.setCell ?_ (by first | omega | (simp; omega) | simp) _) | (refine below_drewN ?_ _) | (refine Below.alloc ?_ (by first | omega | (simp; omega) | simp) _) | (refine Below.trans ?_ (Below.mono (by assumption) (by first | omega | (simp; omega) | simp))))⟩

theorem spec_pbig (x : Nat) (c : Option Nat) (w : World) (f : Fr .f64 x c) (h0 : cmpC .neq (ord .f64 (op2 .sub .f64 c c) (some 0)) = false) (up : Bool) (g1 : cmpC .geq (ord .f64 c (some 4841369599423283200)) = up) (g2 : cmpC .leq (ord .f64 c (some 14064741636278059008)) = !up) :
    Calls Try.prog 43 #[.float .f64 x] w (RetC .f32 (some 1065353216) (some 0) w) := by
  have f0 : Fr .f64 0 (some 0) := Fr.const (by decide +kernel) (by decide)
  have z1 : Fr .f32 1065353216 (some 1065353216) := Fr.const (by decide +kernel) (by decide)
  have z0 : Fr .f32 0 (some 0) := Fr.const (by decide +kernel) (by decide)
  have fu : Fr .f64 4841369599423283200 (some 4841369599423283200) := Fr.const (by decide +kernel) (by decide)
  have fd : Fr .f64 14064741636278059008 (some 14064741636278059008) := Fr.const (by decide +kernel) (by decide)
  cases up
  all_goals simp only [Bool.not_true, Bool.not_false] at g2
  all_goals
    go_enter Try.func43, Try.ntmps43
    go_wp2_with (first | (refine Fl.wpList_cmp rfl rfl rfl rfl rfl (by assumption) (by assumption) ?_; try simp only [h0, g1, g2]) | (refine Fl.wpList_fl rfl rfl rfl rfl rfl (by assumption) (by assumption) ?_; intro r n hr))
    go_ret
    exact ⟨_, _, rfl, z1, z0, by (repeat' first | exact Below.refl _ _ | (refine Below.setCell ?_ (by first | omega | (simp; omega) | simp) _) | (refine below_drewN ?_ _) | (refine Below.alloc ?_ (by first | omega | (simp; omega) | simp) _) | (refine Below.trans ?_ (Below.mono (by assumption) (by first | omega | (simp; omega) | simp))))⟩

/-- The parts of the point, behind K quarters. -/
def reC (K : Nat) (p : Option Nat) : Option Nat :=
  if K = 1 then op2 .sub .f64 (some 0) (sineF p) else if K = 2 then op2 .sub .f64 (some 0) (sineF (op2 .sub .f64 quarter p)) else if K = 3 then sineF p else sineF (op2 .sub .f64 quarter p)
def imC (K : Nat) (p : Option Nat) : Option Nat :=
  if K = 1 then sineF (op2 .sub .f64 quarter p) else if K = 2 then op2 .sub .f64 (some 0) (sineF p) else if K = 3 then op2 .sub .f64 (some 0) (sineF (op2 .sub .f64 quarter p)) else sineF p

theorem zero_bd : Bd 0 (some 0) := ⟨0, rfl, by rw [zero_dec]; exact .inl rfl⟩

set_option maxHeartbeats 8000000 in
theorem impl_pmain (x : Nat) (c : Option Nat) (w : World) (f : Fr .f64 x c) (hd : ∃ s m p, FloatKind.f64.decode x = .number s m p) (h1 : cmpC .neq (ord .f64 c c) = false) (hi : ∀ w, Calls Try.prog 51 #[.float .f64 x, .int .i64 0] w (RetD (.bool false) w))
    (ha : cmpC .geq (ord .f64 (c.map fun b => b % 9223372036854775808) (some 4841369599423283200)) = false) (p : Option Nat) (K : Nat) (hK4 : K ≤ 4) (hcmp : ∀ k, k ≤ K → cmpC .geq (ord .f64 (phC p k) quarter) = decide (k < K)) (hpb : Bd 0 (phC p K)) (hp : ∀ w, Calls Try.prog 54 #[.float .f64 x] w (RetF .f64 p w)) :
    Calls Try.prog 21 #[.float .f64 x] w (RetC .f32 (convC .f64 .f32 (reC K (phC p K))) (convC .f64 .f32 (imC K (phC p K))) w) := by
  have hb2 : Bd 1 (op2 .sub .f64 quarter (phC p K)) := (quarter_bd.sub hpb (by omega) (by omega)).mono (by omega)
  have HB1 := Lib.hid (hpb.mono (show (0 : Int) ≤ 51 by omega))
  have HB2 := Lib.hid (hb2.mono (show (1 : Int) ≤ 51 by omega))
  have s1 := sineF_bd (hb2.mono (show (1 : Int) ≤ 52 by omega))
  have s2 := sineF_bd (hpb.mono (show (0 : Int) ≤ 52 by omega))
  have HFC := Lib.hid (s1.fits (by omega))
  have HFS := Lib.hid (s2.fits (by omega))
  have HF0C := Lib.hid ((zero_bd.sub s1 (by omega) (by omega)).fits (by omega))
  have HF0S := Lib.hid ((zero_bd.sub s2 (by omega) (by omega)).fits (by omega))
  have HC := Lib.hid hcmp
  clear hcmp hpb hb2 s1 s2
  have HI := Lib.hid hi
  have HD := Lib.hid hd
  have HP := Lib.hid hp
  clear hi hd hp
  have f0 : Fr .f64 0 (some 0) := Fr.const (by decide +kernel) (by decide)
  have f1 : Fr .f64 4607182418800017408 one := Fr.const (by decide +kernel) (by decide)
  have fq : Fr .f64 4598175219545276416 quarter := Fr.const (by decide +kernel) (by decide)
  have fu : Fr .f64 4841369599423283200 (some 4841369599423283200) := Fr.const (by decide +kernel) (by decide)
  have fd : Fr .f64 14064741636278059008 (some 14064741636278059008) := Fr.const (by decide +kernel) (by decide)
  go_enter Try.func21, Try.ntmps21
  go_wp2_with (first | (go_at_call 50; refine (isnan_run _ _ _ (by assumption)).mono ?_; rintro e w' ⟨rfl, hb⟩; try simp only [h1]; have hz := hb.size; try simp only [World.size_alloc, World.size_setCell, World.heap_drewN, World.size_drew] at hz; obtain ⟨hc, hf⟩ := Fl.bcell hb; try (have g : w.heap.size < w'.heap.size := by omega); try (have g : w.heap.size ≤ w'.heap.size := by omega)) | (go_at_call 51; refine (HI.out _).mono ?_; rintro e w' ⟨rfl, hb⟩; have hz := hb.size; try simp only [World.size_alloc, World.size_setCell, World.heap_drewN, World.size_drew] at hz; obtain ⟨hc, hf⟩ := Fl.bcell hb; try (have g : w.heap.size < w'.heap.size := by omega); try (have g : w.heap.size ≤ w'.heap.size := by omega)) | (go_at_call 53; refine (abs_walk _ _ _ (by assumption) HD.out).mono ?_; rintro e w' ⟨r, rfl, hr, hb⟩; have hz := hb.size; try simp only [World.size_alloc, World.size_setCell, World.heap_drewN, World.size_drew] at hz) | (refine Fl.wpList_cmp rfl rfl rfl rfl rfl (by assumption) (by assumption) ?_; try simp only [ha]) | (go_at_call 54; refine (HP.out _).mono ?_; rintro e w' ⟨r, rfl, hr, hb⟩; have hz := hb.size; try simp only [World.size_alloc, World.size_setCell, World.heap_drewN, World.size_drew] at hz; obtain ⟨hc, hf⟩ := Fl.bcell hb; try (have g : w.heap.size < w'.heap.size := by omega); try (have g : w.heap.size ≤ w'.heap.size := by omega)))
  go_loopw [3, 4] (fun s i wr => ∃ k r : Nat, k ≤ K ∧ i = .int .i64 k ∧ s = .float .f64 r ∧ Fr .f64 r (phC p k) ∧ Below w.heap.size w wr) (fun _ i _ => K - (intOf i).toNat)
  case atStart => exact ⟨0, _, by omega, rfl, rfl, by first | assumption | exact hr, by (repeat' first | exact Below.refl _ _ | (refine Below.setCell ?_ (by first | omega | (simp; omega) | simp) _) | (refine below_drewN ?_ _) | (refine Below.alloc ?_ (by first | omega | (simp; omega) | simp) _) | (refine Below.trans ?_ (Below.mono (by assumption) (by first | omega | (simp; omega) | simp))))⟩
  case round =>
    obtain ⟨k, r, hk, rfl, rfl, fr, hbel⟩ := hrel
    have h1 := HC.out k hk
    by_cases hlt : k < K
    · rw [decide_eq_true hlt] at h1
      have HB := Lib.hid hbel; clear hbel
      go_wp2_with (first | (refine Fl.wpList_cmp rfl rfl rfl rfl rfl (by assumption) (by assumption) ?_; try simp only [h1]) | (go_at_call 55; refine (impl_sineF _ _ _ (by assumption) (by first | exact HB1.out | exact HB2.out)).mono ?_; rintro e w' ⟨r, rfl, hr, hb⟩; have hz := hb.size; try simp only [World.size_alloc, World.size_setCell, World.heap_drewN, World.size_drew] at hz; obtain ⟨hc, hf⟩ := Fl.bcell hb; try (have g : w.heap.size < w'.heap.size := by omega); try (have g : w.heap.size ≤ w'.heap.size := by omega)) | (go_at_call 56; refine (impl_nc _ _ _ _ _ (by assumption) (by assumption) (by first | exact HFC.out | exact HFS.out | exact HF0C.out | exact HF0S.out) (by first | exact HFC.out | exact HFS.out | exact HF0C.out | exact HF0S.out)).mono ?_; rintro e w' ⟨r, q, rfl, hr, hq, hb⟩; have hz := hb.size; try simp only [World.size_alloc, World.size_setCell, World.heap_drewN, World.size_drew] at hz; obtain ⟨hc, hf⟩ := Fl.bcell hb; try (have g : w.heap.size < w'.heap.size := by omega); try (have g : w.heap.size ≤ w'.heap.size := by omega)) | (refine Fl.wpList_fl rfl rfl rfl rfl rfl (by assumption) (by assumption) ?_; intro r n hr))
      go_roundw
      case rel => exact ⟨k + 1, _, by omega, by go_num, rfl, by assumption, by have hbel := HB.out; have hbz := hbel.size; (repeat' first | exact Below.refl _ _ | (refine Below.setCell ?_ (by first | omega | (simp; omega) | simp) _) | (refine below_drewN ?_ _) | (refine Below.alloc ?_ (by first | omega | (simp; omega) | simp) _) | (refine Below.trans ?_ (Below.mono (by assumption) (by first | omega | (simp; omega) | simp))))⟩
      case measure => simp [intOf]; omega
    · rw [decide_eq_false hlt] at h1
      obtain rfl : K = k := by omega
      have HB := Lib.hid hbel; clear hbel
      have h5 : K = 0 ∨ K = 1 ∨ K = 2 ∨ K = 3 ∨ K = 4 := by omega
      rcases h5 with rfl | rfl | rfl | rfl | rfl
      all_goals
        go_wp2_with (first | (refine Fl.wpList_cmp rfl rfl rfl rfl rfl (by assumption) (by assumption) ?_; try simp only [h1]) | (go_at_call 55; refine (impl_sineF _ _ _ (by assumption) (by first | exact HB1.out | exact HB2.out)).mono ?_; rintro e w' ⟨r, rfl, hr, hb⟩; have hz := hb.size; try simp only [World.size_alloc, World.size_setCell, World.heap_drewN, World.size_drew] at hz; obtain ⟨hc, hf⟩ := Fl.bcell hb; try (have g : w.heap.size < w'.heap.size := by omega); try (have g : w.heap.size ≤ w'.heap.size := by omega)) | (go_at_call 56; refine (impl_nc _ _ _ _ _ (by assumption) (by assumption) (by first | exact HFC.out | exact HFS.out | exact HF0C.out | exact HF0S.out) (by first | exact HFC.out | exact HFS.out | exact HF0C.out | exact HF0S.out)).mono ?_; rintro e w' ⟨r, q, rfl, hr, hq, hb⟩; have hz := hb.size; try simp only [World.size_alloc, World.size_setCell, World.heap_drewN, World.size_drew] at hz; obtain ⟨hc, hf⟩ := Fl.bcell hb; try (have g : w.heap.size < w'.heap.size := by omega); try (have g : w.heap.size ≤ w'.heap.size := by omega)) | (refine Fl.wpList_fl rfl rfl rfl rfl rfl (by assumption) (by assumption) ?_; intro r n hr))
        go_ret
        exact ⟨_, _, rfl, by assumption, by assumption, by have hbel := HB.out; have hbz := hbel.size; (repeat' first | exact Below.refl _ _ | (refine Below.setCell ?_ (by first | omega | (simp; omega) | simp) _) | (refine below_drewN ?_ _) | (refine Below.alloc ?_ (by first | omega | (simp; omega) | simp) _) | (refine Below.trans ?_ (Below.mono (by assumption) (by first | omega | (simp; omega) | simp))))⟩

set_option maxHeartbeats 8000000 in
theorem spec_pmain (x : Nat) (c : Option Nat) (w : World) (f : Fr .f64 x c) (hn : floatToIntVal .f64 x .i64 = some (wholeC c)) (h0 : cmpC .neq (ord .f64 (op2 .sub .f64 c c) (some 0)) = false) (g1 : cmpC .geq (ord .f64 c (some 4841369599423283200)) = false) (g2 : cmpC .leq (ord .f64 c (some 14064741636278059008)) = false)
    (neg : Bool) (hneg : cmpC .lss (ord .f64 (rawC c) (some 0)) = neg) (p : Option Nat) (K : Nat) (hK4 : K ≤ 4) (hcmp : ∀ k, k ≤ K → cmpC .geq (ord .f64 (phC p k) quarter) = decide (k < K)) (hpb : Bd 0 (phC p K)) (hpe : p = partC neg c) :
    Calls Try.prog 43 #[.float .f64 x] w (RetC .f32 (convC .f64 .f32 (reC K (phC p K))) (convC .f64 .f32 (imC K (phC p K))) w) := by
  have hb2 : Bd 1 (op2 .sub .f64 quarter (phC p K)) := (quarter_bd.sub hpb (by omega) (by omega)).mono (by omega)
  have HB1 := Lib.hid (hpb.mono (show (0 : Int) ≤ 51 by omega))
  have HB2 := Lib.hid (hb2.mono (show (1 : Int) ≤ 51 by omega))
  have s1 := sineF_bd (hb2.mono (show (1 : Int) ≤ 52 by omega))
  have s2 := sineF_bd (hpb.mono (show (0 : Int) ≤ 52 by omega))
  have HFC := Lib.hid (s1.fits (by omega))
  have HFS := Lib.hid (s2.fits (by omega))
  have HF0C := Lib.hid ((zero_bd.sub s1 (by omega) (by omega)).fits (by omega))
  have HF0S := Lib.hid ((zero_bd.sub s2 (by omega) (by omega)).fits (by omega))
  have HC := Lib.hid hcmp
  clear hcmp hpb hb2 s1 s2
  have fk0 := intFr (wholeC c)
  unfold rawC at hneg
  have f0 : Fr .f64 0 (some 0) := Fr.const (by decide +kernel) (by decide)
  have f1 : Fr .f64 4607182418800017408 one := Fr.const (by decide +kernel) (by decide)
  have fq : Fr .f64 4598175219545276416 quarter := Fr.const (by decide +kernel) (by decide)
  have fu : Fr .f64 4841369599423283200 (some 4841369599423283200) := Fr.const (by decide +kernel) (by decide)
  have fd : Fr .f64 14064741636278059008 (some 14064741636278059008) := Fr.const (by decide +kernel) (by decide)
  have hpart : ∀ r, Fr .f64 r (partC neg c) → Fr .f64 r (phC p 0) := fun r h => by rw [hpe]; exact h
  have HPE := Lib.hid hpart
  clear hpart hpe
  cases neg
  all_goals
    go_enter Try.func43, Try.ntmps43
    go_wp2_with (first | (refine Fl.wpList_cmp rfl rfl rfl rfl rfl (by assumption) (by assumption) ?_; try simp only [h0, g1, g2, hneg]) | (refine Fl.wpList_fint rfl rfl rfl (by kernel_rfl) Try.underlying2 (by assumption) ?_) | (refine Fl.wpList_fl rfl rfl rfl rfl rfl (by assumption) (by assumption) ?_; intro r n hr))
    go_loopw [3, 4] (fun s i wr => ∃ k r : Nat, k ≤ K ∧ i = .int .i64 k ∧ s = .float .f64 r ∧ Fr .f64 r (phC p k) ∧ Below w.heap.size w wr) (fun _ i _ => K - (intOf i).toNat)
    case atStart => exact ⟨0, _, by omega, rfl, rfl, by first | exact HPE.out _ (by assumption) | exact HPE.out _ hr, by (repeat' first | exact Below.refl _ _ | (refine Below.setCell ?_ (by first | omega | (simp; omega) | simp) _) | (refine below_drewN ?_ _) | (refine Below.alloc ?_ (by first | omega | (simp; omega) | simp) _) | (refine Below.trans ?_ (Below.mono (by assumption) (by first | omega | (simp; omega) | simp))))⟩
    case round =>
      obtain ⟨k, r, hk, rfl, rfl, fr, hbel⟩ := hrel
      have h1 := HC.out k hk
      by_cases hlt : k < K
      · rw [decide_eq_true hlt] at h1
        have HB := Lib.hid hbel; clear hbel
        go_wp2_with (first | (refine Fl.wpList_cmp rfl rfl rfl rfl rfl (by assumption) (by assumption) ?_; try simp only [h1]) | (go_at_call 72; refine (spec_sineF _ _ _ (by assumption) (by first | exact HB1.out | exact HB2.out)).mono ?_; rintro e w' ⟨r, rfl, hr, hb⟩; have hz := hb.size; try simp only [World.size_alloc, World.size_setCell, World.heap_drewN, World.size_drew] at hz; obtain ⟨hc, hf⟩ := Fl.bcell hb; try (have g : w.heap.size < w'.heap.size := by omega); try (have g : w.heap.size ≤ w'.heap.size := by omega)) | (go_at_call 73; refine (Root.spec_narrow _ _ _ (by assumption) (by first | exact HFC.out | exact HFS.out | exact HF0C.out | exact HF0S.out)).mono ?_; rintro e w' ⟨r, rfl, hr, hb⟩; have hz := hb.size; try simp only [World.size_alloc, World.size_setCell, World.heap_drewN, World.size_drew] at hz; obtain ⟨hc, hf⟩ := Fl.bcell hb; try (have g : w.heap.size < w'.heap.size := by omega); try (have g : w.heap.size ≤ w'.heap.size := by omega)) | (refine Fl.wpList_fl rfl rfl rfl rfl rfl (by assumption) (by assumption) ?_; intro r n hr))
        go_roundw
        case rel => exact ⟨k + 1, _, by omega, by go_num, rfl, by assumption, by have hbel := HB.out; have hbz := hbel.size; (repeat' first | exact Below.refl _ _ | (refine Below.setCell ?_ (by first | omega | (simp; omega) | simp) _) | (refine below_drewN ?_ _) | (refine Below.alloc ?_ (by first | omega | (simp; omega) | simp) _) | (refine Below.trans ?_ (Below.mono (by assumption) (by first | omega | (simp; omega) | simp))))⟩
        case measure => simp [intOf]; omega
      · rw [decide_eq_false hlt] at h1
        obtain rfl : K = k := by omega
        have HB := Lib.hid hbel; clear hbel
        have h5 : K = 0 ∨ K = 1 ∨ K = 2 ∨ K = 3 ∨ K = 4 := by omega
        rcases h5 with rfl | rfl | rfl | rfl | rfl
        all_goals
          go_wp2_with (first | (refine Fl.wpList_cmp rfl rfl rfl rfl rfl (by assumption) (by assumption) ?_; try simp only [h1]) | (go_at_call 72; refine (spec_sineF _ _ _ (by assumption) (by first | exact HB1.out | exact HB2.out)).mono ?_; rintro e w' ⟨r, rfl, hr, hb⟩; have hz := hb.size; try simp only [World.size_alloc, World.size_setCell, World.heap_drewN, World.size_drew] at hz; obtain ⟨hc, hf⟩ := Fl.bcell hb; try (have g : w.heap.size < w'.heap.size := by omega); try (have g : w.heap.size ≤ w'.heap.size := by omega)) | (go_at_call 73; refine (Root.spec_narrow _ _ _ (by assumption) (by first | exact HFC.out | exact HFS.out | exact HF0C.out | exact HF0S.out)).mono ?_; rintro e w' ⟨r, rfl, hr, hb⟩; have hz := hb.size; try simp only [World.size_alloc, World.size_setCell, World.heap_drewN, World.size_drew] at hz; obtain ⟨hc, hf⟩ := Fl.bcell hb; try (have g : w.heap.size < w'.heap.size := by omega); try (have g : w.heap.size ≤ w'.heap.size := by omega)) | (refine Fl.wpList_fl rfl rfl rfl rfl rfl (by assumption) (by assumption) ?_; intro r n hr))
          go_ret
          exact ⟨_, _, rfl, by assumption, by assumption, by have hbel := HB.out; have hbz := hbel.size; (repeat' first | exact Below.refl _ _ | (refine Below.setCell ?_ (by first | omega | (simp; omega) | simp) _) | (refine below_drewN ?_ _) | (refine Below.alloc ?_ (by first | omega | (simp; omega) | simp) _) | (refine Below.trans ?_ (Below.mono (by assumption) (by first | omega | (simp; omega) | simp))))⟩

end Turn
end Go.Proofs.Ytpmnjbgfdhhomaa
