/- How fast a ring is: the program's function and the model's. -/
import Derived.Test.YtggklnanhiomjabRows
import Derived.Test.YtggklnanhiomjabRate
import Derived.Test.YtggklnanhiomjabLogB
import Derived.Test.YtggklnanhiomjabAbs
namespace Go.Proofs.Ytggklnanhiomjab
set_option linter.unusedSimpArgs false
set_option linter.unusedVariables false
open Go.RowKit
namespace Rs
open Fl Rate

open Log Flat in
theorem log_both (x : Nat) (hx : x < 4294967296) : ∃ R, (∀ w, Calls Try.prog 62 #[.float .f32 x] w (RetF .f32 R w)) ∧ (∀ w, Calls Try.prog 65 #[.float .f32 x] w (RetF .f32 R w)) := by
  cases hd : FloatKind.f32.decode x with
  | nan s u =>
    have hc : cl .f32 x = none := cl_none_iff.2 (by rw [hd]; rfl)
    exact ⟨none, fun w => spec_log32 x none w Fits.none hx fun x' w f => spec_nan x' _ w f true (by rw [hc]; rfl) (by rw [hc]; rfl), fun w => impl_none x w hx (by rw [hc]; rfl) (by rw [hc]; rfl)⟩
  | infinity s =>
    have hc : cl .f32 x = some x := cl_some_iff.2 (by rw [hd]; rfl)
    have hw := inf_word hx hd
    cases s
    · simp only [Bool.false_eq_true, if_false] at hw
      subst hw
      refine ⟨some 2139095040, fun w => ?_, fun w => ?_⟩
      · have h := spec_log32 2139095040 (some 9218868437227405312) w (.inr fun b hb _ => by cases hb; decide +kernel) hx fun x' w f => by
          have e : convC .f32 .f64 (cl .f32 2139095040) = some 9218868437227405312 := by decide +kernel
          rw [e] at f
          exact spec_inf x' _ w f (by decide +kernel) (by decide +kernel) (by decide +kernel) (by decide +kernel)
        have e : convC .f64 .f32 (some 9218868437227405312) = some 2139095040 := by decide +kernel
        rw [e] at h
        exact h
      · have h := impl_inf 2139095040 w hx (by decide +kernel) (by decide +kernel) (by decide +kernel)
        rw [hc] at h
        exact h
    · simp only [if_true] at hw
      subst hw
      refine ⟨none, fun w => spec_log32 4286578688 none w Fits.none hx fun x' w f => ?_, fun w => impl_none _ w hx (by decide +kernel) (by decide +kernel)⟩
      have e : convC .f32 .f64 (cl .f32 4286578688) = some 18442240474082181120 := by decide +kernel
      rw [e] at f
      exact spec_nan x' _ w f false (by decide +kernel) (by decide +kernel)
  | number s m p =>
    have hc : cl .f32 x = some x := cl_some_iff.2 (by rw [hd]; rfl)
    obtain ⟨b, m', p', he, hdb, hz⟩ := widen_num hd
    have ff := Turn.fin_of_num hd
    have n1 := Log.eq_self hdb
    have hinf : Fits .f64 .f32 (some 18442240474082181120) := .inr fun b hb _ => by cases hb; decide +kernel
    by_cases hm : m = 0
    · subst hm
      have hm' : m' = 0 := hz.2 rfl
      subst hm'
      refine ⟨_, fun w => spec_log32 x _ w hinf hx fun x' w f => ?_, fun w => impl_zero x w hx (by rw [hc, ord_zero hd]; rfl)⟩
      rw [hc, he] at f
      exact spec_zero x' _ w f n1 (by rw [ord_zero hdb]; rfl) (by rw [ord_zero hdb]; rfl)
    · have hm' : m' ≠ 0 := fun h => hm (hz.1 h)
      cases s
      · obtain ⟨c, D, V, ec, hD, hV, h1, h2, hB, _⟩ := main_facts hd hm
        have e1 : cmpC .eql (ord .f32 (cl .f32 x) (some 0)) = false := by rw [hc, ord_zero hd]; unfold zord; rw [if_neg hm]; rfl
        have e2 : cmpC .gtr (ord .f32 (cl .f32 x) (some 0)) = true := by rw [hc, ord_zero hd]; unfold zord; rw [if_neg hm]; rfl
        refine ⟨_, fun w => spec_log32 x _ w (hB.fits (by omega)) hx fun x' w f => ?_, fun w => impl_main x _ w hx ff e1 e2 (hB.fits (by omega)) fun x' w f => ?_⟩
        · rw [hc, ec] at f
          rw [he] at ec
          subst ec
          exact spec_log x' _ w f D V hD hV h1 h2 n1 (by rw [ord_zero hdb]; unfold zord; rw [if_neg hm']; rfl) (by rw [ord_zero hdb]; unfold zord; rw [if_neg hm']; rfl) (fun w => isinf_pos x' _ w f false (not_max hdb))
        · rw [hc, ec] at f
          exact impl_log x' _ w f D V hD hV h1 h2
      · refine ⟨none, fun w => spec_log32 x none w Fits.none hx fun x' w f => ?_, fun w => impl_none x w hx (by rw [hc, ord_zero hd]; unfold zord; rw [if_neg hm]; rfl) (by rw [hc, ord_zero hd]; unfold zord; rw [if_neg hm]; rfl)⟩
        rw [hc, he] at f
        exact spec_nan x' _ w f false n1 (by rw [ord_zero hdb]; unfold zord; rw [if_neg hm']; rfl)

open Log Flat in
theorem log_fr (c : Option Nat) : ∃ R, (∀ x w, Fr .f32 x c → Calls Try.prog 62 #[.float .f32 x] w (RetF .f32 R w)) ∧ (∀ x w, Fr .f32 x c → Calls Try.prog 65 #[.float .f32 x] w (RetF .f32 R w)) := by
  cases c with
  | none =>
    refine ⟨none, fun x w f => ?_, fun x w f => ?_⟩
    · have hc : cl .f32 x = none := f.1
      exact spec_log32 x none w Fits.none f.2 fun x' w f => spec_nan x' _ w f true (by rw [hc]; rfl) (by rw [hc]; rfl)
    · have hc : cl .f32 x = none := f.1
      exact impl_none x w f.2 (by rw [hc]; rfl) (by rw [hc]; rfl)
  | some b =>
    by_cases hb : b < 4294967296
    · obtain ⟨R, h1, h2⟩ := log_both b hb
      refine ⟨R, fun x w f => ?_, fun x w f => ?_⟩
      · rw [eq_of_some f]; exact h1 w
      · rw [eq_of_some f]; exact h2 w
    · refine ⟨none, fun x w f => ?_, fun x w f => ?_⟩
      · have e := eq_of_some f; have h := f.2; exact absurd (e ▸ h) hb
      · have e := eq_of_some f; have h := f.2; exact absurd (e ▸ h) hb

/-- The argument of the logarithm, and the speed. -/
abbrev thinC (r k : Option Nat) : Option Nat := op2 .quo .f32 (op2 .mul .f32 (some 1090519040) r) k
abbrev speedC (r s L : Option Nat) : Option Nat := op2 .mul .f32 (op2 .quo .f32 s (op2 .mul .f32 (some 1095307227) r)) (op2 .sub .f32 L (some 1048576000))
def isLen (x : Nat) : Bool := fin .f32 x && cmpC .gtr (ord .f32 (cl .f32 x) (some 0))

theorem impl_len (x : Nat) (w : World) (hx : x < 4294967296) : Calls Try.prog 63 #[.float .f32 x] w (RetD (.bool (isLen x)) w) := impl_length x w hx

theorem spec_len (x : Nat) (w : World) (wx : (Lit.float .f32 x).wf = true) : Calls Try.prog 48 #[.float .f32 x] w (RetD (.bool (isLen x)) w) := spec_above x w wx

theorem impl_bad (x y z : Nat) (w : World) (hx : x < 4294967296) (hy : y < 4294967296) (hz : z < 4294967296) (A B F : Bool) (hA : isLen x = A) (hB : isLen y = B) (hF : fin .f32 z = F) (h : (A && B && F) = false) : Calls Try.prog 23 #[.float .f32 x, .float .f32 y, .float .f32 z] w (RetFB (some 0) false w) := by
  have HA := Lib.hid hA
  have HB := Lib.hid hB
  clear hA hB
  have z0 : Fr .f32 0 (some 0) := Fr.const (by decide +kernel) (by decide)
  cases A
  all_goals cases B
  all_goals cases F
  all_goals (first | (cases h; done) | clear h)
  all_goals
    go_enter Try.func23, Try.ntmps23
    go_wp2_with (first | (go_at_call 63; refine (impl_len _ _ (by assumption)).mono ?_; rintro e w' ⟨rfl, hb⟩; (first | rw [HA.out] | rw [HB.out]); have hz := hb.size; try simp only [World.size_alloc, World.size_setCell, World.heap_drewN, World.size_drew] at hz; obtain ⟨hc, hf⟩ := Fl.bcell hb; try (have g : w.heap.size < w'.heap.size := by omega); try (have g : w.heap.size ≤ w'.heap.size := by omega)) | (go_at_call 64; refine (Finite.impl_finite _ _ (by assumption)).mono ?_; rintro e w' ⟨rfl, rfl⟩))
    go_ret2
    exact ⟨_, rfl, z0, by (repeat' first | exact Below.refl _ _ | (refine Below.setCell ?_ (by first | omega | (simp; omega) | simp) _) | (refine below_drewN ?_ _) | (refine Below.alloc ?_ (by first | omega | (simp; omega) | simp) _) | (refine Below.trans ?_ (Below.mono (by assumption) (by first | omega | (simp; omega) | simp))))⟩

theorem impl_good (x y z : Nat) (w : World) (hx : x < 4294967296) (hy : y < 4294967296) (hz : z < 4294967296) (hA : isLen x = true) (hB : isLen y = true) (hF : fin .f32 z = true) (L R : Option Nat) (B : Bool)
    (hL : ∀ x' w, Fr .f32 x' (thinC (cl .f32 x) (cl .f32 y)) → Calls Try.prog 65 #[.float .f32 x'] w (RetF .f32 L w))
    (hR : (if finC (speedC (cl .f32 x) (cl .f32 z) L) then speedC (cl .f32 x) (cl .f32 z) L else some 0) = R) (hB' : finC (speedC (cl .f32 x) (cl .f32 z) L) = B) :
    Calls Try.prog 23 #[.float .f32 x, .float .f32 y, .float .f32 z] w (RetFB R B w) := by
  have HA := Lib.hid hA
  have HB := Lib.hid hB
  clear hA hB
  have fx : Fr .f32 x (cl .f32 x) := ⟨rfl, hx⟩
  have fy : Fr .f32 y (cl .f32 y) := ⟨rfl, hy⟩
  have fz : Fr .f32 z (cl .f32 z) := ⟨rfl, hz⟩
  have HL := Lib.hid hL
  clear hL
  have hc := fun r w f => impl_checked r (speedC (cl .f32 x) (cl .f32 z) L) w f
  rw [hR, hB'] at hc
  clear hR hB'
  have HC := Lib.hid hc
  clear hc
  have fk : Fr .f32 1095307227 (some 1095307227) := Fr.const (by decide +kernel) (by decide)
  have f8 : Fr .f32 1090519040 (some 1090519040) := Fr.const (by decide +kernel) (by decide)
  have f4 : Fr .f32 1048576000 (some 1048576000) := Fr.const (by decide +kernel) (by decide)
  go_enter Try.func23, Try.ntmps23
  go_wp2_with (first | (go_at_call 63; refine (impl_len _ _ (by assumption)).mono ?_; rintro e w' ⟨rfl, hb⟩; (first | rw [HA.out] | rw [HB.out]); have hz := hb.size; try simp only [World.size_alloc, World.size_setCell, World.heap_drewN, World.size_drew] at hz; obtain ⟨hc, hf⟩ := Fl.bcell hb; try (have g : w.heap.size < w'.heap.size := by omega); try (have g : w.heap.size ≤ w'.heap.size := by omega)) | (go_at_call 64; refine (Finite.impl_finite _ _ (by assumption)).mono ?_; rintro e w' ⟨rfl, rfl⟩) | (go_at_call 59; refine (Rate.product_run _ _ _ _ _ (by assumption) (by assumption)).mono ?_; rintro e w' ⟨r, rfl, hr, hb⟩; have hz := hb.size; try simp only [World.size_alloc, World.size_setCell, World.heap_drewN, World.size_drew] at hz; obtain ⟨hc, hf⟩ := Fl.bcell hb; try (have g : w.heap.size < w'.heap.size := by omega); try (have g : w.heap.size ≤ w'.heap.size := by omega)) | (go_at_call 65; refine (HL.out _ _ (by assumption)).mono ?_; rintro e w' ⟨r, rfl, hr, hb⟩; have hz := hb.size; try simp only [World.size_alloc, World.size_setCell, World.heap_drewN, World.size_drew] at hz; obtain ⟨hc, hf⟩ := Fl.bcell hb; try (have g : w.heap.size < w'.heap.size := by omega); try (have g : w.heap.size ≤ w'.heap.size := by omega)) | (go_at_call 66; refine (HC.out _ _ (by assumption)).mono ?_; rintro e w' ⟨q, rfl, hq, hb⟩) | (refine Fl.wpList_fl rfl rfl rfl rfl rfl (by assumption) (by assumption) ?_; intro r n hr))
  go_ret2
  exact ⟨_, rfl, by assumption, by (repeat' first | exact Below.refl _ _ | (refine Below.setCell ?_ (by first | omega | (simp; omega) | simp) _) | (refine below_drewN ?_ _) | (refine Below.alloc ?_ (by first | omega | (simp; omega) | simp) _) | (refine Below.trans ?_ (Below.mono (by assumption) (by first | omega | (simp; omega) | simp))))⟩

theorem spec_bad (x y z : Nat) (w : World) (hx : (Lit.float .f32 x).wf = true) (hy : (Lit.float .f32 y).wf = true) (hz : (Lit.float .f32 z).wf = true) (A B F : Bool) (hA : isLen x = A) (hB : isLen y = B) (hF : fin .f32 z = F) (h : (A && B && F) = false) : Calls Try.prog 22 #[.float .f32 x, .float .f32 y, .float .f32 z] w (RetFB (some 0) false w) := by
  have HA := Lib.hid hA
  have HB := Lib.hid hB
  clear hA hB
  have z0 : Fr .f32 0 (some 0) := Fr.const (by decide +kernel) (by decide)
  cases A
  all_goals cases B
  all_goals cases F
  all_goals (first | (cases h; done) | clear h)
  all_goals
    go_enter Try.func22, Try.ntmps22
    go_wp2_with (first | (go_at_call 48; refine (spec_len _ _ (by assumption)).mono ?_; rintro e w' ⟨rfl, hb⟩; (first | rw [HA.out] | rw [HB.out]); have hz := hb.size; try simp only [World.size_alloc, World.size_setCell, World.heap_drewN, World.size_drew] at hz; obtain ⟨hc, hf⟩ := Fl.bcell hb; try (have g : w.heap.size < w'.heap.size := by omega); try (have g : w.heap.size ≤ w'.heap.size := by omega)) | (go_at_call 56; refine (Finite.spec_finite _ _ (by assumption)).mono ?_; rintro e w' ⟨n, rfl, rfl⟩))
    go_ret2
    exact ⟨_, rfl, z0, by (repeat' first | exact Below.refl _ _ | (refine Below.setCell ?_ (by first | omega | (simp; omega) | simp) _) | (refine below_drewN ?_ _) | (refine Below.alloc ?_ (by first | omega | (simp; omega) | simp) _) | (refine Below.trans ?_ (Below.mono (by assumption) (by first | omega | (simp; omega) | simp))))⟩

theorem spec_good (x y z : Nat) (w : World) (wx : (Lit.float .f32 x).wf = true) (wy : (Lit.float .f32 y).wf = true) (wz : (Lit.float .f32 z).wf = true) (hA : isLen x = true) (hB : isLen y = true) (hF : fin .f32 z = true) (L R : Option Nat) (B : Bool)
    (hL : ∀ x' w, Fr .f32 x' (thinC (cl .f32 x) (cl .f32 y)) → Calls Try.prog 62 #[.float .f32 x'] w (RetF .f32 L w))
    (hR : (if finC (speedC (cl .f32 x) (cl .f32 z) L) then speedC (cl .f32 x) (cl .f32 z) L else some 0) = R) (hB' : finC (speedC (cl .f32 x) (cl .f32 z) L) = B) :
    Calls Try.prog 22 #[.float .f32 x, .float .f32 y, .float .f32 z] w (RetFB R B w) := by
  have HA := Lib.hid hA
  have HB := Lib.hid hB
  clear hA hB
  have fx : Fr .f32 x (cl .f32 x) := ⟨rfl, Fl.lt32 wx⟩
  have fy : Fr .f32 y (cl .f32 y) := ⟨rfl, Fl.lt32 wy⟩
  have fz : Fr .f32 z (cl .f32 z) := ⟨rfl, Fl.lt32 wz⟩
  have HL := Lib.hid hL
  clear hL
  have hc := fun r w f => spec_checked r (speedC (cl .f32 x) (cl .f32 z) L) w f
  rw [hR, hB'] at hc
  clear hR hB'
  have HC := Lib.hid hc
  clear hc
  have fk : Fr .f32 1095307227 (some 1095307227) := Fr.const (by decide +kernel) (by decide)
  have f8 : Fr .f32 1090519040 (some 1090519040) := Fr.const (by decide +kernel) (by decide)
  have f4 : Fr .f32 1048576000 (some 1048576000) := Fr.const (by decide +kernel) (by decide)
  go_enter Try.func22, Try.ntmps22
  go_wp2_with (first | (go_at_call 48; refine (spec_len _ _ (by assumption)).mono ?_; rintro e w' ⟨rfl, hb⟩; (first | rw [HA.out] | rw [HB.out]); have hz := hb.size; try simp only [World.size_alloc, World.size_setCell, World.heap_drewN, World.size_drew] at hz; obtain ⟨hc, hf⟩ := Fl.bcell hb; try (have g : w.heap.size < w'.heap.size := by omega); try (have g : w.heap.size ≤ w'.heap.size := by omega)) | (go_at_call 56; refine (Finite.spec_finite _ _ (by assumption)).mono ?_; rintro e w' ⟨n, rfl, rfl⟩) | (go_at_call 62; refine (HL.out _ _ (by assumption)).mono ?_; rintro e w' ⟨r, rfl, hr, hb⟩; have hz := hb.size; try simp only [World.size_alloc, World.size_setCell, World.heap_drewN, World.size_drew] at hz; obtain ⟨hc, hf⟩ := Fl.bcell hb; try (have g : w.heap.size < w'.heap.size := by omega); try (have g : w.heap.size ≤ w'.heap.size := by omega)) | (go_at_call 61; refine (HC.out _ _ (by assumption)).mono ?_; rintro e w' ⟨q, rfl, hq, hb⟩) | (refine Fl.wpList_fl rfl rfl rfl rfl rfl (by assumption) (by assumption) ?_; intro r n hr))
  go_ret2
  exact ⟨_, rfl, by assumption, by (repeat' first | exact Below.refl _ _ | (refine Below.setCell ?_ (by first | omega | (simp; omega) | simp) _) | (refine below_drewN ?_ _) | (refine Below.alloc ?_ (by first | omega | (simp; omega) | simp) _) | (refine Below.trans ?_ (Below.mono (by assumption) (by first | omega | (simp; omega) | simp))))⟩

theorem both (x y z : Nat) (wx : (Lit.float .f32 x).wf = true) (wy : (Lit.float .f32 y).wf = true) (wz : (Lit.float .f32 z).wf = true) : ∃ R B, (∀ w, Calls Try.prog 22 #[.float .f32 x, .float .f32 y, .float .f32 z] w (RetFB R B w)) ∧ (∀ w, Calls Try.prog 23 #[.float .f32 x, .float .f32 y, .float .f32 z] w (RetFB R B w)) := by
  have hx := Fl.lt32 wx
  have hy := Fl.lt32 wy
  have hz := Fl.lt32 wz
  by_cases h : (isLen x && isLen y && fin .f32 z) = true
  · simp only [Bool.and_eq_true] at h
    obtain ⟨⟨hA, hB⟩, hF⟩ := h
    obtain ⟨L, h1, h2⟩ := log_fr (thinC (cl .f32 x) (cl .f32 y))
    exact ⟨_, _, fun w => spec_good x y z w wx wy wz hA hB hF L _ _ h1 rfl rfl, fun w => impl_good x y z w hx hy hz hA hB hF L _ _ h2 rfl rfl⟩
  · have h : (isLen x && isLen y && fin .f32 z) = false := by simpa using h
    exact ⟨some 0, false, fun w => spec_bad x y z w wx wy wz _ _ _ rfl rfl rfl h, fun w => impl_bad x y z w hx hy hz _ _ _ rfl rfl rfl h⟩
end Rs
end Go.Proofs.Ytggklnanhiomjab
