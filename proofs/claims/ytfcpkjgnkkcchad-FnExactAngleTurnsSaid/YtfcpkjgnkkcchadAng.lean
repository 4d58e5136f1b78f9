/- The angle of a point in 64 bits: the class, its bound, and the function of the model. -/
import Derived.Test.YtfcpkjgnkkcchadFlatI
import Derived.Test.YtfcpkjgnkkcchadAbs
namespace Go.Proofs.Ytfcpkjgnkkcchad
set_option linter.unusedSimpArgs false
set_option linter.unusedVariables false
open Go.RowKit
namespace Flat
open Fl

abbrev ab (c : Option Nat) : Option Nat := c.map fun b => b % 9223372036854775808
def tanC (over : Bool) (ca cb : Option Nat) : Option Nat := if over then op2 .quo .f64 cb ca else op2 .quo .f64 ca cb
def overC (over : Bool) (g : Option Nat) : Option Nat := if over then op2 .sub .f64 (some 4598175219545276416) g else g
def backC (nx : Bool) (g : Option Nat) : Option Nat := if nx then op2 .sub .f64 (some 4602678819172646912) g else g
def downC (ny : Bool) (g : Option Nat) : Option Nat := if ny then g.map (Op.negFloat .f64) else g
def angC (over nx ny : Bool) (ca cb : Option Nat) : Option Nat := downC ny (backC nx (overC over (flatC (tanC over ca cb))))

theorem quarter_bd : Bd 0 (some 4598175219545276416) := ⟨_, rfl, by rw [show FloatKind.f64.decode 4598175219545276416 = .number false 4503599627370496 (-54) by decide +kernel]; exact .inr ⟨by decide, by decide⟩⟩
theorem half_bd : Bd 0 (some 4602678819172646912) := ⟨_, rfl, by rw [show FloatKind.f64.decode 4602678819172646912 = .number false 4503599627370496 (-53) by decide +kernel]; exact .inr ⟨by decide, by decide⟩⟩

theorem over_bd {g : Option Nat} (h : Bd 20 g) (over : Bool) : Bd 21 (overC over g) := by
  cases over
  · exact h.mono (by omega)
  · exact (quarter_bd.sub h (by omega) (by omega)).mono (by omega)

theorem back_bd {g : Option Nat} (h : Bd 21 g) (nx : Bool) : Bd 22 (backC nx g) := by
  cases nx
  · exact h.mono (by omega)
  · exact (half_bd.sub h (by omega) (by omega)).mono (by omega)

theorem bd_fr {e : Int} {c : Option Nat} (h : Bd e c) : ∃ b, c = some b ∧ FloatKind.f64.decode b = FloatKind.f64.decode b := by obtain ⟨b, h, _⟩ := h; exact ⟨b, h, rfl⟩

theorem ang_bd {ca cb : Option Nat} {over nx ny : Bool} (h : Bd 0 (tanC over ca cb)) : Bd 22 (angC over nx ny ca cb) := by
  have h1 := back_bd (over_bd (flat_bd h) over) nx
  cases ny
  · exact h1
  · obtain ⟨b, hb, k⟩ := h1
    show Bd 22 ((backC nx (overC over (flatC (tanC over ca cb)))).map _)
    rw [hb]
    exact ⟨_, rfl, by rw [read_neg]; exact opposite_cl k⟩

theorem neg_fr' {r : Nat} {c : Option Nat} {e : Int} (f : Fr .f64 r c) (h : Bd e c) : Fr .f64 (Op.negFloat .f64 r) (c.map (Op.negFloat .f64)) := (neg_fr f h).1

set_option maxHeartbeats 4000000 in
theorem spec_wide (y x : Nat) (cy cx : Option Nat) (w : World) (fy : Fr .f64 y cy) (fx : Fr .f64 x cx) (dy : ∃ s m p, FloatKind.f64.decode y = .number s m p) (dx : ∃ s m p, FloatKind.f64.decode x = .number s m p)
    (over nx ny ex ey : Bool) (h1 : cmpC .neq (ord .f64 (op2 .sub .f64 cy cy) (some 0)) = false) (h2 : cmpC .neq (ord .f64 (op2 .sub .f64 cx cx) (some 0)) = false) (h3 : cmpC .eql (ord .f64 cx (some 0)) = ex) (h4 : cmpC .eql (ord .f64 cy (some 0)) = ey) (h34 : (ex && ey) = false)
    (h5 : cmpC .gtr (ord .f64 (ab cy) (ab cx)) = over) (h6 : cmpC .lss (ord .f64 cx (some 0)) = nx) (h7 : cmpC .lss (ord .f64 cy (some 0)) = ny) (hT : Bd 0 (tanC over (ab cy) (ab cx))) :
    Calls Try.prog 71 #[.float .f64 y, .float .f64 x] w (RetF .f64 (angC over nx ny (ab cy) (ab cx)) w) := by
  have f0 : Fr .f64 0 (some 0) := Fr.const (by decide +kernel) (by decide)
  have f1 : Fr .f64 4607182418800017408 one := Fr.const (by decide +kernel) (by decide)
  have f8 : Fr .f64 4620693217682128896 (some 4620693217682128896) := Fr.const (by decide +kernel) (by decide)
  have f9 : Fr .f64 4618760256179416344 (some 4618760256179416344) := Fr.const (by decide +kernel) (by decide)
  have fq : Fr .f64 4598175219545276416 (some 4598175219545276416) := Fr.const (by decide +kernel) (by decide)
  have fh : Fr .f64 4602678819172646912 (some 4602678819172646912) := Fr.const (by decide +kernel) (by decide)
  have hB := back_bd (over_bd (flat_bd hT) over) nx
  obtain ⟨T, hTe⟩ : ∃ T, T = tanC over (ab cy) (ab cx) := ⟨_, rfl⟩
  have HT := Lib.hid hTe
  have HTB := Lib.hid hT
  have HB0 := Lib.hid hB
  clear hT hB hTe
  cases over
  all_goals cases ex
  all_goals (try (cases ey; all_goals (first | (exfalso; revert h34; decide) | skip)))
  all_goals clear h34
  all_goals
    go_enter Try.func71, Try.ntmps71
    go_wp2_with (first | (go_at_call 45; refine (abs_walk _ _ _ (by assumption) (by assumption)).mono ?_; rintro e w' ⟨r, rfl, hr, hb⟩; have hz := hb.size; try simp only [World.size_alloc, World.size_setCell, World.heap_drewN, World.size_drew] at hz) | (refine Fl.wpList_cmp rfl rfl rfl rfl rfl (by assumption) (by assumption) ?_) | (refine Fl.wpList_fl rfl rfl rfl rfl rfl (by assumption) (by assumption) ?_; intro r n hr))
    go_loopw [8, 9] (fun s i wr => ∃ k r : Nat, k ≤ 3 ∧ i = .int .i64 k ∧ s = .float .f64 r ∧ Fr .f64 r (tC T k) ∧ Below w.heap.size w wr) (fun _ i _ => 3 - (intOf i).toNat)
    case atStart => exact ⟨0, _, by omega, rfl, rfl, (by have e := HT.out; unfold tanC at e; simp only [Bool.false_eq_true, if_false, if_true, reduceIte] at e; show Fr .f64 _ T; rw [e]; assumption), by (repeat' first | exact Below.refl _ _ | (refine Below.setCell ?_ (by first | omega | (simp; omega) | simp) _) | (refine below_drewN ?_ _) | (refine Below.alloc ?_ (by first | omega | (simp; omega) | simp) _) | (refine Below.trans ?_ (Below.mono (by assumption) (by first | omega | (simp; omega) | simp))))⟩
    case round =>
      obtain ⟨k, r, hk, rfl, rfl, fr, hbel⟩ := hrel
      by_cases hlt : k < 3
      · have HB := Lib.hid hbel; clear hbel
        go_wp2_with (first | (go_at_call 72; refine (Root.go_sqrt _ _ _ (by assumption)).mono ?_; rintro e w' ⟨r, rfl, hr, hb⟩; have hz := hb.size; try simp only [World.size_alloc, World.size_setCell, World.heap_drewN, World.size_drew] at hz; obtain ⟨hc, hf⟩ := Fl.bcell hb; try (have g : w.heap.size < w'.heap.size := by omega); try (have g : w.heap.size ≤ w'.heap.size := by omega)) | (refine Fl.wpList_cmp rfl rfl rfl rfl rfl (by assumption) (by assumption) ?_) | (refine Fl.wpList_fl rfl rfl rfl rfl rfl (by assumption) (by assumption) ?_; intro r n hr))
        go_roundw
        case rel => exact ⟨k + 1, _, by omega, by go_num, rfl, by assumption, by have hbel := HB.out; have hbz := hbel.size; (repeat' first | exact Below.refl _ _ | (refine Below.setCell ?_ (by first | omega | (simp; omega) | simp) _) | (refine below_drewN ?_ _) | (refine Below.alloc ?_ (by first | omega | (simp; omega) | simp) _) | (refine Below.trans ?_ (Below.mono (by assumption) (by first | omega | (simp; omega) | simp))))⟩
        case measure => simp [intOf]; omega
      · obtain rfl : k = 3 := by omega
        have HB := Lib.hid hbel; clear hbel
        go_wp2_with (first | (go_at_call 72; refine (Root.go_sqrt _ _ _ (by assumption)).mono ?_; rintro e w' ⟨r, rfl, hr, hb⟩; have hz := hb.size; try simp only [World.size_alloc, World.size_setCell, World.heap_drewN, World.size_drew] at hz; obtain ⟨hc, hf⟩ := Fl.bcell hb; try (have g : w.heap.size < w'.heap.size := by omega); try (have g : w.heap.size ≤ w'.heap.size := by omega)) | (refine Fl.wpList_cmp rfl rfl rfl rfl rfl (by assumption) (by assumption) ?_) | (refine Fl.wpList_fl rfl rfl rfl rfl rfl (by assumption) (by assumption) ?_; intro r n hr))
        go_loopw [11, 12] (fun s i wr => ∃ j r : Nat, j ≤ 8 ∧ i = .int .i64 (15 - 2 * (j : Int)) ∧ s = .float .f64 r ∧ Fr .f64 r (pC (op2 .mul .f64 (tC T 3) (tC T 3)) j) ∧ Below w.heap.size w wr) (fun _ i _ => (intOf i + 1).toNat)
        case atStart => exact ⟨0, 0, by omega, rfl, rfl, Fr.const (by decide +kernel) (by decide), by have hbel := HB.out; have hbz := hbel.size; (repeat' first | exact Below.refl _ _ | (refine Below.setCell ?_ (by first | omega | (simp; omega) | simp) _) | (refine below_drewN ?_ _) | (refine Below.alloc ?_ (by first | omega | (simp; omega) | simp) _) | (refine Below.trans ?_ (Below.mono (by assumption) (by first | omega | (simp; omega) | simp))))⟩
        case round =>
          obtain ⟨j, q, hj, rfl, rfl, fq', hbel⟩ := hrel
          by_cases hlt : j < 8
          · have HB := Lib.hid hbel; clear hbel
            have hd : (1 : Int) ≤ 15 - 2 * (j : Int) := by omega
            have fk := intFr (15 - 2 * (j : Int))
            go_wp2_with (first | (go_at_call 72; refine (Root.go_sqrt _ _ _ (by assumption)).mono ?_; rintro e w' ⟨r, rfl, hr, hb⟩; have hz := hb.size; try simp only [World.size_alloc, World.size_setCell, World.heap_drewN, World.size_drew] at hz; obtain ⟨hc, hf⟩ := Fl.bcell hb; try (have g : w.heap.size < w'.heap.size := by omega); try (have g : w.heap.size ≤ w'.heap.size := by omega)) | (refine Fl.wpList_cmp rfl rfl rfl rfl rfl (by assumption) (by assumption) ?_) | (refine Fl.wpList_fl rfl rfl rfl rfl rfl (by assumption) (by assumption) ?_; intro r n hr))
            go_roundw
            case rel => exact ⟨j + 1, _, by omega, by go_num, rfl, by assumption, by have hbel := HB.out; have hbz := hbel.size; (repeat' first | exact Below.refl _ _ | (refine Below.setCell ?_ (by first | omega | (simp; omega) | simp) _) | (refine below_drewN ?_ _) | (refine Below.alloc ?_ (by first | omega | (simp; omega) | simp) _) | (refine Below.trans ?_ (Below.mono (by assumption) (by first | omega | (simp; omega) | simp))))⟩
            case measure => simp [intOf]; omega
          · obtain rfl : j = 8 := by omega
            have HB := Lib.hid hbel; clear hbel
            go_wp2_with (first | (go_at_call 72; refine (Root.go_sqrt _ _ _ (by assumption)).mono ?_; rintro e w' ⟨r, rfl, hr, hb⟩; have hz := hb.size; try simp only [World.size_alloc, World.size_setCell, World.heap_drewN, World.size_drew] at hz; obtain ⟨hc, hf⟩ := Fl.bcell hb; try (have g : w.heap.size < w'.heap.size := by omega); try (have g : w.heap.size ≤ w'.heap.size := by omega)) | (refine Fl.wpList_cmp rfl rfl rfl rfl rfl (by assumption) (by assumption) ?_) | (refine Fl.wpList_fl rfl rfl rfl rfl rfl (by assumption) (by assumption) ?_; intro r n hr))
            all_goals
              go_ret
              refine ⟨_, rfl, ?_, by have hbel := HB.out; have hbz := hbel.size; (repeat' first | exact Below.refl _ _ | (refine Below.setCell ?_ (by first | omega | (simp; omega) | simp) _) | (refine below_drewN ?_ _) | (refine Below.alloc ?_ (by first | omega | (simp; omega) | simp) _) | (refine Below.trans ?_ (Below.mono (by assumption) (by first | omega | (simp; omega) | simp))))⟩
              have hB1 := HB0.out
              unfold angC
              rw [← HT.out] at hB1 ⊢
              first
              | (obtain rfl : nx = true := h6.symm.trans (by assumption); obtain rfl : ny = true := h7.symm.trans (by assumption); exact neg_fr' (by assumption) hB1)
              | (obtain rfl : nx = true := h6.symm.trans (by assumption); obtain rfl : ny = true := h7.symm.trans (by assumption); exact neg_fr' hr hB1)
              | (obtain rfl : nx = false := h6.symm.trans (by assumption); obtain rfl : ny = true := h7.symm.trans (by assumption); exact neg_fr' hr hB1)
              | (obtain rfl : nx = true := h6.symm.trans (by assumption); obtain rfl : ny = false := h7.symm.trans (by assumption); exact hr)
              | (obtain rfl : nx = false := h6.symm.trans (by assumption); obtain rfl : ny = false := h7.symm.trans (by assumption); exact hr)

end Flat
end Go.Proofs.Ytfcpkjgnkkcchad
