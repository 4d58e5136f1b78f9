/- The angle of a point: both sides answer one class. -/
import Derived.Test.YtfcpkjgnkkcchadAngI
import Derived.Test.YtfcpkjgnkkcchadFin
namespace Go.Proofs.Ytfcpkjgnkkcchad
set_option linter.unusedSimpArgs false
set_option linter.unusedVariables false
open Go.RowKit
namespace Flat
open Fl

theorem spec_zero (y x : Nat) (cy cx : Option Nat) (w : World) (fy : Fr .f64 y cy) (fx : Fr .f64 x cx)
    (h1 : cmpC .neq (ord .f64 (op2 .sub .f64 cy cy) (some 0)) = false) (h2 : cmpC .neq (ord .f64 (op2 .sub .f64 cx cx) (some 0)) = false) (h3 : cmpC .eql (ord .f64 cx (some 0)) = true) (h4 : cmpC .eql (ord .f64 cy (some 0)) = true) :
    Calls Try.prog 71 #[.float .f64 y, .float .f64 x] w (RetF .f64 (some 0) w) := by
  have f0 : Fr .f64 0 (some 0) := Fr.const (by decide +kernel) (by decide)
  go_enter Try.func71, Try.ntmps71
  go_wp2_with (first | (refine Fl.wpList_cmp rfl rfl rfl rfl rfl (by assumption) (by assumption) ?_; try simp only [h1, h2, h3, h4]) | (refine Fl.wpList_fl rfl rfl rfl rfl rfl (by assumption) (by assumption) ?_; intro r n hr))
  go_ret
  exact ⟨_, rfl, f0, by (repeat' first | exact Below.refl _ _ | (refine Below.setCell ?_ (by first | omega | (simp; omega) | simp) _) | (refine below_drewN ?_ _) | (refine Below.alloc ?_ (by first | omega | (simp; omega) | simp) _) | (refine Below.trans ?_ (Below.mono (by assumption) (by first | omega | (simp; omega) | simp))))⟩

theorem spec_nan (y x : Nat) (cy cx : Option Nat) (w : World) (fy : Fr .f64 y cy) (fx : Fr .f64 x cx)
    (h12 : (cmpC .neq (ord .f64 (op2 .sub .f64 cy cy) (some 0)) || cmpC .neq (ord .f64 (op2 .sub .f64 cx cx) (some 0))) = true) :
    Calls Try.prog 71 #[.float .f64 y, .float .f64 x] w (RetF .f64 none w) := by
  have f0 : Fr .f64 0 (some 0) := Fr.const (by decide +kernel) (by decide)
  have hn : Fr .f64 9221120237041090561 none := ⟨by decide +kernel, by decide⟩
  have hb := float64frombits_run 9221120237041090561
  have hnan : ∀ w, Calls Try.prog 74 #[] w (RetF .f64 none w) := by
    intro w
    go_enter Try.func74, Try.ntmps74
    go_wp2
    go_ret
    exact ⟨_, rfl, hn, Below.refl _ _⟩
  have HN := Lib.hid hnan
  clear hnan hb hn
  cases h1 : cmpC .neq (ord .f64 (op2 .sub .f64 cy cy) (some 0))
  · have h2 : cmpC .neq (ord .f64 (op2 .sub .f64 cx cx) (some 0)) = true := by rw [h1] at h12; exact h12
    clear h12
    go_enter Try.func71, Try.ntmps71
    go_wp2_with (first | (refine Fl.wpList_cmp rfl rfl rfl rfl rfl (by assumption) (by assumption) ?_; try simp only [h1, h2]) | (refine Fl.wpList_fl rfl rfl rfl rfl rfl (by assumption) (by assumption) ?_; intro r n hr) | (go_at_call 74; refine (HN.out _).mono ?_; rintro e w' ⟨r, rfl, hr, hb⟩; have hz := hb.size; try simp only [World.size_alloc, World.size_setCell, World.heap_drewN, World.size_drew] at hz; obtain ⟨hc, hf⟩ := Fl.bcell hb; try (have g : w.heap.size < w'.heap.size := by omega); try (have g : w.heap.size ≤ w'.heap.size := by omega)))
    go_ret
    exact ⟨_, rfl, by assumption, by (repeat' first | exact Below.refl _ _ | (refine Below.setCell ?_ (by first | omega | (simp; omega) | simp) _) | (refine below_drewN ?_ _) | (refine Below.alloc ?_ (by first | omega | (simp; omega) | simp) _) | (refine Below.trans ?_ (Below.mono (by assumption) (by first | omega | (simp; omega) | simp))))⟩
  · clear h12
    go_enter Try.func71, Try.ntmps71
    go_wp2_with (first | (refine Fl.wpList_cmp rfl rfl rfl rfl rfl (by assumption) (by assumption) ?_; try simp only [h1]) | (refine Fl.wpList_fl rfl rfl rfl rfl rfl (by assumption) (by assumption) ?_; intro r n hr) | (go_at_call 74; refine (HN.out _).mono ?_; rintro e w' ⟨r, rfl, hr, hb⟩; have hz := hb.size; try simp only [World.size_alloc, World.size_setCell, World.heap_drewN, World.size_drew] at hz; obtain ⟨hc, hf⟩ := Fl.bcell hb; try (have g : w.heap.size < w'.heap.size := by omega); try (have g : w.heap.size ≤ w'.heap.size := by omega)))
    go_ret
    exact ⟨_, rfl, by assumption, by (repeat' first | exact Below.refl _ _ | (refine Below.setCell ?_ (by first | omega | (simp; omega) | simp) _) | (refine below_drewN ?_ _) | (refine Below.alloc ?_ (by first | omega | (simp; omega) | simp) _) | (refine Below.trans ?_ (Below.mono (by assumption) (by first | omega | (simp; omega) | simp))))⟩

theorem spec_angle (y x : Nat) (cy cx A : Option Nat) (w : World) (fy : Fr .f32 y cy) (fx : Fr .f32 x cx) (hA : Fits .f64 .f32 A)
    (hw : ∀ y' x' w, Fr .f64 y' (convC .f32 .f64 cy) → Fr .f64 x' (convC .f32 .f64 cx) → Calls Try.prog 71 #[.float .f64 y', .float .f64 x'] w (RetF .f64 A w)) :
    Calls Try.prog 48 #[.float .f32 y, .float .f32 x] w (RetF .f32 (convC .f64 .f32 A) w) := by
  have HW := Lib.hid hw
  clear hw
  go_enter Try.func48, Try.ntmps48
  go_wp2_with (first | (refine Fl.wpList_conv rfl rfl rfl (by kernel_rfl) Try.underlying25 (by assumption) (Fl.fits_wide _) ?_; intro r n hr) | (go_at_call 71; refine (HW.out _ _ _ (by assumption) (by assumption)).mono ?_; rintro e w' ⟨r, rfl, hr, hb⟩; have hz := hb.size; try simp only [World.size_alloc, World.size_setCell, World.heap_drewN, World.size_drew] at hz) | (go_at_call 65; refine (Root.spec_narrow _ _ _ (by assumption) (by assumption)).mono ?_; rintro e w' ⟨r, rfl, hr, hb⟩; have hz := hb.size; try simp only [World.size_alloc, World.size_setCell, World.heap_drewN, World.size_drew] at hz))
  go_ret
  exact ⟨_, rfl, by assumption, by (repeat' first | exact Below.refl _ _ | (refine Below.setCell ?_ (by first | omega | (simp; omega) | simp) _) | (refine below_drewN ?_ _) | (refine Below.alloc ?_ (by first | omega | (simp; omega) | simp) _) | (refine Below.trans ?_ (Below.mono (by assumption) (by first | omega | (simp; omega) | simp))))⟩

theorem top_angle (y x : Nat) (R : Option Nat) (w : World) (h : ∀ w, Calls Try.prog 48 #[.float .f32 y, .float .f32 x] w (RetF .f32 R w)) :
    Calls Try.prog 18 #[.float .f32 y, .float .f32 x] w (RetF .f32 R w) := by
  have HW := Lib.hid h
  clear h
  go_enter Try.func18, Try.ntmps18
  go_wp2_with (first | (go_at_call 48; refine (HW.out _).mono ?_; rintro e w' ⟨r, rfl, hr, hb⟩; have hz := hb.size; try simp only [World.size_alloc, World.size_setCell, World.heap_drewN, World.size_drew] at hz; obtain ⟨hc, hf⟩ := Fl.bcell hb; try (have g : w.heap.size < w'.heap.size := by omega); try (have g : w.heap.size ≤ w'.heap.size := by omega)))
  go_ret
  exact ⟨_, rfl, by assumption, by (repeat' first | exact Below.refl _ _ | (refine Below.setCell ?_ (by first | omega | (simp; omega) | simp) _) | (refine below_drewN ?_ _) | (refine Below.alloc ?_ (by first | omega | (simp; omega) | simp) _) | (refine Below.trans ?_ (Below.mono (by assumption) (by first | omega | (simp; omega) | simp))))⟩

theorem nonfin_sub {y : Nat} (h : fin .f32 y = false) : op2 .sub .f64 (convC .f32 .f64 (cl .f32 y)) (convC .f32 .f64 (cl .f32 y)) = none := by
  rcases decode_inf h with ⟨s, hd⟩ | ⟨s, u, hd⟩
  · have hc : cl .f32 y = some y := cl_some_iff.2 (by rw [hd]; rfl)
    have e : convC .f32 .f64 (some y) = some (FloatKind.f64.encode (.infinity s)) := by
      unfold convC
      rw [if_neg (by decide)]
      show floatToFloatBits .f32 y .f64 = _
      unfold floatToFloatBits
      rw [if_neg (by decide), hd]
    rw [hc, e]
    cases s <;> decide +kernel
  · have hc : cl .f32 y = none := cl_none_iff.2 (by rw [hd]; rfl)
    rw [hc]; rfl

theorem fin_of_num {k : FloatKind} {b : Nat} {s : Bool} {m : Nat} {p : Int} (h : k.decode b = .number s m p) : fin k b = true := by
  cases hf : fin k b
  · rcases decode_inf hf with ⟨s', hd⟩ | ⟨s', u, hd⟩ <;> rw [hd] at h <;> cases h
  · rfl

theorem fin_sub {b : Nat} {s : Bool} {m : Nat} {p : Int} (h : FloatKind.f64.decode b = .number s m p) : op2 .sub .f64 (some b) (some b) = some 0 := by
  have hc : cl .f64 b = some b := cl_some_iff.2 (by rw [h]; rfl)
  have := sub_self .f64 b
  rw [hc, fin_of_num h] at this
  simpa using this

theorem zord_iff {s : Bool} {m m' : Nat} (h : m' = 0 ↔ m = 0) : zord s m' = zord s m := by
  unfold zord
  by_cases h0 : m = 0
  · rw [if_pos h0, if_pos (h.2 h0)]
  · rw [if_neg h0, if_neg (fun e => h0 (h.1 e))]

/-- Both sides answer one class. -/
theorem both (y x : Nat) (hy : y < 4294967296) (hx : x < 4294967296) : ∃ R, (∀ w, Calls Try.prog 18 #[.float .f32 y, .float .f32 x] w (RetF .f32 R w)) ∧ (∀ w, Calls Try.prog 19 #[.float .f32 y, .float .f32 x] w (RetF .f32 R w)) := by
  have fy : Fr .f32 y (cl .f32 y) := ⟨rfl, hy⟩
  have fx : Fr .f32 x (cl .f32 x) := ⟨rfl, hx⟩
  cases hf : (fin .f32 x && fin .f32 y)
  · refine ⟨none, fun w => top_angle y x _ w fun w => spec_angle y x _ _ none w fy fx Fits.none fun y' x' w f1 f2 => spec_nan y' x' _ _ w f1 f2 ?_, fun w => impl_nan y x _ _ w fy fx hf⟩
    cases hx' : fin .f32 x
    · rw [nonfin_sub hx', Bool.or_eq_true]; exact .inr rfl
    · have hy' : fin .f32 y = false := by rw [hx'] at hf; exact hf
      rw [nonfin_sub hy', Bool.or_eq_true]; exact .inl rfl
  · have hx' : fin .f32 x = true := by cases h : fin .f32 x <;> rw [h] at hf <;> first | rfl | cases hf
    have hy' : fin .f32 y = true := by rw [hx'] at hf; exact hf
    obtain ⟨sx, mx, px, dx⟩ := decode_fin hx'
    obtain ⟨sy, my, py, dy⟩ := decode_fin hy'
    have cx : cl .f32 x = some x := cl_some_iff.2 (by rw [dx]; rfl)
    have cy : cl .f32 y = some y := cl_some_iff.2 (by rw [dy]; rfl)
    rw [cx] at fx
    rw [cy] at fy
    obtain ⟨bx, mx', px', ex, dbx, zx⟩ := widen_num dx
    obtain ⟨bY, my', py', ey, dby, zy⟩ := widen_num dy
    have n1 : cmpC .neq (ord .f64 (op2 .sub .f64 (some bY) (some bY)) (some 0)) = false := by rw [fin_sub dby]; decide +kernel
    have n2 : cmpC .neq (ord .f64 (op2 .sub .f64 (some bx) (some bx)) (some 0)) = false := by rw [fin_sub dbx]; decide +kernel
    have ox : ord .f64 (some bx) (some 0) = ord .f32 (some x) (some 0) := by rw [ord_zero dbx, ord_zero dx, zord_iff zx]
    have oy : ord .f64 (some bY) (some 0) = ord .f32 (some y) (some 0) := by rw [ord_zero dby, ord_zero dy, zord_iff zy]
    cases hz : (cmpC .eql (ord .f32 (some x) (some 0)) && cmpC .eql (ord .f32 (some y) (some 0)))
    · have h0 : ¬ (my' = 0 ∧ mx' = 0) := by
        rintro ⟨h1, h2⟩
        rw [ord_zero dx, ord_zero dy] at hz
        unfold zord at hz
        rw [if_pos (zx.1 h2), if_pos (zy.1 h1)] at hz
        cases hz
      have hT := tan_bd (read_abs dby) (read_abs dbx) h0
      refine ⟨_, fun w => top_angle y x _ w fun w => spec_angle y x _ _ _ w fy fx ((ang_bd (nx := cmpC .lss (ord .f32 (some x) (some 0))) (ny := cmpC .lss (ord .f32 (some y) (some 0))) (over := cmpC .gtr (ord .f64 (ab (some bY)) (ab (some bx)))) (ca := ab (some bY)) (cb := ab (some bx)) hT).fits (by omega)) fun y' x' w f1 f2 => ?_, fun w => ?_⟩
      · rw [ey] at f1
        rw [ex] at f2
        have g1 := eq_of_some f1
        have g2 := eq_of_some f2
        exact spec_wide y' x' _ _ w f1 f2 ⟨_, _, _, by rw [g1]; exact dby⟩ ⟨_, _, _, by rw [g2]; exact dbx⟩ _ _ _ _ _ n1 n2 (by rw [ox]) (by rw [oy]) hz rfl (by rw [ox]) (by rw [oy]) hT
      · have := impl_main y x _ _ w fy fx hy' hx' ⟨bY, ey, _, _, _, dby⟩ ⟨bx, ex, _, _, _, dbx⟩ _ _ _ _ _ rfl rfl hz rfl rfl rfl (by rw [ey, ex]; exact hT)
        rw [ey, ex] at this
        exact this
    · have hzx : cmpC .eql (ord .f32 (some x) (some 0)) = true := by cases h : cmpC .eql (ord .f32 (some x) (some 0)) <;> rw [h] at hz <;> first | rfl | cases hz
      have hzy : cmpC .eql (ord .f32 (some y) (some 0)) = true := by rw [hzx] at hz; exact hz
      refine ⟨some 0, fun w => top_angle y x _ w fun w => ?_, fun w => impl_zero y x _ _ w fy fx hy' hx' hzx hzy⟩
      have h := spec_angle y x _ _ (some 0) w fy fx (.inr fun b hb _ => by cases hb; decide +kernel) fun y' x' w f1 f2 => by
        rw [ey] at f1
        rw [ex] at f2
        exact spec_zero y' x' _ _ w f1 f2 n1 n2 (by rw [ox]; exact hzx) (by rw [oy]; exact hzy)
      have e : convC .f64 .f32 (some 0) = some 0 := by decide +kernel
      rw [e] at h
      exact h
end Flat
end Go.Proofs.Ytfcpkjgnkkcchad
