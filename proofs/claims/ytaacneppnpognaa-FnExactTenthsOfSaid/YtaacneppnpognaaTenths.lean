/- Tenths of decibels: the greatest integer that is no greater; both sides answer the same. -/
import Derived.Test.YtaacneppnpognaaLogB
namespace Go.Proofs.Ytaacneppnpognaa
set_option linter.unusedSimpArgs false
set_option linter.unusedVariables false
open Go.RowKit
namespace Tenths
open Fl Flat Turn Log

abbrev c43 : Option Nat := some 4631308968768463603
theorem c43_bd : Bd 6 c43 := ⟨_, rfl, by rw [show FloatKind.f64.decode 4631308968768463603 = .number false 6112151458964211 (-47) by decide +kernel]; exact .inr ⟨by decide, by decide⟩⟩

/-- The greatest integer that is no greater, as a number. -/
def floorC (c : Option Nat) : Option Nat := c.map fun b => FloatKind.f64.encode ((FloatKind.f64.decode b).integral .down)

theorem floor_bd {c : Option Nat} (h : Bd 22 c) : Bd 23 (floorC c) := by
  obtain ⟨b, rfl, k⟩ := h
  refine ⟨_, rfl, writeC ?_ (by omega) (by omega)⟩
  obtain ⟨s, m, p, hd⟩ := k.isNum
  rw [hd] at k ⊢
  show CL 23 (.number s (Ieee.Toward.down.cut s (m <<< p.toNat) (-p).toNat) 0)
  have hc : Ieee.Toward.down.cut s (m <<< p.toNat) (-p).toNat ≤ 2 ^ 23 := by
    refine cut_le _ _ _ _ 23 ?_
    rw [Nat.shiftLeft_eq]
    rcases k with h0 | ⟨h1, h2⟩
    · subst h0; rw [Nat.zero_mul]; exact Nat.two_pow_pos _
    · refine Nat.lt_of_le_of_lt (Nat.mul_le_mul_right _ h2) ?_
      rw [← Nat.pow_add]
      exact Nat.pow_lt_pow_right (by decide) (by omega)
  exact .inr ⟨by omega, hc⟩

theorem extern_floor (x : Nat) (w : World) {s : Bool} {m : Nat} {p : Int} (hd : FloatKind.f64.decode x = .number s m p) : (callFunc 67 #[.float .f64 x]).run Try.prog w = .ok (.value (.float .f64 (FloatKind.f64.encode ((FloatKind.f64.decode x).integral .down)))) w := by
  rw [run_callFunc_extern Try.func67 (by kernel_rfl) (by kernel_rfl) (by kernel_rfl) (e := Extern.MathFloor.toIntegral "math.archFloor" .down) (by kernel_rfl)]
  have hE : Extern.MathFloor.toIntegral "math.archFloor" .down #[.float .f64 x] = pure (.float .f64 (FloatKind.f64.encode ((FloatKind.f64.decode x).integral .down))) := by
    show (match FloatKind.f64.decode x with | Ieee.Datum.nan s t => (_ : Sem Value) | d => (pure (Value.float FloatKind.f64 (FloatKind.f64.encode (d.integral .down))) : Sem Value)) = _
    rw [hd]
  rw [hE]; rfl

theorem go_floor (x : Nat) (c : Option Nat) (w : World) (f : Fr .f64 x c) (hd : ∃ s m p, FloatKind.f64.decode x = .number s m p) : Calls Try.prog 46 #[.float .f64 x] w (RetF .f64 (floorC c) w) := by
  obtain ⟨s, m, p, hd⟩ := hd
  have he := fun w => extern_floor x w hd
  have hc : c = some x := by rw [← f.1]; exact cl_some_iff.2 (by rw [hd]; rfl)
  have hr : Fr .f64 (FloatKind.f64.encode ((FloatKind.f64.decode x).integral .down)) (floorC c) := by
    rw [hc]
    exact ⟨cl_some_iff.2 (write_notNaN _ _ (by rw [hd]; rfl)), FloatKind.f64.format.write_lt _⟩
  have HR := Lib.hid hr
  clear hr hc hd f
  go_enter Try.func46, Try.ntmps46
  go_wp2
  go_ret
  exact ⟨_, rfl, HR.out, Below.refl _ _⟩

/-- What is made whole. -/
def lastC (l : Option Nat) : Option Nat := floorC (op2 .add .f64 (op2 .mul .f64 l c43) half)

theorem last_bd {l : Option Nat} (h : Bd 15 l) : Bd 22 (op2 .add .f64 (op2 .mul .f64 l c43) half) ∧ Bd 23 (lastC l) := by
  have m := h.mul c43_bd (by omega) (by omega)
  have a : Bd 22 (op2 .add .f64 (op2 .mul .f64 l c43) half) := (m.add half_bd (by omega) (by omega)).mono (by omega)
  exact ⟨a, floor_bd a⟩

theorem last_facts {l : Option Nat} (h : Bd 15 l) : (∀ y, Fr .f64 y (lastC l) → floatToIntVal .f64 y .i64 = some (wholeC (lastC l))) ∧ (∀ y, Fr .f64 y (op2 .add .f64 (op2 .mul .f64 l c43) half) → ∃ s m p, FloatKind.f64.decode y = .number s m p) := by
  obtain ⟨a, b⟩ := last_bd h
  refine ⟨fun y f => ?_, fun y f => ?_⟩
  · obtain ⟨z, e, k⟩ := b
    rw [e] at f ⊢
    rw [eq_of_some f]
    exact (whole_ok (k.mono (by omega))).1
  · obtain ⟨z, e, k⟩ := a
    rw [e] at f
    rw [eq_of_some f]
    exact k.isNum

theorem impl_short (x : Nat) (w : World) (hx : x < 4294967296) (h : fin .f32 x = false ∨ cmpC .leq (ord .f32 (cl .f32 x) (some 0)) = true) : Calls Try.prog 19 #[.float .f32 x] w (RetD (.tuple #[.int .i64 0, .bool false]) w) := by
  have f : Fr .f32 x (cl .f32 x) := ⟨rfl, hx⟩
  have z0 : Fr .f32 0 (some 0) := Fr.const (by decide +kernel) (by decide)
  cases ff : fin .f32 x
  · go_enter Try.func19, Try.ntmps19
    go_wp2_with (first | (go_at_call 30; refine (Finite.impl_finite _ _ (by assumption)).mono ?_; rintro e w' ⟨rfl, rfl⟩) | (refine Fl.wpList_cmp rfl rfl rfl rfl rfl (by assumption) (by assumption) ?_))
    go_ret2
    exact ⟨rfl, by (repeat' first | exact Below.refl _ _ | (refine Below.setCell ?_ (by first | omega | (simp; omega) | simp) _) | (refine below_drewN ?_ _) | (refine Below.alloc ?_ (by first | omega | (simp; omega) | simp) _) | (refine Below.trans ?_ (Below.mono (by assumption) (by first | omega | (simp; omega) | simp))))⟩
  · have h1 : cmpC .leq (ord .f32 (cl .f32 x) (some 0)) = true := by
      rcases h with h | h
      · rw [ff] at h; cases h
      · exact h
    go_enter Try.func19, Try.ntmps19
    go_wp2_with (first | (go_at_call 30; refine (Finite.impl_finite _ _ (by assumption)).mono ?_; rintro e w' ⟨rfl, rfl⟩) | (refine Fl.wpList_cmp rfl rfl rfl rfl rfl (by assumption) (by assumption) ?_; try simp only [h1]))
    go_ret2
    exact ⟨rfl, by (repeat' first | exact Below.refl _ _ | (refine Below.setCell ?_ (by first | omega | (simp; omega) | simp) _) | (refine below_drewN ?_ _) | (refine Below.alloc ?_ (by first | omega | (simp; omega) | simp) _) | (refine Below.trans ?_ (Below.mono (by assumption) (by first | omega | (simp; omega) | simp))))⟩

theorem impl_main (x : Nat) (L : Option Nat) (w : World) (hx : x < 4294967296) (ff : fin .f32 x = true) (h1 : cmpC .leq (ord .f32 (cl .f32 x) (some 0)) = false) (hb : Bd 15 L)
    (hw : ∀ x' w, Fr .f64 x' (convC .f32 .f64 (cl .f32 x)) → Calls Try.prog 37 #[.float .f64 x'] w (RetF .f64 L w)) : Calls Try.prog 19 #[.float .f32 x] w (RetD (.tuple #[.int .i64 (wholeC (lastC L)), .bool true]) w) := by
  have f : Fr .f32 x (cl .f32 x) := ⟨rfl, hx⟩
  obtain ⟨hn, hd⟩ := last_facts hb
  unfold lastC at hn
  have HW := Lib.hid hw
  have HN := Lib.hid hn
  have HD := Lib.hid hd
  clear hw hn hd
  have z0 : Fr .f32 0 (some 0) := Fr.const (by decide +kernel) (by decide)
  have f43 : Fr .f64 4631308968768463603 c43 := Fr.const (by decide +kernel) (by decide)
  have fh : Fr .f64 4602678819172646912 half := Fr.const (by decide +kernel) (by decide)
  go_enter Try.func19, Try.ntmps19
  go_wp2_with (first | (go_at_call 30; refine (Finite.impl_finite _ _ (by assumption)).mono ?_; rintro e w' ⟨rfl, rfl⟩) | (refine Fl.wpList_cmp rfl rfl rfl rfl rfl (by assumption) (by assumption) ?_; try simp only [h1]) | (refine Fl.wpList_conv rfl rfl rfl (by kernel_rfl) Try.underlying25 (by assumption) (Fl.fits_wide _) ?_; intro r n hr) | (go_at_call 37; refine (HW.out _ _ (by assumption)).mono ?_; rintro e w' ⟨r, rfl, hr, hb⟩; have hz := hb.size; try simp only [World.size_alloc, World.size_setCell, World.heap_drewN, World.size_drew] at hz; obtain ⟨hc, hf⟩ := Fl.bcell hb; try (have g : w.heap.size < w'.heap.size := by omega); try (have g : w.heap.size ≤ w'.heap.size := by omega)) | (go_at_call 45; refine (Flat.long_product _ _ _ _ _ (by assumption) (by assumption)).mono ?_; rintro e w' ⟨r, rfl, hr, hb⟩; have hz := hb.size; try simp only [World.size_alloc, World.size_setCell, World.heap_drewN, World.size_drew] at hz; obtain ⟨hc, hf⟩ := Fl.bcell hb; try (have g : w.heap.size < w'.heap.size := by omega); try (have g : w.heap.size ≤ w'.heap.size := by omega)) | (go_at_call 46; refine (go_floor _ _ _ (by assumption) (HD.out _ (by assumption))).mono ?_; rintro e w' ⟨r, rfl, hr, hb⟩; have hz := hb.size; try simp only [World.size_alloc, World.size_setCell, World.heap_drewN, World.size_drew] at hz; obtain ⟨hc, hf⟩ := Fl.bcell hb; try (have g : w.heap.size < w'.heap.size := by omega); try (have g : w.heap.size ≤ w'.heap.size := by omega)) | (refine Fl.wpList_fl rfl rfl rfl rfl rfl (by assumption) (by assumption) ?_; intro r n hr) | (refine Fl.wpList_fint rfl rfl rfl (by kernel_rfl) Try.underlying2 (HN.out _ (by assumption)) ?_))
  go_ret2
  exact ⟨rfl, by (repeat' first | exact Below.refl _ _ | (refine Below.setCell ?_ (by first | omega | (simp; omega) | simp) _) | (refine below_drewN ?_ _) | (refine Below.alloc ?_ (by first | omega | (simp; omega) | simp) _) | (refine Below.trans ?_ (Below.mono (by assumption) (by first | omega | (simp; omega) | simp))))⟩

theorem spec_short (x : Nat) (w : World) (w0 : (Lit.float .f32 x).wf = true) (h : fin .f32 x = false ∨ cmpC .leq (ord .f32 (cl .f32 x) (some 0)) = true) : Calls Try.prog 18 #[.float .f32 x] w (RetD (.tuple #[.int .i64 0, .bool false]) w) := by
  have f : Fr .f32 x (cl .f32 x) := ⟨rfl, Fl.lt32 w0⟩
  have z0 : Fr .f32 0 (some 0) := Fr.const (by decide +kernel) (by decide)
  cases ff : fin .f32 x
  · go_enter Try.func18, Try.ntmps18
    go_wp2_with (first | (go_at_call 43; refine (Finite.spec_finite _ _ (by assumption)).mono ?_; rintro e w' ⟨n, rfl, rfl⟩) | (refine Fl.wpList_cmp rfl rfl rfl rfl rfl (by assumption) (by assumption) ?_))
    go_ret2
    exact ⟨rfl, by (repeat' first | exact Below.refl _ _ | (refine Below.setCell ?_ (by first | omega | (simp; omega) | simp) _) | (refine below_drewN ?_ _) | (refine Below.alloc ?_ (by first | omega | (simp; omega) | simp) _) | (refine Below.trans ?_ (Below.mono (by assumption) (by first | omega | (simp; omega) | simp))))⟩
  · have h1 : cmpC .leq (ord .f32 (cl .f32 x) (some 0)) = true := by
      rcases h with h | h
      · rw [ff] at h; cases h
      · exact h
    go_enter Try.func18, Try.ntmps18
    go_wp2_with (first | (go_at_call 43; refine (Finite.spec_finite _ _ (by assumption)).mono ?_; rintro e w' ⟨n, rfl, rfl⟩) | (refine Fl.wpList_cmp rfl rfl rfl rfl rfl (by assumption) (by assumption) ?_; try simp only [h1]))
    go_ret2
    exact ⟨rfl, by (repeat' first | exact Below.refl _ _ | (refine Below.setCell ?_ (by first | omega | (simp; omega) | simp) _) | (refine below_drewN ?_ _) | (refine Below.alloc ?_ (by first | omega | (simp; omega) | simp) _) | (refine Below.trans ?_ (Below.mono (by assumption) (by first | omega | (simp; omega) | simp))))⟩

theorem spec_tenths (x : Nat) (L : Option Nat) (w : World) (hx : x < 4294967296) (hb : Bd 15 L)
    (hw : ∀ x' w, Fr .f64 x' (convC .f32 .f64 (cl .f32 x)) → Calls Try.prog 65 #[.float .f64 x'] w (RetF .f64 L w)) : Calls Try.prog 44 #[.float .f32 x] w (RetD (.int .i64 (wholeC (lastC L))) w) := by
  have f : Fr .f32 x (cl .f32 x) := ⟨rfl, hx⟩
  obtain ⟨hn, hd⟩ := last_facts hb
  unfold lastC at hn
  have HW := Lib.hid hw
  have HN := Lib.hid hn
  have HD := Lib.hid hd
  clear hw hn hd
  have f43 : Fr .f64 4631308968768463603 c43 := Fr.const (by decide +kernel) (by decide)
  have fh : Fr .f64 4602678819172646912 half := Fr.const (by decide +kernel) (by decide)
  go_enter Try.func44, Try.ntmps44
  go_wp2_with (first | (refine Fl.wpList_conv rfl rfl rfl (by kernel_rfl) Try.underlying25 (by assumption) (Fl.fits_wide _) ?_; intro r n hr) | (go_at_call 65; refine (HW.out _ _ (by assumption)).mono ?_; rintro e w' ⟨r, rfl, hr, hb⟩; have hz := hb.size; try simp only [World.size_alloc, World.size_setCell, World.heap_drewN, World.size_drew] at hz; obtain ⟨hc, hf⟩ := Fl.bcell hb; try (have g : w.heap.size < w'.heap.size := by omega); try (have g : w.heap.size ≤ w'.heap.size := by omega)) | (go_at_call 46; refine (go_floor _ _ _ (by assumption) (HD.out _ (by assumption))).mono ?_; rintro e w' ⟨r, rfl, hr, hb⟩; have hz := hb.size; try simp only [World.size_alloc, World.size_setCell, World.heap_drewN, World.size_drew] at hz; obtain ⟨hc, hf⟩ := Fl.bcell hb; try (have g : w.heap.size < w'.heap.size := by omega); try (have g : w.heap.size ≤ w'.heap.size := by omega)) | (refine Fl.wpList_fl rfl rfl rfl rfl rfl (by assumption) (by assumption) ?_; intro r n hr) | (refine Fl.wpList_fint rfl rfl rfl (by kernel_rfl) Try.underlying2 (HN.out _ (by assumption)) ?_))
  go_ret
  exact ⟨rfl, by (repeat' first | exact Below.refl _ _ | (refine Below.setCell ?_ (by first | omega | (simp; omega) | simp) _) | (refine below_drewN ?_ _) | (refine Below.alloc ?_ (by first | omega | (simp; omega) | simp) _) | (refine Below.trans ?_ (Below.mono (by assumption) (by first | omega | (simp; omega) | simp))))⟩

theorem spec_main (x : Nat) (L : Option Nat) (w : World) (w0 : (Lit.float .f32 x).wf = true) (ff : fin .f32 x = true) (h1 : cmpC .leq (ord .f32 (cl .f32 x) (some 0)) = false) (hb : Bd 15 L)
    (hw : ∀ x' w, Fr .f64 x' (convC .f32 .f64 (cl .f32 x)) → Calls Try.prog 65 #[.float .f64 x'] w (RetF .f64 L w)) : Calls Try.prog 18 #[.float .f32 x] w (RetD (.tuple #[.int .i64 (wholeC (lastC L)), .bool true]) w) := by
  have f : Fr .f32 x (cl .f32 x) := ⟨rfl, Fl.lt32 w0⟩
  have HT := Lib.hid (fun w => spec_tenths x L w (Fl.lt32 w0) hb hw)
  clear hw
  have z0 : Fr .f32 0 (some 0) := Fr.const (by decide +kernel) (by decide)
  go_enter Try.func18, Try.ntmps18
  go_wp2_with (first | (go_at_call 43; refine (Finite.spec_finite _ _ (by assumption)).mono ?_; rintro e w' ⟨n, rfl, rfl⟩) | (refine Fl.wpList_cmp rfl rfl rfl rfl rfl (by assumption) (by assumption) ?_; try simp only [h1]) | (go_at_call 44; refine (HT.out _).mono ?_; rintro e w' ⟨rfl, hb⟩; have hz := hb.size; try simp only [World.size_alloc, World.size_setCell, World.heap_drewN, World.size_drew] at hz; obtain ⟨hc, hf⟩ := Fl.bcell hb; try (have g : w.heap.size < w'.heap.size := by omega); try (have g : w.heap.size ≤ w'.heap.size := by omega)))
  go_ret2
  exact ⟨rfl, by (repeat' first | exact Below.refl _ _ | (refine Below.setCell ?_ (by first | omega | (simp; omega) | simp) _) | (refine below_drewN ?_ _) | (refine Below.alloc ?_ (by first | omega | (simp; omega) | simp) _) | (refine Below.trans ?_ (Below.mono (by assumption) (by first | omega | (simp; omega) | simp))))⟩

theorem both (x : Nat) (w0 : (Lit.float .f32 x).wf = true) : ∃ V B, (∀ w, Calls Try.prog 18 #[.float .f32 x] w (RetD (.tuple #[.int .i64 V, .bool B]) w)) ∧ (∀ w, Calls Try.prog 19 #[.float .f32 x] w (RetD (.tuple #[.int .i64 V, .bool B]) w)) := by
  have hx := Fl.lt32 w0
  cases ff : fin .f32 x
  · exact ⟨0, false, fun w => spec_short x w w0 (.inl ff), fun w => impl_short x w hx (.inl ff)⟩
  · obtain ⟨s, m, p, hd⟩ := decode_fin ff
    have hc : cl .f32 x = some x := cl_some_iff.2 (by rw [hd]; rfl)
    cases hl : cmpC .leq (ord .f32 (cl .f32 x) (some 0))
    · have hz := hl
      rw [hc, ord_zero hd] at hz
      have hm : m ≠ 0 := by
        rintro rfl
        unfold zord at hz
        rw [if_pos rfl] at hz
        cases hz
      have hs : s = false := by
        cases s
        · rfl
        · unfold zord at hz
          rw [if_neg hm] at hz
          cases hz
      subst hs
      obtain ⟨c, D, V, ec, hD, hV, h1, h2, hB, _⟩ := main_facts hd hm
      obtain ⟨b, m', p', he, hdb, hzz⟩ := widen_num hd
      have hm' : m' ≠ 0 := fun h => hm (hzz.1 h)
      refine ⟨_, true, fun w => spec_main x _ w w0 ff hl hB fun x' w f => ?_, fun w => impl_main x _ w hx ff hl hB fun x' w f => ?_⟩
      · rw [hc, ec] at f
        rw [he] at ec
        subst ec
        exact spec_log x' _ w f D V hD hV h1 h2 (eq_self hdb) (by rw [ord_zero hdb]; unfold zord; rw [if_neg hm']; rfl) (by rw [ord_zero hdb]; unfold zord; rw [if_neg hm']; rfl) (fun w => isinf_pos x' _ w f false (not_max hdb))
      · rw [hc, ec] at f
        exact impl_log x' _ w f D V hD hV h1 h2
    · exact ⟨0, false, fun w => spec_short x w w0 (.inr hl), fun w => impl_short x w hx (.inr hl)⟩
end Tenths
end Go.Proofs.Ytaacneppnpognaa
