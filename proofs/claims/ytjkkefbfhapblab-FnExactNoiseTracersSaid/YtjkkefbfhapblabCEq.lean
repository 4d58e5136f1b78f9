/- Lists of complex numbers: comparison. -/
import Derived.Test.YtjkkefbfhapblabMk
import Derived.LoopTactic
namespace Go.Proofs.Ytjkkefbfhapblab
set_option linter.unusedSimpArgs false
set_option linter.unusedVariables false
open Go.RowKit
namespace Loose
open Fl
variable {P : Program} {ops : Array Oper} {o : Oper} {a : Act} {w0 : World} {B : Nat} {bx : List (Nat × Obj)} {K : Act → Prop}

theorem turn_cconv (hB : B ≤ w0.heap.size) (hwant : Region.wanted o (yielded ops a.tmps) = true) (hd : away o.dst bx = true) {src dst : TypeId} {x : Operand} (hop : o.op = Op.convert src dst x) {s k : FloatKind} {b d : Nat} (hx : a.eval x = .complex s b d) (hs : (P.underlying src).isSome = true) (hdt : P.underlying dst = some (.complex k))
    {c e : Option Nat} (fx : Fr s b c) (fy : Fr s d e) (hf : Fits s k c) (hf' : Fits s k e) (hk : ∀ r q, Fr k r (convC s k c) → Fr k q (convC s k e) → K (a.put o.dst (.complex k r q))) : turn P ops (Cls B w0 bx) (fun u => ∃ r q, u = .complex k r q ∧ Fr k r (convC s k c) ∧ Fr k q (convC s k e)) o K a := by
  refine turn_set hwant ?_ (fun a' w _ hw => ?_) (fun v hv => ?_)
  · obtain ⟨r, q, n, hrun, hr, hq⟩ := run_cconv (P := P) default src dst s k b d c e hs hdt fx fy hf hf'
    exact ⟨_, r, q, rfl, hr, hq⟩
  · obtain ⟨r, q, n, hrun, hr, hq⟩ := run_cconv (P := P) w src dst s k b d c e hs hdt fx fy hf hf'
    simp [execOp, hop, hx, hrun, Result.andThen, Upon]
    refine ⟨?_, (hw.later hB (below_drewN (Below.refl _ _) n)).put hd _⟩
    first | exact ⟨r, q, ⟨rfl, rfl⟩, hr, hq⟩ | exact ⟨r, q, rfl, hr, hq⟩ | exact ⟨r, ⟨rfl, hr⟩, q, rfl, hq⟩ | exact ⟨r, q, rfl, rfl, hr, hq⟩ | trace_state
  · obtain ⟨r, q, rfl, hr, hq⟩ := hv; exact hk r q hr hq
end Loose
namespace CEq
open Fl

theorem same_complex (x y x' y' : Nat) (c d : Option Nat) (w : World) (f1 : Fr .f64 x c) (f2 : Fr .f64 y d) (f3 : Fr .f64 x' c) (f4 : Fr .f64 y' d) : Calls Try.prog 45 #[.complex .f64 x y, .complex .f64 x' y'] w (RetD (.bool true) w) := by
  go_enter Try.func45, Try.ntmps45
  go_wp2_with (first | (go_at_call 70; refine (Same.same_true _ _ _ _ (by assumption) (by assumption)).mono ?_; rintro e w' ⟨n, rfl, rfl⟩))
  go_ret
  exact ⟨rfl, by (repeat' first | exact Below.refl _ _ | (refine Below.setCell ?_ (by first | omega | (simp; omega) | simp) _) | (refine below_drewN ?_ _) | (refine Below.alloc ?_ (by first | omega | (simp; omega) | simp) _) | (refine Below.trans ?_ (Below.mono (by assumption) (by first | omega | (simp; omega) | simp))))⟩

/-- Complex numbers of these classes. -/
def IsX (w : World) (a : Option Addr) (len cap : Nat) (cx cy : Nat → Option Nat) : Prop :=
  len ≤ cap ∧ cap ≤ maxLen ∧ ∃ b off, (0 < len → a = some ⟨b, off, none⟩) ∧ ∀ i, i < len → ∃ x y, w.cell? ⟨b, off + i, none⟩ = some (.complex .f32 x y) ∧ Fr .f32 x (cx i) ∧ Fr .f32 y (cy i)

theorem IsX.later {w w' : World} {a : Option Addr} {len cap : Nat} {cx cy : Nat → Option Nat} (h : IsX w a len cap cx cy) (hb : Below w.heap.size w w') : IsX w' a len cap cx cy := by
  obtain ⟨h2, h3, b, off, h5, h6⟩ := h
  refine ⟨h2, h3, b, off, h5, fun i hi => ?_⟩
  obtain ⟨x, y, h7, h8⟩ := h6 i hi
  exact ⟨x, y, by rw [hb.cell (block_lt_of_cell h7)]; exact h7, h8⟩

set_option maxRecDepth 20000 in
set_option maxHeartbeats 1600000 in
theorem eq_complexes (a a' : Option Addr) (len cap cap' : Nat) (cx cy : Nat → Option Nat) (w : World) (hn : IsX w a len cap cx cy) (hn' : IsX w a' len cap' cx cy) :
    Calls Try.prog 12 #[.slice a len cap, .slice a' len cap'] w (RetD (.bool true) w) := by
  obtain ⟨h2, h3, b, off, h5, h6⟩ := hn
  obtain ⟨g2, g3, b', off', g5, g6⟩ := hn'
  have H5 := Lib.hid h5; clear h5
  have H6 := Lib.hid h6; clear h6
  have G5 := Lib.hid g5; clear g5
  have G6 := Lib.hid g6; clear g6
  unfold maxLen at h3 g3
  go_enter Try.func12, Try.ntmps12
  go_wp2
  go_loopw [5] (fun i wr => ∃ k : Nat, k ≤ len ∧ i = .int .i64 k ∧ Below w.heap.size w wr) (fun i _ => len - (intOf i).toNat)
  case atStart => exact ⟨0, Nat.zero_le _, rfl, Below.refl _ _⟩
  case round =>
    obtain ⟨k, hk, rfl, hbel⟩ := hrel
    by_cases hlt : k < len
    · obtain rfl := H5.out (by omega)
      obtain rfl := G5.out (by omega)
      obtain ⟨x, y, e1, fx, fy⟩ := H6.out k hlt
      obtain ⟨x', y', e1', fx', fy'⟩ := G6.out k hlt
      have hsrc : wr.cell? ⟨b, off + k, none⟩ = some (.complex .f32 x y) := by rw [hbel.cell (block_lt_of_cell e1)]; exact e1
      have hsrc' : wr.cell? ⟨b', off' + k, none⟩ = some (.complex .f32 x' y') := by rw [hbel.cell (block_lt_of_cell e1')]; exact e1'
      clear e1 e1'
      generalize cx k = c at *
      generalize cy k = d at *
      have HB := Lib.hid hbel; clear hbel
      have hlb : b < wr.heap.size := block_lt_of_cell hsrc
      have hlb' : b' < wr.heap.size := block_lt_of_cell hsrc'
      go_wp2_with fail
      refine Loose.wp_region_below 11 [] (by kernel_rfl) (by kernel_rfl) (by simp [undef]) ?_
      apply Exists.intro
      simp only [List.take_succ_cons, List.take_zero, List.drop_succ_cons, List.drop_zero]
      repeat (first | (apply Loose.walk_step; intro K hK; apply Loose.turn_value (hwant := rfl) (hd := rfl); (focus (intro w' hw'; obtain ⟨hc, hf⟩ := Fl.bcell hw'; go_simp; first | done | rfl | exact ⟨rfl, rfl⟩)); go_simp; refine hK _ ?_; clear hK K) | (apply Loose.walk_step; intro K hK; refine Loose.turn_cconv (Nat.le_refl _) rfl rfl rfl rfl (by kernel_rfl) Try.underlying68 (by assumption) (by assumption) (Fl.fits_wide _) (Fl.fits_wide _) ?_; intro r q hr hq; go_simp; refine hK _ ?_; clear hK K) | (apply Loose.walk_step; intro K hK; apply Loose.turn_callD (Nat.le_refl _) (hwant := rfl) (hd := rfl); (focus (intro w'; go_simp; first | done | rfl | exact ⟨rfl, rfl⟩)); (focus (intro w'; go_at_call 45; exact same_complex _ _ _ _ _ _ _ (by assumption) (by assumption) (by assumption) (by assumption))); skip; go_simp; refine hK _ ?_; clear hK K))
      refine Loose.walk_nil ?_
      intro w1 hcls1
      obtain ⟨hb1, _⟩ := hcls1
      obtain ⟨hc1, hf1⟩ := Fl.bcell hb1
      have hz1 := hb1.size
      try simp only [World.size_alloc, World.size_setCell, World.heap_drewN, World.size_drew] at hz1
      go_wp2
      go_roundw
      case rel => exact ⟨k + 1, by omega, by go_num, HB.out.trans (hb1.mono HB.out.size)⟩
      case measure => simp [intOf]; omega
    · go_wp2
      go_ret
      exact ⟨rfl, hbel⟩
end CEq
end Go.Proofs.Ytjkkefbfhapblab
