/- What spreads: the classes. -/
import Derived.Test.YtbinjkaanbhikaaBaPu
import Derived.Test.YtbinjkaanbhikaaBaFo
namespace Go.Proofs.Ytbinjkaanbhikaa
set_option linter.unusedSimpArgs false
set_option linter.unusedVariables false
open Go.RowKit
set_option maxRecDepth 20000
namespace Ba
open Fl Rate

/-- A number that is none, or that is infinite. -/
def Wild (c : Option Nat) : Prop := c = none ∨ ∃ b s, c = some b ∧ FloatKind.f32.decode b = .infinity s

theorem inf_enc (s : Bool) : FloatKind.f32.decode (FloatKind.f32.encode (.infinity s)) = .infinity s := by cases s <;> decide +kernel

theorem wild_of {op : BinOp} {x y : Option Nat} (h : finC (op2 op .f32 x y) = false) : Wild (op2 op .f32 x y) := by
  cases hc : op2 op .f32 x y with
  | none => exact .inl rfl
  | some b =>
    rw [hc] at h
    have hn : (FloatKind.f32.decode b).isNaN = false := by
      unfold op2 at hc
      cases x with
      | none => cases hc
      | some a =>
        cases y with
        | none => cases hc
        | some d => exact (floatBits_notNaN (show floatBits op .f32 a d = some b from hc)).2.2
    rcases decode_inf (k := .f32) (b := b) h with ⟨s, hd⟩ | ⟨s, t, hd⟩
    · exact .inr ⟨b, s, rfl, hd⟩
    · rw [hd] at hn; cases hn

theorem wild_no {c : Option Nat} (h : Wild c) : finC c = false := by
  rcases h with rfl | ⟨b, s, rfl, hd⟩
  · rfl
  · show fin .f32 b = false
    cases hf : fin .f32 b
    · rfl
    · obtain ⟨s', m, p, h2⟩ := decode_fin hf
      rw [hd] at h2; cases h2

theorem wild_mul (r : Option Nat) {l : Option Nat} (h : Wild l) : Wild (op2 .mul .f32 r l) := by
  rcases h with rfl | ⟨b, s, rfl, hd⟩
  · left; cases r <;> rfl
  · cases r with
    | none => exact .inl rfl
    | some a =>
      have e : op2 .mul .f32 (some a) (some b) = ((FloatKind.f32.decode a).product (FloatKind.f32.decode b)).map FloatKind.f32.encode := rfl
      rw [e, hd]
      cases ha : FloatKind.f32.decode a with
      | nan t u => exact .inl rfl
      | infinity t => exact .inr ⟨_, _, rfl, inf_enc _⟩
      | number t m p =>
        simp only [Ieee.Datum.product]
        split
        · exact .inl rfl
        · exact .inr ⟨_, _, rfl, inf_enc _⟩

theorem wild_add (r : Option Nat) {l : Option Nat} (h : Wild l) : Wild (op2 .add .f32 r l) := by
  rcases h with rfl | ⟨b, s, rfl, hd⟩
  · left; cases r <;> rfl
  · cases r with
    | none => exact .inl rfl
    | some a =>
      have e : op2 .add .f32 (some a) (some b) = ((FloatKind.f32.decode a).sum (FloatKind.f32.decode b)).map FloatKind.f32.encode := rfl
      rw [e, hd]
      cases ha : FloatKind.f32.decode a with
      | nan t u => exact .inl rfl
      | infinity t =>
        simp only [Ieee.Datum.sum]
        split
        · exact .inr ⟨_, _, rfl, inf_enc _⟩
        · exact .inl rfl
      | number t m p => exact .inr ⟨_, _, rfl, inf_enc _⟩

/-- The numbers of a Laplace basin. -/
def lapC (W H : Int) (c : Nat → Option Nat) : Nat → Option Nat := fun k => op2 .sub .f32 (fourC c W H ((k : Int) % W) ((k : Int) / W)) (op2 .mul .f32 (some 1082130432) (c k))

/-- The numbers behind some steps. -/
def spF (W H : Int) (r : Option Nat) (c : Nat → Option Nat) : Nat → Nat → Option Nat
  | 0 => c
  | k + 1 => fun i => op2 .add .f32 (spF W H r c k i) (op2 .mul .f32 r (lapC W H (spF W H r c k) i))

/-- Whether all steps are finite. -/
def spB (W H : Int) (r : Option Nat) (c : Nat → Option Nat) (n : Nat) : Nat → Bool
  | 0 => true
  | k + 1 => spB W H r c n k && allF (spF W H r c (k + 1)) n

theorem spB_le {W H : Int} {r : Option Nat} {c : Nat → Option Nat} {n k N : Nat} (h : spB W H r c n k = false) (hk : k ≤ N) : spB W H r c n N = false := by
  induction N with
  | zero =>
    obtain rfl : k = 0 := by omega
    exact h
  | succ N ih =>
    by_cases e : k = N + 1
    · subst e; exact h
    · show (spB W H r c n N && _) = false
      rw [ih (by omega)]; rfl

theorem sp_ok {W H : Int} {r : Option Nat} {c : Nat → Option Nat} {n : Nat} (hA : okB W H n c = true) {k : Nat} (h : spB W H r c n k = true) : okB W H n (spF W H r c k) = true := by
  cases k with
  | zero => exact hA
  | succ k =>
    obtain ⟨h1, h2, h3, _⟩ := okB_of hA
    have h4 : allF (spF W H r c (k + 1)) n = true := by
      have : (spB W H r c n k && allF (spF W H r c (k + 1)) n) = true := h
      rw [Bool.and_eq_true] at this; exact this.2
    unfold okB
    rw [h1, h2, h4, decide_eq_true h3]; rfl

/-- Where the step is finite, the Laplace basin is. -/
theorem sp_lap {W H : Int} {r : Option Nat} {c : Nat → Option Nat} {n k : Nat} (h : allF (lapC W H (spF W H r c k)) n = false) : allF (spF W H r c (k + 1)) n = false := by
  cases hT : allF (spF W H r c (k + 1)) n
  · rfl
  · have : allF (lapC W H (spF W H r c k)) n = true := allF_of fun i hi => by
      have h1 := allF_at hT i hi
      cases h2 : finC (lapC W H (spF W H r c k) i)
      · have h3 := wild_no (wild_add (spF W H r c k i) (wild_mul r (wild_of (op := .sub) h2)))
        have h4 : finC (op2 .add .f32 (spF W H r c k i) (op2 .mul .f32 r (lapC W H (spF W H r c k) i))) = true := h1
        rw [show op2 .add .f32 (spF W H r c k i) (op2 .mul .f32 r (lapC W H (spF W H r c k) i)) = op2 .add .f32 (spF W H r c k i) (op2 .mul .f32 r (op2 .sub .f32 (fourC (spF W H r c k) W H ((i : Int) % W) ((i : Int) / W)) (op2 .mul .f32 (some 1082130432) (spF W H r c k i)))) from rfl, h3] at h4
        cases h4
      · rfl
    rw [this] at h; cases h

set_option maxHeartbeats 3200000 in
theorem impl_spread1 (W H : Int) (a : Option Addr) (n cap : Nat) (f : Nat → Option Nat) (x1 y1 p0 y : Nat) (d : Option Nat) (w : World) (h : IsY w a n cap f) (hW : sideB W = true) (hH : sideB H = true) (hn : (n : Int) = W * H) (hx : (x1 : Int) < W) (hy : (y1 : Int) < H) (s1 : 3 ≤ W ∧ W ≤ 16) (s2 : 3 ≤ H ∧ H ≤ 16) (fy : Fr .f32 y d) (e0 : w.cell? ⟨p0, 0, none⟩ = some (.float .f32 y)) :
    Calls Try.prog 105 #[bV W H a n cap, .int .i64 (x1 : Int), .int .i64 (y1 : Int), .pointer (some ⟨p0, 0, none⟩)] w (RetF .f32 (op2 .add .f32 (f ((W * (y1 : Int)).toNat + x1)) (op2 .mul .f32 d (lapC W H f ((W * (y1 : Int)).toNat + x1)))) w) := by
  have HX := Lib.hid h
  have l0 := block_lt_of_cell e0
  have hi := idx_cell hx hy
  have hl : op2 .sub .f32 (fourC f W H (x1 : Int) (y1 : Int)) (op2 .mul .f32 (some 1082130432) (f (idx W H (x1 : Int) (y1 : Int)))) = lapC W H f ((W * (y1 : Int)).toNat + x1) := laplace_at s1.1 hx hy
  rw [← hl, ← hi]
  clear hl hi h
  go_enter Try.func105, Try.ntmps105
  go_wp2
  refine Loose.wp_region_below 11 [] (by kernel_rfl) (by kernel_rfl) (by simp [undef]) ?_
  apply Exists.intro
  simp only [List.take_succ_cons, List.take_zero, List.drop_succ_cons, List.drop_zero]
  repeat (first | (apply Loose.walk_step; intro K hK; apply Loose.turn_value (hwant := rfl) (hd := rfl); (focus (intro w' hw'; obtain ⟨hc, hf⟩ := Fl.bcell hw'; go_simp; first | done | rfl | exact ⟨rfl, rfl⟩)); go_simp; refine hK _ ?_; clear hK K) | (apply Loose.walk_step; intro K hK; apply Loose.turn_callFB (Nat.le_refl _) (hwant := rfl) (hd := rfl); (focus (intro w'; go_simp; first | done | rfl | exact ⟨rfl, rfl⟩)); (focus (intro w' hw'; go_at_call 84; exact impl_at W H a n cap f w' ((HX.out.alloc _).later hw') hW hH hn (x1 : Int) (y1 : Int) (by omega) (by omega))); intro r hr; go_simp; refine hK _ ?_; clear hK K) | (apply Loose.walk_step; intro K hK; apply Loose.turn_callFB (Nat.le_refl _) (hwant := rfl) (hd := rfl); (focus (intro w'; go_simp; first | done | rfl | exact ⟨rfl, rfl⟩)); (focus (intro w' hw'; go_at_call 106; exact impl_laplace W H a n cap f w' ((HX.out.alloc _).later hw') hW hH hn (x1 : Int) (y1 : Int) (by omega) (by omega))); intro r hr; go_simp; refine hK _ ?_; clear hK K) | (apply Loose.walk_step; intro K hK; apply Loose.turn_callF (Nat.le_refl _) (hwant := rfl) (hd := rfl); (focus (intro w'; go_simp; first | done | rfl | exact ⟨rfl, rfl⟩)); (focus (intro w'; go_at_call 69; exact product_run _ _ _ _ _ (by assumption) (by assumption))); intro r hr; go_simp; refine hK _ ?_; clear hK K) | (apply Loose.walk_step; intro K hK; refine Loose.turn_fl (Nat.le_refl _) rfl rfl rfl rfl rfl rfl (by assumption) (by assumption) ?_; intro r hr; go_simp; refine hK _ ?_; clear hK K))
  refine Loose.walk_nil ?_
  intro w1 hcls1
  obtain ⟨hb1, _⟩ := hcls1
  obtain ⟨hc1, hf1⟩ := Fl.bcell hb1
  have hz1 := hb1.size
  try simp only [World.size_alloc, World.size_setCell, World.heap_drewN, World.size_drew] at hz1
  go_wp2
  go_ret
  exact ⟨_, rfl, by assumption, by (repeat' first | exact Below.refl _ _ | (refine Below.setCell ?_ (by first | omega | (simp; omega) | simp) _) | (refine below_drewN ?_ _) | (refine Below.alloc ?_ (by first | omega | (simp; omega) | simp) _) | (refine Below.trans ?_ (Below.mono (by assumption) (by first | omega | (simp; omega) | simp))))⟩

theorem enter_spread1 (args : Array Value) (w : World) : (callFunc 105 args).run Try.prog w = .ok (.enter 105 args) w := by go_simp

end Ba
end Go.Proofs.Ytbinjkaanbhikaa
