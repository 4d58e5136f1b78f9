/- Lists of whirls: marks that a caller writes into them, and that they are held. -/
import Derived.Test.YtpmnjbgfdhhomaaWs
namespace Go.Proofs.Ytpmnjbgfdhhomaa
set_option linter.unusedSimpArgs false
set_option linter.unusedVariables false
open Go.RowKit
namespace Ws
open Fl Rate

/-! ### Marks -/

def mkC (K : Int) : Option Nat := convC .f64 .f32 (cl .f64 (floatOfInt .f64 K))
def oneC : Option Nat := convC .f64 .f32 (some 4607182418800017408)
def msC (K : Int) : Option Nat := cl .f32 (floatOfInt .f32 K)

theorem order_self {k : FloatKind} {r : Nat} (h : (k.decode r).isNaN = false) : k.format.order r r = some .eq := by
  unfold Ieee.Format.order
  change (k.format.read r).isNaN = false at h
  cases hd : k.format.read r with
  | nan s t => rw [hd] at h; cases h
  | infinity s => cases s <;> rfl
  | number s m p => show some (compare _ _) = _; rw [Std.compare_self]

theorem mk_facts {K : Int} (h : K.natAbs ≤ 128) : Fits .f64 .f32 (cl .f64 (floatOfInt .f64 K)) ∧ ord .f32 (mkC K) (mkC K) = some .eq := by
  have hb := Log.int_bd (n := K) (e := 7) h (by omega)
  have hf := hb.fits (by omega)
  refine ⟨hf, ?_⟩
  obtain ⟨b, e, k⟩ := hb
  rcases hf with hf | hf
  · cases hf
  · obtain ⟨r, hr⟩ := Option.isSome_iff_exists.1 (hf b e k.toDL.num.1)
    have hm : mkC K = some r := by
      unfold mkC convC
      rw [if_neg (by decide), e]
      exact hr
    rw [hm]
    exact order_self (floatToFloat_notNaN (by decide) hr)

theorem one_facts : Fits .f64 .f32 (some 4607182418800017408) ∧ ord .f32 oneC oneC = some .eq := ⟨.inr fun b hb _ => by cases hb; decide +kernel, by decide +kernel⟩

theorem ms_facts (K : Int) : ord .f32 (msC K) (msC K) = some .eq ∧ Fr .f32 (floatOfInt .f32 K) (msC K) := by
  have hn : (FloatKind.f32.decode (floatOfInt .f32 K)).isNaN = false := by
    show (FloatKind.f32.format.read (FloatKind.f32.format.write (.number _ _ _))).isNaN = false
    exact write_notNaN _ _ rfl
  have hc : msC K = some (floatOfInt .f32 K) := cl_some_iff.2 hn
  refine ⟨by rw [hc]; exact order_self hn, ⟨rfl, ?_⟩⟩
  unfold floatOfInt FloatKind.nearest
  exact FloatKind.f32.format.write_lt _

section
variable {P : Program} {w : World} {ops : Array Oper} {rest : List Oper} {o : Oper} {a : Act} {Q : Exit → Act → World → Prop}
theorem run_cneq (w : World) (t : TypeId) {k : FloatKind} {x y x' y' : Nat} {c d : Option Nat} (fx : Fr k x c) (fy : Fr k y d) (fx' : Fr k x' c) (fy' : Fr k y' d) (hc : ord k c c = some .eq) (hd : ord k d d = some .eq) :
    (binOp .neq t (.complex k x y) (.complex k x' y')).run P w = .ok (.bool false) w := by
  have e1 : k.format.order x x' = some .eq := by rw [order_cl, fx.1, fx'.1]; exact hc
  have e2 : k.format.order y y' = some .eq := by rw [order_cl, fy.1, fy'.1]; exact hd
  simp [binOp, Op.complexOp, Op.Complex.cmp, Op.floatCmp, asBool, e1, e2]

theorem wpList_cneq (hg : Region.wanted o (yielded ops a.tmps) = true) {t yt : TypeId} {x y : Operand} (hop : o.op = Op.binOp .neq t x y yt) {k : FloatKind} {p q p' q' : Nat} (hx : a.eval x = .complex k p q) (hy : a.eval y = .complex k p' q')
    {c d : Option Nat} (fp : Fr k p c) (fq : Fr k q d) (fp' : Fr k p' c) (fq' : Fr k q' d) (hc : ord k c c = some .eq) (hd : ord k d d = some .eq) (hK : wpList P ops Q rest (a.put o.dst (.bool false)) w) : wpList P ops Q (o :: rest) a w := by
  refine wpList_step fun K hK' => ?_
  rw [if_pos hg]
  have hrun := run_cneq (P := P) w t fp fq fp' fq' hc hd
  unfold Oper.wp
  simp [execOp, hop, hx, hy, eqGuard_at_complex, hrun, Result.andThen]
  exact hK' _ _ hK
end

theorem set_block {w : World} {g : Nat} {c : Array Value} {t : TypeId} (h : w.heap[g]? = some (.cells c t)) (i : Nat) (v : Value) : (w.setCell ⟨g, i, none⟩ v).heap[g]? = some (.cells (c.setIfInBounds i v) t) := by
  simp [World.setCell, Array.getElem?_modify, h]

theorem set_other {w : World} {g b : Nat} (i : Nat) (v : Value) (h : b ≠ g) : (w.setCell ⟨g, i, none⟩ v).heap[b]? = w.heap[b]? := by
  simp [World.setCell, Array.getElem?_modify]
  intro e; exact absurd e.symm h

/-- Nothing but block g has turned. -/
def Keep (g : Nat) (w w' : World) : Prop := Below g w w' ∧ ∀ b, b ≠ g → b < w.heap.size → w'.heap[b]? = w.heap[b]?

theorem Keep.isW {g g2 n : Nat} {cx cy cs : Nat → Option Nat} {w w' : World} (h : IsW w g2 n cx cy cs) (hk : Keep g w w') (hne : g2 ≠ g) : IsW w' g2 n cx cy cs := by
  have hl := h.lt
  obtain ⟨cur, h1, h2⟩ := h
  exact ⟨cur, by rw [hk.2 g2 hne hl]; exact h1, h2⟩

theorem isint (K : Int) : Fr .f64 (floatOfInt .f64 K) (cl .f64 (floatOfInt .f64 K)) := Turn.intFr K

set_option maxHeartbeats 1600000 in
theorem mark_whirls (g n cap : Nat) (cx cy cs : Nat → Option Nat) (w : World) (h : IsW w g n cx cy cs) (hn : n ≤ 32) :
    Calls Try.prog 17 #[.slice (some ⟨g, 0, none⟩) n cap, .int .i64 1] w (fun e w' => e = .returned (.int .i64 (1 + 2 * (n : Int))) ∧ IsW w' g n (fun i => mkC (1 + 2 * (i : Int))) (fun _ => oneC) (fun i => msC (2 + 2 * (i : Int))) ∧ Keep g w w') := by
  have hg := h.lt
  have f1 : Fr .f64 4607182418800017408 (some 4607182418800017408) := Fr.const (by decide +kernel) (by decide)
  obtain ⟨cur0, hc0, hs0, _⟩ := h
  go_enter Try.func17, Try.ntmps17
  go_wp2
  go_loopw [1, 5] (fun s i wr => ∃ (k : Nat) (cur : Array Value), k ≤ n ∧ i = .int .i64 k ∧ s = .int .i64 (1 + 2 * (k : Int)) ∧ wr.heap[g]? = some (.cells cur 63) ∧ n * 2 ≤ cur.size ∧ (∀ j, j < k → ∃ x y s, cur[j * 2]? = some (.complex .f32 x y) ∧ cur[j * 2 + 1]? = some (.float .f32 s) ∧ Fr .f32 x (mkC (1 + 2 * (j : Int))) ∧ Fr .f32 y oneC ∧ Fr .f32 s (msC (2 + 2 * (j : Int)))) ∧ Keep g w wr)
    (fun _ i _ => n - (intOf i).toNat)
  case atStart => exact ⟨0, cur0, Nat.zero_le _, rfl, rfl, hc0, hs0, fun j hj => absurd hj (Nat.not_lt_zero _), Below.refl _ _, fun _ _ _ => rfl⟩
  case round =>
    clear hc0 hs0
    obtain ⟨k, cur, hk, rfl, rfl, hb, hs, hdone, hkeep⟩ := hrel
    have HS := Lib.hid hs; clear hs
    have HD := Lib.hid hdone; clear hdone
    by_cases hlt : k < n
    · have hd1 : wr.cell? ⟨g, k * 2, none⟩ = some cur[k * 2]! := by
        rw [Loose.cells_of hb]
        have : k * 2 < cur.size := by have := HS.out; omega
        simp [this]
      have hd2 : wr.cell? ⟨g, k * 2 + 1, none⟩ = some cur[k * 2 + 1]! := by
        rw [Loose.cells_of hb]
        have : k * 2 + 1 < cur.size := by have := HS.out; omega
        simp [this]
      generalize cur[k * 2]! = old1 at *
      generalize cur[k * 2 + 1]! = old2 at *
      have hfree := Loose.free_of hb (k * 2)
      have hfree2 := Loose.free_of hb (k * 2 + 1)
      have fk := isint (1 + 2 * (k : Int))
      obtain ⟨hF1, _⟩ := mk_facts (K := 1 + 2 * (k : Int)) (by omega)
      have HF1 := Lib.hid hF1; clear hF1
      have HF2 := Lib.hid one_facts.1
      have HB := Lib.hid hb; clear hb
      have HK := Lib.hid hkeep; clear hkeep
      go_wp2_with (first | (refine Fl.wpList_cconv rfl rfl rfl (by kernel_rfl) Try.underlying40 fk f1 HF1.out HF2.out ?_; intro r q n hr hq))
      go_roundw
      case rel =>
        refine ⟨k + 1, (cur.setIfInBounds (k * 2) (.complex .f32 r q)).setIfInBounds (k * 2 + 1) (.float .f32 (floatOfInt .f32 (1 + 2 * (k : Int) + 1))), by omega, by go_num, by go_num, set_block (set_block HB.out _ _) _ _, by have := HS.out; simpa using this, fun j hj => ?_, (by refine Below.setCell ?_ (Nat.le_refl g) _; refine Below.setCell ?_ (Nat.le_refl g) _; first | exact below_drewN HK.out.1 _ | exact HK.out.1), fun b hbne hbl => ?_⟩
        · by_cases hjk : j = k
          · subst hjk
            refine ⟨r, q, floatOfInt .f32 (1 + 2 * (j : Int) + 1), ?_, ?_, hr, hq, ?_⟩
            · rw [Array.getElem?_setIfInBounds_ne (by omega), Array.getElem?_setIfInBounds_self_of_lt (by have := HS.out; omega)]
            · rw [Array.getElem?_setIfInBounds_self_of_lt (by have := HS.out; simp; omega)]
            · have e : 1 + 2 * (j : Int) + 1 = 2 + 2 * (j : Int) := by omega
              rw [e]; exact (ms_facts _).2
          · obtain ⟨x, y, s, k1, k2, k3⟩ := HD.out j (by omega)
            refine ⟨x, y, s, ?_, ?_, k3⟩
            · rw [Array.getElem?_setIfInBounds_ne (by omega), Array.getElem?_setIfInBounds_ne (by omega)]; exact k1
            · rw [Array.getElem?_setIfInBounds_ne (by omega), Array.getElem?_setIfInBounds_ne (by omega)]; exact k2
        · rw [set_other _ _ hbne, set_other _ _ hbne]
          exact HK.out.2 b hbne hbl
      case measure => simp [intOf]; omega
    · obtain rfl : n = k := by omega
      go_wp2
      go_ret
      exact ⟨rfl, ⟨cur, hb, HS.out, HD.out⟩, hkeep⟩

set_option maxHeartbeats 1600000 in
theorem held_whirls (g n cap : Nat) (w : World) (h : IsW w g n (fun i => mkC (1 + 2 * (i : Int))) (fun _ => oneC) (fun i => msC (2 + 2 * (i : Int)))) (hn : n ≤ 32) :
    Calls Try.prog 18 #[.slice (some ⟨g, 0, none⟩) n cap, .int .i64 1] w (RetD (.int .i64 (1 + 2 * (n : Int))) w) := by
  have hg := h.lt
  have f1 : Fr .f64 4607182418800017408 (some 4607182418800017408) := Fr.const (by decide +kernel) (by decide)
  have H := Lib.hid h; clear h
  go_enter Try.func18, Try.ntmps18
  go_wp2
  go_loopw [1, 5] (fun s i wr => ∃ k : Nat, k ≤ n ∧ i = .int .i64 k ∧ s = .int .i64 (1 + 2 * (k : Int)) ∧ Below w.heap.size w wr) (fun _ i _ => n - (intOf i).toNat)
  case atStart => exact ⟨0, Nat.zero_le _, rfl, rfl, Below.refl _ _⟩
  case round =>
    obtain ⟨k, hk, rfl, rfl, hbel⟩ := hrel
    by_cases hlt : k < n
    · obtain ⟨x, y, s, e1, e2, k1, k2, k3⟩ := (H.out.later hbel).at hlt
      have hgr : g < wr.heap.size := by have := hbel.size; omega
      have fk := isint (1 + 2 * (k : Int))
      obtain ⟨hF1, hO1⟩ := mk_facts (K := 1 + 2 * (k : Int)) (by omega)
      have HF1 := Lib.hid hF1; clear hF1
      have HF2 := Lib.hid one_facts.1
      have HO1 := Lib.hid hO1; clear hO1
      have HO2 := Lib.hid one_facts.2
      have fs : Fr .f32 (floatOfInt .f32 (1 + 2 * (k : Int) + 1)) (msC (2 + 2 * (k : Int))) := by
        have e : 1 + 2 * (k : Int) + 1 = 2 + 2 * (k : Int) := by omega
        rw [e]; exact (ms_facts _).2
      have hO3 := (ms_facts (2 + 2 * (k : Int))).1
      have hO4 : cmpC .neq (some .eq) = false := rfl
      have hM : ∀ r, Fr .f32 r (convC .f64 .f32 (cl .f64 (floatOfInt .f64 (1 + 2 * (k : Int))))) → Fr .f32 r (mkC (1 + 2 * (k : Int))) := fun r h => h
      have hQ : ∀ r, Fr .f32 r (convC .f64 .f32 (some 4607182418800017408)) → Fr .f32 r oneC := fun r h => h
      have HM := Lib.hid hM; clear hM
      have HQ := Lib.hid hQ; clear hQ
      clear H
      generalize mkC (1 + 2 * (k : Int)) = M at *
      generalize oneC = O at *
      generalize msC (2 + 2 * (k : Int)) = S at *
      have HB := Lib.hid hbel; clear hbel
      go_wp2_with (first | (refine Fl.wpList_cconv rfl rfl rfl (by kernel_rfl) Try.underlying40 fk f1 HF1.out HF2.out ?_; intro r q n hr hq; replace hr := HM.out _ hr; replace hq := HQ.out _ hq) | (refine wpList_cneq rfl rfl rfl rfl k1 k2 hr hq HO1.out HO2.out ?_) | (refine Fl.wpList_cmp rfl rfl rfl rfl rfl k3 fs ?_; try simp only [hO3, hO4]))
      go_roundw
      case rel => exact ⟨k + 1, by omega, by go_num, by go_num, by have hbel := HB.out; exact below_drewN hbel _⟩
      case measure => simp [intOf]; omega
    · obtain rfl : n = k := by omega
      go_wp2
      go_ret
      exact ⟨rfl, hbel⟩

theorem mark_none (w : World) : Calls Try.prog 17 #[.slice none 0 0, .int .i64 1] w (RetD (.int .i64 1) w) := by
  go_enter Try.func17, Try.ntmps17
  go_wp2
  go_loopw [1, 5] (fun s i wr => i = .int .i64 0 ∧ s = .int .i64 1 ∧ Below w.heap.size w wr) (fun _ i _ => 0)
  case atStart => exact ⟨rfl, rfl, Below.refl _ _⟩
  case round =>
    obtain ⟨rfl, rfl, hbel⟩ := hrel
    go_wp2
    go_ret
    exact ⟨rfl, hbel⟩

theorem held_none (w : World) : Calls Try.prog 18 #[.slice none 0 0, .int .i64 1] w (RetD (.int .i64 1) w) := by
  go_enter Try.func18, Try.ntmps18
  go_wp2
  go_loopw [1, 5] (fun s i wr => i = .int .i64 0 ∧ s = .int .i64 1 ∧ Below w.heap.size w wr) (fun _ i _ => 0)
  case atStart => exact ⟨rfl, rfl, Below.refl _ _⟩
  case round =>
    obtain ⟨rfl, rfl, hbel⟩ := hrel
    go_wp2
    go_ret
    exact ⟨rfl, hbel⟩

end Ws
end Go.Proofs.Ytpmnjbgfdhhomaa
