/- The bits of a thread's points. -/
import Derived.Test.YtjkkefbfhapblaaThGr
import Derived.Test.YtjkkefbfhapblaaThE
import Derived.Test.YtjkkefbfhapblaaSameV
import Derived.ChangeKeysEq
import Derived.Laws.Cover3
namespace Go.Proofs.Ytjkkefbfhapblaa
set_option linter.unusedSimpArgs false
set_option linter.unusedVariables false
open Go.RowKit
set_option maxRecDepth 20000
namespace LooseP
open Fl Loose
variable {P : Program} {ops : Array Oper} {K : Act → Prop} {a : Act} {o : Oper} {B : Nat} {w0 : World} {ds : List (Nat × (Value → World → Prop))}

theorem wp_regionQ {id : Nat} {Q : Exit → Act → World → Prop} {a : Act} {w : World} {l : List Oper} (n : Nat) (ds : List (Nat × (Value → World → Prop))) (hm : P.follows .mixedOrders = true) (hB : Region.lexTailB .any l.toArray n = true)
    (h0 : ∀ p ∈ ds, ∀ v, a.tmps[p.1]? = some v → v ≠ undef → p.2 v w.drew)
    (h : ∃ Vs, walk P l.toArray (Cls w.heap.size w ds) (fun a' => ∀ w', Cls w.heap.size w ds a' w' → wpList P l.toArray Q (l.drop n) a' w') (l.take n) Vs a) : (Code.region id l.toArray true).wp P Q a w := by
  obtain ⟨Vs, h⟩ := h
  exact wp_region_loose n hm hB (Cls w.heap.size w ds) ⟨(Below.refl _ _).drew, h0⟩ Vs h

theorem turn_callD {v : Value} (hst : ∀ p ∈ ds, Stable p.2) (hB : B ≤ w0.heap.size) {f : FuncId} {args : Array Value} (hwant : Region.wanted o (yielded ops a.tmps) = true) (hd : off o.dst ds = true)
    (hrun : ∀ w', (execOp a.eval o).run P w' = .ok (.enter f args) w') (hcall : ∀ w', Calls P f args w' (RetD v w')) (hk : K (a.put o.dst v)) : turn P ops (Cls B w0 ds) (fun u => u = v) o K a := by
  refine turn_set hwant ⟨v, rfl⟩ (fun a' w _ hw => ?_) (fun u hu => by rw [hu]; exact hk)
  rw [hrun w]
  exact (hcall w).mono fun e w'' ⟨he, hb⟩ => ⟨v, he, rfl, (hw.later hst hB hb).put hd _⟩

/-- A new row. -/
theorem turn_rowP {φ : Value → World → Prop} {d n : Nat} {ob : Obj} (hst : ∀ p ∈ ds, Stable p.2) (hB : B ≤ w0.heap.size) (hwant : Region.wanted o (yielded ops a.tmps) = true) (hdst : o.dst = some d) (huni : ∀ p ∈ ds, p.1 = d → p.2 = φ)
    (hrun : ∀ w', (execOp a.eval o).run P w' = .ok (.value (.slice (some ⟨w'.heap.size, 0, none⟩) n n)) (w'.alloc ob)) (hφ : ∀ w' : World, B ≤ w'.heap.size → φ (.slice (some ⟨w'.heap.size, 0, none⟩) n n) (w'.alloc ob))
    (hk : ∀ b, B ≤ b → K (a.put (some d) (.slice (some ⟨b, 0, none⟩) n n))) : turn P ops (Cls B w0 ds) (fun u => ∃ b, B ≤ b ∧ u = .slice (some ⟨b, 0, none⟩) n n) o K a := by
  refine turn_set hwant ⟨_, B, Nat.le_refl _, rfl⟩ (fun a' w _ hw => ?_) (fun u hu => by obtain ⟨b, hb, rfl⟩ := hu; rw [hdst]; exact hk b hb)
  rw [hrun w]
  have hle : B ≤ w.heap.size := Nat.le_trans hB hw.1.size
  refine ⟨⟨_, hle, rfl⟩, ?_⟩
  rw [hdst]
  exact (hw.later hst hB ((Below.refl _ _).alloc (Nat.le_refl _) _)).set huni _ (hφ w hle)
end LooseP
namespace Th
open Fl Rate

theorem impl_num (x y : Nat) (c d : Option Nat) (b : Bool) (w : World) (f : Fr .f32 x c) (g : Fr .f32 y d) (hs : (bitsC c == bitsC d) = b) : Calls Try.prog 61 #[.float .f32 x, .float .f32 y] w (RetD (.bool b) w) := by
  go_enter Try.func61, Try.ntmps61
  go_wp2_with (first | (go_at_call 104; refine (SameV.impl_bits _ _ _ (by assumption)).mono ?_; rintro e w' ⟨rfl, hb⟩; have hz := hb.size; try simp only [World.size_alloc, World.size_setCell, World.heap_drewN, World.size_drew] at hz; obtain ⟨hc, hf⟩ := Fl.bcell hb; try (have g : w.heap.size < w'.heap.size := by omega); try (have g : w.heap.size ≤ w'.heap.size := by omega)))
  go_ret
  refine ⟨?_, by (repeat' first | exact Below.refl _ _ | (refine Below.setCell ?_ (by first | omega | (simp; omega) | simp) _) | (refine below_drewN ?_ _) | (refine Below.alloc ?_ (by first | omega | (simp; omega) | simp) _) | (refine Below.trans ?_ (Below.mono (by assumption) (by first | omega | (simp; omega) | simp))))⟩
  simp_all

theorem A_infoI : (Try.prog.info? 2).map (fun i => (i.zero, i.size, i.bytes)) = some (some (.int .i64 0), 1, 8) := by kernel_rfl

theorem info_i : ∃ i, Try.prog.info? 2 = some i ∧ i.zero = some (.int .i64 0) ∧ i.size = 1 ∧ i.bytes = 8 := by
  have h := A_infoI
  cases hi : Try.prog.info? 2 with
  | none => rw [hi] at h; cases h
  | some i =>
    rw [hi] at h
    simp only [Option.map_some, Option.some.injEq, Prod.mk.injEq] at h
    exact ⟨i, rfl, h.1, h.2.1, h.2.2⟩

@[go_sem] theorem eq_point (a b c d e f : Int) (w : World) : (Op.equalIn 10000 82 (.agg #[.int .i64 a, .int .i64 b, .int .i64 c]) (.agg #[.int .i64 d, .int .i64 e, .int .i64 f])).run Try.prog w = .ok (a == d && b == e && c == f) w := by
  have u := Try.underlying2
  obtain ⟨i, hi, _, _, _⟩ := info_i
  have hc : Try.prog.cellsOf 2 = 1 := by kernel_rfl
  rw [show (10000 : Nat) = 9999 + 1 from rfl, run_equalIn_array w 9999 _ _ Try.underlying82 hi, hc]
  simp only [show List.range 3 = [0, 1, 2] from rfl, Op.eqItems]
  go_simp
  by_cases h1 : a = d <;> by_cases h2 : b = e <;> by_cases h3 : c = f <;> simp [h1, h2, h3]

/-- The bits of these numbers. -/
def bl (c : Nat → Option Nat) : Nat → List Value
  | 0 => []
  | k + 1 => bl c k ++ [.int .i64 (bitsC (c (k * 3))), .int .i64 (bitsC (c (k * 3 + 1))), .int .i64 (bitsC (c (k * 3 + 2)))]

theorem bl_len (c : Nat → Option Nat) : ∀ n, (bl c n).length = n * 3
  | 0 => rfl
  | k + 1 => by unfold bl; rw [List.length_append, bl_len c k]; simp; omega

theorem bl_at (c : Nat → Option Nat) : ∀ n j, j < n * 3 → (bl c n)[j]? = some (.int .i64 (bitsC (c j)))
  | 0, j, h => absurd h (by omega)
  | k + 1, j, h => by
    unfold bl
    by_cases hj : j < k * 3
    · rw [List.getElem?_append_left (by rw [bl_len]; exact hj)]; exact bl_at c k j hj
    · have : j = k * 3 ∨ j = k * 3 + 1 ∨ j = k * 3 + 2 := by omega
      rcases this with rfl | rfl | rfl
      · rw [List.getElem?_append_right (by rw [bl_len]; omega), bl_len, Nat.sub_self]; rfl
      · rw [List.getElem?_append_right (by rw [bl_len]; omega), bl_len, show k * 3 + 1 - k * 3 = 1 by omega]; rfl
      · rw [List.getElem?_append_right (by rw [bl_len]; omega), bl_len, show k * 3 + 2 - k * 3 = 2 by omega]; rfl

def RetI (n : Nat) (c : Nat → Option Nat) (w : World) (e : Ending) (w' : World) : Prop := ∃ v, e = .returned v ∧ w'.ownsRow w.heap.size 2 1 v (n * 3) (bl c n) ∧ Below w.heap.size w w'

/-- A row of this region's own, if the value is one. -/
def phiI (B : Nat) (ob : Obj) (v : Value) (w : World) : Prop := ∀ b, v = .slice (some ⟨b, 0, none⟩) 3 3 → B ≤ b → w.heap[b]? = some ob

theorem phiI_stable (B : Nat) (ob : Obj) : LooseP.Stable (phiI B ob) := fun v w w' h hb b e hB => keep_block hb (h b e hB)

set_option maxHeartbeats 6400000 in
theorem bits_run (G : Nat) (a : Option Addr) (n cap : Nat) (c : Nat → Option Nat) (w : World) (e0 : w.cell? ⟨G, 0, none⟩ = some (.slice a n cap)) (h : IsV w a n cap c) (hn : n ≤ 1048576) :
    Calls Try.prog 60 #[.pointer (some ⟨G, 0, none⟩)] w (RetI n c w) := by
  obtain ⟨i0, hI, hI0, hI1, hI2⟩ := info_i
  obtain ⟨h2, h3, b, off, h5, h6⟩ := h
  have H5 := Lib.hid h5; clear h5
  have H6 := Lib.hid h6; clear h6
  unfold maxLen at h3
  have lG := block_lt_of_cell e0
  go_enter Try.func60, Try.ntmps60
  go_wp2
  go_loopw [11, 3, 25] (fun i v sl wr => ∃ (k : Nat), (∀ b, sl = .slice (some ⟨b, 0, none⟩) 3 3 → b < wr.heap.size) ∧ k ≤ n ∧ i = .int .i64 (k : Int) ∧ wr.ownsRow w.heap.size 2 1 v (k * 3) (bl c k) ∧ Below w.heap.size w wr)
    (fun i _ _ _ => n - (intOf i).toNat)
  case atStart => exact ⟨0, by intro b hb; simp [undef] at hb, Nat.zero_le _, rfl, ⟨rfl, .inl ⟨rfl, rfl⟩⟩, Below.refl _ _⟩
  case round =>
    obtain ⟨k, hsl, hk, rfl, hown, hbel⟩ := hrel
    have HSL := Lib.hid hsl
    have HO := Lib.hid hown
    have HB := Lib.hid hbel
    have hbs := hbel.size
    clear hsl hown
    by_cases hlt : k < n
    · obtain rfl := H5.out (by omega)
      obtain ⟨x, y, z, hx, hy, hz, fx, fy, fz, hbr⟩ := at_v H6.out hlt hbel
      clear hbel
      go_wp2_with fail
      obtain ⟨wq, hwq⟩ : ∃ u, u = wr.alloc (.cells #[.float .f32 x, .float .f32 y, .float .f32 z] 28) := ⟨_, rfl⟩
      rw [← hwq]
      have hzq : wq.heap.size = wr.heap.size + 1 := by rw [hwq]; simp
      have hq : wq.heap[wr.heap.size]? = some (.cells #[.float .f32 x, .float .f32 y, .float .f32 z] 28) := by rw [hwq]; exact new_block _ _
      have hbq : Below wr.heap.size wr wq := by rw [hwq]; exact (Below.refl _ _).alloc (Nat.le_refl _) _
      have p0 := (cells_of (i := 0) hq).trans (show _ = some (.float .f32 x) from rfl)
      have p1 := (cells_of (i := 1) hq).trans (show _ = some (.float .f32 y) from rfl)
      have p2 := (cells_of (i := 2) hq).trans (show _ = some (.float .f32 z) from rfl)
      have lq := block_lt hq
      have HOQ := Lib.hid (own_below HO.out hbq)
      have HBQ := Lib.hid (HB.out.trans (hbq.mono hbs))
      have HSQ := Lib.hid (show ∀ b, u25 = .slice (some ⟨b, 0, none⟩) 3 3 → b < wq.heap.size from fun b hb => by have := HSL.out b hb; omega)
      clear hwq hq hbq hx hy hz hzq
      have hst : ∀ p ∈ [((25 : Nat), phiI wq.heap.size (.cells #[.int .i64 (bitsC (c (k * 3))), .int .i64 (bitsC (c (k * 3 + 1))), .int .i64 (bitsC (c (k * 3 + 2)))] 2))], LooseP.Stable p.2 := by intro p hp; rw [List.mem_singleton.1 hp]; exact phiI_stable _ _
      refine LooseP.wp_regionQ 11 [((25 : Nat), phiI wq.heap.size (.cells #[.int .i64 (bitsC (c (k * 3))), .int .i64 (bitsC (c (k * 3 + 1))), .int .i64 (bitsC (c (k * 3 + 2)))] 2))] (by kernel_rfl) (by kernel_rfl) (by intro p hp v hv hn; rw [List.mem_singleton.1 hp] at hv ⊢; intro b e hB; have h1 : u25 = v := (by simpa using hv); have := HSQ.out b (h1.trans e); omega) ?_
      apply Exists.intro
      simp only [List.take_succ_cons, List.take_zero, List.drop_succ_cons, List.drop_zero]
      repeat (first | (apply Loose.walk_step; intro K hK; apply LooseP.turn_value (hwant := rfl) (hd := rfl); (focus (intro w' hw'; obtain ⟨hc, hf⟩ := Fl.bcell hw'; go_simp; first | done | rfl | exact ⟨rfl, rfl⟩)); go_simp; refine hK _ ?_; clear hK K) | (apply Loose.walk_step; intro K hK; apply LooseP.turn_callD hst (Nat.le_refl _) (hwant := rfl) (hd := rfl); (focus (intro w'; go_simp; first | done | rfl | exact ⟨rfl, rfl⟩)); (focus (intro w'; exact SameV.impl_bits _ _ _ (by assumption))); go_simp; refine hK _ ?_; clear hK K) | (apply Loose.walk_step; intro K hK; refine LooseP.turn_rowP (φ := phiI wq.heap.size (.cells #[.int .i64 (bitsC (c (k * 3))), .int .i64 (bitsC (c (k * 3 + 1))), .int .i64 (bitsC (c (k * 3 + 2)))] 2)) (d := 25) (n := 3) (ob := .cells #[.int .i64 (bitsC (c (k * 3))), .int .i64 (bitsC (c (k * 3 + 1))), .int .i64 (bitsC (c (k * 3 + 2)))] 2) hst (Nat.le_refl _) rfl rfl (by intro p hp _; rw [List.mem_singleton.1 hp]) (by intro w'; go_simp; first | done | rfl | exact ⟨rfl, rfl⟩) (fun w' hw' b e hb => by obtain rfl : w'.heap.size = b := (by simpa using e); exact new_block _ _) ?_; intro b4 hb4B; go_simp; refine hK _ ?_; clear hK K))
      refine Loose.walk_nil ?_
      intro w5 hcls5
      have hb5 := hcls5.1
      have hr5 := hcls5.at (List.mem_singleton.2 rfl) (v := .slice (some ⟨b4, 0, none⟩) 3 3) rfl (by simp [undef]) b4 rfl hb4B
      have hz5 := hb5.size
      have HR5 := Lib.hid hr5
      have l5 := block_lt hr5
      have HO5 := Lib.hid (own_below HOQ.out hb5)
      have HB5 := Lib.hid (HBQ.out.trans (hb5.mono HBQ.out.size))
      have hzw5 := HB5.out.size
      clear hcls5 hst hr5 hb5 p0 p1 p2
      go_wp2_with (first
        | (
          at_builtin
          refine wpList_append_own _ rfl (.tmp 15) (.tmp 25) 78 rfl w.heap.size 2 i0 (.int .i64 0) 1 8 Try.underlying78 hI hI0 hI1 hI2 rfl (by decide) u3 (k * 3) (bl c k) rfl HO5.out ⟨b4, 0, none⟩ 3 3 [.int .i64 (bitsC (c (k * 3))), .int .i64 (bitsC (c (k * 3 + 1))), .int .i64 (bitsC (c (k * 3 + 2)))] rfl rfl (row_cell3 HR5.out) (by intro u hu; simp at hu; rcases hu with rfl | rfl | rfl <;> rfl) (by unfold maxLen; omega) (by omega) (by omega) ?_
          intro v8 w8 hown8 hgrow8 hnil8
          have hb8 : Below w.heap.size w w8 := Below.grown HB5.out hgrow8 hzw5 (own_ge HO5.out (Nat.le_refl _))
          have hz8 := hgrow8.size
          have hown9 : w8.ownsRow w.heap.size 2 1 v8 ((k + 1) * 3) (bl c (k + 1)) := by rw [show (k + 1) * 3 = k * 3 + 3 by omega]; exact hown8
          have HO8 := Lib.hid hown9
          have HB8 := Lib.hid hb8
          clear hown8 hown9 hgrow8 hnil8 hb8
          skip))
      go_roundw
      case rel => exact ⟨k + 1, by intro b hb; simp at hb; omega, by omega, by go_num, HO8.out, HB8.out⟩
      case measure => simp [intOf]; omega
    · obtain rfl : n = k := by omega
      go_wp2
      go_ret
      exact ⟨_, rfl, HO.out, HB.out⟩

end Th
end Go.Proofs.Ytjkkefbfhapblaa
