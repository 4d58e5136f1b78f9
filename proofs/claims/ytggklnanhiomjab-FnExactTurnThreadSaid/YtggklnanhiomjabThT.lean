/- Turned threads: the program's function and the model's. -/
import Derived.Test.YtggklnanhiomjabThS
import Derived.Test.YtggklnanhiomjabSn
namespace Go.Proofs.Ytggklnanhiomjab
set_option linter.unusedSimpArgs false
set_option linter.unusedVariables false
open Go.RowKit
set_option maxRecDepth 20000
namespace Th
open Fl Rate

/-- The numbers of a turned thread. -/
def turnC (c : Nat → Option Nat) (ca cb : Option Nat) : Nat → Option Nat := fun j =>
  if j % 3 = 0 then op2 .sub .f32 (op2 .mul .f32 ca (c j)) (op2 .mul .f32 cb (c (j + 1)))
  else if j % 3 = 1 then op2 .add .f32 (op2 .mul .f32 cb (c (j - 1))) (op2 .mul .f32 ca (c j))
  else c j

theorem turnC_0 (c : Nat → Option Nat) (ca cb : Option Nat) (k : Nat) : turnC c ca cb (k * 3) = op2 .sub .f32 (op2 .mul .f32 ca (c (k * 3))) (op2 .mul .f32 cb (c (k * 3 + 1))) := by
  unfold turnC
  rw [if_pos (by omega)]

theorem turnC_1 (c : Nat → Option Nat) (ca cb : Option Nat) (k : Nat) : turnC c ca cb (k * 3 + 1) = op2 .add .f32 (op2 .mul .f32 cb (c (k * 3))) (op2 .mul .f32 ca (c (k * 3 + 1))) := by
  unfold turnC
  rw [if_neg (by omega), if_pos (by omega), Nat.add_sub_cancel]

theorem turnC_2 (c : Nat → Option Nat) (ca cb : Option Nat) (k : Nat) : turnC c ca cb (k * 3 + 2) = c (k * 3 + 2) := by
  unfold turnC
  rw [if_neg (by omega), if_neg (by omega)]

theorem quarter32 : Fr .f32 1048576000 (some 1048576000) := Fr.const (by decide +kernel) (by decide)

theorem none_right (op : BinOp) (c : Option Nat) : op2 op .f32 c none = none := by cases c <;> rfl

theorem turn_R {n : Nat} {cs : Option Nat} {c : Nat → Option Nat} {d ca cb : Option Nat} (hn0 : finC d = false → cb = none) {R : Bool} (hR : ((okT n cs c && finC d) && allV (turnC c ca cb) n) = R) : (okT n cs c && allV (turnC c ca cb) n) = R := by
  rw [← hR]
  cases hA : okT n cs c
  · rfl
  · have hn := (okT_of hA).1
    cases hf : finC d
    · have hb := hn0 hf
      subst hb
      rw [allV_no (j := 0) (by omega) (by rw [show (0 : Nat) = 0 * 3 from rfl, turnC_0]; rw [show op2 .mul .f32 none (c (0 * 3 + 1)) = none from rfl, none_right]; rfl)]; rfl
    · rfl

set_option maxHeartbeats 6400000 in
theorem spec_TurnT (a : Option Addr) (n cap s : Nat) (cs : Option Nat) (c : Nat → Option Nat) (w : World) (h : IsV w a n cap c) (fs : Fr .f32 s cs) (yb : Nat) (d ca cb : Option Nat) (fd : Fr .f32 yb d) (hsa : ∀ x w, Fr .f32 x (op2 .add .f32 d (some 1048576000)) → Calls Try.prog 57 #[.float .f32 x] w (RetF .f32 ca w)) (hsb : ∀ x w, Fr .f32 x d → Calls Try.prog 57 #[.float .f32 x] w (RetF .f32 cb w)) (R : Bool) (hR : ((okT n cs c && finC d) && allV (turnC c ca cb) n) = R) :
    Calls Try.prog 34 #[tV a n cap s, .float .f32 yb] w (RetG R s n (turnC c ca cb) w) := by
  have HI := Lib.hid (fun A hA G w' (hb : Below w.heap.size w w') e0 e1 => spec_is G a n cap s cs c w' e0 e1 (h.later hb) fs A hA)
  have HF := Lib.hid (fun B (hB : finC d = B) w => hB ▸ spec_fin yb d w fd)
  have HSA := Lib.hid hsa
  have HSB := Lib.hid hsb
  clear hsa hsb
  have HTR := Lib.hid (trivial)
  cases hA : okT n cs c
  · rw [hA] at hR
    obtain rfl : R = false := by rw [← hR]; rfl
    have HI2 := Lib.hid (HI.out false hA)
    clear hR HI hA h HF
    go_enter Try.func34, Try.ntmps34
    go_wp2_with fail
    refine (HI2.out _ _ (by (repeat' first | exact Below.refl _ _ | (refine Below.setCell ?_ (by first | omega | (simp; omega) | simp) _) | (refine below_drewN ?_ _) | (refine Below.alloc ?_ (by first | omega | (simp; omega) | simp) _) | (refine Below.trans ?_ (Below.mono (by assumption) (by first | omega | (simp; omega) | simp))))) (by simp) (by simp)).mono ?_
    rintro e w1 ⟨rfl, hb1⟩
    have hz1 := hb1.size
    try simp only [World.size_alloc, World.size_setCell, World.heap_drewN, World.size_drew] at hz1
    obtain ⟨hc1, hf1⟩ := Fl.bcell hb1
    try simp only [World.heap_drewN, World.cell?_drewN, World.frozen?_drewN] at hc1 hf1
    have g1_0 : w.heap.size < w1.heap.size := by omega
    have g1' : w.heap.size + 1 < w1.heap.size := by omega
    go_wp2
    refine bodyPost_ret ?ohr rfl (retG_no ?obel)
    case ohr => simp [results, Try.results34, go_sem, *]
    case obel => (repeat' first | exact Below.refl _ _ | (refine Below.setCell ?_ (by first | omega | (simp; omega) | simp) _) | (refine below_drewN ?_ _) | (refine Below.alloc ?_ (by first | omega | (simp; omega) | simp) _) | (refine Below.trans ?_ (Below.mono (by assumption) (by first | omega | (simp; omega) | simp))))
  have HI2 := Lib.hid (HI.out true hA)
  cases hf : finC d
  · rw [hA, hf] at hR
    obtain rfl : R = false := by rw [← hR]; rfl
    have HF2 := Lib.hid (fun w => HF.out _ hf w)
    clear hR HI hA h HF
    go_enter Try.func34, Try.ntmps34
    go_wp2_with fail
    refine (HI2.out _ _ (by (repeat' first | exact Below.refl _ _ | (refine Below.setCell ?_ (by first | omega | (simp; omega) | simp) _) | (refine below_drewN ?_ _) | (refine Below.alloc ?_ (by first | omega | (simp; omega) | simp) _) | (refine Below.trans ?_ (Below.mono (by assumption) (by first | omega | (simp; omega) | simp))))) (by simp) (by simp)).mono ?_
    rintro e w1 ⟨rfl, hb1⟩
    have hz1 := hb1.size
    try simp only [World.size_alloc, World.size_setCell, World.heap_drewN, World.size_drew] at hz1
    obtain ⟨hc1, hf1⟩ := Fl.bcell hb1
    try simp only [World.heap_drewN, World.cell?_drewN, World.frozen?_drewN] at hc1 hf1
    have g1_0 : w.heap.size < w1.heap.size := by omega
    have g1' : w.heap.size + 1 < w1.heap.size := by omega
    have g1'' : w.heap.size + 1 < w1.heap.size := by omega
    go_wp2_with fail
    refine (HF2.out _).mono ?_
    rintro e w2 ⟨rfl, hb2⟩
    have hz2 := hb2.size
    try simp only [World.size_alloc, World.size_setCell, World.heap_drewN, World.size_drew] at hz2
    obtain ⟨hc2, hf2⟩ := Fl.bcell hb2
    try simp only [World.heap_drewN, World.cell?_drewN, World.frozen?_drewN] at hc2 hf2
    have g2_0 : w.heap.size < w2.heap.size := by omega
    have g2' : w.heap.size + 1 < w2.heap.size := by omega
    have g2'' : w.heap.size + 1 < w2.heap.size := by omega
    go_wp2
    refine bodyPost_ret ?ohr rfl (retG_no ?obel)
    case ohr => simp [results, Try.results34, go_sem, *]
    case obel => (repeat' first | exact Below.refl _ _ | (refine Below.setCell ?_ (by first | omega | (simp; omega) | simp) _) | (refine below_drewN ?_ _) | (refine Below.alloc ?_ (by first | omega | (simp; omega) | simp) _) | (refine Below.trans ?_ (Below.mono (by assumption) (by first | omega | (simp; omega) | simp))))
  rw [hA, hf] at hR
  have HF2 := Lib.hid (fun w => HF.out _ hf w)
  obtain ⟨hn3, hn32, hsf, _⟩ := okT_of hA
  have hR' : allV (turnC c ca cb) n = R := hR
  have hok : okT n cs (turnC c ca cb) = R := by
    unfold okT
    rw [hsf, hR', decide_eq_true (show (3 : Int) ≤ n by omega), decide_eq_true (show (n : Int) ≤ 32 by omega)]; rfl
  have HCH := Lib.hid (fun a cap w (h : IsV w a n cap (turnC c ca cb)) => spec_give a n cap s cs _ w h fs R hok)
  have HY := Lib.hid h
  obtain ⟨s', hs'⟩ : ∃ s', (if R then s else 0) = s' := ⟨_, rfl⟩
  obtain ⟨N', hN'⟩ : ∃ N', (if R then n else 0) = N' := ⟨_, rfl⟩
  show Calls _ _ _ w (RetB R _ _ _ w)
  rw [hs', hN']
  have HR := Lib.hid (And.intro hs' hN')
  obtain ⟨F, hF⟩ : ∃ F, (turnC c ca cb) = F := ⟨_, rfl⟩
  have HFF := Lib.hid hF
  rw [hF] at HCH ⊢
  have hnm : n ≤ 9223372036854775807 := by omega
  clear hA hf hR hR' hok hs' hN' HI HF h hF
  go_enter Try.func34, Try.ntmps34
  go_wp2_with fail
  refine (HI2.out _ _ (by (repeat' first | exact Below.refl _ _ | (refine Below.setCell ?_ (by first | omega | (simp; omega) | simp) _) | (refine below_drewN ?_ _) | (refine Below.alloc ?_ (by first | omega | (simp; omega) | simp) _) | (refine Below.trans ?_ (Below.mono (by assumption) (by first | omega | (simp; omega) | simp))))) (by simp) (by simp)).mono ?_
  rintro e w1 ⟨rfl, hb1⟩
  have hzz1 := hb1.size
  simp only [World.size_alloc] at hzz1
  have qp : w1.heap[w.heap.size]? = some (.cells #[.slice a n cap, .float .f32 s] 25) := keep_block hb1 (alloc_block (new_block w (.cells #[.slice a n cap, .float .f32 s] 25)))
  have qq : w1.heap[w.heap.size + 1]? = some (.cells #[.slice none 0 0, .float .f32 0] 25) := keep_block hb1 (by simpa using new_block (w.alloc (.cells #[.slice a n cap, .float .f32 s] 25)) (.cells #[.slice none 0 0, .float .f32 0] 25))
  have hbw : Below w.heap.size w w1 := by (repeat' first | exact Below.refl _ _ | (refine Below.setCell ?_ (by first | omega | (simp; omega) | simp) _) | (refine below_drewN ?_ _) | (refine Below.alloc ?_ (by first | omega | (simp; omega) | simp) _) | (refine Below.trans ?_ (Below.mono (by assumption) (by first | omega | (simp; omega) | simp))))
  have HBW := Lib.hid hbw
  obtain ⟨hc1, hf1⟩ := Fl.bcell hb1
  have g1' : w.heap.size + 1 < w1.heap.size := by omega
  have g1'' : w.heap.size + 1 < w1.heap.size := by omega
  have QP := Lib.hid qp
  have QQ := Lib.hid qq
  clear qp qq hbw hb1
  go_wp2_with fail
  refine (HF2.out _).mono ?_
  rintro e v1 ⟨rfl, hv1⟩
  have hy1 := hv1.size
  have q25 := quarter32
  go_wp2_with (first | (refine Fl.wpList_fl rfl rfl rfl rfl rfl (by assumption) (by assumption) ?_; intro r nd hr))
  refine (HSA.out _ _ (by assumption)).mono ?_
  rintro e v2 ⟨rc, rfl, frc, hv2⟩
  have hy2 := hv2.size
  try simp only [World.heap_drewN] at hy2
  go_wp2_with fail
  refine (HSB.out _ _ fd).mono ?_
  rintro e w2 ⟨rs, rfl, frs, hv3⟩
  have hy3 := hv3.size
  have hb2 : Below w1.heap.size w1 w2 := by (repeat' first | exact Below.refl _ _ | (refine Below.setCell ?_ (by first | omega | (simp; omega) | simp) _) | (refine below_drewN ?_ _) | (refine Below.alloc ?_ (by first | omega | (simp; omega) | simp) _) | (refine Below.trans ?_ (Below.mono (by assumption) (by first | omega | (simp; omega) | simp))))
  clear hv1 hv2 hv3
  have hzz2 := hb2.size
  have HB2 := Lib.hid hb2
  have HW2 := Lib.hid (HBW.out.trans (hb2.mono (by omega)))
  have qp2 := keep_block hb2 QP.out
  have e20 := (cells_of (i := 0) qp2).trans (show _ = some (.slice a n cap) from rfl)
  have e21 := (cells_of (i := 1) qp2).trans (show _ = some (.float .f32 s) from rfl)
  clear hb2 hc1 hf1 qp2
  go_wp2_with fail
  refine (spec_own w.heap.size _ n cap s c _ e20 e21 (HY.out.later HW2.out) ⟨hn3, hn32⟩).mono ?_
  rintro e w3 ⟨a2, cap2, rfl, ho2, hb3⟩
  obtain ⟨k2, k3, g, cur0, k5, k6, k7⟩ := ho2
  obtain ⟨rfl, hgB, hgL, hgh⟩ := k5 (by omega)
  have hz3 := hb3.size
  have HG0 := Lib.hid (show (w3.alloc (.cells #[.slice (some ⟨g, 0, none⟩) n cap2, .float .f32 s] 25)).heap[g]? = some (.cells cur0 49) from alloc_block hgh)
  have HS0 := Lib.hid (show (w3.alloc (.cells #[.slice (some ⟨g, 0, none⟩) n cap2, .float .f32 s] 25)).heap[w3.heap.size]? = some _ from new_block _ _)
  have HN0 := Lib.hid k6
  have HD0 := Lib.hid (show Done (n * 3) (mixC 0 F c) cur0 from fun j hj => k7 j hj)
  have HB0 := Lib.hid (show Below w2.heap.size w2 (w3.alloc (.cells #[.slice (some ⟨g, 0, none⟩) n cap2, .float .f32 s] 25)) from hb3.alloc (by omega) _)
  clear hb3 hgh k5 k6 k7 e20 e21
  go_wp2
  go_loopw [9] (fun i wr => ∃ (k : Nat) (cur : Array Value), k ≤ n ∧ i = .int .i64 (k : Int) ∧ wr.heap[w3.heap.size]? = some (.cells #[.slice (some ⟨g, 0, none⟩) n cap2, .float .f32 s] 25) ∧ wr.heap[g]? = some (.cells cur 49) ∧ n * 3 ≤ cur.size ∧ Done (n * 3) (mixC (k * 3) F c) cur ∧ Below w2.heap.size w2 wr)
    (fun i _ => n - (intOf i).toNat)
  case atStart => exact ⟨0, cur0, by omega, rfl, HS0.out, HG0.out, HN0.out, by simpa using HD0.out, HB0.out⟩
  case round =>
    obtain ⟨k, cur, hk, rfl, hq8, hqg, hs, hd, hb⟩ := hrel
    have HQ8 := Lib.hid hq8
    have HQG := Lib.hid hqg
    have HSZ := Lib.hid hs
    have HD := Lib.hid hd
    have HB := Lib.hid hb
    have e8 := (cells_of (i := 0) hq8).trans (show _ = some (Value.slice (some ⟨g, 0, none⟩) n cap2) from rfl)
    have e81 := (cells_of (i := 1) hq8).trans (show _ = some (Value.float .f32 s) from rfl)
    have l8 := block_lt hq8
    have lg := block_lt hqg
    clear hq8 hqg hs hd hb
    by_cases hlt : k < n
    · obtain ⟨x, hx, fx⟩ := HD.out (k * 3) (by omega)
      obtain ⟨y, hy, fy⟩ := HD.out (k * 3 + 1) (by omega)
      obtain ⟨z, hz, fz⟩ := HD.out (k * 3 + 2) (by omega)
      rw [mixC_ge (by omega)] at fx fy fz
      have gx : wr.cell? ⟨g, k * 3, none⟩ = some (.float .f32 x) := by rw [cells_of HQG.out]; exact hx
      have gy : wr.cell? ⟨g, k * 3 + 1, none⟩ = some (.float .f32 y) := by rw [cells_of HQG.out]; exact hy
      have gz : wr.cell? ⟨g, k * 3 + 2, none⟩ = some (.float .f32 z) := by rw [cells_of HQG.out]; exact hz
      clear e81 hx hy hz
      have hfx := free_of HQG.out (k * 3)
      have hfy := free_of HQG.out (k * 3 + 1)
      have hfz := free_of HQG.out (k * 3 + 2)
      go_wp2_with (first | (refine Fl.wpList_fl rfl rfl rfl rfl rfl (by assumption) (by assumption) ?_; intro r nd hr))
      go_roundw
      case rel =>
        refine ⟨k + 1, _, by omega, by go_num, ?q8, ?qg, by simpa using HSZ.out, HD.out.mix3 hlt HSZ.out (by rw [← HFF.out, turnC_0]; assumption) (by rw [← HFF.out, turnC_1]; assumption) (by rw [← HFF.out, turnC_2]; assumption), ?qb⟩
        case q8 =>
          refine alloc_block ?_
          rw [set_keep _ _ _ (by omega), set_keep _ _ _ (by omega), set_keep _ _ _ (by omega)]
          exact keep_block (p := wr) (by (repeat' first | exact Below.refl _ _ | (refine Below.setCell ?_ (by first | omega | (simp; omega) | simp) _) | (refine below_drewN ?_ _) | (refine Below.alloc ?_ (by first | omega | (simp; omega) | simp) _) | (refine Below.trans ?_ (Below.mono (by assumption) (by first | omega | (simp; omega) | simp))))) HQ8.out
        case qg => exact alloc_block (setCell_block (setCell_block (setCell_block (keep_block (p := wr) (w := (wr.alloc _).drewN _) (by (repeat' first | exact Below.refl _ _ | (refine Below.setCell ?_ (by first | omega | (simp; omega) | simp) _) | (refine below_drewN ?_ _) | (refine Below.alloc ?_ (by first | omega | (simp; omega) | simp) _) | (refine Below.trans ?_ (Below.mono (by assumption) (by first | omega | (simp; omega) | simp))))) HQG.out) (k * 3) _) (k * 3 + 1) _) (k * 3 + 2) _)
        case qb =>
          refine Below.alloc (Below.setCell (Below.setCell (Below.setCell ?_ hgB _) hgB _) hgB _) (by have := HB.out.size; simp; omega) _
          exact HB.out.trans (show Below w2.heap.size wr _ from Below.mono (show Below wr.heap.size wr _ by (repeat' first | exact Below.refl _ _ | (refine Below.setCell ?_ (by first | omega | (simp; omega) | simp) _) | (refine below_drewN ?_ _) | (refine Below.alloc ?_ (by first | omega | (simp; omega) | simp) _) | (refine Below.trans ?_ (Below.mono (by assumption) (by first | omega | (simp; omega) | simp))))) HB.out.size)
      case measure => simp [intOf]; omega
    · obtain rfl : n = k := by omega
      have hio : ∀ w', w'.heap[g]? = some (.cells cur 49) → IsR w2.heap.size w3.heap.size w' (some ⟨g, 0, none⟩) n cap2 F := fun w' hw => ⟨k2, k3, g, cur, fun _ => ⟨rfl, hgB, hgL, hw⟩, HSZ.out, fun j hj => by obtain ⟨x, h1, h2⟩ := HD.out j hj; exact ⟨x, h1, by rw [mixC_lt hj] at h2; exact h2⟩⟩
      have HIO := Lib.hid hio
      have q4 : wr.heap[w.heap.size + 1]? = some (.cells #[.slice none 0 0, .float .f32 0] 25) := by rw [HB.out.block _ (by omega), HB2.out.block _ (by omega)]; exact QQ.out
      have Q4 := Lib.hid q4
      have hz9 := HB.out.size
      clear hio q4
      go_wp2_with fail
      refine (HCH.out _ _ _ (HIO.out _ HQG.out).v).mono ?_
      rintro e w5 ⟨rfl, hb5⟩
      have hz5 := hb5.size
      have q45 := keep_block hb5 Q4.out
      have e40 := (cells_of (i := 0) q45).trans (show _ = some (Value.slice none 0 0) from rfl)
      have e41 := (cells_of (i := 1) q45).trans (show _ = some (Value.float .f32 0) from rfl)
      have f40 := free_of q45 0
      have f41 := free_of q45 1
      have HB5 := Lib.hid ((HW2.out.trans (HB.out.mono (by omega))).trans (hb5.mono (by omega)))
      have HG5 := Lib.hid (keep_block hb5 HQG.out)
      have l5 := block_lt q45
      clear q45 hb5 e8 e81
      cases R
      all_goals
        go_wp2
        have hR := HR.out
        simp only [Bool.false_eq_true, if_false, if_true] at hR
        obtain ⟨rfl, rfl⟩ := hR
      · refine bodyPost_ret ?ohr rfl ⟨none, 0, rfl, isR_nil _ _ _ _, ?obel⟩
        case ohr => simp [results, Try.results34, go_sem, *]
        case obel => exact Below.setCell (Below.setCell HB5.out (by first | omega | (simp; omega) | simp) _) (by first | omega | (simp; omega) | simp) _
      · refine bodyPost_ret ?ohr rfl ⟨some ⟨g, 0, none⟩, cap2, rfl, ?oio, ?obel⟩
        case ohr => simp [results, Try.results34, go_sem, *]
        case oio =>
          refine (HIO.out _ (by rw [set_keep _ _ _ (by omega), set_keep _ _ _ (by omega)]; exact HG5.out)).wider (by omega) (by simp; omega)
        case obel => exact Below.setCell (Below.setCell HB5.out (by first | omega | (simp; omega) | simp) _) (by first | omega | (simp; omega) | simp) _

set_option maxHeartbeats 3200000 in
theorem impl_turn1 (x y z p6 p7 rc rs : Nat) (c0 c1 c2 ca cb : Option Nat) (w : World) (e6 : w.cell? ⟨p6, 0, none⟩ = some (.float .f32 rc)) (e7 : w.cell? ⟨p7, 0, none⟩ = some (.float .f32 rs)) (f0 : Fr .f32 x c0) (f1 : Fr .f32 y c1) (f2 : Fr .f32 z c2) (fa : Fr .f32 rc ca) (fb : Fr .f32 rs cb) :
    Calls Try.prog 81 #[.agg #[.float .f32 x, .float .f32 y, .float .f32 z], .pointer (some ⟨p6, 0, none⟩), .pointer (some ⟨p7, 0, none⟩)] w (RetV (op2 .sub .f32 (op2 .mul .f32 ca c0) (op2 .mul .f32 cb c1)) (op2 .add .f32 (op2 .mul .f32 cb c0) (op2 .mul .f32 ca c1)) c2 w) := by
  have l6 := block_lt_of_cell e6
  have l7 := block_lt_of_cell e7
  go_enter Try.func81, Try.ntmps81
  go_wp2_with fail
  obtain ⟨wc, hwc⟩ : ∃ u, u = (w.alloc (.cells #[.float .f32 x, .float .f32 y, .float .f32 z] 49)).alloc (.cells #[.float .f32 0, .float .f32 0, .float .f32 0] 49) := ⟨_, rfl⟩
  rw [← hwc]
  have q3 : wc.heap[w.heap.size]? = some (.cells #[.float .f32 x, .float .f32 y, .float .f32 z] 49) := by rw [hwc]; exact alloc_block (new_block _ _)
  have q4 : wc.heap[w.heap.size + 1]? = some (.cells #[.float .f32 0, .float .f32 0, .float .f32 0] 49) := by rw [hwc]; simpa using new_block (w.alloc (.cells #[.float .f32 x, .float .f32 y, .float .f32 z] 49)) (.cells #[.float .f32 0, .float .f32 0, .float .f32 0] 49)
  have hbw : Below w.heap.size w wc := by rw [hwc]; exact ((Below.refl _ _).alloc (Nat.le_refl _) _).alloc (by simp) _
  have a0 := (cells_of (i := 0) q3).trans (show _ = some (.float .f32 x) from rfl)
  have a1 := (cells_of (i := 1) q3).trans (show _ = some (.float .f32 y) from rfl)
  have a2 := (cells_of (i := 2) q3).trans (show _ = some (.float .f32 z) from rfl)
  have g6 : wc.cell? ⟨p6, 0, none⟩ = some (.float .f32 rc) := by rw [hbw.cell (p := ⟨p6, 0, none⟩) l6]; exact e6
  have g7 : wc.cell? ⟨p7, 0, none⟩ = some (.float .f32 rs) := by rw [hbw.cell (p := ⟨p7, 0, none⟩) l7]; exact e7
  have l3 := block_lt q3
  have l4 := block_lt q4
  have m6 : p6 < wc.heap.size := by omega
  have m7 : p7 < wc.heap.size := by omega
  have Q4 := Lib.hid q4
  have HBW := Lib.hid hbw
  clear hwc q3 q4 hbw e6 e7
  refine Loose.wp_region_below 20 [] (by kernel_rfl) (by kernel_rfl) (by simp [undef]) ?_
  apply Exists.intro
  simp only [List.take_succ_cons, List.take_zero, List.drop_succ_cons, List.drop_zero]
  repeat (first | (apply Loose.walk_step; intro K hK; apply Loose.turn_value (hwant := rfl) (hd := rfl); (focus (intro w' hw'; obtain ⟨hc, hf⟩ := Fl.bcell hw'; go_simp; first | done | rfl | exact ⟨rfl, rfl⟩)); go_simp; refine hK _ ?_; clear hK K) | (apply Loose.walk_step; intro K hK; apply Loose.turn_callF (Nat.le_refl _) (hwant := rfl) (hd := rfl); (focus (intro w'; go_simp; first | done | rfl | exact ⟨rfl, rfl⟩)); (focus (intro w'; go_at_call 59; exact Rate.product_run _ _ _ _ _ (by assumption) (by assumption))); intro r9 hr9; go_simp; refine hK _ ?_; clear hK K) | (apply Loose.walk_step; intro K hK; refine Loose.turn_fl (Nat.le_refl _) rfl rfl rfl rfl rfl rfl (by assumption) (by assumption) ?_; intro r9 hr9; go_simp; refine hK _ ?_; clear hK K))
  refine Loose.walk_nil ?_
  intro w4 hcls4
  obtain ⟨hb4, _⟩ := hcls4
  obtain ⟨hc4, hf4⟩ := Fl.bcell hb4
  have hz4 := hb4.size
  try simp only [World.size_alloc, World.size_setCell, World.heap_drewN, World.size_drew] at hz4
  have q44 := keep_block hb4 Q4.out
  have t0 := (cells_of (i := 0) q44).trans (show _ = some (.float .f32 0) from rfl)
  have t1 := (cells_of (i := 1) q44).trans (show _ = some (.float .f32 0) from rfl)
  have t2 := (cells_of (i := 2) q44).trans (show _ = some (.float .f32 0) from rfl)
  have u0 := free_of q44 0
  have u1 := free_of q44 1
  have u2 := free_of q44 2
  have l44 := block_lt q44
  have HB4 := Lib.hid (HBW.out.trans (hb4.mono (by omega)))
  clear q44 hb4 hc4 hf4 a0 a1 a2 g6 g7
  go_wp2
  refine bodyPost_ret ?ohr rfl ⟨?ox, ?oy, ?oz, rfl, ?of0, ?of1, ?of2, ?obel⟩
  case of0 => assumption
  case of1 => assumption
  case of2 => exact f2
  case ohr => simp [results, Try.results81, go_sem, *]
  case obel => exact ((HB4.out.setCell (by first | omega | simp) _).setCell (by first | omega | simp) _).setCell (by first | omega | simp) _

theorem enter_turn1 (args : Array Value) (w : World) : (callFunc 81 args).run Try.prog w = .ok (.enter 81 args) w := by go_simp

set_option maxHeartbeats 3200000 in
theorem impl_TurnT (a : Option Addr) (n cap s : Nat) (cs : Option Nat) (c : Nat → Option Nat) (w : World) (h : IsV w a n cap c) (fs : Fr .f32 s cs) (yb : Nat) (d ca cb : Option Nat) (fd : Fr .f32 yb d) (hsa : ∀ x w, Fr .f32 x (op2 .add .f32 d (some 1048576000)) → Calls Try.prog 60 #[.float .f32 x] w (RetF .f32 ca w)) (hsb : ∀ x w, Fr .f32 x d → Calls Try.prog 60 #[.float .f32 x] w (RetF .f32 cb w)) (hn0 : finC d = false → cb = none) (R : Bool) (hR : ((okT n cs c && finC d) && allV (turnC c ca cb) n) = R) :
    Calls Try.prog 35 #[tV a n cap s, .float .f32 yb] w (RetG R s n (turnC c ca cb) w) := by
  have hR2 := turn_R hn0 hR
  have HE := Lib.hid (fun (w' : World) (hb : Below w.heap.size w w') (p6 p7 rc rs : Nat) (fa : Fr .f32 rc ca) (fb : Fr .f32 rs cb) (e6 : w'.cell? ⟨p6, 0, none⟩ = some (.float .f32 rc)) (e7 : w'.cell? ⟨p7, 0, none⟩ = some (.float .f32 rs)) => each_point a n cap s cs c 81 #[.pointer (some ⟨p6, 0, none⟩), .pointer (some ⟨p7, 0, none⟩)] (turnC c ca cb) w' (h.later hb) fs enter_turn1 (fun k w'' hk hb' x y z fx fy fz => by rw [turnC_0, turnC_1, turnC_2]; simpa using impl_turn1 x y z p6 p7 rc rs _ _ _ ca cb w'' ((hb'.cell (p := ⟨p6, 0, none⟩) (block_lt_of_cell e6)).trans e6) ((hb'.cell (p := ⟨p7, 0, none⟩) (block_lt_of_cell e7)).trans e7) fx fy fz fa fb) R hR2)
  have HSA := Lib.hid hsa
  have HSB := Lib.hid hsb
  have q25 := quarter32
  clear hR hR2 h hsa hsb hn0
  unfold RetG at HE ⊢
  obtain ⟨s', hs'⟩ : ∃ s', (if R then s else 0) = s' := ⟨_, rfl⟩
  obtain ⟨N', hN'⟩ : ∃ N', (if R then n else 0) = N' := ⟨_, rfl⟩
  rw [hs', hN'] at HE ⊢
  clear hs' hN'
  go_enter Try.func35, Try.ntmps35
  go_wp2_with (first | (refine Fl.wpList_fl rfl rfl rfl rfl rfl (by assumption) (by assumption) ?_; intro r nd hr))
  refine (HSA.out _ _ (by assumption)).mono ?_
  rintro e w1 ⟨rc, rfl, frc, hb1⟩
  have hz1 := hb1.size
  simp only [World.size_alloc, World.heap_drewN] at hz1
  obtain ⟨hc1, hf1⟩ := Fl.bcell hb1
  try simp only [World.heap_drewN, World.cell?_drewN, World.frozen?_drewN] at hc1 hf1
  have g1 : w.heap.size + 1 < w1.heap.size := by omega
  have g10 : w.heap.size < w1.heap.size := by omega
  go_wp2_with fail
  refine (HSB.out _ _ fd).mono ?_
  rintro e w2 ⟨rs, rfl, frs, hb2⟩
  have hz2 := hb2.size
  obtain ⟨hc2, hf2⟩ := Fl.bcell hb2
  have g2 : w.heap.size + 1 < w2.heap.size := by omega
  have g0 : w.heap.size < w2.heap.size := by omega
  go_wp2_with fail
  have q6 : ((w2.alloc (.cells #[.float .f32 rc] 22)).alloc (.cells #[.float .f32 rs] 22)).heap[w2.heap.size]? = some (.cells #[.float .f32 rc] 22) := alloc_block (new_block _ _)
  have q7 : ((w2.alloc (.cells #[.float .f32 rc] 22)).alloc (.cells #[.float .f32 rs] 22)).heap[w2.heap.size + 1]? = some (.cells #[.float .f32 rs] 22) := by simpa using new_block (w2.alloc (.cells #[.float .f32 rc] 22)) (.cells #[.float .f32 rs] 22)
  refine (HE.out _ (by (repeat' first | exact Below.refl _ _ | (refine Below.setCell ?_ (by first | omega | (simp; omega) | simp) _) | (refine below_drewN ?_ _) | (refine Below.alloc ?_ (by first | omega | (simp; omega) | simp) _) | (refine Below.trans ?_ (Below.mono (by assumption) (by first | omega | (simp; omega) | simp))))) w2.heap.size (w2.heap.size + 1) rc rs frc frs ((cells_of (i := 0) q6).trans rfl) ((cells_of (i := 0) q7).trans rfl)).mono ?_
  rintro e w3 ⟨a1, cap1, rfl, ho1, hb3⟩
  have hz3 := hb3.size
  simp only [World.size_alloc] at hz3
  obtain ⟨hc3, hf3⟩ := Fl.bcell hb3
  have g3 : w.heap.size + 1 < w3.heap.size := by omega
  have g30 : w.heap.size < w3.heap.size := by omega
  have g31 : w.heap.size + 1 < w2.heap.size + 1 := by omega
  have g32 : w.heap.size + 1 < w2.heap.size + 1 + 1 := by omega
  have HO := Lib.hid ho1
  clear ho1
  go_wp2
  refine bodyPost_ret ?ohr rfl ⟨a1, cap1, rfl, ?oio, ?obel⟩
  case ohr => simp [results, Try.results35, go_sem, *]
  case oio =>
    refine (HO.out.keep fun g hg hgl hgs => ?_).wider (by simp; omega) (by simp)
    simp at hg
    repeat rw [set_keep _ _ _ (by omega)]
  case obel => (repeat' first | exact Below.refl _ _ | (refine Below.setCell ?_ (by first | omega | (simp; omega) | simp) _) | (refine below_drewN ?_ _) | (refine Below.alloc ?_ (by first | omega | (simp; omega) | simp) _) | (refine Below.trans ?_ (Below.mono (by assumption) (by first | omega | (simp; omega) | simp))))

end Th
end Go.Proofs.Ytggklnanhiomjab
