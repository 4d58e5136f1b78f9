/- The nearest points of two threads: the program's function and the model's. -/
import Derived.Test.YtjkkefbfhapblaaThE
import Derived.Test.YtjkkefbfhapblaaPos
import Derived.Test.YtjkkefbfhapblaaAbs
namespace Go.Proofs.Ytjkkefbfhapblaa
set_option linter.unusedSimpArgs false
set_option linter.unusedVariables false
open Go.RowKit
set_option maxRecDepth 20000
namespace Near
open Fl Flat

theorem inf_pos (w : World) : Calls Try.prog 65 #[.int .i64 1] w (RetF .f64 (some 9218868437227405312) w) := by
  have hb := float64frombits_run 9218868437227405312
  have hn : Fr .f64 9218868437227405312 (some 9218868437227405312) := Fr.const (by decide +kernel) (by decide)
  go_enter Try.func65, Try.ntmps65
  go_wp2
  go_ret
  exact ⟨_, rfl, hn, by (repeat' first | exact Below.refl _ _ | (refine Below.setCell ?_ (by first | omega | (simp; omega) | simp) _) | (refine below_drewN ?_ _) | (refine Below.alloc ?_ (by first | omega | (simp; omega) | simp) _) | (refine Below.trans ?_ (Below.mono (by assumption) (by first | omega | (simp; omega) | simp))))⟩
end Near
namespace Th
open Fl Rate

/-- How far point k of the second is from point i of the first. -/
def distC (c c' : Nat → Option Nat) (i k : Nat) : Option Nat := Pos.sizC (op2 .sub .f32 (c' (k * 3)) (c (i * 3))) (op2 .sub .f32 (c' (k * 3 + 1)) (c (i * 3 + 1))) (op2 .sub .f32 (c' (k * 3 + 2)) (c (i * 3 + 2)))

/-- The nearest ones so far. -/
structure Nr where
  i : Nat
  k : Nat
  d : Option Nat

def stepN (d : Option Nat) (i k : Nat) (s : Nr) : Nr := if cmpC .lss (ord .f32 d s.d) = true then ⟨i, k, d⟩ else s

def rowN (c c' : Nat → Option Nat) (i : Nat) (s : Nr) : Nat → Nr
  | 0 => s
  | k + 1 => stepN (distC c c' i k) i k (rowN c c' i s k)

def allN (c c' : Nat → Option Nat) (m : Nat) : Nat → Nr
  | 0 => ⟨0, 0, some 2139095040⟩
  | i + 1 => rowN c c' i (allN c c' m i) m

theorem z32N : Fr .f32 0 (some 0) := Fr.const (by decide +kernel) (by decide)

theorem allV_fin {f : Nat → Option Nat} {n : Nat} (h : allV f n = true) : ∀ j, j < n * 3 → finC (f j) = true := by
  induction n with
  | zero => intro j hj; omega
  | succ n ih =>
    have h' : (allV f n && (finC (f (n * 3)) && finC (f (n * 3 + 1)) && finC (f (n * 3 + 2)))) = true := h
    simp only [Bool.and_eq_true] at h'
    intro j hj
    by_cases h1 : j < n * 3
    · exact ih h'.1 j h1
    · have : j = n * 3 ∨ j = n * 3 + 1 ∨ j = n * 3 + 2 := by omega
      rcases this with rfl | rfl | rfl
      · exact h'.2.1.1
      · exact h'.2.1.2
      · exact h'.2.2

theorem dist_pos {c c' : Nat → Option Nat} {n m i k : Nat} (h : allV c n = true) (h' : allV c' m = true) (hi : i < n) (hk : k < m) : Pos.PosC .f32 (distC c c' i k) :=
  Pos.siz_pos (Pos.num_sub (allV_fin h' _ (by omega)) (allV_fin h _ (by omega))) (Pos.num_sub (allV_fin h' _ (by omega)) (allV_fin h _ (by omega))) (Pos.num_sub (allV_fin h' _ (by omega)) (allV_fin h _ (by omega)))

theorem first_N {c c' : Nat → Option Nat} {m : Nat} (h : Pos.PosC .f32 (distC c c' 0 0)) : rowN c c' 0 (allN c c' m 0) 1 = ⟨0, 0, distC c c' 0 0⟩ := by
  show stepN (distC c c' 0 0) 0 0 ⟨0, 0, some 2139095040⟩ = _
  unfold stepN
  rcases Pos.less_inf h with h1 | h1
  · rw [if_pos h1]
  · rw [h1]; split <;> rfl

/-- Two indices, a number and whether there are. -/
def RetNr (F : Bool) (X Y : Int) (D : Option Nat) (w : World) (e : Ending) (w' : World) : Prop := ∃ r, e = .returned (.tuple #[.int .i64 X, .int .i64 Y, .float .f32 r, .bool F]) ∧ Fr .f32 r D ∧ Below w.heap.size w w'

def nrF (A : Bool) (s : Nr) : Bool := A && finC s.d
def nrX (A : Bool) (s : Nr) : Int := if nrF A s then (s.i : Int) else 0
def nrY (A : Bool) (s : Nr) : Int := if nrF A s then (s.k : Int) else 0
def nrD (A : Bool) (s : Nr) : Option Nat := if nrF A s then s.d else some 0
def RetNT (A : Bool) (s : Nr) (w : World) (e : Ending) (w' : World) : Prop := RetNr (nrF A s) (nrX A s) (nrY A s) (nrD A s) w e w'

theorem retN_no {s : Nr} {w w' : World} (hb : Below w.heap.size w w') : RetNT false s w (.returned (.tuple #[.int .i64 0, .int .i64 0, .float .f32 0, .bool false])) w' := ⟨0, rfl, z32N, hb⟩

theorem retN_nofin {s : Nr} {w w' : World} (h : finC s.d = false) (hb : Below w.heap.size w w') : RetNT true s w (.returned (.tuple #[.int .i64 0, .int .i64 0, .float .f32 0, .bool false])) w' := by
  unfold RetNT nrX nrY nrD nrF
  rw [h]
  exact ⟨0, rfl, z32N, hb⟩

theorem retN_yes {s : Nr} {r : Nat} {w w' : World} (h : finC s.d = true) (hr : Fr .f32 r s.d) (hb : Below w.heap.size w w') : RetNT true s w (.returned (.tuple #[.int .i64 (s.i : Int), .int .i64 (s.k : Int), .float .f32 r, .bool true])) w' := by
  unfold RetNT nrX nrY nrD nrF
  rw [h]
  exact ⟨r, rfl, hr, hb⟩

set_option maxHeartbeats 6400000 in
theorem impl_NearT (a a' : Option Addr) (n n' cap cap' s s' : Nat) (cs cs' : Option Nat) (c c' : Nat → Option Nat) (w : World) (h : IsV w a n cap c) (h' : IsV w a' n' cap' c') (fs : Fr .f32 s cs) (fs' : Fr .f32 s' cs') (A A' : Bool) (hA : okT n cs c = A) (hA' : okT n' cs' c' = A') :
    Calls Try.prog 26 #[tV a n cap s, tV a' n' cap' s'] w (RetNT (A && A') (allN c c' n' n) w) := by
  have HI := Lib.hid (fun w => Near.inf_pos w)
  have HA := Lib.hid (fun w' (hb : Below w.heap.size w w') => impl_is a n cap s cs c w' (h.later hb) fs A hA)
  have HA' := Lib.hid (fun w' (hb : Below w.heap.size w w') => impl_is a' n' cap' s' cs' c' w' (h'.later hb) fs' A' hA')
  cases A
  · clear hA hA' h h'
    go_enter Try.func26, Try.ntmps26
    go_wp2_with fail
    refine (HA.out _ (by (repeat' first | exact Below.refl _ _ | (refine Below.setCell ?_ (by first | omega | (simp; omega) | simp) _) | (refine below_drewN ?_ _) | (refine Below.alloc ?_ (by first | omega | (simp; omega) | simp) _) | (refine Below.trans ?_ (Below.mono (by assumption) (by first | omega | (simp; omega) | simp)))))).mono ?_
    rintro e w1 ⟨rfl, hb1⟩
    have hz1 := hb1.size
    simp only [World.size_alloc] at hz1
    go_wp2
    refine bodyPost_ret ?ohr rfl (retN_no ?obel)
    case ohr => simp [results, Try.results26, go_sem, *]
    case obel => (repeat' first | exact Below.refl _ _ | (refine Below.setCell ?_ (by first | omega | (simp; omega) | simp) _) | (refine below_drewN ?_ _) | (refine Below.alloc ?_ (by first | omega | (simp; omega) | simp) _) | (refine Below.trans ?_ (Below.mono (by assumption) (by first | omega | (simp; omega) | simp))))
  cases A'
  · clear hA hA' h h'
    go_enter Try.func26, Try.ntmps26
    go_wp2_with fail
    refine (HA.out _ (by (repeat' first | exact Below.refl _ _ | (refine Below.setCell ?_ (by first | omega | (simp; omega) | simp) _) | (refine below_drewN ?_ _) | (refine Below.alloc ?_ (by first | omega | (simp; omega) | simp) _) | (refine Below.trans ?_ (Below.mono (by assumption) (by first | omega | (simp; omega) | simp)))))).mono ?_
    rintro e w1 ⟨rfl, hb1⟩
    have hz1 := hb1.size
    simp only [World.size_alloc] at hz1
    have t0 : w1.cell? ⟨w.heap.size + 1, 0, none⟩ = some (.slice a' n' cap') := by rw [hb1.cell (p := ⟨w.heap.size + 1, 0, none⟩) (by simp)]; simp
    have t1 : w1.cell? ⟨w.heap.size + 1, 1, none⟩ = some (.float .f32 s') := by rw [hb1.cell (p := ⟨w.heap.size + 1, 1, none⟩) (by simp)]; simp
    have g1 : w.heap.size + 1 < w1.heap.size := by omega
    go_wp2_with fail
    refine (HA'.out _ (Below.trans (by (repeat' first | exact Below.refl _ _ | (refine Below.setCell ?_ (by first | omega | (simp; omega) | simp) _) | (refine below_drewN ?_ _) | (refine Below.alloc ?_ (by first | omega | (simp; omega) | simp) _) | (refine Below.trans ?_ (Below.mono (by assumption) (by first | omega | (simp; omega) | simp))))) (hb1.mono (by simp only [World.size_alloc]; omega)))).mono ?_
    rintro e w2 ⟨rfl, hb2⟩
    go_wp2
    refine bodyPost_ret ?ohr rfl (retN_no ?obel)
    case ohr => simp [results, Try.results26, go_sem, *]
    case obel => (repeat' first | exact Below.refl _ _ | (refine Below.setCell ?_ (by first | omega | (simp; omega) | simp) _) | (refine below_drewN ?_ _) | (refine Below.alloc ?_ (by first | omega | (simp; omega) | simp) _) | (refine Below.trans ?_ (Below.mono (by assumption) (by first | omega | (simp; omega) | simp))))
  · obtain ⟨hn3, hn32, hsf, hfin⟩ := okT_of hA
    obtain ⟨hn3', hn32', hsf', hfin'⟩ := okT_of hA'
    have HY := Lib.hid h
    have HY' := Lib.hid h'
    clear hA hA' h h'
    go_enter Try.func26, Try.ntmps26
    go_wp2_with fail
    refine (HA.out _ (by (repeat' first | exact Below.refl _ _ | (refine Below.setCell ?_ (by first | omega | (simp; omega) | simp) _) | (refine below_drewN ?_ _) | (refine Below.alloc ?_ (by first | omega | (simp; omega) | simp) _) | (refine Below.trans ?_ (Below.mono (by assumption) (by first | omega | (simp; omega) | simp)))))).mono ?_
    rintro e w1 ⟨rfl, hb1⟩
    have hz1 := hb1.size
    simp only [World.size_alloc] at hz1
    have t0 : w1.cell? ⟨w.heap.size + 1, 0, none⟩ = some (.slice a' n' cap') := by rw [hb1.cell (p := ⟨w.heap.size + 1, 0, none⟩) (by simp)]; simp
    have t1 : w1.cell? ⟨w.heap.size + 1, 1, none⟩ = some (.float .f32 s') := by rw [hb1.cell (p := ⟨w.heap.size + 1, 1, none⟩) (by simp)]; simp
    have g1 : w.heap.size + 1 < w1.heap.size := by omega
    go_wp2_with fail
    refine (HA'.out _ (Below.trans (by (repeat' first | exact Below.refl _ _ | (refine Below.setCell ?_ (by first | omega | (simp; omega) | simp) _) | (refine below_drewN ?_ _) | (refine Below.alloc ?_ (by first | omega | (simp; omega) | simp) _) | (refine Below.trans ?_ (Below.mono (by assumption) (by first | omega | (simp; omega) | simp))))) (hb1.mono (by simp only [World.size_alloc]; omega)))).mono ?_
    rintro e w2 ⟨rfl, hb2⟩
    clear t0 t1 g1
    have hz2 := hb2.size
    have hz1 := hb1.size
    simp only [World.size_alloc] at hz1
    have q2 : w2.heap[w.heap.size]? = some (.cells #[.slice a n cap, .float .f32 s] 33) := keep_block hb2 (keep_block hb1 (alloc_block (new_block w (.cells #[.slice a n cap, .float .f32 s] 33))))
    have q3 : w2.heap[w.heap.size + 1]? = some (.cells #[.slice a' n' cap', .float .f32 s'] 33) := keep_block hb2 (keep_block hb1 (by simpa using new_block (w.alloc (.cells #[.slice a n cap, .float .f32 s] 33)) (.cells #[.slice a' n' cap', .float .f32 s'] 33)))
    have e20 := (cells_of (i := 0) q2).trans (show _ = some (.slice a n cap) from rfl)
    have e30 := (cells_of (i := 0) q3).trans (show _ = some (.slice a' n' cap') from rfl)
    have l2 := block_lt q2
    have l3 := block_lt q3
    have hbw : Below w.heap.size w w2 := Below.trans (by (repeat' first | exact Below.refl _ _ | (refine Below.setCell ?_ (by first | omega | (simp; omega) | simp) _) | (refine below_drewN ?_ _) | (refine Below.alloc ?_ (by first | omega | (simp; omega) | simp) _) | (refine Below.trans ?_ (Below.mono (by assumption) (by first | omega | (simp; omega) | simp))))) (hb2.mono (by omega))
    have HBW := Lib.hid hbw
    have HE20 := Lib.hid e20
    have HE30 := Lib.hid e30
    clear q2 q3 hbw hb1 hb2
    obtain ⟨h2, h3, b, off, h5, h6⟩ := HY.out
    obtain ⟨h2', h3', b', off', h5', h6'⟩ := HY'.out
    obtain rfl := h5 (by omega)
    obtain rfl := h5' (by omega)
    have H6 := Lib.hid h6
    have H6' := Lib.hid h6'
    clear h5 h6 h5' h6' HY HY'
    unfold maxLen at h3 h3'
    go_wp2_with fail
    refine (HI.out _).mono ?_
    rintro e w3 ⟨ri, rfl, fi, hb3⟩
    have hz3 := hb3.size
    have fitI : Fits .f64 .f32 (some 9218868437227405312) := .inr fun b h _ => by cases h; decide +kernel
    have e23 : w3.cell? ⟨w.heap.size, 0, none⟩ = some (.slice (some ⟨b, off, none⟩) n cap) := by rw [hb3.cell (p := ⟨w.heap.size, 0, none⟩) l2]; exact HE20.out
    have HB3 := Lib.hid hb3
    clear hb3 e20 e30
    go_wp2_with (first | (refine Fl.wpList_conv rfl rfl rfl (by kernel_rfl) Try.underlying23 fi fitI ?_; intro r4 n4 hr4))
    have hc4 : convC .f64 .f32 (some 9218868437227405312) = some 2139095040 := by decide +kernel
    rw [hc4] at hr4
    have HR4 := Lib.hid hr4
    have HB4 := Lib.hid (show Below w3.heap.size w3 (w3.drewN n4) from below_drewN (Below.refl _ _) _)
    clear hr4 fi fitI hc4 e23
    go_loopw [29, 8, 9, 10] (fun i x y l wr => ∃ (i' r : Nat), i' ≤ n ∧ i = .int .i64 (i' : Int) ∧ x = .int .i64 ((allN c c' n' i').i : Int) ∧ y = .int .i64 ((allN c c' n' i').k : Int) ∧ l = .float .f32 r ∧ Fr .f32 r (allN c c' n' i').d ∧ Below w3.heap.size w3 wr)
      (fun i _ _ _ _ => n - (intOf i).toNat)
    case atStart => exact ⟨0, r4, Nat.zero_le _, rfl, rfl, rfl, rfl, HR4.out, HB4.out⟩
    case round =>
      obtain ⟨i, r, hi, rfl, rfl, rfl, rfl, fr, hb⟩ := hrel
      have HB := Lib.hid hb
      have HFR := Lib.hid fr
      have hzr := hb.size
      obtain ⟨S, hS⟩ : ∃ S, allN c c' n' i = S := ⟨_, rfl⟩
      have HS := Lib.hid hS
      rw [hS] at HFR ⊢
      clear hb fr hS
      by_cases hlt : i < n
      · have e30 : wr.cell? ⟨w.heap.size + 1, 0, none⟩ = some (.slice (some ⟨b', off', none⟩) n' cap') := by rw [HB.out.cell (p := ⟨w.heap.size + 1, 0, none⟩) (show w.heap.size + 1 < w3.heap.size by omega), HB3.out.cell (p := ⟨w.heap.size + 1, 0, none⟩) (show w.heap.size + 1 < w2.heap.size by omega)]; exact HE30.out
        have l3r : w.heap.size + 1 < wr.heap.size := by omega
        have HBX := Lib.hid (HBW.out.trans ((HB3.out.mono (by omega)).trans (HB.out.mono (by omega))))
        obtain ⟨x, y, z, hx, hy, hz, fx, fy, fz, hbr⟩ := at_v H6.out hlt HBX.out
        go_wp2
        obtain ⟨wz, hwz⟩ : ∃ u, u = wr.alloc (.cells #[.float .f32 x, .float .f32 y, .float .f32 z] 28) := ⟨_, rfl⟩
        rw [← hwz]
        have qz : wz.heap[wr.heap.size]? = some (.cells #[.float .f32 x, .float .f32 y, .float .f32 z] 28) := by rw [hwz]; exact new_block _ _
        have hbz : Below wr.heap.size wr wz := by rw [hwz]; exact (Below.refl _ _).alloc (Nat.le_refl _) _
        have QZ := Lib.hid qz
        have HBZ := Lib.hid hbz
        have hzz := hbz.size
        have lz := block_lt qz
        clear hwz qz hbz hx hy hz e30 l3r hbr
        go_loopw [37, 8, 9, 10] (fun j x y l wq => ∃ (k r : Nat), k ≤ n' ∧ j = .int .i64 (k : Int) ∧ x = .int .i64 ((rowN c c' i S k).i : Int) ∧ y = .int .i64 ((rowN c c' i S k).k : Int) ∧ l = .float .f32 r ∧ Fr .f32 r (rowN c c' i S k).d ∧ Below wz.heap.size wz wq)
          (fun j _ _ _ _ => n' - (intOf j).toNat)
        case atStart => exact ⟨0, r, Nat.zero_le _, rfl, rfl, rfl, rfl, HFR.out, Below.refl _ _⟩
        case round =>
          obtain ⟨k, r1, hk, rfl, rfl, rfl, rfl, fr1, hb1⟩ := hrel
          have HB1 := Lib.hid hb1
          have hzr1 := hb1.size
          obtain ⟨T, hT⟩ : ∃ T, rowN c c' i S k = T := ⟨_, rfl⟩
          have HT := Lib.hid (show rowN c c' i S (k + 1) = stepN (distC c c' i k) i k T by rw [← hT]; rfl)
          rw [hT] at fr1 ⊢
          have HTT := Lib.hid hT
          clear hb1 hT
          by_cases hlk : k < n'
          · obtain ⟨x', y', z', hx', hy', hz', fx', fy', fz', hbr'⟩ := at_v H6'.out hlk (HBX.out.trans ((HBZ.out.mono (by omega)).trans (HB1.out.mono (by omega))))
            have qz1 := keep_block HB1.out QZ.out
            have c0 := (cells_of (i := 0) qz1).trans (show _ = some (.float .f32 x) from rfl)
            have c1 := (cells_of (i := 1) qz1).trans (show _ = some (.float .f32 y) from rfl)
            have c2 := (cells_of (i := 2) qz1).trans (show _ = some (.float .f32 z) from rfl)
            have lq := block_lt qz1
            clear qz1
            go_wp2_with fail
            refine (Vec.impl_less _ _ _ _ _ _ _ _ _ _ _ _ _ fx' fy' fz' fx fy fz).mono ?_
            rintro e w6 ⟨x6, y6, z6, rfl, fx6, fy6, fz6, hb6⟩
            go_wp2_with fail
            refine (Size.impl_size _ _ _ _ _ _ _ fx6 fy6 fz6).mono ?_
            rintro e w7 ⟨r7, rfl, hr7, hb7⟩
            have hz6 := hb6.size
            have hz7 := hb7.size
            simp only [World.size_alloc] at hz6
            obtain ⟨D, hD⟩ : ∃ D, distC c c' i k = D := ⟨_, rfl⟩
            have fr7 : Fr .f32 r7 D := by rw [← hD]; exact hr7
            have HBY := Lib.hid (show Below wz.heap.size wz w7 from (HB1.out.alloc (by omega) _).trans ((hb6.mono (by simp; omega)).trans (hb7.mono (by omega))))
            rw [hD] at HT
            clear hD hr7 hb6 hb7 fx6 fy6 fz6 hx' hy' hz' c0 c1 c2 lq hbr'
            cases hB : cmpC .lss (ord .f32 D T.d)
            · have HT2 := Lib.hid (show rowN c c' i S (k + 1) = T by rw [HT.out]; unfold stepN; rw [hB]; rfl)
              go_wp2_with (first | (refine Fl.wpList_cmp rfl rfl rfl rfl rfl fr7 fr1 ?_; try simp only [hB]))
              go_roundw
              case rel => exact ⟨k + 1, r1, by omega, by go_num, by rw [HT2.out], by rw [HT2.out], rfl, by rw [HT2.out]; exact fr1, HBY.out⟩
              case measure => simp [intOf]; omega
            · have HT2 := Lib.hid (show rowN c c' i S (k + 1) = ⟨i, k, D⟩ by rw [HT.out]; unfold stepN; rw [hB]; rfl)
              go_wp2_with (first | (refine Fl.wpList_cmp rfl rfl rfl rfl rfl fr7 fr1 ?_; try simp only [hB]))
              go_roundw
              case rel => exact ⟨k + 1, r7, by omega, by go_num, by rw [HT2.out], by rw [HT2.out], rfl, by rw [HT2.out]; exact fr7, HBY.out⟩
              case measure => simp [intOf]; omega
          · obtain rfl : n' = k := by omega
            go_wp2
            go_roundw
            case rel => exact ⟨i + 1, r1, by omega, by go_num, by rw [show allN c c' n' (i + 1) = T by rw [← HTT.out, ← HS.out]; rfl], by rw [show allN c c' n' (i + 1) = T by rw [← HTT.out, ← HS.out]; rfl], rfl, by rw [show allN c c' n' (i + 1) = T by rw [← HTT.out, ← HS.out]; rfl]; exact fr1, HB.out.trans ((HBZ.out.mono (by omega)).trans (HB1.out.mono (by omega)))⟩
            case measure => simp [intOf]; omega
      · obtain rfl : n = i := by omega
        have hS := HS.out
        subst hS
        have HFI := Lib.hid (fun w => impl_fin0 r (allN c c' n' n).d w HFR.out)
        have HBX := Lib.hid (HBW.out.trans ((HB3.out.mono (by omega)).trans (HB.out.mono (by omega))))
        cases hF : finC (allN c c' n' n).d
        · rw [hF] at HFI
          go_wp2_with (go_at_call 68; refine (HFI.out _).mono ?_; rintro e w9 ⟨rfl, rfl⟩)
          refine bodyPost_ret ?ohr rfl (retN_nofin hF HBX.out)
          case ohr => simp [results, Try.results26, go_sem, *]
        · rw [hF] at HFI
          go_wp2_with (go_at_call 68; refine (HFI.out _).mono ?_; rintro e w9 ⟨rfl, rfl⟩)
          refine bodyPost_ret ?ohr rfl (retN_yes hF HFR.out HBX.out)
          case ohr => simp [results, Try.results26, go_sem, *]


end Th
end Go.Proofs.Ytjkkefbfhapblaa
