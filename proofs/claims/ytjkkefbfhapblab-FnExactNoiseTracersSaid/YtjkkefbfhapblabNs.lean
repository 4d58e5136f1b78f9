/- NoiseTracers, both sides. -/
import Derived.Test.YtjkkefbfhapblabNt
import Derived.Test.YtjkkefbfhapblabLooseP
namespace Go.Proofs.Ytjkkefbfhapblab
set_option linter.unusedSimpArgs false
set_option linter.unusedVariables false
open Go.RowKit
set_option maxRecDepth 20000
namespace Nt
open Fl Rate

theorem C_info : (Try.prog.info? 64).map (fun i => (i.zero, i.size, i.bytes)) = some (some (.complex .f32 0 0), 1, 8) := by kernel_rfl

theorem info_c : ∃ i, Try.prog.info? 64 = some i ∧ i.zero = some (.complex .f32 0 0) ∧ i.size = 1 ∧ i.bytes = 8 := by
  have h := C_info
  cases hi : Try.prog.info? 64 with
  | none => rw [hi] at h; cases h
  | some i =>
    rw [hi] at h
    simp only [Option.map_some, Option.some.injEq, Prod.mk.injEq] at h
    exact ⟨i, rfl, h.1, h.2.1, h.2.2⟩

def Pc (m : Nat) (cx cy : Nat → Option Nat) (cur : Array Value) : Prop := ∀ i, i < m → ∃ x y, cur[i]? = some (.complex .f32 x y) ∧ Fr .f32 x (cx i) ∧ Fr .f32 y (cy i)

theorem Pc.next {k : Nat} {cx cy : Nat → Option Nat} {cur : Array Value} (h : Pc k cx cy cur) {x y : Nat} (fx : Fr .f32 x (cx k)) (fy : Fr .f32 y (cy k)) (hk : k < cur.size) : Pc (k + 1) cx cy (cur.setIfInBounds k (.complex .f32 x y)) := by
  intro j hj
  by_cases e : j = k
  · subst e
    exact ⟨x, y, Array.getElem?_setIfInBounds_self_of_lt hk, fx, fy⟩
  · obtain ⟨x', y', h1, h2⟩ := h j (by omega)
    exact ⟨x', y', by rw [Array.getElem?_setIfInBounds_ne (fun e' => e e'.symm)]; exact h1, h2⟩

/-- Complex numbers of these classes in a row of its own. -/
def IsR (B L : Nat) (w : World) (a : Option Addr) (n cap : Nat) (cx cy : Nat → Option Nat) : Prop :=
  n ≤ cap ∧ cap ≤ maxLen ∧ ∃ (g : Nat) (cur : Array Value), (0 < n → a = some ⟨g, 0, none⟩ ∧ B ≤ g ∧ g < L ∧ w.heap[g]? = some (.cells cur 64)) ∧ n ≤ cur.size ∧ Pc n cx cy cur

theorem isR_nil (B L : Nat) (w : World) (cx cy : Nat → Option Nat) : IsR B L w none 0 0 cx cy := ⟨Nat.le_refl _, Nat.zero_le _, 0, #[], fun h => absurd h (Nat.lt_irrefl _), Nat.zero_le _, fun i hi => absurd hi (by omega)⟩

theorem IsR.keep {B L : Nat} {w w' : World} {a : Option Addr} {n cap : Nat} {cx cy : Nat → Option Nat} (h : IsR B L w a n cap cx cy) (hk : ∀ g, B ≤ g → g < L → g < w.heap.size → w'.heap[g]? = w.heap[g]?) : IsR B L w' a n cap cx cy := by
  obtain ⟨h2, h3, g, cur, h5, h6, h7⟩ := h
  refine ⟨h2, h3, g, cur, fun h0 => ?_, h6, h7⟩
  obtain ⟨k1, k2, k3, k4⟩ := h5 h0
  exact ⟨k1, k2, k3, by rw [hk g k2 k3 (block_lt k4)]; exact k4⟩

theorem IsR.later {B L : Nat} {w w' : World} {a : Option Addr} {n cap : Nat} {cx cy : Nat → Option Nat} (h : IsR B L w a n cap cx cy) (hb : Below w.heap.size w w') : IsR B L w' a n cap cx cy := h.keep fun g _ _ hg => hb.block g hg

theorem IsR.x {B L : Nat} {w : World} {a : Option Addr} {n cap : Nat} {cx cy : Nat → Option Nat} (h : IsR B L w a n cap cx cy) : CEq.IsX w a n cap cx cy := by
  obtain ⟨h2, h3, g, cur, h5, h6, h7⟩ := h
  refine ⟨h2, h3, g, 0, fun h0 => (h5 h0).1, fun i hi => ?_⟩
  obtain ⟨x, y, k1, k2⟩ := h7 i hi
  exact ⟨x, y, by rw [Nat.zero_add, cells_of (h5 (by omega)).2.2.2]; exact k1, k2⟩

/-- Tracers, a seed, and whether there are. -/
def RetTr (F : Bool) (n : Nat) (cx cy : Nat → Option Nat) (X : Int) (w : World) (e : Ending) (w' : World) : Prop :=
  ∃ a cap, e = .returned (.tuple #[.slice a n cap, .int .i64 X, .bool F]) ∧ IsR w.heap.size w'.heap.size w' a n cap cx cy ∧ Below w.heap.size w w'

def RetTG (F : Bool) (n : Nat) (cx cy : Nat → Option Nat) (X : Int) (w : World) (e : Ending) (w' : World) : Prop := RetTr F (if F then n else 0) cx cy (if F then X else 0) w e w'

theorem retT_no {n : Nat} {cx cy : Nat → Option Nat} {X : Int} {w w' : World} (hb : Below w.heap.size w w') : RetTG false n cx cy X w (.returned (.tuple #[.slice none 0 0, .int .i64 0, .bool false])) w' := ⟨none, 0, rfl, isR_nil _ _ _ _ _, hb⟩

def okN (N : Int) (z : Nat) (s : Int) : Bool := (inB N 0 64 && sizB z) && inB s 0 2147483647
def xN (c : Option Nat) (s : Int) : Nat → Option Nat := fun j => dv c (seedN s (2 * j + 1))
def yN (c : Option Nat) (s : Int) : Nat → Option Nat := fun j => dv c (seedN s (2 * j + 2))

theorem in_yes {n a b : Int} (h : inB n a b = true) : a ≤ n ∧ n ≤ b := by
  unfold inB at h
  simpa using h

theorem in_no {n a b : Int} (h : inB n a b = false) : n < a ∨ b < n := by
  unfold inB at h
  by_cases h1 : a ≤ n
  · rw [decide_eq_true h1, Bool.true_and, decide_eq_false_iff_not] at h
    exact .inr (by omega)
  · exact .inl (by omega)

/-! ### The model -/

def Pts (k : Nat) (cx cy : Nat → Option Nat) (xs : List Value) : Prop := xs.length = k ∧ ∀ j, j < k → ∃ x y, xs[j]? = some (.complex .f32 x y) ∧ Fr .f32 x (cx j) ∧ Fr .f32 y (cy j)

theorem Pts.next {k : Nat} {cx cy : Nat → Option Nat} {xs : List Value} (h : Pts k cx cy xs) {x y : Nat} (fx : Fr .f32 x (cx k)) (fy : Fr .f32 y (cy k)) : Pts (k + 1) cx cy (xs ++ [.complex .f32 x y]) := by
  obtain ⟨h1, h2⟩ := h
  refine ⟨by simp [h1], fun j hj => ?_⟩
  by_cases hjk : j = k
  · subst hjk
    exact ⟨x, y, by rw [List.getElem?_append_right (by omega), h1, Nat.sub_self]; rfl, fx, fy⟩
  · obtain ⟨x', y', k1, k2⟩ := h2 j (by omega)
    exact ⟨x', y', by rw [List.getElem?_append_left (by omega)]; exact k1, k2⟩

theorem own_heap {w w' : World} {B e size n : Nat} {v : Value} {xs : List Value} (h : w.ownsRow B e size v n xs) (hk : ∀ g, some g = v.ownBlock → g < w.heap.size → w'.heap[g]? = w.heap[g]?) : w'.ownsRow B e size v n xs := by
  obtain ⟨h1, h2 | ⟨g, cap, cur, rfl, h4, h5, h6⟩⟩ := h
  · exact ⟨h1, .inl h2⟩
  · exact ⟨h1, .inr ⟨g, cap, cur, rfl, h4, by rw [hk g (by simp [Value.ownBlock]) (Array.getElem?_eq_some_iff.1 h5).1]; exact h5, h6⟩⟩

theorem own_below {w w' : World} {B e size n : Nat} {v : Value} {xs : List Value} (h : w.ownsRow B e size v n xs) (hb : Below w.heap.size w w') : w'.ownsRow B e size v n xs := own_heap h fun g _ hg => hb.block g hg

theorem own_ge {w : World} {B e size n : Nat} {v : Value} {xs : List Value} (h : w.ownsRow B e size v n xs) (k : Nat) (hk : v.ownBlock = some k) : B ≤ k := by
  obtain ⟨_, ⟨rfl, _⟩ | ⟨g, c, cur, rfl, hg, _⟩⟩ := h
  · simp [Value.ownBlock] at hk
  · simp [Value.ownBlock] at hk; omega

theorem cell_one (w : World) (x : Value) (t : TypeId) : ∀ j u, [x][j]? = some u → (w.alloc (.cells #[x] t)).cell? ((⟨w.heap.size, 0, none⟩ : Addr).add j) = some u := by
  intro j u hj
  match j, hj with
  | 0, hj => simp at hj; subst hj; simp [Addr.add]

theorem isR_own {w : World} {B n : Nat} {v : Value} {cx cy : Nat → Option Nat} {xs : List Value} (h : w.ownsRow B 64 1 v n xs) (hp : Pts n cx cy xs) : ∃ a cap, v = .slice a n cap ∧ IsR B w.heap.size w a n cap cx cy := by
  obtain ⟨h1, ⟨rfl, rfl⟩ | ⟨g, cap, cur, rfl, hB, hh, hn, hm, hs, ht⟩⟩ := h
  · exact ⟨none, 0, rfl, isR_nil _ _ _ _ _⟩
  refine ⟨some ⟨g, 0, none⟩, cap, rfl, hn, hm, g, cur, fun _ => ⟨rfl, hB, block_lt hh, hh⟩, by omega, fun i hi => ?_⟩
  obtain ⟨x, y, k1, k2⟩ := hp.2 i hi
  refine ⟨x, y, ?_, k2⟩
  rw [← ht, List.getElem?_take_of_lt (by omega)] at k1
  simpa using k1

set_option maxHeartbeats 3200000 in
theorem spec_Noise (N : Int) (z : Nat) (s : Int) (w : World) (wz : (Lit.float .f32 z).wf = true) :
    Calls Try.prog 10 #[.int .i64 N, .float .f32 z, .int .i64 s] w (RetTG (okN N z s) N.toNat (xN (cl .f32 z) s) (yN (cl .f32 z) s) (seedN s (2 * N.toNat)) w) := by
  have H1 := Lib.hid (fun w => spec_in N 0 64 w)
  have H2 := Lib.hid (fun w => spec_size z w wz)
  have H3 := Lib.hid (fun w => spec_in s 0 2147483647 w)
  unfold okN
  cases h1 : inB N 0 64
  · rw [h1] at H1
    go_enter Try.func10, Try.ntmps10
    go_wp2_with fail
    refine (H1.out _).mono ?_
    rintro e w1 ⟨rfl, rfl⟩
    go_wp2
    refine bodyPost_ret ?ohr rfl (retT_no ?obel)
    case ohr => simp [results, Try.results10, go_sem, *]
    case obel => (repeat' first | exact Below.refl _ _ | (refine Below.setCell ?_ (by first | omega | (simp; omega) | simp) _) | (refine below_drewN ?_ _) | (refine Below.alloc ?_ (by first | omega | (simp; omega) | simp) _) | (refine Below.trans ?_ (Below.mono (by assumption) (by first | omega | (simp; omega) | simp))))
  rw [h1] at H1
  cases h2 : sizB z
  · rw [h2] at H2
    go_enter Try.func10, Try.ntmps10
    go_wp2_with fail
    refine (H1.out _).mono ?_
    rintro e w1 ⟨rfl, rfl⟩
    go_wp2_with fail
    refine (H2.out _).mono ?_
    rintro e w1 ⟨rfl, hb1⟩
    go_wp2
    refine bodyPost_ret ?ohr rfl (retT_no ?obel)
    case ohr => simp [results, Try.results10, go_sem, *]
    case obel => (repeat' first | exact Below.refl _ _ | (refine Below.setCell ?_ (by first | omega | (simp; omega) | simp) _) | (refine below_drewN ?_ _) | (refine Below.alloc ?_ (by first | omega | (simp; omega) | simp) _) | (refine Below.trans ?_ (Below.mono (by assumption) (by first | omega | (simp; omega) | simp))))
  rw [h2] at H2
  cases h3 : inB s 0 2147483647
  · rw [h3] at H3
    go_enter Try.func10, Try.ntmps10
    go_wp2_with fail
    refine (H1.out _).mono ?_
    rintro e w1 ⟨rfl, rfl⟩
    go_wp2_with fail
    refine (H2.out _).mono ?_
    rintro e w1 ⟨rfl, hb1⟩
    go_wp2_with fail
    refine (H3.out _).mono ?_
    rintro e w2 ⟨rfl, rfl⟩
    go_wp2
    refine bodyPost_ret ?ohr rfl (retT_no ?obel)
    case ohr => simp [results, Try.results10, go_sem, *]
    case obel => (repeat' first | exact Below.refl _ _ | (refine Below.setCell ?_ (by first | omega | (simp; omega) | simp) _) | (refine below_drewN ?_ _) | (refine Below.alloc ?_ (by first | omega | (simp; omega) | simp) _) | (refine Below.trans ?_ (Below.mono (by assumption) (by first | omega | (simp; omega) | simp))))
  rw [h3] at H3
  obtain ⟨hN0, hN1⟩ := in_yes h1
  have hs := in_yes h3
  obtain ⟨n, rfl⟩ : ∃ n : Nat, N = (n : Int) := ⟨N.toNat, by omega⟩
  rw [show (n : Int).toNat = n by simp]
  show Calls _ _ _ w (RetTr true n _ _ _ w)
  have hSB := Lib.hid (seed_bd hs)
  have HX := Lib.hid (show ∀ k, xN (cl .f32 z) s k = dv (cl .f32 z) (nextS (seedN s (2 * k))) from fun k => rfl)
  have HY := Lib.hid (show ∀ k, yN (cl .f32 z) s k = dv (cl .f32 z) (nextS (nextS (seedN s (2 * k)))) from fun k => rfl)
  have HNX := Lib.hid (show ∀ k, seedN s (2 * (k + 1)) = nextS (nextS (seedN s (2 * k))) from fun k => rfl)
  have fz : Fr .f32 z (cl .f32 z) := ⟨rfl, Fl.lt32 wz⟩
  have FZ := Lib.hid fz
  generalize xN (cl .f32 z) s = cx at *
  generalize yN (cl .f32 z) s = cy at *
  generalize cl .f32 z = c at *
  have hn64 : n ≤ 64 := by omega
  obtain ⟨i0, hI, hI0, hI1, hI2⟩ := info_c
  clear h1 h2 h3 hs hN0 hN1 wz fz
  go_enter Try.func10, Try.ntmps10
  go_wp2_with fail
  refine (H1.out _).mono ?_
  rintro e w0 ⟨rfl, rfl⟩
  go_wp2_with fail
  refine (H2.out _).mono ?_
  rintro e w1 ⟨rfl, hb1⟩
  have HB0 := Lib.hid hb1
  have hz1 := hb1.size
  clear hb1
  go_wp2_with fail
  refine (H3.out _).mono ?_
  rintro e w2 ⟨rfl, rfl⟩
  go_wp2
  have HS0 := Lib.hid (show (w1.alloc (.cells #[] 64)).ownsRow w1.heap.size 64 1 (.slice (some ⟨w1.heap.size, 0, none⟩) 0 0) 0 [] from World.ownsRow_made w1 #[] 0 (Nat.le_refl _) (Nat.zero_le _) rfl)
  go_loopw [0, 2, 9] (fun cc ss vv wr => ∃ (k j : Nat) (xs : List Value), k + j = n ∧ cc = .int .i64 (j : Int) ∧ ss = .int .i64 (seedN s (2 * k)) ∧ wr.ownsRow w1.heap.size 64 1 vv k xs ∧ Pts k cx cy xs ∧ Below w1.heap.size w1 wr)
    (fun cc _ _ _ => (intOf cc).toNat)
  case atStart => exact ⟨0, n, [], by omega, rfl, rfl, HS0.out, ⟨rfl, fun j hj => absurd hj (by omega)⟩, (Below.refl _ _).alloc (Nat.le_refl _) _⟩
  case round =>
    clear HS0
    obtain ⟨k, j, xs, hkj, rfl, rfl, hown, hpts, hbel⟩ := hrel
    have HO := Lib.hid hown
    have HP := Lib.hid hpts
    have HB := Lib.hid hbel
    have hbs := hbel.size
    clear hown hpts hbel
    by_cases hlt : 0 < j
    · have hj0 : (0 : Int) < (j : Int) := by omega
      have b0 := hSB.out (2 * k)
      have b1 := hSB.out (2 * k + 1)
      obtain ⟨S, hS⟩ : ∃ S, seedN s (2 * k) = S := ⟨_, rfl⟩
      have HSE := Lib.hid hS
      rw [hS] at b0 ⊢
      rw [show seedN s (2 * k + 1) = nextS S by rw [← hS]; rfl] at b1
      have HD0 := Lib.hid (fun w => spec_draw z c S w FZ.out b0)
      have HD1 := Lib.hid (fun w => spec_draw z c (nextS S) w FZ.out b1)
      have HBD := Lib.hid (And.intro b0 b1)
      clear hS b0 b1
      generalize hT1 : nextS S = T1 at HD0 HD1
      generalize hT2 : nextS T1 = T2 at HD1
      have HT := Lib.hid (And.intro hT1 hT2)
      clear hT1 hT2
      go_wp2_with fail
      refine (HD0.out _).mono ?_
      rintro e w3 ⟨r3, rfl, fr3, hb3⟩
      have hz3 := hb3.size
      go_wp2_with fail
      refine (HD1.out _).mono ?_
      rintro e w4 ⟨r4, rfl, fr4, hb4⟩
      have hz4 := hb4.size
      have HB4 := Lib.hid (HB.out.trans ((hb3.mono hbs).trans (hb4.mono (by omega))))
      have HO4 := Lib.hid (own_below HO.out (hb3.trans (hb4.mono (by omega))))
      have F4 := Lib.hid (show Fr .f32 r3 (cx k) ∧ Fr .f32 r4 (cy k) by rw [HX.out, HY.out, HSE.out, HT.out.1, HT.out.2]; exact ⟨fr3, fr4⟩)
      clear hb3 hb4 fr3 fr4
      go_wp2_with (first
        | (
          at_builtin
          refine wpList_append_own _ rfl (.tmp 45) (.tmp 49) 23 rfl w1.heap.size 64 i0 (.complex .f32 0 0) 1 8 Try.underlying23 hI hI0 hI1 hI2 rfl (by decide) _ k xs rfl (own_below HO4.out ((Below.refl _ _).alloc (Nat.le_refl _) _)) ⟨w4.heap.size, 0, none⟩ 1 1 [.complex .f32 r3 r4] rfl rfl (cell_one _ _ _) ?p1 ?p2 ?p3 (Nat.le_trans HB4.out.size (Nat.le_of_lt (by simp))) ?_
          case p1 => intro u hu; simp at hu; subst hu; rfl
          case p2 => unfold maxLen; omega
          case p3 => omega
          intro v5 w5 hown5 hgrow5 hnil5
          have hz5 := hgrow5.size
          have hb5 : Below w1.heap.size w1 w5 := Below.grown (HB4.out.alloc HB4.out.size _) hgrow5 (Nat.le_trans HB4.out.size (Nat.le_of_lt (by simp))) (own_ge HO4.out)
          have HO5 := Lib.hid hown5
          have HB5 := Lib.hid hb5
          clear hown5 hgrow5 hnil5 hb5
          skip))
      go_roundw
      case rel => exact ⟨k + 1, j - 1, _, by omega, by congr 1; omega, by rw [HNX.out, HSE.out, HT.out.1, HT.out.2], HO5.out, HP.out.next F4.out.1 F4.out.2, HB5.out⟩
      case measure => simp [intOf]; omega
    · obtain rfl : j = 0 := by omega
      obtain rfl : n = k := by omega
      obtain ⟨av, capv, rfl, hio⟩ := isR_own HO.out HP.out
      have HIO := Lib.hid hio
      have HB9 := Lib.hid (HB0.out.trans (HB.out.mono (by omega)))
      clear hio
      go_wp2
      refine bodyPost_ret ?ohr rfl ⟨av, capv, rfl, ?oio, HB9.out⟩
      case ohr => simp [results, Try.results10, go_sem, *]
      case oio =>
        obtain ⟨k2, k3, g, cur, k5, k6⟩ := HIO.out
        exact ⟨k2, k3, g, cur, fun h0 => ⟨(k5 h0).1, by have := (k5 h0).2.1; omega, (k5 h0).2.2⟩, k6⟩

end Nt
end Go.Proofs.Ytjkkefbfhapblab
