/- Sheets: what holds of their blocks; whether one is valid. -/
import Derived.Test.YtpmnjbgfdhhomaaWs
import Derived.Test.YtpmnjbgfdhhomaaMarkC
import Derived.Test.YtpmnjbgfdhhomaaMarkF
import Derived.Test.YtpmnjbgfdhhomaaCEq
import Derived.Test.YtpmnjbgfdhhomaaNums
namespace Go.Proofs.Ytpmnjbgfdhhomaa
set_option linter.unusedSimpArgs false
set_option linter.unusedVariables false
open Go.RowKit
namespace Sh
open Fl Rate

/-- A block of n complex numbers of these classes. -/
def IsC (w : World) (g n : Nat) (cx cy : Nat → Option Nat) : Prop :=
  ∃ cur : Array Value, w.heap[g]? = some (.cells cur 40) ∧ n ≤ cur.size ∧ ∀ i, i < n → ∃ x y, cur[i]? = some (.complex .f32 x y) ∧ Fr .f32 x (cx i) ∧ Fr .f32 y (cy i)

/-- A block of n times the same number. -/
def IsS (w : World) (g n s : Nat) : Prop :=
  ∃ cur : Array Value, w.heap[g]? = some (.cells cur 22) ∧ n ≤ cur.size ∧ ∀ i, i < n → cur[i]? = some (.float .f32 s)

theorem IsC.lt {w : World} {g n : Nat} {cx cy : Nat → Option Nat} (h : IsC w g n cx cy) : g < w.heap.size := by
  obtain ⟨cur, h, _⟩ := h
  exact (Array.getElem?_eq_some_iff.1 h).1

theorem IsS.lt {w : World} {g n s : Nat} (h : IsS w g n s) : g < w.heap.size := by
  obtain ⟨cur, h, _⟩ := h
  exact (Array.getElem?_eq_some_iff.1 h).1

theorem IsC.same {w w' : World} {g n : Nat} {cx cy : Nat → Option Nat} (h : IsC w g n cx cy) (hb : w'.heap[g]? = w.heap[g]?) : IsC w' g n cx cy := by
  obtain ⟨cur, h1, h2⟩ := h
  exact ⟨cur, by rw [hb]; exact h1, h2⟩

theorem IsS.same {w w' : World} {g n s : Nat} (h : IsS w g n s) (hb : w'.heap[g]? = w.heap[g]?) : IsS w' g n s := by
  obtain ⟨cur, h1, h2⟩ := h
  exact ⟨cur, by rw [hb]; exact h1, h2⟩

theorem IsC.later {w w' : World} {g n : Nat} {cx cy : Nat → Option Nat} (h : IsC w g n cx cy) (hb : Below w.heap.size w w') : IsC w' g n cx cy := h.same (hb.block g h.lt)
theorem IsS.later {w w' : World} {g n s : Nat} (h : IsS w g n s) (hb : Below w.heap.size w w') : IsS w' g n s := h.same (hb.block g h.lt)

theorem IsC.at {w : World} {g n : Nat} {cx cy : Nat → Option Nat} (h : IsC w g n cx cy) {i : Nat} (hi : i < n) :
    ∃ x y, w.cell? ⟨g, i, none⟩ = some (.complex .f32 x y) ∧ Fr .f32 x (cx i) ∧ Fr .f32 y (cy i) := by
  obtain ⟨cur, h1, h2, h3⟩ := h
  obtain ⟨x, y, k1, f1, f2⟩ := h3 i hi
  exact ⟨x, y, by rw [Loose.cells_of h1]; exact k1, f1, f2⟩

theorem IsS.at {w : World} {g n s : Nat} (h : IsS w g n s) {i : Nat} (hi : i < n) : w.cell? ⟨g, i, none⟩ = some (.float .f32 s) := by
  obtain ⟨cur, h1, h2, h3⟩ := h
  rw [Loose.cells_of h1]; exact h3 i hi

def allC (cx cy : Nat → Option Nat) : Nat → Bool
  | 0 => true
  | k + 1 => allC cx cy k && (finC (cx k) && finC (cy k))

theorem allC_le {cx cy : Nat → Option Nat} {k n : Nat} (h : allC cx cy k = false) (hk : k ≤ n) : allC cx cy n = false := by
  induction n with
  | zero => obtain rfl : k = 0 := by omega
            exact h
  | succ n ih =>
    by_cases e : k = n + 1
    · rw [← e]; exact h
    · show (allC cx cy n && _) = false
      rw [ih (by omega)]; rfl

theorem spec_inr (n a b : Int) (w : World) : Calls Try.prog 29 #[.int .i64 n, .int .i64 a, .int .i64 b] w (RetD (.bool (decide (a ≤ n) && decide (n ≤ b))) w) := by
  by_cases h1 : a ≤ n
  · have t1 : decide (a ≤ n) = true := by simpa using h1
    by_cases h2 : n ≤ b
    · have t2 : decide (n ≤ b) = true := by simpa using h2
      rw [t1, t2]
      go_enter Try.func29, Try.ntmps29
      go_wp2
      go_ret
      exact ⟨rfl, Below.refl _ _⟩
    · have t2 : decide (n ≤ b) = false := by simpa using h2
      rw [t1, t2]
      go_enter Try.func29, Try.ntmps29
      go_wp2
      go_ret
      exact ⟨rfl, Below.refl _ _⟩
  · have t1 : decide (a ≤ n) = false := by simpa using h1
    rw [t1]
    go_enter Try.func29, Try.ntmps29
    go_wp2
    go_ret
    exact ⟨rfl, Below.refl _ _⟩

set_option maxHeartbeats 1600000 in
theorem impl_allc (g n cap : Nat) (cx cy : Nat → Option Nat) (w : World) (h : IsC w g n cx cy) (hn : n ≤ 48) : Calls Try.prog 91 #[.slice (some ⟨g, 0, none⟩) n cap, .func (Fn.func 88) #[] #[]] w (RetD (.bool (allC cx cy n)) w) := by
  have H := Lib.hid h
  have hg := h.lt
  clear h
  go_enter Try.func91, Try.ntmps91
  go_wp2
  go_loopw [9] (fun i wr => ∃ k : Nat, k ≤ n ∧ i = .int .i64 k ∧ allC cx cy k = true ∧ Below w.heap.size w wr) (fun i _ => n - (intOf i).toNat)
  case atStart => exact ⟨0, Nat.zero_le _, rfl, rfl, Below.refl _ _⟩
  case round =>
    obtain ⟨k, hk, rfl, hall, hbel⟩ := hrel
    have HA := Lib.hid hall; clear hall
    by_cases hlt : k < n
    · obtain ⟨x, y, e1, f1, f2⟩ := (H.out.later hbel).at hlt
      obtain ⟨A1, hA1⟩ : ∃ A, (finC (cx k) && finC (cy k)) = A := ⟨_, rfl⟩
      have HX := Lib.hid (show allC cx cy (k + 1) = (allC cx cy k && A1) by rw [← hA1]; rfl)
      have HB := Lib.hid hbel; clear hbel
      have HC := Lib.hid (Ws.impl_cfin x y _ _ wr f1 f2 _ hA1)
      cases A1
      · go_wp2_with fail
        refine HC.out.mono ?_
        rintro e w' ⟨rfl, hb⟩
        go_wp2
        go_ret
        exact ⟨by rw [allC_le (k := k + 1) (by rw [HX.out, HA.out]; rfl) (by omega)]; rfl, HB.out.trans (hb.mono HB.out.size)⟩
      · go_wp2_with fail
        refine HC.out.mono ?_
        rintro e w' ⟨rfl, hb⟩
        go_wp2
        go_roundw
        case rel => exact ⟨k + 1, by omega, by go_num, by rw [HX.out, HA.out]; rfl, HB.out.trans (hb.mono HB.out.size)⟩
        case measure => simp [intOf]; omega
    · obtain rfl : n = k := by omega
      have HB := Lib.hid hbel; clear hbel
      go_wp2
      go_ret
      exact ⟨by rw [HA.out]; first | rfl | (simp; omega), HB.out⟩

set_option maxHeartbeats 1600000 in
theorem impl_alls (g n cap s : Nat) (c : Option Nat) (w : World) (h : IsS w g n s) (hs : Fr .f32 s c) (hn : n ≤ 48) (h0 : 0 < n) : Calls Try.prog 92 #[.slice (some ⟨g, 0, none⟩) n cap, .func (Fn.func 61) #[] #[]] w (RetD (.bool (finC c)) w) := by
  have H := Lib.hid h
  have hg := h.lt
  clear h
  have HC := Lib.hid (fun w => Ws.impl_fin s c w hs)
  generalize finC c = A at *
  go_enter Try.func92, Try.ntmps92
  go_wp2
  go_loopw [9] (fun i wr => ∃ k : Nat, k ≤ n ∧ i = .int .i64 k ∧ (0 < k → A = true) ∧ Below w.heap.size w wr) (fun i _ => n - (intOf i).toNat)
  case atStart => exact ⟨0, Nat.zero_le _, rfl, fun h => absurd h (Nat.lt_irrefl _), Below.refl _ _⟩
  case round =>
    obtain ⟨k, hk, rfl, hall, hbel⟩ := hrel
    have HA := Lib.hid hall; clear hall
    by_cases hlt : k < n
    · have e1 := (H.out.later hbel).at hlt
      have HB := Lib.hid hbel; clear hbel
      cases A
      · go_wp2_with fail
        refine (HC.out _).mono ?_
        rintro e w' ⟨rfl, hb⟩
        go_wp2
        go_ret
        exact ⟨rfl, HB.out.trans (hb.mono HB.out.size)⟩
      · go_wp2_with fail
        refine (HC.out _).mono ?_
        rintro e w' ⟨rfl, hb⟩
        go_wp2
        go_roundw
        case rel => exact ⟨k + 1, by omega, by go_num, fun _ => by first | trivial | rfl, HB.out.trans (hb.mono HB.out.size)⟩
        case measure => simp [intOf]; omega
    · obtain rfl : n = k := by omega
      have HB := Lib.hid hbel; clear hbel
      have hA : A = true := HA.out h0
      subst hA
      go_wp2
      go_ret
      exact ⟨rfl, HB.out⟩

/-- A sheet's value. -/
abbrev sheetV (gp gs n cp cs : Nat) (b : Bool) : Value := .agg #[.slice (some ⟨gp, 0, none⟩) n cp, .slice (some ⟨gs, 0, none⟩) n cs, .bool b]
abbrev noSheet : Value := .agg #[.slice none 0 0, .slice none 0 0, .bool false]

set_option maxHeartbeats 1600000 in
theorem impl_valid (gp gs n cp cs s : Nat) (b : Bool) (cx cy : Nat → Option Nat) (c : Option Nat) (w : World) (hp : IsC w gp n cx cy) (hs : IsS w gs n s) (fs : Fr .f32 s c) (h2 : 2 ≤ n) (hn : n ≤ 48) (A : Bool) (hA : (allC cx cy n && finC c) = A) :
    Calls Try.prog 86 #[sheetV gp gs n cp cs b] w (RetD (.bool A) w) := by
  have HP := Lib.hid (fun w' (hb : Below w.heap.size w w') => impl_allc gp n cp cx cy w' (hp.later hb) hn)
  have HS := Lib.hid (fun w' (hb : Below w.heap.size w w') => impl_alls gs n cs s c w' (hs.later hb) fs hn (by omega))
  clear hp hs fs
  cases h1 : allC cx cy n
  all_goals cases h3 : finC c
  all_goals rw [h1] at hA HP
  all_goals rw [h3] at hA HS
  all_goals subst hA
  all_goals
    go_enter Try.func86, Try.ntmps86
    go_wp2_with fail
    refine (HP.out _ (by (repeat' first | exact Below.refl _ _ | (refine Below.setCell ?_ (by first | omega | (simp; omega) | simp) _) | (refine below_drewN ?_ _) | (refine Below.alloc ?_ (by first | omega | (simp; omega) | simp) _) | (refine Below.trans ?_ (Below.mono (by assumption) (by first | omega | (simp; omega) | simp)))))).mono ?_
    rintro e w1 ⟨rfl, hb1⟩
    have hz1 := hb1.size
    simp only [World.size_alloc] at hz1
    obtain ⟨hc1, hf1⟩ := Fl.bcell hb1
    have g1 : w.heap.size < w1.heap.size := by omega
    go_wp2_with (first | (go_at_call 92; refine (HS.out _ (by (repeat' first | exact Below.refl _ _ | (refine Below.setCell ?_ (by first | omega | (simp; omega) | simp) _) | (refine below_drewN ?_ _) | (refine Below.alloc ?_ (by first | omega | (simp; omega) | simp) _) | (refine Below.trans ?_ (Below.mono (by assumption) (by first | omega | (simp; omega) | simp)))))).mono ?_; rintro e w2 ⟨rfl, hb2⟩))
    go_ret
    exact ⟨rfl, by (repeat' first | exact Below.refl _ _ | (refine Below.setCell ?_ (by first | omega | (simp; omega) | simp) _) | (refine below_drewN ?_ _) | (refine Below.alloc ?_ (by first | omega | (simp; omega) | simp) _) | (refine Below.trans ?_ (Below.mono (by assumption) (by first | omega | (simp; omega) | simp))))⟩

set_option maxHeartbeats 1600000 in
theorem impl_checked (gp gs n cp cs s : Nat) (b : Bool) (cx cy : Nat → Option Nat) (c : Option Nat) (w : World) (hp : IsC w gp n cx cy) (hs : IsS w gs n s) (fs : Fr .f32 s c) (h2 : 2 ≤ n) (hn : n ≤ 48) (A : Bool) (hA : (allC cx cy n && finC c) = A) :
    Calls Try.prog 68 #[sheetV gp gs n cp cs b] w (RetD (.tuple #[if A then sheetV gp gs n cp cs b else noSheet, .bool A]) w) := by
  have HV := Lib.hid (fun w' (hb : Below w.heap.size w w') => impl_valid gp gs n cp cs s b cx cy c w' (hp.later hb) (hs.later hb) fs h2 hn A hA)
  clear hp hs fs hA
  cases A
  all_goals
    go_enter Try.func68, Try.ntmps68
    go_wp2_with fail
    refine (HV.out _ (by (repeat' first | exact Below.refl _ _ | (refine Below.setCell ?_ (by first | omega | (simp; omega) | simp) _) | (refine below_drewN ?_ _) | (refine Below.alloc ?_ (by first | omega | (simp; omega) | simp) _) | (refine Below.trans ?_ (Below.mono (by assumption) (by first | omega | (simp; omega) | simp)))))).mono ?_
    rintro e w1 ⟨rfl, hb1⟩
    have hz1 := hb1.size
    simp only [World.size_alloc] at hz1
    obtain ⟨hc1, hf1⟩ := Fl.bcell hb1
    have g1 : w.heap.size < w1.heap.size := by omega
    have g2 : w.heap.size + 1 < w1.heap.size := by omega
    go_wp2
    refine bodyPost_ret ?ohr rfl ⟨rfl, ?obel⟩
    case ohr => simp [results, Try.results68, go_sem, *]
    case obel => (repeat' first | exact Below.refl _ _ | (refine Below.setCell ?_ (by first | omega | (simp; omega) | simp) _) | (refine below_drewN ?_ _) | (refine Below.alloc ?_ (by first | omega | (simp; omega) | simp) _) | (refine Below.trans ?_ (Below.mono (by assumption) (by first | omega | (simp; omega) | simp))))

set_option maxHeartbeats 3200000 in
theorem spec_is (G gp gs n cp cs s : Nat) (b : Bool) (cx cy : Nat → Option Nat) (c : Option Nat) (w : World) (e0 : w.cell? ⟨G, 0, none⟩ = some (.slice (some ⟨gp, 0, none⟩) n cp)) (e1 : w.cell? ⟨G, 1, none⟩ = some (.slice (some ⟨gs, 0, none⟩) n cs)) (hp : IsC w gp n cx cy) (hs : IsS w gs n s) (fs : Fr .f32 s c) (h2 : 2 ≤ n) (hn : n ≤ 48) (A : Bool) (hA : (allC cx cy n && finC c) = A) :
    Calls Try.prog 67 #[.pointer (some ⟨G, 0, none⟩)] w (RetD (.bool A) w) := by
  have HP := Lib.hid hp
  have HS := Lib.hid hs
  have hgp := hp.lt
  have hgs := hs.lt
  have hG := block_lt_of_cell e0
  have HE := Lib.hid (And.intro e0 e1)
  clear hp hs
  go_enter Try.func67, Try.ntmps67
  go_wp2
  go_loopw [30] (fun i wr => ∃ k : Nat, k ≤ n ∧ i = .int .i64 k ∧ allC cx cy k = true ∧ (0 < k → finC c = true) ∧ Below w.heap.size w wr) (fun i _ => n - (intOf i).toNat)
  case atStart => exact ⟨0, Nat.zero_le _, rfl, rfl, fun h => absurd h (Nat.lt_irrefl _), Below.refl _ _⟩
  case round =>
    clear e0 e1
    obtain ⟨k, hk, rfl, hall, hfin, hbel⟩ := hrel
    have HF := Lib.hid hfin; clear hfin
    have HL := Lib.hid hall; clear hall
    have HAA := Lib.hid hA
    by_cases hlt : k < n
    · clear hA
      obtain ⟨x, y, e2, f1, f2⟩ := (HP.out.later hbel).at hlt
      have e3 := (HS.out.later hbel).at hlt
      have e0 : wr.cell? ⟨G, 0, none⟩ = some (.slice (some ⟨gp, 0, none⟩) n cp) := by rw [hbel.cell hG]; exact HE.out.1
      have e1 : wr.cell? ⟨G, 1, none⟩ = some (.slice (some ⟨gs, 0, none⟩) n cs) := by rw [hbel.cell hG]; exact HE.out.2
      obtain ⟨A1, hA1⟩ : ∃ A, (finC (cx k) && finC (cy k)) = A := ⟨_, rfl⟩
      have HX := Lib.hid (show allC cx cy (k + 1) = (allC cx cy k && A1) by rw [← hA1]; rfl)
      have HC := Lib.hid (Ws.spec_cfin x y _ _ wr f1 f2 _ hA1)
      have HD := Lib.hid (fun w => Ws.spec_fin s c w fs)
      have HZ := Lib.hid (show A = (allC cx cy n && finC c) from HAA.out.symm)
      have hsz := hbel.size
      have hGr : G < wr.heap.size := by omega
      have hgsr : gs < wr.heap.size := by omega
      have HB := Lib.hid hbel; clear hbel
      obtain ⟨F, hF⟩ : ∃ F, finC c = F := ⟨_, rfl⟩
      have HFF := Lib.hid hF
      rw [hF] at HD
      clear hF
      cases A1
      · go_wp2_with fail
        refine HC.out.mono ?_
        rintro e w' ⟨rfl, hb⟩
        go_wp2
        go_ret
        exact ⟨by rw [HZ.out, allC_le (k := k + 1) (by rw [HX.out, HL.out]; rfl) (by omega)]; rfl, HB.out.trans (hb.mono HB.out.size)⟩
      · go_wp2_with fail
        refine HC.out.mono ?_
        rintro e w' ⟨rfl, hb⟩
        obtain ⟨hc1, hf1⟩ := Fl.bcell hb
        have hz1 := hb.size
        have e1' := (hc1 G 1 hGr).trans e1
        have e3' := (hc1 gs k hgsr).trans e3
        cases F
        · go_wp2_with fail
          refine (HD.out _).mono ?_
          rintro e w2 ⟨rfl, hb2⟩
          go_wp2
          go_ret
          exact ⟨by rw [HZ.out, HFF.out, Bool.and_false]; rfl, HB.out.trans ((hb.trans (hb2.mono hz1)).mono HB.out.size)⟩
        · go_wp2_with fail
          refine (HD.out _).mono ?_
          rintro e w2 ⟨rfl, hb2⟩
          go_wp2
          go_roundw
          case rel => exact ⟨k + 1, by omega, by go_num, by rw [HX.out, HL.out]; rfl, fun _ => HFF.out, HB.out.trans ((hb.trans (hb2.mono hz1)).mono HB.out.size)⟩
          case measure => simp [intOf]; omega
    · obtain rfl : n = k := by omega
      rw [HL.out, HF.out (by omega)] at hA
      subst hA
      have HB := Lib.hid hbel; clear hbel
      go_wp2
      go_ret
      exact ⟨rfl, HB.out⟩

set_option maxHeartbeats 1600000 in
theorem spec_give (gp gs n cp cs s : Nat) (b : Bool) (cx cy : Nat → Option Nat) (c : Option Nat) (w : World) (hp : IsC w gp n cx cy) (hs : IsS w gs n s) (fs : Fr .f32 s c) (h2 : 2 ≤ n) (hn : n ≤ 48) (A : Bool) (hA : (allC cx cy n && finC c) = A) :
    Calls Try.prog 31 #[sheetV gp gs n cp cs b] w (RetD (.tuple #[if A then sheetV gp gs n cp cs b else noSheet, .bool A]) w) := by
  have HV := Lib.hid (fun G w' (hb : Below w.heap.size w w') e0 e1 => spec_is G gp gs n cp cs s b cx cy c w' e0 e1 (hp.later hb) (hs.later hb) fs h2 hn A hA)
  clear hp hs fs hA
  cases A
  all_goals
    go_enter Try.func31, Try.ntmps31
    go_wp2_with fail
    refine (HV.out _ _ (by (repeat' first | exact Below.refl _ _ | (refine Below.setCell ?_ (by first | omega | (simp; omega) | simp) _) | (refine below_drewN ?_ _) | (refine Below.alloc ?_ (by first | omega | (simp; omega) | simp) _) | (refine Below.trans ?_ (Below.mono (by assumption) (by first | omega | (simp; omega) | simp))))) (by simp) (by simp)).mono ?_
    rintro e w1 ⟨rfl, hb1⟩
    have hz1 := hb1.size
    simp only [World.size_alloc] at hz1
    obtain ⟨hc1, hf1⟩ := Fl.bcell hb1
    have g1 : w.heap.size < w1.heap.size := by omega
    have g2 : w.heap.size + 1 < w1.heap.size := by omega
    go_wp2
    refine bodyPost_ret ?ohr rfl ⟨rfl, ?obel⟩
    case ohr => simp [results, Try.results31, go_sem, *]
    case obel => (repeat' first | exact Below.refl _ _ | (refine Below.setCell ?_ (by first | omega | (simp; omega) | simp) _) | (refine below_drewN ?_ _) | (refine Below.alloc ?_ (by first | omega | (simp; omega) | simp) _) | (refine Below.trans ?_ (Below.mono (by assumption) (by first | omega | (simp; omega) | simp))))
end Sh
end Go.Proofs.Ytpmnjbgfdhhomaa
