/- Reading a list of numbers: what a text reads as; blocks of the call's own. -/
import Derived.Test.YtpmnjbgfdhhomabGreatDoorReadN
import Derived.Test.YtpmnjbgfdhhomabGreatDoorCutW
import Derived.Test.YtpmnjbgfdhhomabGreatDoorMk
namespace Go.Proofs.YtpmnjbgfdhhomabGreatDoor
set_option linter.unusedSimpArgs false
set_option linter.unusedVariables false
open Go.RowKit
namespace FList
open Cut Fl

theorem parts_le (l : List UInt8) : ∀ p ∈ parts l, p.length ≤ l.length := by
  induction l with
  | nil => intro p hp; rw [List.mem_singleton.1 hp]; exact Nat.le_refl _
  | cons c r ih =>
    intro p hp
    by_cases hc : c = 44
    · subst hc
      rw [parts_mark] at hp
      rcases List.mem_cons.1 hp with rfl | hp
      · exact Nat.zero_le _
      · exact Nat.le_succ_of_le (ih p hp)
    · cases hq : parts r with
      | nil =>
        have := parts_len r
        rw [hq] at this; simp at this
      | cons q qs =>
        rw [parts_other hc hq] at hp
        rw [hq] at ih
        rcases List.mem_cons.1 hp with rfl | hp
        · exact Nat.succ_le_succ (ih q List.mem_cons_self)
        · exact Nat.le_succ_of_le (ih p (List.mem_cons_of_mem _ hp))

def none4 : List UInt8 := [110, 111, 110, 101]

/-- A number as a value. -/
def el (z : Nat) : Value := .float .f32 z
def okE (z : Nat) : Prop := z < 4294967296

/-- What a text reads as. -/
def LR (l : List UInt8) (zs : List Nat) (b : Bool) : Prop :=
  (l = none4 ∧ zs = [] ∧ b = true) ∨
  (l ≠ none4 ∧ (parts l).length ≤ 256 ∧ b = true ∧ zs.length = (parts l).length ∧ ∀ (j : Nat) (p : List UInt8), (parts l)[j]? = some p → Hex.ReadsN p (zs.getD j 0) true) ∨
  (l ≠ none4 ∧ b = false ∧ zs = [] ∧ (256 < (parts l).length ∨ ((parts l).length ≤ 256 ∧ ∃ (j : Nat) (p : List UInt8), (parts l)[j]? = some p ∧ Hex.ReadsN p 0 false)))

theorem lr (l : List UInt8) : ∃ zs b, LR l zs b := by
  by_cases h1 : l = none4
  · exact ⟨[], true, .inl ⟨h1, rfl, rfl⟩⟩
  by_cases h2 : 256 < (parts l).length
  · exact ⟨[], false, .inr (.inr ⟨h1, rfl, rfl, .inl h2⟩)⟩
  by_cases h3 : ∃ (j : Nat) (p : List UInt8), (parts l)[j]? = some p ∧ Hex.ReadsN p 0 false
  · exact ⟨[], false, .inr (.inr ⟨h1, rfl, rfl, .inr ⟨by omega, h3⟩⟩)⟩
  obtain ⟨f, hf⟩ := Classical.axiomOfChoice Hex.readsN
  refine ⟨(parts l).map f, true, .inr (.inl ⟨h1, by omega, rfl, by rw [List.length_map], fun j p hp => ?_⟩)⟩
  have e : ((parts l).map f).getD j 0 = f p := by
    rw [List.getD_eq_getElem?_getD, List.getElem?_map, hp]; rfl
  rw [e]
  obtain ⟨b, hr⟩ := hf p
  cases b
  · have hz := Hex.ReadsN.zero hr
    rw [hz] at hr
    exact absurd ⟨j, p, hp, hr⟩ h3
  · exact hr

theorem I_info : (Tryz.prog.info? 24).map (fun i => (i.zero, i.size, i.bytes)) = some (some (.float .f32 0), 1, 4) := by kernel_rfl

/-- Rows of two types lie in two blocks. -/
theorem ne_blocks {w : World} {B B' e e' g g' n n' cap cap' : Nat} {xs xs' : List Value} (h : w.ownsRow B e 1 (.slice (some ⟨g, 0, none⟩) n cap) n xs) (h' : w.ownsRow B' e' 1 (.slice (some ⟨g', 0, none⟩) n' cap') n' xs') (he : e ≠ e') : g ≠ g' := by
  rintro rfl
  obtain ⟨_, h | ⟨a, c, cur, hv, _, hh, _⟩⟩ := h
  · cases h.1
  obtain ⟨_, k | ⟨a', c', cur', hv', _, hh', _⟩⟩ := h'
  · cases k.1
  simp only [Value.slice.injEq, Option.some.injEq, Addr.mk.injEq] at hv hv'
  obtain ⟨⟨rfl, _⟩, _⟩ := hv
  obtain ⟨⟨rfl, _⟩, _⟩ := hv'
  rw [hh] at hh'
  simp only [Option.some.injEq, Obj.cells.injEq] at hh'
  exact he hh'.2.1

/-- A list of these numbers that can be read. -/
def IsL (w : World) (a : Option Addr) (len cap : Nat) (zs : List Nat) : Prop :=
  zs.length = len ∧ len ≤ cap ∧ cap ≤ maxLen ∧ (∀ z ∈ zs, okE z) ∧
  ∃ b off, (0 < len → a = some ⟨b, off, none⟩) ∧ ∀ i, i < len → w.cell? ⟨b, off + i, none⟩ = some (el (zs.getD i 0))

theorem IsL.later {w w' : World} {a : Option Addr} {len cap : Nat} {zs : List Nat} (h : IsL w a len cap zs) (hb : Below w.heap.size w w') : IsL w' a len cap zs := by
  obtain ⟨h1, h2, h3, h4, b, off, h5, h6⟩ := h
  refine ⟨h1, h2, h3, h4, b, off, h5, fun i hi => ?_⟩
  have h7 := h6 i hi
  rw [hb.cell (block_lt_of_cell h7)]; exact h7

def RetL (zs : List Nat) (b : Bool) (w : World) (e : Ending) (w' : World) : Prop :=
  ∃ a cap, e = .returned (.tuple #[.slice a zs.length cap, .bool b]) ∧ IsL w' a zs.length cap zs ∧ Below w.heap.size w w'

theorem isL_nil (w : World) (a : Option Addr) (cap : Nat) (h : cap ≤ maxLen) : IsL w a 0 cap [] := ⟨rfl, Nat.zero_le _, h, (fun n hn => by cases hn), 0, 0, fun h => absurd h (Nat.lt_irrefl _), fun i hi => absurd hi (Nat.not_lt_zero _)⟩

/-- Every part reads as a number: then the answer is these numbers. -/
theorem lr_all {l : List UInt8} {zs0 zs : List Nat} {b : Bool} (h : LR l zs0 b) (hno : l ≠ none4) (hn : (parts l).length ≤ 256) (hl : zs.length = (parts l).length) (hr : ∀ (j : Nat) (p : List UInt8), (parts l)[j]? = some p → Hex.ReadsN p (zs.getD j 0) true) : zs0 = zs ∧ b = true := by
  rcases h with ⟨h, _⟩ | ⟨_, _, hb, hl0, hr0⟩ | ⟨_, _, _, h | ⟨_, j, p, hp, h⟩⟩
  · exact absurd h hno
  · refine ⟨List.ext_getElem (by omega) fun j h1 h2 => ?_, hb⟩
    have hp : (parts l)[j]? = some (parts l)[j] := List.getElem?_eq_getElem (by omega)
    have := Hex.ReadsN.one (hr0 j _ hp) (hr j _ hp)
    rw [List.getD_eq_getElem?_getD, List.getD_eq_getElem?_getD, List.getElem?_eq_getElem h1, List.getElem?_eq_getElem h2] at this
    exact this
  · omega
  · exact absurd h (fun h => Hex.ReadsN.nots (hr j p hp) h)

/-- A part reads as no number. -/
theorem lr_bad {l : List UInt8} {zs0 : List Nat} {b : Bool} (h : LR l zs0 b) (hno : l ≠ none4) {j : Nat} {p : List UInt8} {v : Nat} (hp : (parts l)[j]? = some p) (hr : Hex.ReadsN p v false) : zs0 = [] ∧ b = false := by
  rcases h with ⟨h, _⟩ | ⟨_, _, hb, hl0, hr0⟩ | ⟨_, h1, h2, _⟩
  · exact absurd h hno
  · exact absurd (hr0 j p hp) (fun h => Hex.ReadsN.nots h hr)
  · exact ⟨h2, h1⟩

theorem lr_many {l : List UInt8} {zs0 : List Nat} {b : Bool} (h : LR l zs0 b) (hno : l ≠ none4) (hn : 256 < (parts l).length) : zs0 = [] ∧ b = false := by
  rcases h with ⟨h, _⟩ | ⟨_, h, _⟩ | ⟨_, h1, h2, _⟩
  · exact absurd h hno
  · omega
  · exact ⟨h2, h1⟩

theorem part_at {xs : List ByteArray} {l : List UInt8} (hx : xs.map (·.data.toList) = parts l) {j : Nat} (hj : j < xs.length) : (parts l)[j]? = some (xs[j]).data.toList := by
  rw [← hx, List.getElem?_map, List.getElem?_eq_getElem hj]; rfl

theorem own_els {w : World} {B L : Nat} {e : TypeId} {v : Value} {zs : List Nat} {x : Nat} (hL : zs.length = L) (h : w.ownsRow B e 1 v (L + 1) (zs.map el ++ [el x])) : w.ownsRow B e 1 v (L + 1) ((zs ++ [x]).map el) := by
  rw [List.map_append]
  exact h

theorem els_of_own {w : World} {B e g cap : Nat} {zs : List Nat} (h : w.ownsRow B e 1 (.slice (some ⟨g, 0, none⟩) zs.length cap) zs.length (zs.map el)) (hwf : ∀ n ∈ zs, okE n) : IsL w (some ⟨g, 0, none⟩) zs.length cap zs := by
  have hc := h.cells rfl
  obtain ⟨h1, h | ⟨g', cap', cur, hv, hB, hh, hn, hm, hs, ht⟩⟩ := h
  · cases h.1
  simp only [Value.slice.injEq, Option.some.injEq, Addr.mk.injEq] at hv
  obtain ⟨⟨rfl, _⟩, _, rfl⟩ := hv
  refine ⟨rfl, hn, hm, hwf, g, 0, fun _ => rfl, fun i hi => ?_⟩
  have := hc i (el (zs.getD i 0)) (by rw [List.getElem?_map, List.getD_eq_getElem?_getD, List.getElem?_eq_getElem hi]; rfl)
  rw [Addr.add_lit] at this
  exact this

/-- A list of these numbers in a block of the call's own. -/
def OwnL (B : Nat) (w : World) (a : Option Addr) (cap : Nat) (zs : List Nat) : Prop :=
  zs.length ≤ cap ∧ cap ≤ maxLen ∧ zs.length ≤ 256 ∧ (∀ n ∈ zs, okE n) ∧
  ∃ (g : Nat) (cur : Array Value), (0 < zs.length → a = some ⟨g, 0, none⟩ ∧ B ≤ g ∧ w.heap[g]? = some (.cells cur 24)) ∧ ∀ j, j < zs.length → cur[j]? = some (el (zs.getD j 0))

def RetO (zs : List Nat) (b : Bool) (w : World) (e : Ending) (w' : World) : Prop :=
  ∃ a cap, e = .returned (.tuple #[.slice a zs.length cap, .bool b]) ∧ OwnL w.heap.size w' a cap zs ∧ Below w.heap.size w w'

theorem ownL_nil (B : Nat) (w : World) : OwnL B w none 0 [] := ⟨Nat.le_refl _, Nat.zero_le _, Nat.zero_le _, (fun n hn => by cases hn), 0, #[], fun h => absurd h (Nat.lt_irrefl _), fun j hj => absurd hj (Nat.not_lt_zero _)⟩

theorem cells_of {w : World} {g : Nat} {c : Array Value} {t : TypeId} {i : Nat} (h : w.heap[g]? = some (.cells c t)) : w.cell? ⟨g, i, none⟩ = c[i]? := by
  simp [World.cell?, h]

theorem free_of {w : World} {g : Nat} {c : Array Value} {t : TypeId} (h : w.heap[g]? = some (.cells c t)) (i : Nat) : w.frozen? ⟨g, i, none⟩ = false := by
  simp [World.frozen?, h]

theorem setCell_block {w : World} {g : Nat} {c : Array Value} {t : TypeId} (h : w.heap[g]? = some (.cells c t)) (i : Nat) (v : Value) : (w.setCell ⟨g, i, none⟩ v).heap[g]? = some (.cells (c.setIfInBounds i v) t) := by
  simp [World.setCell, Array.getElem?_modify, h]

theorem OwnL.isL {B : Nat} {w : World} {a : Option Addr} {cap : Nat} {zs : List Nat} (h : OwnL B w a cap zs) : IsL w a zs.length cap zs := by
  obtain ⟨h1, h2, h3, h4, g, cur, h5, h6⟩ := h
  refine ⟨rfl, h1, h2, h4, g, 0, fun h => (h5 h).1, fun i hi => ?_⟩
  rw [Nat.zero_add, cells_of (h5 (by omega)).2.2, h6 i hi]

theorem OwnL.on {B : Nat} {w w' : World} {a : Option Addr} {cap : Nat} {zs : List Nat} (h : OwnL B w a cap zs) (hb : Below w.heap.size w w') : OwnL B w' a cap zs := by
  obtain ⟨h1, h2, h3, h4, g, cur, h5, h6⟩ := h
  refine ⟨h1, h2, h3, h4, g, cur, fun h => ⟨(h5 h).1, (h5 h).2.1, ?_⟩, h6⟩
  rw [hb.block g (Array.getElem?_eq_some_iff.1 (h5 h).2.2).1]
  exact (h5 h).2.2

theorem made_block {w1 : World} {B e g n cap : Nat} {xs : List Value} (h : w1.ownsRow B e 1 (.slice (some ⟨g, 0, none⟩) n cap) n xs) (hc : n = cap) : ∃ cur : Array Value, w1.heap[g]? = some (.cells cur e) ∧ cur.size = n := by
  obtain ⟨_, h | ⟨g', c, cur, hv, _, hh, _, _, hs, _⟩⟩ := h
  · cases h.1
  · simp only [Value.slice.injEq, Option.some.injEq, Addr.mk.injEq] at hv
    obtain ⟨⟨rfl, _⟩, _, rfl⟩ := hv
    exact ⟨cur, hh, by omega⟩

/-- The words that strings.Split cuts: the parts. -/
theorem words (s : ByteArray) : (Lib.splitB ⟨#[44]⟩ 0 (Lib.countB s ⟨#[44]⟩) s).map (·.data.toList) = parts s.data.toList := by
  rw [Lib.splitB_data, ← split_parts]
  rfl

theorem words_len (s : ByteArray) : Lib.countB s ⟨#[44]⟩ + 1 = (parts s.data.toList).length := by
  rw [← words, List.length_map, Lib.splitB_all ⟨#[44]⟩ (Nat.le_refl 1) 0 _ s rfl]

/-! ### Marks -/

/-- The values of the marks from K on, as classes. -/
def mval (K : Int) (v : Value) : Prop := v = .float .f32 (floatOfInt .f32 K)

/-- A block of n marks. -/
def Mk (B : Nat) (w : World) (a : Option Addr) (n cap : Nat) (K : Int) : Prop :=
  n ≤ cap ∧ cap ≤ maxLen ∧ n ≤ 256 ∧ ∃ (g : Nat) (cur : Array Value), (0 < n → a = some ⟨g, 0, none⟩ ∧ B ≤ g ∧ w.heap[g]? = some (.cells cur 24)) ∧ ∀ j, j < n → ∃ v, cur[j]? = some v ∧ mval (K + (j : Int)) v

theorem Mk.on {B : Nat} {w w' : World} {a : Option Addr} {n cap : Nat} {K : Int} (h : Mk B w a n cap K) (hb : Below w.heap.size w w') : Mk B w' a n cap K := by
  obtain ⟨h1, h2, h3, g, cur, h5, h6⟩ := h
  refine ⟨h1, h2, h3, g, cur, fun h => ⟨(h5 h).1, (h5 h).2.1, ?_⟩, h6⟩
  rw [hb.block g (Array.getElem?_eq_some_iff.1 (h5 h).2.2).1]
  exact (h5 h).2.2