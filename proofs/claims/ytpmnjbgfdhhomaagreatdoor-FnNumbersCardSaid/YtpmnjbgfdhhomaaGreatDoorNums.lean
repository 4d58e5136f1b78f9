/- Lists of numbers: copies, comparison, sums. -/
import Derived.Test.YtpmnjbgfdhhomaaGreatDoorRows
import Derived.Test.YtpmnjbgfdhhomaaGreatDoorFrame
import Derived.Test.YtpmnjbgfdhhomaaGreatDoorRet
import Derived.Test.YtpmnjbgfdhhomaaGreatDoorSame
import Derived.Test.YtpmnjbgfdhhomaaGreatDoorBits
import Derived.LoopTactic
namespace Go.Proofs.YtpmnjbgfdhhomaaGreatDoor
set_option linter.unusedSimpArgs false
set_option linter.unusedVariables false
set_option maxRecDepth 20000
open Go.RowKit
namespace Nums
open Fl _root_.Go.Proofs.YtpmnjbgfdhhomaaGreatDoor.Frame

/-- A list of these numbers, in a row that nothing else leads to. -/
def RetNums (k : FloatKind) (zs : List Nat) (w : World) (e : Ending) (w' : World) : Prop :=
  ∃ a cap, e = .returned (.slice a zs.length cap) ∧ IsNums k w' a zs.length cap zs ∧ Below w.heap.size w w'

theorem setCell_block {w : World} {g : Nat} {c : Array Value} {t : TypeId} (h : w.heap[g]? = some (.cells c t)) (i : Nat) (v : Value) : (w.setCell ⟨g, i, none⟩ v).heap[g]? = some (.cells (c.setIfInBounds i v) t) := by
  simp [World.setCell, Array.getElem?_modify, h]

theorem A_info32 : (Tryz.prog.info? 24).map (fun i => (i.zero, i.size, i.bytes)) = some (some (.float .f32 0), 1, 4) := by kernel_rfl

theorem getD_lt {zs : List Nat} {i : Nat} (h : i < zs.length) : zs.getD i 0 ∈ zs := by
  rw [List.getD_eq_getElem?_getD, List.getElem?_eq_getElem h]; simp

/-! ### By program from here on -/

theorem seq {w w1 w2 : World} (a : Below w.heap.size w w1) (b : Below w1.heap.size w1 w2) : Below w.heap.size w w2 := a.trans (b.mono a.size)

/-- What a walk's round needs of a list of numbers, at its index. -/
theorem at_index {w wr : World} {b off len k : Nat} {zs : List Nat} (h6 : ∀ i, i < len → w.cell? ⟨b, off + i, none⟩ = some (.float .f32 (zs.getD i 0))) (hk : k < len) (hb : Below w.heap.size w wr) :
    wr.cell? ⟨b, off + k, none⟩ = some (.float .f32 (zs.getD k 0)) := by
  rw [hb.cell (block_lt_of_cell (h6 k hk))]; exact h6 k hk

theorem fr_at {zs : List Nat} {k : Nat} (h4 : ∀ n ∈ zs, (Lit.float .f32 n).wf = true) (hk : k < zs.length) : Fr .f32 (zs.getD k 0) (cl .f32 (zs.getD k 0)) := Fr.wf (h4 _ (getD_lt hk))

/-- The classes of sums from left to right. -/
def accC (f : Nat → Option Nat) : Nat → Option Nat
  | 0 => some 0
  | k + 1 => op2 .add .f32 (accC f k) (f k)

/-- A number of this class, and whether it is one. -/
def RetFB (c : Option Nat) (b : Bool) (w : World) (e : Ending) (w' : World) : Prop := ∃ r, e = .returned (.tuple #[.float .f32 r, .bool b]) ∧ Fr .f32 r c ∧ Below w.heap.size w w'

/-- The classes of a list's numbers. -/
def numC (zs : List Nat) (i : Nat) : Option Nat := cl .f32 (zs.getD i 0)

set_option maxHeartbeats 1600000 in
theorem impl_sumn (a : Option Addr) (len cap : Nat) (zs : List Nat) (w : World) (hn : IsNums .f32 w a len cap zs) :
    Calls Tryz.prog 46 #[.slice a len cap] w (RetFB (if len ≤ 256 then accC (numC zs) len else some 0) (decide (len ≤ 256)) w) := by
  obtain ⟨h1, h2, h3, h4, b, off, h5, h6⟩ := hn
  have H1 := Lib.hid h1; clear h1
  have H5 := Lib.hid h5; clear h5
  have H6 := Lib.hid h6; clear h6
  unfold maxLen at h3
  by_cases h : len ≤ 256
  · have hd : decide (len ≤ 256) = true := by simpa using h
    rw [if_pos h, hd]
    have HD := Lib.hid hd; clear hd
    go_enter Tryz.func46, Tryz.ntmps46
    go_wp2
    go_loopw [4, 12] (fun s i wr => ∃ k r : Nat, k ≤ len ∧ i = .int .i64 k ∧ s = .float .f32 r ∧ Fr .f32 r (accC (numC zs) k) ∧ Below w.heap.size w wr) (fun _ i _ => len - (intOf i).toNat)
    case atStart => exact ⟨0, 0, Nat.zero_le _, rfl, rfl, Fr.const (by decide +kernel) (by decide), Below.refl _ _⟩
    case round =>
      obtain ⟨k, r, hk, rfl, rfl, fr, hbel⟩ := hrel
      by_cases hlt : k < len
      · obtain rfl := H5.out (by omega)
        have hsrc := at_index H6.out hlt hbel
        have fx : Fr .f32 (zs.getD k 0) (numC zs k) := fr_at h4 (k := k) (by rw [H1.out]; exact hlt)
        generalize zs.getD k 0 = v at *
        have HB := Lib.hid hbel; clear hbel
        go_wp2_with (refine wpList_fl rfl rfl rfl rfl rfl (by assumption) (by assumption) ?_; intro r' n' hr')
        go_roundw
        case rel => exact ⟨k + 1, r', by omega, by go_num, rfl, hr', by exact below_drewN HB.out _⟩
        case measure => simp [intOf]; omega
      · have hkl : k = len := by omega
        have HK := Lib.hid hkl; clear hkl
        go_wp2
        go_ret2
        exact ⟨r, rfl, by rw [← HK.out]; exact fr, hbel⟩
  · have hd : decide (len ≤ 256) = false := by simpa using h
    rw [if_neg h, hd]
    have HD := Lib.hid hd; clear hd
    go_enter Tryz.func46, Tryz.ntmps46
    go_wp2
    go_ret2
    exact ⟨_, rfl, Fr.const (by decide +kernel) (by decide), Below.refl _ _⟩

/-- The classes of the products of two lists. -/
def dotC (zs ys : List Nat) (i : Nat) : Option Nat := op2 .mul .f32 (numC zs i) (numC ys i)

end Nums
end Go.Proofs.YtpmnjbgfdhhomaaGreatDoor
