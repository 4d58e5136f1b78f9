/- The text of a list of numbers: the model's and the program's function. -/
import Derived.Test.YtpmnjbgfdhhomabGreatDoorNText
import Derived.Test.YtpmnjbgfdhhomabGreatDoorNums
import Derived.Test.YtpmnjbgfdhhomabGreatDoorShelfJ
import Derived.Lib.Join
namespace Go.Proofs.YtpmnjbgfdhhomabGreatDoor
set_option linter.unusedSimpArgs false
set_option linter.unusedVariables false
open Go.RowKit
namespace NTL
open Fl _root_.Go.Proofs.YtpmnjbgfdhhomabGreatDoor.Frame Hex

/-- The bits of a number. -/
def nb (z : Nat) : Nat := (bitsC (cl .f32 z)).toNat

theorem nb_is (z : Nat) : bitsC (cl .f32 z) = ((nb z : Nat) : Int) := by
  unfold nb
  rcases cl_cases .f32 z with h | h <;> rw [h] <;> simp [bitsC]

theorem nb_lt (z : Nat) (h : z < 4294967296) : nb z < 4294967296 := by
  unfold nb
  rcases cl_cases .f32 z with h' | h' <;> rw [h'] <;> simp [bitsC]
  omega

def hexz (z : Nat) : List UInt8 := hex8 (nb z)

theorem hexz_len (z : Nat) : (hexz z).length ≤ 21 := by
  rw [hexz, hex8, text_len]; omega

theorem impl_hexz (z : Nat) (h : z < 4294967296) (w : World) (h64 : w.cell? ⟨6, 15, none⟩ = some (.int .u8 4)) : Calls Tryz.prog 40 #[.float .f32 z] w fun e w' => e = .returned (.string ⟨(hexz z).toArray⟩) ∧ Below w.heap.size w w' :=
  impl_text z (nb z) (nb_lt z h) w h64 ((Bits.impl_bits z w h).mono fun e w' ⟨he, hw⟩ => ⟨by rw [he, nb_is], hw.symm⟩)

def txt (zs : List Nat) : List UInt8 := if zs = [] then [110, 111, 110, 101] else Lib.join (zs.map hexz) [44]
def num (z : Nat) : ByteArray := ⟨(hexz z).toArray⟩
def ans (zs : List Nat) (b : Bool) : ByteArray := if b then ⟨(txt zs).toArray⟩ else ⟨#[]⟩

theorem join_succ (xs : List (List UInt8)) (sep : List UInt8) (k : Nat) (y : List UInt8) (h : xs[k]? = some y) (hk : 1 ≤ k) : Lib.join (xs.take (k + 1)) sep = Lib.join (xs.take k) sep ++ sep ++ y := by
  cases xs with
  | nil => simp at h
  | cons x r =>
    obtain ⟨j, rfl⟩ : ∃ j, k = j + 1 := ⟨k - 1, by omega⟩
    rw [List.take_succ_cons, List.take_succ_cons, Lib.join_cons, Lib.join_cons, Lib.joinTail_take_succ sep r j y (by simpa using h), List.append_assoc, List.append_assoc, List.append_assoc]

theorem hexz_at {zs : List Nat} {k : Nat} (h : k < zs.length) : (zs.map hexz)[k]? = some (hexz (zs.getD k 0)) := by
  rw [List.getElem?_map, List.getD_eq_getElem?_getD, List.getElem?_eq_getElem h]; rfl

theorem join_first (xs : List (List UInt8)) (sep y : List UInt8) (h : xs[0]? = some y) : Lib.join (xs.take 1) sep = y := by
  cases xs with
  | nil => simp at h
  | cons x r =>
    obtain rfl : x = y := by simpa using h
    exact Lib.join_one _ _

theorem size_str {l : List UInt8} (h : l.length ≤ 21) : (⟨l.toArray⟩ : ByteArray).size ≤ 21 := by
  show l.toArray.size ≤ _
  rw [List.size_toArray]; omega

theorem size_add {S : ByteArray} {l : List UInt8} {k : Nat} (hS : S.size ≤ 22 * k) (h : l.length ≤ 21) : (S ++ ((⟨#[44]⟩ : ByteArray) ++ ⟨l.toArray⟩)).size ≤ 22 * (k + 1) := by
  rw [ByteArray.size_append, ByteArray.size_append]
  have h1 := size_str h
  have h2 : (⟨#[44]⟩ : ByteArray).size = 1 := rfl
  omega

theorem str_eq2 {S : ByteArray} {l : List UInt8} (h : S.data.toList = l) : S = ⟨l.toArray⟩ := by
  subst h; cases S; simp

theorem S_info : (Tryz.prog.info? 9).map (fun i => (i.zero, i.size, i.bytes)) = some (some (.string ⟨#[]⟩), 1, 16) := by kernel_rfl

theorem lens_le : ∀ xs : List (List UInt8), (∀ x ∈ xs, x.length ≤ 21) → Lib.lens xs ≤ 21 * xs.length := by
  intro xs
  induction xs with
  | nil => intro _; simp [Lib.lens]
  | cons x r ih =>
    intro h
    have h1 := ih fun y hy => h y (List.mem_cons_of_mem _ hy)
    have h2 := h x List.mem_cons_self
    have e : Lib.lens (x :: r) = x.length + Lib.lens r := by simp [Lib.lens]
    rw [e, List.length_cons]
    omega

theorem total {zs : List Nat} (hl : zs.length ≤ 256) : (Lib.join (zs.map hexz) [44]).length ≤ 140737488355328 := by
  cases zs with
  | nil => simp [Lib.join_nil]
  | cons z r =>
    have h1 := lens_le ((z :: r).map hexz) (fun x hx => by
      obtain ⟨v, hv, rfl⟩ := List.mem_map.1 hx
      exact hexz_len v)
    rw [List.length_map] at h1
    rw [List.map_cons] at h1 ⊢
    rw [Lib.join_length, List.length_map]
    rw [List.length_cons] at h1 hl
    have h2 : ([44] : List UInt8).length = 1 := rfl
    rw [h2]
    omega

/-- The block that 'make' has made. -/
theorem made_block {w1 : World} {B e g n cap : Nat} {xs : List Value} (h : w1.ownsRow B e 1 (.slice (some ⟨g, 0, none⟩) n cap) n xs) (hc : n = cap) : ∃ cur : Array Value, w1.heap[g]? = some (.cells cur e) ∧ cur.size = n := by
  obtain ⟨_, h | ⟨g', c, cur, hv, _, hh, _, _, hs, _⟩⟩ := h
  · cases h.1
  · simp only [Value.slice.injEq, Option.some.injEq, Addr.mk.injEq] at hv
    obtain ⟨⟨rfl, _⟩, _, rfl⟩ := hv
    exact ⟨cur, hh, by omega⟩

set_option maxRecDepth 20000 in
set_option maxHeartbeats 800000 in
theorem impl_items32 (a : Option Addr) (len cap : Nat) (zs : List Nat) (w : World) (hn : IsNums .f32 w a len cap zs) (ht : w.cell? ⟨6, 15, none⟩ = some (.int .u8 4)) :
    Calls Tryz.prog 39 #[.slice a len cap, .int .i64 256, .func (Fn.func 40) #[] #[]] w fun e w' => e = .returned (.tuple #[.string (ans zs (decide (len ≤ 256))), .bool (decide (len ≤ 256))]) ∧ Below w.heap.size w w' := by
  obtain ⟨i0, hi, hz0, hz1, hz2⟩ := info_parts S_info
  obtain ⟨h1, h2, h3, h4, b0, off, h5, h6⟩ := hn
  have H1 := Lib.hid h1; clear h1
  have H4 := Lib.hid h4; clear h4
  have H5 := Lib.hid h5; clear h5
  have H6 := Lib.hid h6; clear h6
  unfold maxLen at h3
  have HD := Lib.hid impl_hexz
  have HT := Lib.hid ht; clear ht
  by_cases hbig : 256 < len
  · have hd : decide (len ≤ 256) = false := by simp; omega
    rw [hd]
    have HDD := Lib.hid hd
    clear hd
    go_enter Tryz.func39, Tryz.ntmps39
    go_wp2
    go_ret2
    exact ⟨rfl, Below.refl _ _⟩
  have hd : decide (len ≤ 256) = true := by simp; omega
  rw [hd]
  have HDD := Lib.hid hd
  clear hd
  by_cases h0 : len = 0
  · subst h0
    have hz : zs = [] := List.length_eq_zero_iff.1 H1.out
    go_enter Tryz.func39, Tryz.ntmps39
    go_wp2
    go_ret2
    exact ⟨by rw [hz] <;> rfl, Below.refl _ _⟩
  have hpos : 0 < len := by omega
  obtain rfl := H5.out hpos
  go_enter Tryz.func39, Tryz.ntmps39
  go_wp2_with (at_make; refine wpList_make_full _ rfl _ _ 73 rfl w.heap.size 9 i0 (.string ⟨#[]⟩) 1 Tryz.underlying73 hi hz0 hz1 .i64 .i64 _ _ len rfl rfl rfl rfl (by rw [hz2]; omega) (by unfold maxLen; omega) (Nat.le_refl _) ?_)
  intro w1 hown hgrow
  have hnx : Below w.heap.size w w1 := (Below.refl _ _).grown hgrow (Nat.le_refl _) (fun k h => by cases h)
  obtain ⟨cur0, hc0, hs0⟩ := made_block hown rfl
  clear hown hgrow
  go_wp2
  go_loopw [9, 10, 23] (fun x y i wr => ∃ (k : Nat) (cur : Array Value), k ≤ len ∧ i = .int .i64 k ∧ wr.heap[w.heap.size]? = some (.cells cur 9) ∧ cur.size = len ∧ (∀ j, j < k → cur[j]? = some (.string (num (zs.getD j 0)))) ∧ Below w.heap.size w wr)
    (fun _ _ i _ => len - (intOf i).toNat)
  case atStart => exact ⟨0, cur0, Nat.zero_le _, rfl, hc0, hs0, fun j hj => absurd hj (Nat.not_lt_zero _), hnx⟩
  case round =>
    clear hc0 hs0 hnx
    obtain ⟨k, cur, hk, rfl, hb, hs, hdone, hbel⟩ := hrel
    have HS := Lib.hid hs; clear hs
    have HDN := Lib.hid hdone; clear hdone
    by_cases hlt : k < len
    · have hsrc := Nums.at_index H6.out hlt hbel
      have wv := lt32 (H4.out _ (Nums.getD_lt (zs := zs) (i := k) (by rw [H1.out]; exact hlt)))
      generalize hv : zs.getD k 0 = v at *
      have HVV := Lib.hid hv; clear hv
      have HB := Lib.hid hb
      have HBL := Lib.hid hbel
      have HT1 := Lib.hid (show wr.cell? ⟨6, 15, none⟩ = some (.int .u8 4) by rw [hbel.cell (block_lt_of_cell HT.out)]; exact HT.out)
      have hgs : w.heap.size < wr.heap.size := (Array.getElem?_eq_some_iff.1 hb).1
      clear hb hbel
      go_wp2_with fail
      refine (HD.out v wv _ HT1.out).mono ?_
      rintro e w2 ⟨rfl, hb2⟩
      have hblk : w2.heap[w.heap.size]? = some (.cells cur 9) := by rw [hb2.block _ hgs]; exact HB.out
      have hbw2 : Below w.heap.size w w2 := HBL.out.trans (hb2.mono (Nat.le_of_lt hgs))
      have hdst : w2.cell? ⟨w.heap.size, k, none⟩ = some cur[k]! := by
        rw [Loose.cells_of hblk]
        have : k < cur.size := by rw [HS.out]; exact hlt
        simp [this]
      generalize cur[k]! = old at *
      have hfree := Loose.free_of hblk k
      have HB2 := Lib.hid hblk
      have HBW2 := Lib.hid hbw2
      clear hblk hbw2 hb2
      go_wp2
      go_roundw
      case rel =>
        refine ⟨k + 1, cur.setIfInBounds k (.string (num v)), by omega, by go_num, Nums.setCell_block HB2.out k _, by simp [HS.out], fun j hj => ?_, HBW2.out.setCell (Nat.le_refl _) _⟩
        by_cases hjk : j = k
        · subst hjk
          rw [Array.getElem?_setIfInBounds_self_of_lt (by rw [HS.out]; exact hlt), ← HVV.out]
        · rw [Array.getElem?_setIfInBounds_ne (fun e => hjk e.symm)]; exact HDN.out j (by omega)
      case measure => simp [intOf]; omega
    · have hkl : k = len := by omega
      have hgs : w.heap.size < wr.heap.size := (Array.getElem?_eq_some_iff.1 hb).1
      have hj := Lib.hid (Tryz.strings_Join w.heap.size 0 len (zs.map num) ⟨#[44]⟩ wr (fun j x hx => by
        rw [List.getElem?_map] at hx
        obtain ⟨z, hz, rfl⟩ := Option.map_eq_some_iff.1 hx
        have hjl : j < len := by rw [← H1.out]; exact (List.getElem?_eq_some_iff.1 hz).1
        rw [Nat.zero_add, Loose.cells_of hb, HDN.out j (by omega), List.getD_eq_getElem?_getD, hz]
        rfl) hgs (by rw [List.length_map, H1.out]; omega) (by rw [List.length_map, H1.out]; exact Nat.le_refl _) (by
          have := total (zs := zs) (by rw [H1.out]; omega)
          rw [List.map_map]
          exact this))
      rw [List.length_map, H1.out, List.map_map] at hj
      have HBL := Lib.hid hbel
      clear hb hbel
      go_wp2_with fail
      refine hj.out.mono ?_
      rintro e w2 ⟨rfl, hb2⟩
      have hbw2 : Below w.heap.size w w2 := HBL.out.trans (hb2.mono (Nat.le_of_lt hgs))
      have HBW2 := Lib.hid hbw2
      clear hbw2 hb2
      go_wp2
      go_ret2
      have hne : zs ≠ [] := fun h => h0 (by rw [← H1.out, h]; rfl)
      refine ⟨?_, HBW2.out⟩
      unfold ans txt
      rw [if_neg hne]
      rfl

end NTL
end Go.Proofs.YtpmnjbgfdhhomabGreatDoor
