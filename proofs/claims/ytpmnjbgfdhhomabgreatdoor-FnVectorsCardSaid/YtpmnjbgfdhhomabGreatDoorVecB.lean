/- What laws of drawn values share. -/
import Derived.Test.YtpmnjbgfdhhomabGreatDoorSrcL
import Derived.Test.YtpmnjbgfdhhomabGreatDoorNTC
import Derived.Test.YtpmnjbgfdhhomabGreatDoorFC
import Derived.Test.YtpmnjbgfdhhomabGreatDoorNums
namespace Go.Proofs.YtpmnjbgfdhhomabGreatDoor
set_option linter.unusedSimpArgs false
set_option linter.unusedVariables false
open Go.RowKit
namespace NumC
open Fl _root_.Go.Proofs.YtpmnjbgfdhhomabGreatDoor.Frame

theorem nan_cl : cl .f32 2143289344 = none := by decide +kernel

theorem bits_inj {x y : Nat} : (bitsC (cl .f32 x) == bitsC (cl .f32 y)) = decide (cl .f32 x = cl .f32 y) := by
  have key : bitsC (cl .f32 x) = bitsC (cl .f32 y) ↔ cl .f32 x = cl .f32 y := by
    constructor
    · intro h
      rcases cl_cases .f32 x with hx | hx <;> rcases cl_cases .f32 y with hy | hy
      · rw [hx, hy]
      · rw [bits_nan hx, bits_num hy] at h
        have : y = 2143289344 := by omega
        subst this
        rw [nan_cl] at hy; cases hy
      · rw [bits_num hx, bits_nan hy] at h
        have : x = 2143289344 := by omega
        subst this
        rw [nan_cl] at hx; cases hx
      · rw [bits_num hx, bits_num hy] at h
        have : x = y := by omega
        rw [this]
    · intro h; rw [h]
  by_cases h : cl .f32 x = cl .f32 y
  · rw [decide_eq_true h, h]; simp
  · rw [decide_eq_false h]
    exact beq_eq_false_iff_ne.2 fun e => h (key.1 e)

theorem same (x y : Nat) (w : World) (hx : x < 4294967296) (hy : y < 4294967296) : Calls Tryz.prog 13 #[.float .f32 x, .float .f32 y] w fun e w' => e = .returned (.bool (decide (cl .f32 x = cl .f32 y))) ∧ w = w' := by
  have hb := bits_inj (x := x) (y := y)
  go_enter Tryz.func13, Tryz.ntmps13
  go_wp2_with (first | (go_at_call 32; refine (Bits.spec_bits _ _ (by assumption)).mono ?_; rintro e w' ⟨rfl, rfl⟩) | go_in)
  go_ret
  exact ⟨by first | rfl | simp [hb] | simp [← hb], rfl⟩

theorem long (a a' : Option Addr) (len cap len' cap' : Nat) (w : World) : Calls Tryz.prog 4 #[.slice a len cap, .slice a' len' cap'] w fun e w' => e = .returned (.bool (decide ((1048576 : Int) < (len : Int)) || decide ((1048576 : Int) < (len' : Int)))) ∧ w = w' := by
  by_cases h1 : 1048576 < len
  · have i1 : (1048576 : Int) < (len : Int) := by omega
    go_enter Tryz.func4, Tryz.ntmps4
    go_wp2
    go_ret
    exact ⟨by simp [i1], rfl⟩
  · have i1 : (len : Int) ≤ 1048576 := by omega
    go_enter Tryz.func4, Tryz.ntmps4
    go_wp2
    go_ret
    exact ⟨by rw [decide_eq_false (show ¬ (1048576 : Int) < (len : Int) by omega), Bool.false_or]; rfl, rfl⟩

/-- The text of numbers reads as their bits. -/
theorem hd_mark : ∀ d, d < 16 → Hex.hd d ≠ 44 := by decide

theorem hexz_mark (z : Nat) : ∀ c ∈ NTL.hexz z, c ≠ 44 := by
  intro c hc
  unfold NTL.hexz Hex.hex8 Hex.text at hc
  obtain ⟨j, _, rfl⟩ := List.mem_map.1 hc
  exact hd_mark _ (Nat.mod_lt _ (by decide))

theorem parts_join : ∀ (xs : List (List UInt8)), xs ≠ [] → (∀ x ∈ xs, ∀ c ∈ x, c ≠ 44) → Cut.parts (Lib.join xs [44]) = xs
  | [], h, _ => absurd rfl h
  | [x], _, hx => by rw [Lib.join_one]; exact Cut.parts_one x (hx x List.mem_cons_self)
  | x :: y :: r, _, hx => by
    have ih := parts_join (y :: r) (by simp) fun z hz => hx z (List.mem_cons_of_mem _ hz)
    rw [Lib.join_cons] at ih ⊢
    have e : Lib.joinTail [44] (y :: r) = 44 :: (y ++ Lib.joinTail [44] r) := by simp [Lib.joinTail]
    rw [e, Cut.parts_cut x _ (hx x List.mem_cons_self), ih]

theorem nb_nb (z : Nat) : NTL.nb (NTL.nb z) = NTL.nb z := by
  rcases cl_cases .f32 z with h | h
  · have e : NTL.nb z = 2143289344 := by unfold NTL.nb; rw [bits_nan h]; rfl
    rw [e]; unfold NTL.nb; rw [nan_cl]; rfl
  · have e : NTL.nb z = z := by unfold NTL.nb; rw [bits_num h]; rfl
    rw [e, e]

theorem nb_cl (z : Nat) : cl .f32 (NTL.nb z) = cl .f32 z := by
  rcases cl_cases .f32 z with h | h
  · have e : NTL.nb z = 2143289344 := by unfold NTL.nb; rw [bits_nan h]; rfl
    rw [e, nan_cl, h]
  · have e : NTL.nb z = z := by unfold NTL.nb; rw [bits_num h]; rfl
    rw [e]

theorem reads (z : Nat) (h : z < 4294967296) : Hex.ReadsN (NTL.hexz z) (NTL.nb z) true := .inl ⟨rfl, NTL.nb_lt z h, nb_nb z, rfl⟩

theorem text_reads (zs : List Nat) (hz : ∀ z ∈ zs, z < 4294967296) (hl : zs.length ≤ 256) : FList.LR (NTL.ans zs true).data.toList (zs.map NTL.nb) true := by
  have e : (NTL.ans zs true).data.toList = NTL.txt zs := by simp [NTL.ans]
  rw [e]
  unfold NTL.txt
  by_cases h0 : zs = []
  · rw [if_pos h0]; subst h0; exact .inl ⟨rfl, rfl, rfl⟩
  · rw [if_neg h0]
    have hp : Cut.parts (Lib.join (zs.map NTL.hexz) [44]) = zs.map NTL.hexz := by
      refine parts_join _ (by simpa using h0) fun x hx c hc => ?_
      obtain ⟨z, _, rfl⟩ := List.mem_map.1 hx
      exact hexz_mark z c hc
    refine .inr (.inl ⟨fun he => ?_, by rw [hp, List.length_map]; exact hl, rfl, by rw [hp, List.length_map, List.length_map], fun j p hj => ?_⟩)
    · rw [he] at hp
      have h4 : Cut.parts FList.none4 = [FList.none4] := by decide +kernel
      rw [h4] at hp
      have hm : FList.none4 ∈ zs.map NTL.hexz := by rw [← hp]; exact List.mem_cons_self
      obtain ⟨z, _, hz4⟩ := List.mem_map.1 hm
      have := congrArg List.length hz4
      rw [NTL.hexz, Hex.hex8, Hex.text_len] at this
      exact absurd this (by decide)
    · rw [hp, List.getElem?_map] at hj
      obtain ⟨z, hzj, rfl⟩ := Option.map_eq_some_iff.1 hj
      have : (zs.map NTL.nb).getD j 0 = NTL.nb z := by rw [List.getD_eq_getElem?_getD, List.getElem?_map, hzj]; rfl
      rw [this]
      exact reads z (hz z (List.mem_of_getElem? hzj))

theorem text_size {zs : List Nat} (hl : zs.length ≤ 256) : (NTL.ans zs true).size ≤ 1048576 := by
  have e : (NTL.ans zs true).size = (NTL.txt zs).length := by simp [NTL.ans, ByteArray.size]
  rw [e]
  unfold NTL.txt
  split
  · decide
  · cases zs with
    | nil => simp [Lib.join_nil]
    | cons z r =>
      have h1 := NTL.lens_le ((z :: r).map NTL.hexz) (fun x hx => by
        obtain ⟨v, hv, rfl⟩ := List.mem_map.1 hx
        exact NTL.hexz_len v)
      rw [List.length_map] at h1
      rw [List.map_cons] at h1 ⊢
      rw [Lib.join_length, List.length_map]
      rw [List.length_cons] at h1 hl
      have h2 : ([44] : List UInt8).length = 1 := rfl
      rw [h2]
      omega

theorem isNums {w : World} {a : Option Addr} {len cap : Nat} {zs : List Nat} (h : FList.IsL w a len cap zs) : IsNums .f32 w a len cap zs := by
  obtain ⟨h1, h2, h3, h4, h5⟩ := h
  exact ⟨h1, h2, h3, fun n hn => by have := h4 n hn; unfold FList.okE at this; simpa [Lit.wf] using this, h5⟩

/-- Some bytes. -/
def IsY (w : World) (a : Option Addr) (len : Nat) : Prop :=
  len ≤ maxLen ∧ ∃ b off, (0 < len → b < w.heap.size ∧ a = some ⟨b, off, none⟩) ∧ ∀ i, i < len → ∃ v : Nat, w.cell? ⟨b, off + i, none⟩ = some (.int .u8 (v : Int)) ∧ v < 256

theorem IsY.isB {w : World} {a : Option Addr} {len cap : Nat} (h : IsY w a len) (hl : len ≤ 1048576) : Src.IsB w.heap.size w a len cap := ⟨hl, h.2⟩

section
variable {H : Type} {enc : TypeId × Value → H} {P : Program} {w : World} {base : Nat} {spare : Nat → Bool} {held : Bool}

theorem open_bytes {t e : TypeId} {a : Option Addr} {len cap : Nat} {d : DataW H} {p : List MemPlace} (ht : P.underlying t = some (.slice e)) (he : P.underlying e = some (.int .u8)) (hc : P.cellsOf e = 1)
    (h : DataW.Trod enc P w base spare held t (.slice a len cap) d p) : IsY w a len := by
  obtain ⟨fuel, hf⟩ := h
  rcases Deep.open_slice1 ht hc hf with ⟨hcs, _⟩ | ⟨x, l, c, m, n, V, D, Pl, hcs, _, hl, hm, hmm, _, hV⟩
  · simp [Value.cells] at hcs
    obtain ⟨rfl, rfl, rfl⟩ := hcs
    exact ⟨Nat.zero_le _, 0, 0, fun h => absurd h (Nat.lt_irrefl _), fun i hi => absurd hi (Nat.not_lt_zero _)⟩
  · simp [Value.cells] at hcs
    obtain ⟨rfl, rfl, rfl⟩ := hcs
    have hlm : len ≤ m := by rw [hmm]; split <;> omega
    have key : ∀ i, i < len → ∃ b, V i = .int .u8 b ∧ (Lit.int .u8 b).wf = true := fun i hi => by
      obtain ⟨b, e1, _, wb⟩ := DataW.trod_int he (hV i (by omega)).2
      exact ⟨b, by simpa using e1, wb⟩
    obtain ⟨B, hB⟩ := Deep.choose_lt key
    obtain ⟨b, off, spot⟩ := x
    have hcell : ∀ i, i < len → spot = none ∧ w.cell? ⟨b, off + i, none⟩ = some (.int .u8 (B i)) := fun i hi => by
      have hspot := World.cell?_spot (hV 0 (by omega)).1
      have hs : spot = none := by simpa [Addr.add] using hspot
      subst hs
      have := (hV i (by omega)).1
      rw [(hB i hi).1] at this
      simp only [Addr.add_lit] at this
      exact ⟨rfl, this⟩
    refine ⟨Nat.le_trans hl hm, b, off, fun h0 => ?_, fun i hi => ?_⟩
    · obtain ⟨rfl, h2⟩ := hcell 0 h0
      exact ⟨block_lt_of_cell h2, rfl⟩
    · have hw := (hB i hi).2
      have hb : 0 ≤ B i ∧ B i ≤ 255 := by simpa [Lit.wf, IntKind.min, IntKind.max, IntKind.bits, IntKind.signed] using hw
      refine ⟨(B i).toNat, ?_, by omega⟩
      rw [(hcell i hi).2, Int.toNat_of_nonneg hb.1]
end
end NumC
end Go.Proofs.YtpmnjbgfdhhomabGreatDoor
