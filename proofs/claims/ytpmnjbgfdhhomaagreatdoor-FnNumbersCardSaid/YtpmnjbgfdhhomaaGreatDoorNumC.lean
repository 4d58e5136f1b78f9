/- What the law of numbers calls, as contracts. -/
import Derived.Test.YtpmnjbgfdhhomaaGreatDoorSrcL
import Derived.Test.YtpmnjbgfdhhomaaGreatDoorAngB
import Derived.Test.YtpmnjbgfdhhomaaGreatDoorSineB
import Derived.Test.YtpmnjbgfdhhomaaGreatDoorNTC
import Derived.Test.YtpmnjbgfdhhomaaGreatDoorFC
import Derived.Test.YtpmnjbgfdhhomaaGreatDoorSub
import Derived.Test.YtpmnjbgfdhhomaaGreatDoorNums
import Derived.Test.YtpmnjbgfdhhomaaGreatDoorWide
import Derived.Test.YtpmnjbgfdhhomaaGreatDoorRoot
namespace Go.Proofs.YtpmnjbgfdhhomaaGreatDoor
set_option linter.unusedSimpArgs false
set_option linter.unusedVariables false
open Go.RowKit
namespace NumC
open Fl Flat Wide _root_.Go.Proofs.YtpmnjbgfdhhomaaGreatDoor.Sub Root _root_.Go.Proofs.YtpmnjbgfdhhomaaGreatDoor.Frame

theorem nan_cl : cl .f32 2143289344 = none := by decide +kernel

theorem bits_inj {x y : Nat} : (bitsC (cl .f32 x) == bitsC (cl .f32 y)) = decide (cl .f32 x = cl .f32 y) := by
  have key : bitsC (cl .f32 x) = bitsC (cl .f32 y) ↔ cl .f32 x = cl .f32 y := by
    constructor
    · intro h
      rcases cl_cases .f32 x with hx | hx <;> rcases cl_cases .f32 y with hy | hy
      · rw [hx, hy]
      · rw [bits_nan hx, bits_num hy] at h
        have : y = 2143289344 := by omega
        subst this
        rw [nan_cl] at hy; cases hy
      · rw [bits_num hx, bits_nan hy] at h
        have : x = 2143289344 := by omega
        subst this
        rw [nan_cl] at hx; cases hx
      · rw [bits_num hx, bits_num hy] at h
        have : x = y := by omega
        rw [this]
    · intro h; rw [h]
  by_cases h : cl .f32 x = cl .f32 y
  · rw [decide_eq_true h, h]; simp
  · rw [decide_eq_false h]
    exact beq_eq_false_iff_ne.2 fun e => h (key.1 e)

theorem same (x y : Nat) (w : World) (hx : x < 4294967296) (hy : y < 4294967296) : Calls Tryz.prog 15 #[.float .f32 x, .float .f32 y] w fun e w' => e = .returned (.bool (decide (cl .f32 x = cl .f32 y))) ∧ w = w' := by
  have hb := bits_inj (x := x) (y := y)
  go_enter Tryz.func15, Tryz.ntmps15
  go_wp2_with (first | (go_at_call 81; refine (Bits.spec_bits _ _ (by assumption)).mono ?_; rintro e w' ⟨rfl, rfl⟩) | go_in)
  go_ret
  exact ⟨by first | rfl | simp [hb] | simp [← hb], rfl⟩

def RetA (n : Nat) (w : World) (e : Ending) (w' : World) : Prop := ∃ r : Nat, e = .returned (.int .i64 (r : Int)) ∧ r < n ∧ w = w'

theorem at_ (a : Option Addr) (len cap i n : Nat) (w : World) (h : Src.IsB w.heap.size w a len cap) (hi : i ≤ 1000) (h1 : 1 < n) (h2 : n ≤ 65536) : Calls Tryz.prog 11 #[.slice a len cap, .int .i64 (i : Int), .int .i64 (n : Int)] w (RetA n w) := by
  obtain ⟨hl, b, off, ha, hc⟩ := h
  have i1 : (1 : Int) < (n : Int) := by omega
  by_cases hlt : i < len
  · obtain ⟨v, hv, hv2⟩ := hc i hlt
    have ha2 := (ha (by omega)).2
    subst ha2
    have i2 : (i : Int) < (len : Int) := by omega
    clear hc ha
    go_enter Tryz.func11, Tryz.ntmps11
    go_wp2
    rw [show ((v : Int) % (n : Int)) = ((v % n : Nat) : Int) from by norm_cast]
    refine bodyPost_ret ?o1 rfl ⟨v % n, rfl, Nat.mod_lt _ (by omega), rfl⟩
    simp [results, Tryz.results11, go_sem]
  · have i2 : (len : Int) ≤ (i : Int) := by omega
    clear hc ha
    go_enter Tryz.func11, Tryz.ntmps11
    go_wp2
    rw [show (((i : Int) * 37 + 11) % (n : Int)) = (((i * 37 + 11) % n : Nat) : Int) from by norm_cast]
    refine bodyPost_ret ?o2 rfl ⟨(i * 37 + 11) % n, rfl, Nat.mod_lt _ (by omega), rfl⟩
    simp [results, Tryz.results11, go_sem]

theorem long (a a' : Option Addr) (len cap len' cap' : Nat) (w : World) : Calls Tryz.prog 5 #[.slice a len cap, .slice a' len' cap'] w fun e w' => e = .returned (.bool (decide ((1048576 : Int) < (len : Int)) || decide ((1048576 : Int) < (len' : Int)))) ∧ w = w' := by
  by_cases h1 : 1048576 < len
  · have i1 : (1048576 : Int) < (len : Int) := by omega
    go_enter Tryz.func5, Tryz.ntmps5
    go_wp2
    go_ret
    exact ⟨by simp [i1], rfl⟩
  · have i1 : (len : Int) ≤ 1048576 := by omega
    go_enter Tryz.func5, Tryz.ntmps5
    go_wp2
    go_ret
    exact ⟨by rw [decide_eq_false (show ¬ (1048576 : Int) < (len : Int) by omega), Bool.false_or]; rfl, rfl⟩

set_option maxRecDepth 20000 in
theorem fromBits (n : Nat) (w : World) (hn : n < 4294967296) : Calls Tryz.prog 7 #[.int .i64 (n : Int)] w fun e w' => e = .returned (.tuple #[.float .f32 n, .bool true]) ∧ w = w' := by
  have hf := Bits.frombits_run n
  go_enter Tryz.func7, Tryz.ntmps7
  go_wp2
  refine bodyPost_ret (v := .tuple #[.float .f32 n, .bool true]) ?_ rfl ⟨rfl, rfl⟩
  simp [results, Tryz.results7, go_sem]

/-- Flushing. -/
theorem flushed_lt {x : Nat} (hx : x < 4294967296) : flushed x < 4294967296 := (flushed_fr hx).2

theorem small_num {x : Nat} (hx : x < 4294967296) (h : x % 2147483648 < 8388608) : cl .f32 x = some x := by
  refine cl_some_iff.2 ?_
  show (Ieee.single.read x).isNaN = false
  unfold Ieee.Format.read
  simp only [show Ieee.single.signWeight = 2147483648 from by decide, show Ieee.single.binade = 8388608 from by decide]
  rw [if_pos h]
  rfl

theorem flushed_sub {x : Nat} (hx : x < 4294967296) : (decide (0 < flushed x % 2147483648) && decide (flushed x % 2147483648 < 8388608)) = false := by
  unfold flushed
  split
  · have : x / 2147483648 * 2147483648 % 2147483648 = 0 := Nat.mul_mod_left _ _
    simp [this]
  · simp; omega

theorem flushed_same {x : Nat} (hx : x < 4294967296) : ((decide (0 < x % 2147483648) && decide (x % 2147483648 < 8388608)) == decide (cl .f32 x = cl .f32 (flushed x))) = false := by
  by_cases h : x % 2147483648 < 8388608
  · have e1 := small_num hx h
    have e2 : flushed x = x / 2147483648 * 2147483648 := by unfold flushed; rw [if_pos h]
    have e3 : cl .f32 (flushed x) = some (flushed x) := small_num (flushed_lt hx) (by rw [e2, Nat.mul_mod_left]; omega)
    rw [e1, e3]
    by_cases h0 : 0 < x % 2147483648
    · have : ¬ x = flushed x := by rw [e2]; omega
      simp [h0, h, this]
    · have : x = flushed x := by rw [e2]; omega
      rw [decide_eq_false h0, Bool.false_and, ← this]
      simp
  · have e2 : flushed x = x := by unfold flushed; rw [if_neg h]
    rw [e2]
    simp [h]

/-- The angle, by the program. -/
theorem angle (y x : Nat) (hy : y < 4294967296) (hx : x < 4294967296) : ∃ R, ∀ w, Calls Tryz.prog 17 #[.float .f32 y, .float .f32 x] w (RetF .f32 R w) := by
  have fy : Fr .f32 y (cl .f32 y) := ⟨rfl, hy⟩
  have fx : Fr .f32 x (cl .f32 x) := ⟨rfl, hx⟩
  cases hf : (fin .f32 x && fin .f32 y)
  · exact ⟨none, fun w => impl_nan y x _ _ w fy fx hf⟩
  · have hx' : fin .f32 x = true := by cases h : fin .f32 x <;> rw [h] at hf <;> first | rfl | cases hf
    have hy' : fin .f32 y = true := by rw [hx'] at hf; exact hf
    obtain ⟨sx, mx, px, dx⟩ := decode_fin hx'
    obtain ⟨sy, my, py, dy⟩ := decode_fin hy'
    have cx : cl .f32 x = some x := cl_some_iff.2 (by rw [dx]; rfl)
    have cy : cl .f32 y = some y := cl_some_iff.2 (by rw [dy]; rfl)
    rw [cx] at fx
    rw [cy] at fy
    obtain ⟨bx, mx', px', ex, dbx, zx⟩ := widen_num dx
    obtain ⟨bY, my', py', ey, dby, zy⟩ := widen_num dy
    cases hz : (cmpC .eql (ord .f32 (some x) (some 0)) && cmpC .eql (ord .f32 (some y) (some 0)))
    · have h0 : ¬ (my' = 0 ∧ mx' = 0) := by
        rintro ⟨h1, h2⟩
        rw [ord_zero dx, ord_zero dy] at hz
        unfold zord at hz
        rw [if_pos (zx.1 h2), if_pos (zy.1 h1)] at hz
        cases hz
      have hT := tan_bd (read_abs dby) (read_abs dbx) h0
      refine ⟨_, fun w => impl_main y x _ _ w fy fx hy' hx' ⟨bY, ey, _, _, _, dby⟩ ⟨bx, ex, _, _, _, dbx⟩ _ _ _ _ _ rfl rfl hz rfl rfl rfl (by rw [ey, ex]; exact hT)⟩
    · have hzx : cmpC .eql (ord .f32 (some x) (some 0)) = true := by cases h : cmpC .eql (ord .f32 (some x) (some 0)) <;> rw [h] at hz <;> first | rfl | cases hz
      have hzy : cmpC .eql (ord .f32 (some y) (some 0)) = true := by rw [hzx] at hz; exact hz
      exact ⟨some 0, fun w => impl_zero y x _ _ w fy fx hy' hx' hzx hzy⟩

theorem angleOf (y x : Nat) (R : Option Nat) (w : World) (h : ∀ w, Calls Tryz.prog 17 #[.float .f32 y, .float .f32 x] w (RetF .f32 R w)) : Calls Tryz.prog 18 #[.complex .f32 x y] w (RetF .f32 R w) := by
  have H1 := Lib.hid h
  clear h
  go_enter Tryz.func18, Tryz.ntmps18
  go_wp2_with fail
  refine (H1.out _).mono ?_
  rintro e w1 ⟨r, rfl, hr, hb⟩
  go_wp2
  exact bodyPost_ret (by simp [results, Tryz.results18, go_sem]) rfl ⟨_, rfl, hr, hb⟩

theorem narrowed (x b : Nat) (w : World) (hx : x < 4294967296) (hb : Fr .f64 b (convC .f32 .f64 (cl .f32 x))) : Calls Tryz.prog 19 #[.float .f64 b] w (RetF .f32 (cl .f32 x) w) := by
  obtain ⟨h1, h2⟩ := wide_back hx
  have h := impl_narrow b _ w hb h2
  rw [h1] at h
  exact h

/-- A contract of the sum. -/
theorem sum (a : Option Addr) (len cap : Nat) (zs : List Nat) (w : World) (hn : IsNums .f32 w a len cap zs) (hl : len ≤ 256) : Calls Tryz.prog 12 #[.slice a len cap] w (Nums.RetFB (Nums.accC (Nums.numC zs) len) true w) := by
  have h := Nums.impl_sumn a len cap zs w hn
  rw [if_pos hl, decide_eq_true hl] at h
  have H1 := Lib.hid h
  clear h hn
  go_enter Tryz.func12, Tryz.ntmps12
  go_wp2_with fail
  refine H1.out.mono ?_
  rintro e w1 ⟨r, rfl, hr, hb⟩
  go_wp2
  exact bodyPost_ret (v := .tuple #[.float .f32 r, .bool true]) (by simp [results, Tryz.results12, go_sem]) rfl ⟨_, rfl, hr, hb⟩

/-- The text of numbers reads as their bits. -/
theorem hd_mark : ∀ d, d < 16 → Hex.hd d ≠ 44 := by decide

theorem hexz_mark (z : Nat) : ∀ c ∈ NTL.hexz z, c ≠ 44 := by
  intro c hc
  unfold NTL.hexz Hex.hex8 Hex.text at hc
  obtain ⟨j, _, rfl⟩ := List.mem_map.1 hc
  exact hd_mark _ (Nat.mod_lt _ (by decide))

theorem parts_join : ∀ (xs : List (List UInt8)), xs ≠ [] → (∀ x ∈ xs, ∀ c ∈ x, c ≠ 44) → Cut.parts (Lib.join xs [44]) = xs
  | [], h, _ => absurd rfl h
  | [x], _, hx => by rw [Lib.join_one]; exact Cut.parts_one x (hx x List.mem_cons_self)
  | x :: y :: r, _, hx => by
    have ih := parts_join (y :: r) (by simp) fun z hz => hx z (List.mem_cons_of_mem _ hz)
    rw [Lib.join_cons] at ih ⊢
    have e : Lib.joinTail [44] (y :: r) = 44 :: (y ++ Lib.joinTail [44] r) := by simp [Lib.joinTail]
    rw [e, Cut.parts_cut x _ (hx x List.mem_cons_self), ih]

theorem nb_nb (z : Nat) : NTL.nb (NTL.nb z) = NTL.nb z := by
  rcases cl_cases .f32 z with h | h
  · have e : NTL.nb z = 2143289344 := by unfold NTL.nb; rw [bits_nan h]; rfl
    rw [e]; unfold NTL.nb; rw [nan_cl]; rfl
  · have e : NTL.nb z = z := by unfold NTL.nb; rw [bits_num h]; rfl
    rw [e, e]

theorem nb_cl (z : Nat) : cl .f32 (NTL.nb z) = cl .f32 z := by
  rcases cl_cases .f32 z with h | h
  · have e : NTL.nb z = 2143289344 := by unfold NTL.nb; rw [bits_nan h]; rfl
    rw [e, nan_cl, h]
  · have e : NTL.nb z = z := by unfold NTL.nb; rw [bits_num h]; rfl
    rw [e]

theorem reads (z : Nat) (h : z < 4294967296) : Hex.ReadsN (NTL.hexz z) (NTL.nb z) true := .inl ⟨rfl, NTL.nb_lt z h, nb_nb z, rfl⟩

theorem text_reads (zs : List Nat) (hz : ∀ z ∈ zs, z < 4294967296) (hl : zs.length ≤ 256) : FList.LR (NTL.ans zs true).data.toList (zs.map NTL.nb) true := by
  have e : (NTL.ans zs true).data.toList = NTL.txt zs := by simp [NTL.ans]
  rw [e]
  unfold NTL.txt
  by_cases h0 : zs = []
  · rw [if_pos h0]; subst h0; exact .inl ⟨rfl, rfl, rfl⟩
  · rw [if_neg h0]
    have hp : Cut.parts (Lib.join (zs.map NTL.hexz) [44]) = zs.map NTL.hexz := by
      refine parts_join _ (by simpa using h0) fun x hx c hc => ?_
      obtain ⟨z, _, rfl⟩ := List.mem_map.1 hx
      exact hexz_mark z c hc
    refine .inr (.inl ⟨fun he => ?_, by rw [hp, List.length_map]; exact hl, rfl, by rw [hp, List.length_map, List.length_map], fun j p hj => ?_⟩)
    · rw [he] at hp
      have h4 : Cut.parts FList.none4 = [FList.none4] := by decide +kernel
      rw [h4] at hp
      have hm : FList.none4 ∈ zs.map NTL.hexz := by rw [← hp]; exact List.mem_cons_self
      obtain ⟨z, _, hz4⟩ := List.mem_map.1 hm
      have := congrArg List.length hz4
      rw [NTL.hexz, Hex.hex8, Hex.text_len] at this
      exact absurd this (by decide)
    · rw [hp, List.getElem?_map] at hj
      obtain ⟨z, hzj, rfl⟩ := Option.map_eq_some_iff.1 hj
      have : (zs.map NTL.nb).getD j 0 = NTL.nb z := by rw [List.getD_eq_getElem?_getD, List.getElem?_map, hzj]; rfl
      rw [this]
      exact reads z (hz z (List.mem_of_getElem? hzj))

theorem isNums {w : World} {a : Option Addr} {len cap : Nat} {zs : List Nat} (h : FList.IsL w a len cap zs) : IsNums .f32 w a len cap zs := by
  obtain ⟨h1, h2, h3, h4, h5⟩ := h
  exact ⟨h1, h2, h3, fun n hn => by have := h4 n hn; unfold FList.okE at this; simpa [Lit.wf] using this, h5⟩

/-- Some bytes. -/
def IsY (w : World) (a : Option Addr) (len : Nat) : Prop :=
  len ≤ maxLen ∧ ∃ b off, (0 < len → b < w.heap.size ∧ a = some ⟨b, off, none⟩) ∧ ∀ i, i < len → ∃ v : Nat, w.cell? ⟨b, off + i, none⟩ = some (.int .u8 (v : Int)) ∧ v < 256

theorem IsY.isB {w : World} {a : Option Addr} {len cap : Nat} (h : IsY w a len) (hl : len ≤ 1048576) : Src.IsB w.heap.size w a len cap := ⟨hl, h.2⟩

section
variable {H : Type} {enc : TypeId × Value → H} {P : Program} {w : World} {base : Nat} {spare : Nat → Bool} {held : Bool}

theorem open_bytes {t e : TypeId} {a : Option Addr} {len cap : Nat} {d : DataW H} {p : List MemPlace} (ht : P.underlying t = some (.slice e)) (he : P.underlying e = some (.int .u8)) (hc : P.cellsOf e = 1)
    (h : DataW.Trod enc P w base spare held t (.slice a len cap) d p) : IsY w a len := by
  obtain ⟨fuel, hf⟩ := h
  rcases Deep.open_slice1 ht hc hf with ⟨hcs, _⟩ | ⟨x, l, c, m, n, V, D, Pl, hcs, _, hl, hm, hmm, _, hV⟩
  · simp [Value.cells] at hcs
    obtain ⟨rfl, rfl, rfl⟩ := hcs
    exact ⟨Nat.zero_le _, 0, 0, fun h => absurd h (Nat.lt_irrefl _), fun i hi => absurd hi (Nat.not_lt_zero _)⟩
  · simp [Value.cells] at hcs
    obtain ⟨rfl, rfl, rfl⟩ := hcs
    have hlm : len ≤ m := by rw [hmm]; split <;> omega
    have key : ∀ i, i < len → ∃ b, V i = .int .u8 b ∧ (Lit.int .u8 b).wf = true := fun i hi => by
      obtain ⟨b, e1, _, wb⟩ := DataW.trod_int he (hV i (by omega)).2
      exact ⟨b, by simpa using e1, wb⟩
    obtain ⟨B, hB⟩ := Deep.choose_lt key
    obtain ⟨b, off, spot⟩ := x
    have hcell : ∀ i, i < len → spot = none ∧ w.cell? ⟨b, off + i, none⟩ = some (.int .u8 (B i)) := fun i hi => by
      have hspot := World.cell?_spot (hV 0 (by omega)).1
      have hs : spot = none := by simpa [Addr.add] using hspot
      subst hs
      have := (hV i (by omega)).1
      rw [(hB i hi).1] at this
      simp only [Addr.add_lit] at this
      exact ⟨rfl, this⟩
    refine ⟨Nat.le_trans hl hm, b, off, fun h0 => ?_, fun i hi => ?_⟩
    · obtain ⟨rfl, h2⟩ := hcell 0 h0
      exact ⟨block_lt_of_cell h2, rfl⟩
    · have hw := (hB i hi).2
      have hb : 0 ≤ B i ∧ B i ≤ 255 := by simpa [Lit.wf, IntKind.min, IntKind.max, IntKind.bits, IntKind.signed] using hw
      refine ⟨(B i).toNat, ?_, by omega⟩
      rw [(hcell i hi).2, Int.toNat_of_nonneg hb.1]
end

theorem text_size {zs : List Nat} (hl : zs.length ≤ 256) : (NTL.ans zs true).size ≤ 1048576 := by
  have e : (NTL.ans zs true).size = (NTL.txt zs).length := by simp [NTL.ans, ByteArray.size]
  rw [e]
  unfold NTL.txt
  split
  · decide
  · cases zs with
    | nil => simp [Lib.join_nil]
    | cons z r =>
      have h1 := NTL.lens_le ((z :: r).map NTL.hexz) (fun x hx => by
        obtain ⟨v, hv, rfl⟩ := List.mem_map.1 hx
        exact NTL.hexz_len v)
      rw [List.length_map] at h1
      rw [List.map_cons] at h1 ⊢
      rw [Lib.join_length, List.length_map]
      rw [List.length_cons] at h1 hl
      have h2 : ([44] : List UInt8).length = 1 := rfl
      rw [h2]
      omega

theorem same_flush {x : Nat} (hx : x < 4294967296) {b : Bool} (h : (decide (0 < x % 2147483648) && decide (x % 2147483648 < 8388608)) = b) : decide (cl .f32 x = cl .f32 (flushed x)) = !b := by
  have := flushed_same hx
  rw [h] at this
  cases b <;> cases hd : decide (cl .f32 x = cl .f32 (flushed x)) <;> rw [hd] at this <;> first | rfl | cases this

theorem at_same {w wr : World} {b off len k : Nat} {zs : List Nat} (h6 : ∀ i, i < len → w.cell? ⟨b, off + i, none⟩ = some (FList.el (zs.getD i 0))) (hk : k < len) (hb : Below w.heap.size w wr) : wr.cell? ⟨b, off + k, none⟩ = some (.float .f32 (zs.getD k 0)) := by
  rw [hb.cell (block_lt_of_cell (h6 k hk))]; exact h6 k hk

end NumC
namespace NumS
open Fl Turn

theorem sine (w : World) : Calls Tryz.prog 20 #[.float .f32 1048576000] w (RetF .f32 (some 1065353216) w) := by
  have hdb : FloatKind.f64.decode 4598175219545276416 = .number false 4503599627370496 (-54) := by decide +kernel
  have hcb : convC .f32 .f64 (cl .f32 1048576000) = some 4598175219545276416 := by decide +kernel
  have hB := sine_args hdb (by decide +kernel)
  have hB' := hB
  obtain ⟨_, e, k⟩ := hB'
  cases e
  have hn := (whole_ok k).1
  obtain ⟨neg, hneg⟩ : ∃ neg, cmpC .lss (ord .f64 (rawC (some 4598175219545276416)) (some 0)) = neg := ⟨_, rfl⟩
  obtain ⟨below, hbelow⟩ : ∃ below, cmpC .geq (ord .f64 (partC neg (some 4598175219545276416)) half) = below := ⟨_, rfl⟩
  obtain ⟨high, hhigh⟩ : ∃ high, cmpC .gtr (ord .f64 (lowC below (partC neg (some 4598175219545276416))) quarter) = high := ⟨_, rfl⟩
  have sb := end_bd (back_bd (low_bd (part_bd hB neg) below) high)
  have sf : Fits .f64 .f32 (partSine below high (partC neg (some 4598175219545276416))) := (sign_bd sb below).fits (by omega)
  have hR : convC .f64 .f32 (partSine below high (partC neg (some 4598175219545276416))) = some 1065353216 := by
    subst hhigh; subst hbelow; subst hneg
    decide +kernel
  rw [← hR]
  refine impl_main 1048576000 _ w (by decide) (by decide +kernel) (fun x' f => ?_) sf (by decide +kernel) fun x' w f => ?_
  · rw [hcb] at f
    rw [eq_of_some f]
    exact ⟨_, _, _, hdb⟩
  · rw [hcb] at f
    have hx' := eq_of_some f
    subst hx'
    exact impl_sine _ _ w f hn _ _ _ hneg hbelow hhigh sb
end NumS
end Go.Proofs.YtpmnjbgfdhhomaaGreatDoor
