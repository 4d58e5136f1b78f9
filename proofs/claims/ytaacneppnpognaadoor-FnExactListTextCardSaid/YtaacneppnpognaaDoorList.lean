/- The text of a list of integers: the model's and the program's function. -/
import Derived.Test.YtaacneppnpognaaDoorInts
import Derived.Test.YtaacneppnpognaaDoorDecC
import Derived.Test.YtaacneppnpognaaDoorShelf3
import Derived.Lib.Join
import Derived.Lib.ItoaLen
namespace Go.Proofs.YtaacneppnpognaaDoor
set_option linter.unusedSimpArgs false
set_option linter.unusedVariables false
open Go.RowKit
namespace List_
open Ints

def In (v : Int) : Prop := -1000000000000000 ≤ v ∧ v ≤ 1000000000000000
def AllIn (zs : List Int) : Prop := ∀ n ∈ zs, In n
def txt (zs : List Int) : List UInt8 := if zs = [] then [110, 111, 110, 101] else Lib.join (zs.map Lib.itoa) [44]

theorem join_succ (xs : List (List UInt8)) (sep : List UInt8) (k : Nat) (y : List UInt8) (h : xs[k]? = some y) (hk : 1 ≤ k) : Lib.join (xs.take (k + 1)) sep = Lib.join (xs.take k) sep ++ sep ++ y := by
  cases xs with
  | nil => simp at h
  | cons x r =>
    obtain ⟨j, rfl⟩ : ∃ j, k = j + 1 := ⟨k - 1, by omega⟩
    rw [List.take_succ_cons, List.take_succ_cons, Lib.join_cons, Lib.join_cons, Lib.joinTail_take_succ sep r j y (by simpa using h), List.append_assoc, List.append_assoc, List.append_assoc]

theorem itoa_at {zs : List Int} {k : Nat} (h : k < zs.length) : (zs.map Lib.itoa)[k]? = some (Lib.itoa (zs.getD k 0)) := by
  rw [List.getElem?_map, List.getD_eq_getElem?_getD, List.getElem?_eq_getElem h]; rfl

theorem join_first (xs : List (List UInt8)) (sep y : List UInt8) (h : xs[0]? = some y) : Lib.join (xs.take 1) sep = y := by
  cases xs with
  | nil => simp at h
  | cons x r =>
    obtain rfl : x = y := by simpa using h
    exact Lib.join_one _ _

theorem size_str {l : List UInt8} (h : l.length ≤ 21) : (⟨l.toArray⟩ : ByteArray).size ≤ 21 := by
  show l.toArray.size ≤ _
  rw [List.size_toArray]; omega

theorem size_add {S : ByteArray} {l : List UInt8} {k : Nat} (hS : S.size ≤ 22 * k) (h : l.length ≤ 21) : (S ++ ((⟨#[44]⟩ : ByteArray) ++ ⟨l.toArray⟩)).size ≤ 22 * (k + 1) := by
  rw [ByteArray.size_append, ByteArray.size_append]
  have h1 := size_str h
  have h2 : (⟨#[44]⟩ : ByteArray).size = 1 := rfl
  omega

theorem str_eq {S : ByteArray} {l : List UInt8} (h : S.data.toList = l) : S = ⟨l.toArray⟩ := by
  subst h; cases S; simp

set_option maxRecDepth 20000 in
theorem spec_list (a : Option Addr) (len cap : Nat) (zs : List Int) (b : Bool) (w : World) (hn : IsInts w a len cap zs) (hb : b = true ↔ AllIn zs ∧ zs.length ≤ 64) :
    Calls Tryd.prog 24 #[.slice a len cap] w fun e w' => e = .returned (.bool b) ∧ Below w.heap.size w w' := by
  obtain ⟨h1, h2, h3, h4, b0, off, h5, h6⟩ := hn
  have H1 := Lib.hid h1; clear h1
  have H4 := Lib.hid h4; clear h4
  have H5 := Lib.hid h5; clear h5
  have H6 := Lib.hid h6; clear h6
  unfold maxLen at h3
  have HB := Lib.hid hb; clear hb
  go_enter Tryd.func24, Tryd.ntmps24
  go_wp2
  go_loopw [3] (fun i wr => ∃ k : Nat, k ≤ len ∧ i = .int .i64 k ∧ (∀ j, j < k → In (zs.getD j 0)) ∧ wr = w) (fun i _ => len - (intOf i).toNat)
  case atStart => exact ⟨0, Nat.zero_le _, rfl, fun j hj => absurd hj (Nat.not_lt_zero _), rfl⟩
  case round =>
    obtain ⟨k, hk, rfl, hd, rfl⟩ := hrel
    have HD := Lib.hid hd; clear hd
    by_cases hlt : k < len
    · obtain rfl := H5.out (by omega)
      have hsrc := at_index H6.out hlt (Below.refl _ _)
      have HM := Lib.hid (getD_mem (zs := zs) (i := k) (by rw [H1.out]; exact hlt))
      generalize hv : zs.getD k 0 = v at *
      have HV := Lib.hid hv; clear hv
      by_cases hlo : -1000000000000000 ≤ v
      · by_cases hhi : v ≤ 1000000000000000
        · go_wp2_with go_in
          go_roundw
          case rel =>
            refine ⟨k + 1, by omega, by go_num, fun j hj => ?_, trivial⟩
            by_cases hjk : j = k
            · subst hjk; rw [HV.out]; exact ⟨hlo, hhi⟩
            · exact HD.out j (by omega)
          case measure => simp [intOf]; omega
        · obtain rfl : b = false := by
            rw [Bool.eq_false_iff]
            exact fun h => hhi ((HB.out.1 h).1 v HM.out).2
          go_wp2_with go_in
          go_ret
          exact ⟨rfl, Below.refl _ _⟩
      · obtain rfl : b = false := by
          rw [Bool.eq_false_iff]
          exact fun h => hlo ((HB.out.1 h).1 v HM.out).1
        go_wp2_with go_in
        go_ret
        exact ⟨rfl, Below.refl _ _⟩
    · have hbb : b = decide ((len : Int) ≤ 64) := by
        rw [Bool.eq_iff_iff, HB.out, H1.out]
        have hall : AllIn zs := fun n hn => by
          obtain ⟨j, hj, rfl⟩ := List.getElem_of_mem hn
          have := HD.out j (by rw [H1.out] at hj; omega)
          rwa [List.getD_eq_getElem?_getD, List.getElem?_eq_getElem hj] at this
        simp only [decide_eq_true_eq]
        exact ⟨fun h => by omega, fun h => ⟨hall, by omega⟩⟩
      have HBB := Lib.hid hbb; clear hbb
      go_wp2
      go_ret
      exact ⟨by rw [HBB.out] <;> rfl, Below.refl _ _⟩

set_option maxRecDepth 20000 in
set_option maxHeartbeats 800000 in
theorem spec_text (a : Option Addr) (len cap : Nat) (zs : List Int) (w : World) (hn : IsInts w a len cap zs) (hlen : len ≤ 64) :
    Calls Tryd.prog 25 #[.slice a len cap] w fun e w' => e = .returned (.string ⟨(txt zs).toArray⟩) ∧ Below w.heap.size w w' := by
  obtain ⟨h1, h2, h3, h4, b0, off, h5, h6⟩ := hn
  have H1 := Lib.hid h1; clear h1
  have H4 := Lib.hid h4; clear h4
  have H5 := Lib.hid h5; clear h5
  have H6 := Lib.hid h6; clear h6
  unfold maxLen at h3
  have HC := Lib.hid (Dec.dec_loop)
  by_cases h0 : len = 0
  · subst h0
    have hz : zs = [] := List.length_eq_zero_iff.1 H1.out
    go_enter Tryd.func25, Tryd.ntmps25
    go_wp2
    go_ret
    exact ⟨by rw [hz] <;> rfl, Below.refl _ _⟩
  · have hpos : 0 < len := by omega
    obtain rfl := H5.out hpos
    have hs0 := at_index H6.out hpos (Below.refl _ _)
    rw [Nat.add_zero] at hs0
    have w0 := Dec.in_wf (H4.out _ (getD_mem (zs := zs) (i := 0) (by rw [H1.out]; exact hpos)))
    generalize hv0 : zs.getD 0 0 = v0 at *
    have HV0 := Lib.hid hv0; clear hv0
    have hl0 := Lib.itoa_length_le v0 w0.1 w0.2
    go_enter Tryd.func25, Tryd.ntmps25
    go_wp2_with (go_at_call 19; refine (HC.out _ w0.1 w0.2 _).mono ?_; rintro e w1 ⟨rfl, hb1⟩)
    go_loopw [3, 4] (fun s i wr => ∃ (k : Nat) (S : ByteArray), 1 ≤ k ∧ k ≤ len ∧ i = .int .i64 k ∧ s = .string S ∧ S.data.toList = Lib.join ((zs.map Lib.itoa).take k) [44] ∧ S.size ≤ 22 * k ∧ Below w.heap.size w wr) (fun _ i _ => len - (intOf i).toNat)
    case atStart =>
      refine ⟨1, _, Nat.le_refl _, by omega, rfl, rfl, ?_, Nat.le_trans (size_str hl0) (by omega), by assumption⟩
      have hI := itoa_at (zs := zs) (k := 0) (by rw [H1.out]; exact hpos)
      rw [HV0.out] at hI
      exact (join_first _ _ _ hI).symm
    case round =>
      obtain ⟨k, S, hk1, hk, rfl, rfl, hS, hsz, hbel⟩ := hrel
      have HS := Lib.hid hS; clear hS
      by_cases hlt : k < len
      · have hsrc := at_index H6.out hlt hbel
        have wv := Dec.in_wf (H4.out _ (getD_mem (zs := zs) (i := k) (by rw [H1.out]; exact hlt)))
        have HI := Lib.hid (itoa_at (zs := zs) (k := k) (by rw [H1.out]; exact hlt))
        generalize zs.getD k 0 = v at *
        have hl := Lib.itoa_length_le v wv.1 wv.2
        have HB := Lib.hid hbel; clear hbel
        go_wp2_with (go_at_call 19; refine (HC.out _ wv.1 wv.2 _).mono ?_; rintro e w2 ⟨rfl, hb2⟩)
        go_roundw
        case rel =>
          refine ⟨k + 1, _, by omega, by omega, by go_num, rfl, ?_, size_add hsz hl, HB.out.trans (Below.mono (by assumption) HB.out.size)⟩
          rw [join_succ _ _ k _ HI.out hk1, Joins.data_append, Joins.data_append, HS.out, List.append_assoc]
        case measure => simp [intOf]; omega
      · go_wp2
        go_ret
        refine ⟨?_, hbel⟩
        have hkl : k = len := by omega
        have hne : zs ≠ [] := fun h => h0 (by rw [← H1.out, h]; rfl)
        have he : S.data.toList = txt zs := by
          rw [HS.out, txt, if_neg hne, List.take_of_length_le (by rw [List.length_map, H1.out, hkl]; exact Nat.le_refl _)]
        rw [str_eq he]
        rfl

/-- The answer: the text, if every number is in its bounds and there are not too many. -/
def ans (zs : List Int) (b : Bool) : ByteArray := if b then ⟨(txt zs).toArray⟩ else ⟨#[]⟩

set_option maxRecDepth 20000 in
theorem spec_listtext (a : Option Addr) (len cap : Nat) (zs : List Int) (b : Bool) (w : World) (hn : IsInts w a len cap zs) (hb : b = true ↔ AllIn zs ∧ zs.length ≤ 64) :
    Calls Tryd.prog 11 #[.slice a len cap] w fun e w' => e = .returned (.tuple #[.string (ans zs b), .bool b]) ∧ Below w.heap.size w w' := by
  have HL := Lib.hid (spec_list a len cap zs b w hn hb)
  have HN := Lib.hid hn
  have HB := Lib.hid hb
  clear hn hb
  cases b
  · go_enter Tryd.func11, Tryd.ntmps11
    go_wp2_with fail
    refine HL.out.mono ?_
    rintro e w1 ⟨rfl, hb1⟩
    go_wp2
    go_ret2
    exact ⟨rfl, hb1⟩
  · have HT := Lib.hid (fun w1 hb1 => spec_text a len cap zs w1 (HN.out.later hb1) (by rw [← HN.out.1]; exact (HB.out.1 rfl).2))
    go_enter Tryd.func11, Tryd.ntmps11
    go_wp2_with fail
    refine HL.out.mono ?_
    rintro e w1 ⟨rfl, hb1⟩
    go_wp2_with fail
    refine (HT.out _ hb1).mono ?_
    rintro e w2 ⟨rfl, hb2⟩
    have hz1 := hb1.size
    go_wp2
    go_ret2
    exact ⟨rfl, hb1.trans (hb2.mono hz1)⟩

theorem S_info : (Tryd.prog.info? 9).map (fun i => (i.zero, i.size, i.bytes)) = some (some (.string ⟨#[]⟩), 1, 16) := by kernel_rfl

/-- The numeral of a number. -/
def num (v : Int) : ByteArray := ⟨(Lib.itoa v).toArray⟩

theorem lens_le : ∀ xs : List (List UInt8), (∀ x ∈ xs, x.length ≤ 21) → Lib.lens xs ≤ 21 * xs.length := by
  intro xs
  induction xs with
  | nil => intro _; simp [Lib.lens]
  | cons x r ih =>
    intro h
    have h1 := ih fun y hy => h y (List.mem_cons_of_mem _ hy)
    have h2 := h x List.mem_cons_self
    have e : Lib.lens (x :: r) = x.length + Lib.lens r := by simp [Lib.lens]
    rw [e, List.length_cons]
    omega

theorem total {zs : List Int} (h4 : ∀ n ∈ zs, (Lit.int .i64 n).wf = true) (hl : zs.length ≤ 64) : (Lib.join (zs.map Lib.itoa) [44]).length ≤ 140737488355328 := by
  cases zs with
  | nil => simp [Lib.join_nil]
  | cons z r =>
    have h1 := lens_le ((z :: r).map Lib.itoa) (fun x hx => by
      obtain ⟨v, hv, rfl⟩ := List.mem_map.1 hx
      have := Dec.in_wf (h4 v hv)
      exact Lib.itoa_length_le v this.1 this.2)
    rw [List.length_map] at h1
    rw [List.map_cons] at h1 ⊢
    rw [Lib.join_length, List.length_map]
    rw [List.length_cons] at h1 hl
    have h2 : ([44] : List UInt8).length = 1 := rfl
    rw [h2]
    omega

set_option maxRecDepth 20000 in
set_option maxHeartbeats 800000 in
theorem impl_items (a : Option Addr) (len cap : Nat) (zs : List Int) (w : World) (hn : IsInts w a len cap zs) (ht : Lib.TabIs Tryd.prog w "internal/strconv.uint64pow10" .u64 Lib.pow10Tab) :
    Calls Tryd.prog 26 #[.slice a len cap, .int .i64 64, .func (Fn.func 8) #[] #[]] w fun e w' => e = .returned (.tuple #[.string (ans zs (decide (len ≤ 64))), .bool (decide (len ≤ 64))]) ∧ Below w.heap.size w w' := by
  obtain ⟨i0, hi, hz0, hz1, hz2⟩ := info_parts S_info
  obtain ⟨h1, h2, h3, h4, b0, off, h5, h6⟩ := hn
  have H1 := Lib.hid h1; clear h1
  have H4 := Lib.hid h4; clear h4
  have H5 := Lib.hid h5; clear h5
  have H6 := Lib.hid h6; clear h6
  unfold maxLen at h3
  have HD := Lib.hid Dec.impl_decimal
  have HT := Lib.hid ht; clear ht
  by_cases hbig : 64 < len
  · have hd : decide (len ≤ 64) = false := by simp; omega
    rw [hd]
    have HDD := Lib.hid hd
    clear hd
    go_enter Tryd.func26, Tryd.ntmps26
    go_wp2
    go_ret2
    exact ⟨rfl, Below.refl _ _⟩
  have hd : decide (len ≤ 64) = true := by simp; omega
  rw [hd]
  have HDD := Lib.hid hd
  clear hd
  by_cases h0 : len = 0
  · subst h0
    have hz : zs = [] := List.length_eq_zero_iff.1 H1.out
    go_enter Tryd.func26, Tryd.ntmps26
    go_wp2
    go_ret2
    exact ⟨by rw [hz] <;> rfl, Below.refl _ _⟩
  have hpos : 0 < len := by omega
  obtain rfl := H5.out hpos
  go_enter Tryd.func26, Tryd.ntmps26
  go_wp2_with (at_make; refine wpList_make_full _ rfl _ _ 47 rfl w.heap.size 9 i0 (.string ⟨#[]⟩) 1 Tryd.underlying47 hi hz0 hz1 .i64 .i64 _ _ len rfl rfl rfl rfl (by rw [hz2]; omega) (by unfold maxLen; omega) (Nat.le_refl _) ?_)
  intro w1 hown hgrow
  have hnx : Below w.heap.size w w1 := (Below.refl _ _).grown hgrow (Nat.le_refl _) (fun k h => by cases h)
  obtain ⟨cur0, hc0, hs0⟩ := made_block hown rfl
  clear hown hgrow
  go_wp2
  go_loopw [9, 10, 23] (fun x y i wr => ∃ (k : Nat) (cur : Array Value), k ≤ len ∧ i = .int .i64 k ∧ wr.heap[w.heap.size]? = some (.cells cur 9) ∧ cur.size = len ∧ (∀ j, j < k → cur[j]? = some (.string (num (zs.getD j 0)))) ∧ Below w.heap.size w wr)
    (fun _ _ i _ => len - (intOf i).toNat)
  case atStart => exact ⟨0, cur0, Nat.zero_le _, rfl, hc0, hs0, fun j hj => absurd hj (Nat.not_lt_zero _), hnx⟩
  case round =>
    clear hc0 hs0 hnx
    obtain ⟨k, cur, hk, rfl, hb, hs, hdone, hbel⟩ := hrel
    have HS := Lib.hid hs; clear hs
    have HDN := Lib.hid hdone; clear hdone
    by_cases hlt : k < len
    · have hsrc := at_index H6.out hlt hbel
      have wv := Dec.in_wf (H4.out _ (getD_mem (zs := zs) (i := k) (by rw [H1.out]; exact hlt)))
      generalize hv : zs.getD k 0 = v at *
      have HVV := Lib.hid hv; clear hv
      have HB := Lib.hid hb
      have HBL := Lib.hid hbel
      have HT1 := Lib.hid (Joins.tab_stays (g := 0) (by kernel_rfl) HT.out hbel (Nat.le_refl _))
      have hgs : w.heap.size < wr.heap.size := (Array.getElem?_eq_some_iff.1 hb).1
      clear hb hbel
      go_wp2_with fail
      refine (HD.out v wv.1 wv.2 _ HT1.out).mono ?_
      rintro e w2 ⟨rfl, hb2⟩
      have hblk : w2.heap[w.heap.size]? = some (.cells cur 9) := by rw [hb2.block _ hgs]; exact HB.out
      have hbw2 : Below w.heap.size w w2 := HBL.out.trans (hb2.mono (Nat.le_of_lt hgs))
      have hdst : w2.cell? ⟨w.heap.size, k, none⟩ = some cur[k]! := by
        rw [cells_of hblk]
        have : k < cur.size := by rw [HS.out]; exact hlt
        simp [this]
      generalize cur[k]! = old at *
      have hfree := free_of hblk k
      have HB2 := Lib.hid hblk
      have HBW2 := Lib.hid hbw2
      clear hblk hbw2 hb2
      go_wp2
      go_roundw
      case rel =>
        refine ⟨k + 1, cur.setIfInBounds k (.string (num v)), by omega, by go_num, setCell_block HB2.out k _, by simp [HS.out], fun j hj => ?_, HBW2.out.setCell (Nat.le_refl _) _⟩
        by_cases hjk : j = k
        · subst hjk
          rw [Array.getElem?_setIfInBounds_self_of_lt (by rw [HS.out]; exact hlt), ← HVV.out]
        · rw [Array.getElem?_setIfInBounds_ne (fun e => hjk e.symm)]; exact HDN.out j (by omega)
      case measure => simp [intOf]; omega
    · have hkl : k = len := by omega
      have hgs : w.heap.size < wr.heap.size := (Array.getElem?_eq_some_iff.1 hb).1
      have hj := Lib.hid (Tryd.strings_Join w.heap.size 0 len (zs.map num) ⟨#[44]⟩ wr (fun j x hx => by
        rw [List.getElem?_map] at hx
        obtain ⟨z, hz, rfl⟩ := Option.map_eq_some_iff.1 hx
        have hjl : j < len := by rw [← H1.out]; exact (List.getElem?_eq_some_iff.1 hz).1
        rw [Nat.zero_add, cells_of hb, HDN.out j (by omega), List.getD_eq_getElem?_getD, hz]
        rfl) hgs (by rw [List.length_map, H1.out]; omega) (by rw [List.length_map, H1.out]; exact Nat.le_refl _) (by
          have := total H4.out (by rw [H1.out]; omega)
          rw [List.map_map]
          exact this))
      rw [List.length_map, H1.out, List.map_map] at hj
      have HBL := Lib.hid hbel
      clear hb hbel
      go_wp2_with fail
      refine hj.out.mono ?_
      rintro e w2 ⟨rfl, hb2⟩
      have hbw2 : Below w.heap.size w w2 := HBL.out.trans (hb2.mono (Nat.le_of_lt hgs))
      have HBW2 := Lib.hid hbw2
      clear hbw2 hb2
      go_wp2
      go_ret2
      have hne : zs ≠ [] := fun h => h0 (by rw [← H1.out, h]; rfl)
      refine ⟨?_, HBW2.out⟩
      unfold ans txt
      rw [if_neg hne]
      rfl

set_option maxRecDepth 20000 in
theorem impl_listtext (a : Option Addr) (len cap : Nat) (zs : List Int) (b : Bool) (w : World) (hn : IsInts w a len cap zs) (hb : b = true ↔ AllIn zs ∧ zs.length ≤ 64) (ht : Lib.TabIs Tryd.prog w "internal/strconv.uint64pow10" .u64 Lib.pow10Tab) :
    Calls Tryd.prog 13 #[.slice a len cap] w fun e w' => e = .returned (.tuple #[.string (ans zs b), .bool b]) ∧ Below w.heap.size w w' := by
  have HN := Lib.hid hn
  obtain ⟨h1, h2, h3, h4, b0, off, h5, h6⟩ := hn
  have H1 := Lib.hid h1; clear h1
  have H4 := Lib.hid h4; clear h4
  have H5 := Lib.hid h5; clear h5
  have H6 := Lib.hid h6; clear h6
  unfold maxLen at h3
  have HB := Lib.hid hb; clear hb
  go_enter Tryd.func13, Tryd.ntmps13
  go_wp2
  go_loopw [5, 8] (fun u i wr => ∃ k : Nat, k ≤ len ∧ i = .int .i64 k ∧ (∀ j, j < k → In (zs.getD j 0)) ∧ wr = w) (fun _ i _ => len - (intOf i).toNat)
  case atStart => exact ⟨0, Nat.zero_le _, rfl, fun j hj => absurd hj (Nat.not_lt_zero _), rfl⟩
  case round =>
    obtain ⟨k, hk, rfl, hd, rfl⟩ := hrel
    have HD := Lib.hid hd; clear hd
    by_cases hlt : k < len
    · obtain rfl := H5.out (by omega)
      have hsrc := at_index H6.out hlt (Below.refl _ _)
      have HM := Lib.hid (getD_mem (zs := zs) (i := k) (by rw [H1.out]; exact hlt))
      generalize hv : zs.getD k 0 = v at *
      have HV := Lib.hid hv; clear hv
      by_cases hlo : -1000000000000000 ≤ v
      · by_cases hhi : v ≤ 1000000000000000
        · go_wp2_with go_in
          go_roundw
          case rel =>
            refine ⟨k + 1, by omega, by go_num, fun j hj => ?_, trivial⟩
            by_cases hjk : j = k
            · subst hjk; rw [HV.out]; exact ⟨hlo, hhi⟩
            · exact HD.out j (by omega)
          case measure => simp [intOf]; omega
        · obtain rfl : b = false := by
            rw [Bool.eq_false_iff]
            exact fun h => hhi ((HB.out.1 h).1 v HM.out).2
          go_wp2_with go_in
          go_ret2
          exact ⟨rfl, Below.refl _ _⟩
      · obtain rfl : b = false := by
          rw [Bool.eq_false_iff]
          exact fun h => hlo ((HB.out.1 h).1 v HM.out).1
        go_wp2_with go_in
        go_ret2
        exact ⟨rfl, Below.refl _ _⟩
    · have hbb : b = decide ((len : Int) ≤ 64) := by
        rw [Bool.eq_iff_iff, HB.out, H1.out]
        have hall : AllIn zs := fun n hn => by
          obtain ⟨j, hj, rfl⟩ := List.getElem_of_mem hn
          have := HD.out j (by rw [H1.out] at hj; omega)
          rwa [List.getD_eq_getElem?_getD, List.getElem?_eq_getElem hj] at this
        simp only [decide_eq_true_eq]
        exact ⟨fun h => by omega, fun h => ⟨hall, by omega⟩⟩
      have HBB := Lib.hid hbb; clear hbb
      have HJ := Lib.hid (impl_items a len cap zs wr HN.out ht)
      rw [show decide (len ≤ 64) = b by rw [HBB.out, Bool.eq_iff_iff]; simp only [decide_eq_true_eq]; omega] at HJ
      go_wp2_with fail
      refine HJ.out.mono ?_
      rintro e w2 ⟨rfl, hb2⟩
      go_wp2
      go_ret2
      exact ⟨rfl, hb2⟩
end List_
end Go.Proofs.YtaacneppnpognaaDoor
