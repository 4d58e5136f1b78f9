/- Reading a list of numbers: the program's function. -/
import Derived.Test.YtpmnjbgfdhhomabGreatDoorFList
import Derived.Test.YtpmnjbgfdhhomabGreatDoorShelf4
namespace Go.Proofs.YtpmnjbgfdhhomabGreatDoor
set_option linter.unusedSimpArgs false
set_option linter.unusedVariables false
open Go.RowKit
namespace FList
open Cut Fl

set_option maxRecDepth 20000 in
set_option maxHeartbeats 1600000 in
theorem impl_items (s : ByteArray) (zs0 : List Nat) (b : Bool) (w : World) (hs : s.size ≤ 1048576) (hr : LR s.data.toList zs0 b) (ht : Hex.Tabs w) :
    Calls Tryz.prog 41 #[.string s, .int .i64 256, .func (Fn.func 42) #[] #[]] w (RetO zs0 b w) := by
  obtain ⟨i0, hi, hz0, hz1, hz2⟩ := info_parts I_info
  have hsl : s.data.toList.length = s.size := Array.length_toList
  by_cases hno : s.data.toList = none4
  · obtain ⟨rfl, rfl⟩ : zs0 = [] ∧ b = true := by
      rcases hr with ⟨_, h1, h2⟩ | ⟨h, _⟩ | ⟨h, _⟩
      · exact ⟨h1, h2⟩
      · exact absurd hno h
      · exact absurd hno h
    obtain rfl : s = ⟨#[110, 111, 110, 101]⟩ := by
      cases s with
      | mk d =>
        have : d = #[110, 111, 110, 101] := by rw [← Array.toArray_toList (xs := d)]; exact congrArg List.toArray hno
        rw [this]
    clear hr hsl hno ht
    go_enter Tryz.func41, Tryz.ntmps41
    go_wp2
    go_ret2
    exact ⟨_, _, rfl, ownL_nil _ _, Below.refl _ _⟩
  have t1 : (s.toList == [110, 111, 110, 101]) = false := by rw [Hex.byte_list]; simpa [none4] using hno
  have HR := Lib.hid hr
  have HNO := Lib.hid hno
  have hpl := parts_len s.data.toList
  have hwl := words_len s
  have hww := words s
  obtain ⟨xs, hxs⟩ : ∃ xs, xs = Lib.splitB ⟨#[44]⟩ 0 (Lib.countB s ⟨#[44]⟩) s := ⟨_, rfl⟩
  obtain ⟨c, hc⟩ : ∃ c, c = Lib.countB s ⟨#[44]⟩ := ⟨_, rfl⟩
  obtain ⟨m, hm⟩ := ht.2.2
  have HCT := Lib.hid (Tryz.strings_Count_one s 44 w)
  have hsp := Tryz.strings_Split s ⟨#[44]⟩ m w (by omega) hm (Nat.le_refl 1)
  rw [← hxs, ← hc] at hsp
  rw [← hxs] at hww
  rw [← hc] at hwl
  have HSP := Lib.hid hsp
  have hcc : Lib.countByte s.data.toList 44 = c := by
    have : Lib.countByte s.data.toList 44 = s.data.toList.count 44 := rfl
    omega
  rw [hcc] at HCT
  have hxl : xs.length = c + 1 := by rw [hwl, ← hww, List.length_map]
  have HWW := Lib.hid hww
  have HXL := Lib.hid hxl
  have HWL := Lib.hid hwl
  have HT := Lib.hid ht
  clear hr hno hww hxl hsp hm hcc hpl hwl hxs hc ht
  by_cases hbig : 256 ≤ c
  · obtain ⟨rfl, rfl⟩ := lr_many HR.out HNO.out (by rw [← HWL.out]; omega)
    go_enter Tryz.func41, Tryz.ntmps41
    go_wp2_with fail
    refine HCT.out.mono ?_
    rintro e w1 ⟨rfl, rfl⟩
    go_wp2
    go_ret2
    exact ⟨_, _, rfl, ownL_nil _ _, Below.refl _ _⟩
  go_enter Tryz.func41, Tryz.ntmps41
  go_wp2_with fail
  refine HCT.out.mono ?_
  rintro e w1 ⟨rfl, rfl⟩
  go_wp2_with fail
  refine HSP.out.mono ?_
  rintro e w2 ⟨rfl, hw2⟩
  have hB2 : Below w1.heap.size w1 w2 := by rw [hw2]; exact (Below.refl _ _).alloc (Nat.le_refl _) _
  have hwb : w2.heap[w1.heap.size]? = some (.cells (xs.map Value.string).toArray 9) := by rw [hw2]; exact new_block _ _
  clear hw2
  obtain ⟨n, hn⟩ : ∃ n, n = c + 1 := ⟨_, rfl⟩
  have hc1 : ((c : Int) + 1) = ((n : Nat) : Int) := by omega
  try rw [hc1]
  try rw [← hn]
  have HC1 := Lib.hid hc1
  have HN := Lib.hid hn
  have hn64 : n ≤ 256 := by omega
  have hgs2 : w1.heap.size < w2.heap.size := (Array.getElem?_eq_some_iff.1 hwb).1
  clear hn hc1
  go_wp2_with (at_make; refine wpList_make_full _ rfl _ _ 47 rfl w2.heap.size 24 i0 (.float .f32 0) 1 Tryz.underlying47 hi hz0 hz1 .i64 .i64 _ _ n rfl rfl rfl rfl (by rw [hz2]; omega) (by unfold maxLen; omega) (Nat.le_refl _) ?_)
  intro w3 hown hgrow
  have hB3 : Below w1.heap.size w1 w3 := Below.grown hB2 hgrow (Nat.le_of_lt hgs2) (fun k h => by cases h)
  have hwb3 : w3.heap[w1.heap.size]? = some (.cells (xs.map Value.string).toArray 9) := by
    rw [hgrow.block _ hgs2 (by simp)]; exact hwb
  obtain ⟨cur0, hc0, hs0⟩ := made_block hown rfl
  have HB3 := Lib.hid hB3
  have HWB3 := Lib.hid hwb3
  have HC0 := Lib.hid hc0
  have HS0 := Lib.hid hs0
  clear hown hgrow hwb hB2 hB3 hwb3 hc0 hs0
  go_wp2
  go_loopw [10, 11, 12, 13, 27] (fun p q r u i wr => ∃ (k : Nat) (cur : Array Value) (zs : List Nat), k ≤ n ∧ i = .int .i64 k ∧ zs.length = k ∧ wr.heap[w2.heap.size]? = some (.cells cur 24) ∧ cur.size = n ∧ (∀ j, j < k → cur[j]? = some (el (zs.getD j 0))) ∧
      wr.heap[w1.heap.size]? = some (.cells (xs.map Value.string).toArray 9) ∧ (∀ (j : Nat) (p : List UInt8), j < k → (parts s.data.toList)[j]? = some p → Hex.ReadsN p (zs.getD j 0) true) ∧ Below w1.heap.size w1 wr)
    (fun _ _ _ _ i _ => n - (intOf i).toNat)
  case atStart => exact ⟨0, cur0, [], Nat.zero_le _, rfl, rfl, HC0, HS0, fun j hj => absurd hj (Nat.not_lt_zero _), HWB3, fun j p hj => absurd hj (Nat.not_lt_zero _), HB3⟩
  case round =>
    obtain ⟨k, cur, zs, hk, rfl, hzl, hb, hcs, hdone, hwb, hrd, hbel⟩ := hrel
    have HRD := Lib.hid hrd
    have HZ := Lib.hid hzl
    have HDN := Lib.hid hdone
    have HCS := Lib.hid hcs
    clear hrd hzl hdone hcs
    have hgr : w2.heap.size < wr.heap.size := (Array.getElem?_eq_some_iff.1 hb).1
    by_cases hlt : k < n
    · have hkx : k < xs.length := by rw [HXL.out, ← HN.out]; exact hlt
      have hcell : wr.cell? ⟨w1.heap.size, k, none⟩ = some (.string xs[k]) := by
        rw [cells_of hwb, List.getElem?_toArray, List.getElem?_map, List.getElem?_eq_getElem hkx]; rfl
      have HPA := Lib.hid (part_at HWW.out hkx)
      have hxz : (xs[k]).size ≤ 1048576 := by
        have h1 := parts_le _ _ (List.mem_of_getElem? (show (parts s.data.toList)[k]? = some (xs[k]).data.toList from HPA))
        rw [hsl] at h1
        have h2 : (xs[k]).data.toList.length = (xs[k]).size := Array.length_toList
        omega
      generalize xs[k] = x at *
      obtain ⟨v, bv, hv⟩ := Hex.readsN x.data.toList
      have HV := Lib.hid hv
      have HC2 := Lib.hid (Hex.impl_readnum x v bv wr hv hxz (HT.out.on hbel))
      have hgs : w1.heap.size ≤ wr.heap.size := hbel.size
      have HBK := Lib.hid hb
      have HWB := Lib.hid hwb
      have HBE := Lib.hid hbel
      clear hv hxz hb hwb hbel
      cases bv
      · obtain ⟨rfl, rfl⟩ := lr_bad HR.out HNO.out HPA.out HV.out
        go_wp2_with fail
        refine HC2.out.mono ?_
        rintro e w4 ⟨rfl, hb4⟩
        go_wp2
        go_ret2
        exact ⟨_, _, rfl, ownL_nil _ _, HBE.out.trans (hb4.mono hgs)⟩
      · go_wp2_with fail
        refine HC2.out.mono ?_
        rintro e w4 ⟨rfl, hb4⟩
        have hblk : w4.heap[w2.heap.size]? = some (.cells cur 24) := by rw [hb4.block _ hgr]; exact HBK.out
        have hwb4 : w4.heap[w1.heap.size]? = some (.cells (xs.map Value.string).toArray 9) := by rw [hb4.block _ (by omega)]; exact HWB.out
        have hB4 : Below w1.heap.size w1 w4 := HBE.out.trans (hb4.mono hgs)
        have hdst : w4.cell? ⟨w2.heap.size, k, none⟩ = some cur[k]! := by
          rw [cells_of hblk]
          have : k < cur.size := by rw [HCS.out]; exact hlt
          simp [this]
        generalize cur[k]! = old at *
        have hfree := free_of hblk k
        have HB4 := Lib.hid hblk
        have HWB4 := Lib.hid hwb4
        have HBB4 := Lib.hid hB4
        clear hblk hwb4 hB4 hb4
        go_wp2
        go_roundw
        case rel =>
          refine ⟨k + 1, cur.setIfInBounds k (el v), zs ++ [v], by omega, by go_num, by rw [List.length_append, HZ.out]; rfl, setCell_block HB4.out k _, by simp [HCS.out], fun j hj => ?_, ?_, fun j p hj hp => ?_, HBB4.out.setCell (Nat.le_of_lt hgs2) _⟩
          · by_cases hjk : j = k
            · subst hjk
              rw [Array.getElem?_setIfInBounds_self_of_lt (by rw [HCS.out]; exact hlt), List.getD_eq_getElem?_getD, List.getElem?_append_right (by rw [HZ.out]; exact Nat.le_refl _), HZ.out, Nat.sub_self]
              rfl
            · rw [Array.getElem?_setIfInBounds_ne (fun e => hjk e.symm), HDN.out j (by omega), List.getD_eq_getElem?_getD, List.getD_eq_getElem?_getD, List.getElem?_append_left (by rw [HZ.out]; omega)]
          · rw [Below.heap_setCell _ _ _ _ (by show w1.heap.size ≠ w2.heap.size; omega)]
            exact HWB4.out
          · by_cases hjk : j = k
            · subst hjk
              rw [HPA.out] at hp
              obtain rfl := Option.some.inj hp
              rw [List.getD_eq_getElem?_getD, List.getElem?_append_right (by rw [HZ.out]; exact Nat.le_refl _), HZ.out, Nat.sub_self]
              exact HV.out
            · have h1 := HRD.out j p (by omega) hp
              rw [List.getD_eq_getElem?_getD] at h1 ⊢
              rw [List.getElem?_append_left (by rw [HZ.out]; omega)]
              exact h1
        case measure => simp [intOf]; omega
    · have hkn : k = n := by omega
      have hpn : (parts s.data.toList).length = n := by rw [← HWL.out]; exact HN.out.symm
      obtain ⟨rfl, rfl⟩ := lr_all HR.out HNO.out (by omega) (by rw [HZ.out, hpn]; exact hkn) (fun j p hp => HRD.out j p (by
        have := (List.getElem?_eq_some_iff.1 hp).1
        omega) hp)
      have hwf : ∀ m ∈ zs0, okE m := fun m hm => by
        obtain ⟨j, hj, rfl⟩ := List.getElem_of_mem hm
        have hj2 := hj
        rw [HZ.out] at hj2
        have hjn : j < (parts s.data.toList).length := by omega
        have h1 := HRD.out j _ hj2 (List.getElem?_eq_getElem hjn)
        rw [List.getD_eq_getElem?_getD, List.getElem?_eq_getElem hj] at h1
        exact Hex.ReadsN.ok h1
      have hown : OwnL w1.heap.size wr (some ⟨w2.heap.size, 0, none⟩) n zs0 := ⟨by rw [HZ.out]; exact hk, by unfold maxLen; omega, by rw [HZ.out]; omega, hwf, w2.heap.size, cur, fun _ => ⟨rfl, Nat.le_of_lt hgs2, hb⟩, fun j hj => HDN.out j (by rw [HZ.out] at hj; exact hj)⟩
      have HOW := Lib.hid hown
      have HZN := Lib.hid (show zs0.length = n by rw [HZ.out]; exact hkn)
      clear hown hwf hb hwb
      go_wp2
      go_ret2
      exact ⟨_, _, by rw [HZN.out]; rfl, HOW.out, hbel⟩
end FList
end Go.Proofs.YtpmnjbgfdhhomabGreatDoor
