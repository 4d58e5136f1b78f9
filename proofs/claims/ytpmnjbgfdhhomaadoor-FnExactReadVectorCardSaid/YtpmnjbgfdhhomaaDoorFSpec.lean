/- Reading a list of numbers: the model's function. -/
import Derived.Test.YtpmnjbgfdhhomaaDoorFList
namespace Go.Proofs.YtpmnjbgfdhhomaaDoor
set_option linter.unusedSimpArgs false
set_option linter.unusedVariables false
open Go.RowKit
namespace FList
open Cut Fl

set_option maxRecDepth 20000 in
set_option maxHeartbeats 1600000 in
theorem spec_numbers (s : ByteArray) (zs0 : List Nat) (b : Bool) (w : World) (hs : s.size ≤ 1048576) (hr : LR s.data.toList zs0 b) :
    Calls Tryd.prog 32 #[.string s] w (RetL zs0 b w) := by
  obtain ⟨i0, hi, hz0, hz1, hz2⟩ := info_parts I_info
  have hsl : s.data.toList.length = s.size := Array.length_toList
  by_cases hno : s.data.toList = none4
  · obtain ⟨rfl, rfl⟩ : zs0 = [] ∧ b = true := by
      rcases hr with ⟨_, h1, h2⟩ | ⟨h, _⟩ | ⟨h, _⟩
      · exact ⟨h1, h2⟩
      · exact absurd hno h
      · exact absurd hno h
    have t1 : (s.toList == [110, 111, 110, 101]) = true := by rw [Hex.byte_list, hno]; rfl
    obtain rfl : s = ⟨#[110, 111, 110, 101]⟩ := by
      cases s with
      | mk d =>
        have : d = #[110, 111, 110, 101] := by rw [← Array.toArray_toList (xs := d)]; exact congrArg List.toArray hno
        rw [this]
    clear hr hsl hno t1
    go_enter Tryd.func32, Tryd.ntmps32
    go_wp2
    go_ret2
    exact ⟨_, _, rfl, isL_nil _ _ _ (by unfold maxLen; omega), (Below.refl _ _).alloc (Nat.le_refl _) _⟩
  have t1 : (s.toList == [110, 111, 110, 101]) = false := by rw [Hex.byte_list]; simpa [none4] using hno
  have HR := Lib.hid hr
  have HNO := Lib.hid hno
  have HC := Lib.hid (fun w => spec_cut s w hs)
  clear hr hno
  go_enter Tryd.func32, Tryd.ntmps32
  go_wp2_with fail
  refine (HC.out _).mono ?_
  rintro e w1 ⟨gp, capp, xs, rfl, hpo, hpx, hb1⟩
  have hB1 : Below w.heap.size w w1 := ((Below.refl _ _).alloc (Nat.le_refl _) _).trans (hb1.mono (by simp))
  have hxl : (parts s.data.toList).length = xs.length := by rw [← hpx, List.length_map]
  have HPX := Lib.hid hpx
  clear hpx
  obtain ⟨n, hn⟩ : ∃ n, n = xs.length := ⟨_, rfl⟩
  rw [← hn] at hpo hxl ⊢
  have HN := Lib.hid hn
  clear hn
  by_cases hbig : 256 < n
  · obtain ⟨rfl, rfl⟩ := lr_many HR.out HNO.out (by rw [hxl]; exact hbig)
    clear hpo
    go_wp2
    go_ret2
    exact ⟨_, _, rfl, isL_nil _ _ _ (by unfold maxLen; omega), hB1⟩
  have hp0 : w1.ownsRow w.heap.size 9 1 (.slice (some ⟨gp, 0, none⟩) n capp) n (xs.map Value.string) := Joins.ownsRow_le hpo (by simp)
  have ho0 : w1.ownsRow w.heap.size 32 1 (.slice (some ⟨w.heap.size, 0, none⟩) 0 0) 0 [] := own_below ⟨rfl, .inr ⟨w.heap.size, 0, #[], rfl, Nat.le_refl _, new_block w _, Nat.le_refl _, by unfold maxLen; omega, rfl, rfl⟩⟩ hb1
  have HP0 := Lib.hid hp0
  have HO0 := Lib.hid ho0
  have HB1 := Lib.hid hB1
  have HXL := Lib.hid hxl
  clear hpo hp0 ho0 hB1 hb1 hxl
  go_wp2
  go_loopw [4, 6, 7, 8, 9, 10, 11] (fun o i u1 u2 u3 u4 u5 wr => ∃ (k : Nat) (zs : List Nat), k ≤ n ∧ i = .int .i64 k ∧ zs.length = k ∧ wr.ownsRow w.heap.size 32 1 o k (zs.map el) ∧ (∃ g cap, o = .slice (some ⟨g, 0, none⟩) k cap) ∧
      wr.ownsRow w.heap.size 9 1 (.slice (some ⟨gp, 0, none⟩) n capp) n (xs.map Value.string) ∧ (∀ (j : Nat) (p : List UInt8), j < k → (parts s.data.toList)[j]? = some p → Hex.ReadsN p (zs.getD j 0) true) ∧ Below w.heap.size w wr)
    (fun _ i _ _ _ _ _ _ => n - (intOf i).toNat)
  case atStart => exact ⟨0, [], Nat.zero_le _, rfl, rfl, HO0, ⟨_, _, rfl⟩, HP0, fun j p hj => absurd hj (Nat.not_lt_zero _), HB1⟩
  case round =>
    obtain ⟨k, zs, hk, rfl, hzl, hown, ⟨g0, cap0, rfl⟩, hpo, hrd, hbel⟩ := hrel
    have HRD := Lib.hid hrd
    have HZ := Lib.hid hzl
    clear hrd hzl
    by_cases hlt : k < n
    · have hkx : k < xs.length := by rw [← show n = xs.length from HN]; exact hlt
      have hcell : wr.cell? ⟨gp, k, none⟩ = some (.string xs[k]) := by
        have := hpo.cells rfl k (.string xs[k]) (by rw [List.getElem?_map, List.getElem?_eq_getElem hkx]; rfl)
        rw [Addr.add_lit, Nat.zero_add] at this
        exact this
      have HPA := Lib.hid (part_at HPX hkx)
      have hxs : (xs[k]).size ≤ maxLen := by
        have h1 := parts_le _ _ (List.mem_of_getElem? (show (parts s.data.toList)[k]? = some (xs[k]).data.toList from HPA))
        rw [hsl] at h1
        have h2 : (xs[k]).data.toList.length = (xs[k]).size := Array.length_toList
        unfold maxLen
        omega
      generalize xs[k] = x at *
      obtain ⟨v, bv, hv⟩ := Hex.readsN x.data.toList
      have HV := Lib.hid hv
      have hgs : w.heap.size ≤ wr.heap.size := hbel.size
      have hg0 : w.heap.size ≤ g0 := (hown.lt g0 rfl).1
      have hf := Bits.frombits_run
      have HPO := Lib.hid hpo
      have HOW := Lib.hid hown
      have HBE := Lib.hid hbel
      have hxl8 : x.data.toList.length = x.size := Array.length_toList
      clear hv hxs hpo hown hbel
      by_cases h8 : x.size = 8
      rotate_left
      · have hb0 : v = 0 ∧ bv = false := HV.out.size (by rw [hxl8]; exact h8)
        obtain ⟨rfl, rfl⟩ := hb0
        obtain ⟨rfl, rfl⟩ := lr_bad HR.out HNO.out HPA.out HV.out
        go_wp2
        go_ret2
        exact ⟨_, _, rfl, isL_nil _ _ _ (by unfold maxLen; omega), HBE.out⟩
      have HX8 := Lib.hid hxl8
      clear hxl8
      go_wp2
      go_loop [7, 8, 9, 10] (fun vn vk vc vd => ∃ (j acc : Nat), j ≤ 8 ∧ vk = .int .i64 j ∧ vn = .int .i64 acc ∧ Hid (acc < 16 ^ j ∧ Hex.pv Hex.lv 0 x.data.toList = Hex.pv Hex.lv acc (x.data.toList.drop j))) (fun _ vk _ _ => 8 - (intOf vk).toNat)
      case atStart => exact ⟨0, 0, by omega, rfl, rfl, Lib.hid ⟨by decide, rfl⟩⟩
      case round =>
        obtain ⟨j, acc, hj, rfl, rfl, hh⟩ := hrel
        obtain ⟨hacc, hdec⟩ := hh.out
        clear hh
        by_cases hlt8 : j < 8
        · have hjx : j < x.size := by omega
          have hpw7 : 16 ^ j ≤ 16 ^ 7 := Nat.pow_le_pow_right (by omega) (by omega)
          have e7 : (16 : Nat) ^ 7 = 268435456 := by decide
          rw [e7] at hpw7
          have hps : 16 ^ (j + 1) = 16 * 16 ^ j := by rw [Nat.pow_succ, Nat.mul_comm]
          have ha : acc ≤ 268435455 := by omega
          have hdrop : x.data.toList.drop j = x[j] :: x.data.toList.drop (j + 1) := by
            rw [List.drop_eq_getElem_cons (by rw [HX8.out]; exact hjx)]; rfl
          rw [hdrop, Hex.pv] at hdec
          have hb256 : x[j].toNat < 256 := x[j].toNat_lt
          by_cases hdig : 48 ≤ x[j].toNat ∧ x[j].toNat ≤ 57
          · have hd : Hex.lv x[j] = some (x[j].toNat - 48) := by unfold Hex.lv; rw [if_pos hdig]
            rw [hd] at hdec
            obtain ⟨d1, d2⟩ := hdig
            have HN : Hid (16 * acc + (x[j].toNat - 48) < 16 ^ (j + 1) ∧ Hex.pv Hex.lv 0 x.data.toList = Hex.pv Hex.lv (16 * acc + (x[j].toNat - 48)) (x.data.toList.drop (j + 1))) := Lib.hid ⟨by omega, hdec⟩
            have t1 : decide ((48 : Int) ≤ (x[j].toNat : Int)) = true := by simp; omega
            have t2 : decide ((x[j].toNat : Int) ≤ 57) = true := by simp; omega
            have t3 : decide ((97 : Int) ≤ (x[j].toNat : Int)) = false := by simp; omega
            clear hdec hd hdrop hpw7 e7 hps hacc
            go_wp2
            go_round
            case rel => exact ⟨j + 1, _, by omega, by go_num, by first | rfl | go_num | (congr 1; omega), HN⟩
            case measure => simp [intOf]; omega
          by_cases hlo : 97 ≤ x[j].toNat ∧ x[j].toNat ≤ 102
          · have hd : Hex.lv x[j] = some (x[j].toNat - 87) := by unfold Hex.lv; rw [if_neg hdig, if_pos hlo]
            rw [hd] at hdec
            obtain ⟨d1, d2⟩ := hlo
            have HN : Hid (16 * acc + (x[j].toNat - 87) < 16 ^ (j + 1) ∧ Hex.pv Hex.lv 0 x.data.toList = Hex.pv Hex.lv (16 * acc + (x[j].toNat - 87)) (x.data.toList.drop (j + 1))) := Lib.hid ⟨by omega, hdec⟩
            have t1 : decide ((48 : Int) ≤ (x[j].toNat : Int)) = true := by simp; omega
            have t2 : decide ((x[j].toNat : Int) ≤ 57) = false := by simp; omega
            have t3 : decide ((97 : Int) ≤ (x[j].toNat : Int)) = true := by simp; omega
            have t4 : decide ((x[j].toNat : Int) ≤ 102) = true := by simp; omega
            clear hdec hd hdrop hpw7 e7 hps hacc hdig
            go_wp2
            go_round
            case rel => exact ⟨j + 1, _, by omega, by go_num, by first | rfl | go_num | (congr 1; omega), HN⟩
            case measure => simp [intOf]; omega
          · have hd : Hex.lv x[j] = none := by unfold Hex.lv; rw [if_neg hdig, if_neg hlo]
            rw [hd] at hdec
            have hb0 : v = 0 ∧ bv = false := HV.out.lacks hdec
            obtain ⟨rfl, rfl⟩ := hb0
            obtain ⟨rfl, rfl⟩ := lr_bad HR.out HNO.out HPA.out HV.out
            clear hdec hd hdrop hpw7 e7 hps hacc
            have hc3 : x[j].toNat < 48 ∨ (57 < x[j].toNat ∧ x[j].toNat < 97) ∨ 102 < x[j].toNat := by omega
            clear hdig hlo
            rcases hc3 with h | ⟨h, h'⟩ | h
            · have t1 : decide ((48 : Int) ≤ (x[j].toNat : Int)) = false := by simp; omega
              have t3 : decide ((97 : Int) ≤ (x[j].toNat : Int)) = false := by simp; omega
              go_wp2
              go_ret2
              exact ⟨_, _, rfl, isL_nil _ _ _ (by unfold maxLen; omega), HBE.out⟩
            · have t1 : decide ((48 : Int) ≤ (x[j].toNat : Int)) = true := by simp; omega
              have t2 : decide ((x[j].toNat : Int) ≤ 57) = false := by simp; omega
              have t3 : decide ((97 : Int) ≤ (x[j].toNat : Int)) = false := by simp; omega
              go_wp2
              go_ret2
              exact ⟨_, _, rfl, isL_nil _ _ _ (by unfold maxLen; omega), HBE.out⟩
            · have t1 : decide ((48 : Int) ≤ (x[j].toNat : Int)) = true := by simp; omega
              have t2 : decide ((x[j].toNat : Int) ≤ 57) = false := by simp; omega
              have t3 : decide ((97 : Int) ≤ (x[j].toNat : Int)) = true := by simp; omega
              have t4 : decide ((x[j].toNat : Int) ≤ 102) = false := by simp; omega
              go_wp2
              go_ret2
              exact ⟨_, _, rfl, isL_nil _ _ _ (by unfold maxLen; omega), HBE.out⟩
        · obtain rfl : j = 8 := by omega
          have hN : Hex.pv Hex.lv 0 x.data.toList = some acc := by
            rw [hdec, List.drop_eq_nil_of_le (by rw [HX8.out]; omega)]; rfl
          obtain ⟨hN32, hk1, hk2⟩ := HV.out.gives (by rw [HX8.out]; exact h8) hN
          have hwN := Hex.wrap32 acc hN32
          have HFR := Lib.hid (Hex.spec_from acc hN32)
          have HBI := Lib.hid (Hex.spec_bits8 acc hN32)
          clear hdec hN hacc hlt8
          by_cases hnb : NTL.nb acc = acc
          · obtain ⟨h1, rfl⟩ := hk1 hnb
            subst h1
            clear hk1 hk2
            rw [hnb] at HBI
            have hgs0 := hgs
            have hgs2 : w.heap.size ≤ wr.heap.size := hgs
            have hB2 : Below w.heap.size w wr := HBE.out
            have hown2 := HOW.out
            have hpo2 := HPO.out
            have hown1 : ∀ X, (wr.alloc (.cells #[X] 32)).ownsRow w.heap.size 32 1 (.slice (some ⟨g0, 0, none⟩) k cap0) k (zs.map el) := fun X => hown2.alloc _
            have hnews : ∀ (X : Value) j u, [X][j]? = some u → (wr.alloc (.cells #[X] 32)).cell? ((⟨wr.heap.size, 0, none⟩ : Addr).add j) = some u := fun X => cell_one wr _ _
            have hone : ∀ u ∈ [el v], u.oneCell' = true := by intro u hu; rw [List.mem_singleton.1 hu]; rfl
            have hne := ne_blocks (hpo2.alloc (.cells #[el v] 32)) (hown1 (el v)) (by decide)
            have HPO2 := Lib.hid hpo2
            have HB2 := Lib.hid hB2
            clear hown2 hpo2 hB2
            go_wp2_with fail
            refine (HFR.out _).mono ?_
            rintro e w2 ⟨rfl, hw⟩
            rw [hw]
            clear hw w2
            go_wp2_with fail
            refine (HBI.out _).mono ?_
            rintro e w2 ⟨rfl, hw⟩
            rw [hw]
            clear hw w2
            go_wp2_with (at_builtin; refine wpList_append_own _ rfl (.tmp 74) (.tmp 76) 22 rfl w.heap.size 32 i0 (.float .f32 0) 1 4 Tryd.underlying22 hi hz0 hz1 hz2 rfl (by decide) _ k (zs.map el) rfl (hown1 _) ⟨wr.heap.size, 0, none⟩ 1 1 [el v] rfl rfl (hnews _) hone (by unfold maxLen; omega) (by omega) (Nat.le_trans hgs2 (by simp)) ?_; intro v3 w3 hown3 hgrow3 hnil3; obtain ⟨g3, cap3, rfl⟩ := Joins.ownsRow_form hown3 (by omega))
            go_roundw
            case rel =>
              refine ⟨k + 1, zs ++ [v], by omega, by go_num, by rw [List.length_append, HZ.out]; rfl, own_els HZ.out hown3, ⟨g3, cap3, rfl⟩, ?_, fun j p hj hp => ?_, ?_⟩
              · exact (HPO2.out.alloc _).kept hgrow3 (.inr (fun h => hne (Option.some.inj (show some gp = some g0 from h))))
              · by_cases hjk : j = k
                · subst hjk
                  rw [HPA.out] at hp
                  obtain rfl := Option.some.inj hp
                  rw [List.getD_eq_getElem?_getD, List.getElem?_append_right (by rw [HZ.out]; exact Nat.le_refl _), HZ.out, Nat.sub_self]
                  exact HV.out
                · have h1 := HRD.out j p (by omega) hp
                  rw [List.getD_eq_getElem?_getD] at h1 ⊢
                  rw [List.getElem?_append_left (by rw [HZ.out]; omega)]
                  exact h1
              · exact Below.grown (HB2.out.alloc hgs2 _) hgrow3 (Nat.le_trans hgs2 (by simp)) (fun r hr => by have hr' : some g0 = some r := hr; cases hr'; exact hg0)
            case measure => simp [intOf]; omega
          · obtain ⟨h1, h2⟩ := hk2 hnb
            subst h1
            subst h2
            clear hk1 hk2
            have hne : ¬ ((NTL.nb acc : Nat) : Int) = (acc : Int) := fun h => hnb (Int.ofNat.inj h)
            obtain ⟨rfl, rfl⟩ := lr_bad HR.out HNO.out HPA.out HV.out
            generalize NTL.nb acc = B at *
            go_wp2_with fail
            refine (HFR.out _).mono ?_
            rintro e w2 ⟨rfl, hw⟩
            rw [hw]
            clear hw w2
            go_wp2_with fail
            refine (HBI.out _).mono ?_
            rintro e w2 ⟨rfl, hw⟩
            rw [hw]
            clear hw w2
            go_wp2
            go_ret2
            exact ⟨_, _, rfl, isL_nil _ _ _ (by unfold maxLen; omega), HBE.out⟩
    · have hkn : k = n := by omega
      obtain ⟨rfl, rfl⟩ := lr_all HR.out HNO.out (by rw [HXL.out]; omega) (by rw [HZ.out, HXL.out]; exact hkn) (fun j p hp => HRD.out j p (by
        have := (List.getElem?_eq_some_iff.1 hp).1
        rw [HXL.out] at this; omega) hp)
      have hwf : ∀ m ∈ zs0, okE m := fun m hm => by
        obtain ⟨j, hj, rfl⟩ := List.getElem_of_mem hm
        have hjn : j < (parts s.data.toList).length := by rw [HXL.out, ← hkn, ← HZ.out]; exact hj
        have h1 := HRD.out j _ (by rw [← HZ.out]; exact hj) (List.getElem?_eq_getElem hjn)
        rw [List.getD_eq_getElem?_getD, List.getElem?_eq_getElem hj] at h1
        exact Hex.ReadsN.ok h1
      have hin : IsL wr (some ⟨g0, 0, none⟩) zs0.length cap0 zs0 := els_of_own (by rw [HZ.out]; exact hown) hwf
      have HIN := Lib.hid hin
      clear hin hown hpo hwf
      go_wp2
      go_ret2
      exact ⟨_, _, by rw [HZ.out]; rfl, HIN.out, hbel⟩
end FList
end Go.Proofs.YtpmnjbgfdhhomaaDoor
