/- Reading a list of complex numbers: the model's function. -/
import Derived.Test.YtpmnjbgfdhhomaaDoorCList
import Derived.Test.YtpmnjbgfdhhomaaDoorReadC
namespace Go.Proofs.YtpmnjbgfdhhomaaDoor
set_option linter.unusedSimpArgs false
set_option linter.unusedVariables false
open Go.RowKit
namespace CList
open Cut Fl

set_option maxRecDepth 20000 in
set_option maxHeartbeats 1600000 in
theorem spec_numbers (s : ByteArray) (zs0 : List (Nat × Nat)) (b : Bool) (w : World) (hs : s.size ≤ 1048576) (hr : LR s.data.toList zs0 b) :
    Calls Tryd.prog 37 #[.string s] w (RetL zs0 b w) := by
  obtain ⟨i0, hi, hz0, hz1, hz2⟩ := info_parts I_info
  have hsl : s.data.toList.length = s.size := Array.length_toList
  by_cases hno : s.data.toList = none4
  · obtain ⟨rfl, rfl⟩ : zs0 = [] ∧ b = true := by
      rcases hr with ⟨_, h1, h2⟩ | ⟨h, _⟩ | ⟨h, _⟩
      · exact ⟨h1, h2⟩
      · exact absurd hno h
      · exact absurd hno h
    have t1 : (s.toList == [110, 111, 110, 101]) = true := by rw [Hex.byte_list, hno]; rfl
    obtain rfl : s = ⟨#[110, 111, 110, 101]⟩ := by
      cases s with
      | mk d =>
        have : d = #[110, 111, 110, 101] := by rw [← Array.toArray_toList (xs := d)]; exact congrArg List.toArray hno
        rw [this]
    clear hr hsl hno t1
    go_enter Tryd.func37, Tryd.ntmps37
    go_wp2
    go_ret2
    exact ⟨_, _, rfl, isL_nil _ _ _ (by unfold maxLen; omega), (Below.refl _ _).alloc (Nat.le_refl _) _⟩
  have t1 : (s.toList == [110, 111, 110, 101]) = false := by rw [Hex.byte_list]; simpa [none4] using hno
  have HR := Lib.hid hr
  have HNO := Lib.hid hno
  have HC := Lib.hid (fun w => spec_cut s w hs)
  clear hr hno
  go_enter Tryd.func37, Tryd.ntmps37
  go_wp2_with fail
  refine (HC.out _).mono ?_
  rintro e w1 ⟨gp, capp, xs, rfl, hpo, hpx, hb1⟩
  have hB1 : Below w.heap.size w w1 := ((Below.refl _ _).alloc (Nat.le_refl _) _).trans (hb1.mono (by simp))
  have hxl : (parts s.data.toList).length = xs.length := by rw [← hpx, List.length_map]
  have HPX := Lib.hid hpx
  clear hpx
  obtain ⟨n, hn⟩ : ∃ n, n = xs.length := ⟨_, rfl⟩
  rw [← hn] at hpo hxl ⊢
  have HN := Lib.hid hn
  clear hn
  by_cases hbig : 256 < n
  · obtain ⟨rfl, rfl⟩ := lr_many HR.out HNO.out (by rw [hxl]; exact hbig)
    clear hpo
    go_wp2
    go_ret2
    exact ⟨_, _, rfl, isL_nil _ _ _ (by unfold maxLen; omega), hB1⟩
  have hp0 : w1.ownsRow w.heap.size 9 1 (.slice (some ⟨gp, 0, none⟩) n capp) n (xs.map Value.string) := Joins.ownsRow_le hpo (by simp)
  have ho0 : w1.ownsRow w.heap.size 55 1 (.slice (some ⟨w.heap.size, 0, none⟩) 0 0) 0 [] := own_below ⟨rfl, .inr ⟨w.heap.size, 0, #[], rfl, Nat.le_refl _, new_block w _, Nat.le_refl _, by unfold maxLen; omega, rfl, rfl⟩⟩ hb1
  have HP0 := Lib.hid hp0
  have HO0 := Lib.hid ho0
  have HB1 := Lib.hid hB1
  have HXL := Lib.hid hxl
  clear hpo hp0 ho0 hB1 hb1 hxl
  go_wp2
  go_loopw [4, 6, 7, 8, 9, 10] (fun o i u1 u2 u3 u4 wr => ∃ (k : Nat) (zs : List (Nat × Nat)), k ≤ n ∧ i = .int .i64 k ∧ zs.length = k ∧ wr.ownsRow w.heap.size 55 1 o k (zs.map el) ∧ (∃ g cap, o = .slice (some ⟨g, 0, none⟩) k cap) ∧
      wr.ownsRow w.heap.size 9 1 (.slice (some ⟨gp, 0, none⟩) n capp) n (xs.map Value.string) ∧ (∀ (j : Nat) (p : List UInt8), j < k → (parts s.data.toList)[j]? = some p → Hex.ReadsC p (zs.getD j (0, 0)) true) ∧ Below w.heap.size w wr)
    (fun _ i _ _ _ _ _ => n - (intOf i).toNat)
  case atStart => exact ⟨0, [], Nat.zero_le _, rfl, rfl, HO0, ⟨_, _, rfl⟩, HP0, fun j p hj => absurd hj (Nat.not_lt_zero _), HB1⟩
  case round =>
    obtain ⟨k, zs, hk, rfl, hzl, hown, ⟨g0, cap0, rfl⟩, hpo, hrd, hbel⟩ := hrel
    have HRD := Lib.hid hrd
    have HZ := Lib.hid hzl
    clear hrd hzl
    by_cases hlt : k < n
    · have hkx : k < xs.length := by rw [← show n = xs.length from HN]; exact hlt
      have hcell : wr.cell? ⟨gp, k, none⟩ = some (.string xs[k]) := by
        have := hpo.cells rfl k (.string xs[k]) (by rw [List.getElem?_map, List.getElem?_eq_getElem hkx]; rfl)
        rw [Addr.add_lit, Nat.zero_add] at this
        exact this
      have HPA := Lib.hid (part_at HPX hkx)
      have hxs : (xs[k]).size ≤ maxLen := by
        have h1 := parts_le _ _ (List.mem_of_getElem? (show (parts s.data.toList)[k]? = some (xs[k]).data.toList from HPA))
        rw [hsl] at h1
        have h2 : (xs[k]).data.toList.length = (xs[k]).size := Array.length_toList
        unfold maxLen
        omega
      generalize xs[k] = x at *
      obtain ⟨v, bv, hv⟩ := Hex.readsC x.data.toList
      have HV := Lib.hid hv
      have hgs : w.heap.size ≤ wr.heap.size := hbel.size
      have hg0 : w.heap.size ≤ g0 := (hown.lt g0 rfl).1
      have HPO := Lib.hid hpo
      have HOW := Lib.hid hown
      have HBE := Lib.hid hbel
      have hxl8 : x.data.toList.length = x.size := Array.length_toList
      clear hv hxs hpo hown hbel
      by_cases h8 : x.size = 16
      rotate_left
      · have hb0 : v = (0, 0) ∧ bv = false := HV.out.size (by rw [hxl8]; exact h8)
        obtain ⟨rfl, rfl⟩ := hb0
        obtain ⟨rfl, rfl⟩ := lr_bad HR.out HNO.out HPA.out HV.out
        have h8' : ¬ (x.size : Int) = 16 := by omega
        go_wp2
        go_ret2
        exact ⟨_, _, rfl, isL_nil _ _ _ (by unfold maxLen; omega), HBE.out⟩
      obtain ⟨v1, b1, v2, b2, h1, h2, h3⟩ := HV.out.halves (by rw [hxl8]; exact h8)
      obtain ⟨e1, z1⟩ := Hex.half_one x h8
      obtain ⟨e2, z2⟩ := Hex.half_two x h8
      rw [← e1] at h1
      rw [← e2] at h2
      have HA := Lib.hid (fun w => Hex.spec_digits (x.extract 0 8) z1 v1 b1 h1 w)
      have HB := Lib.hid (fun w => Hex.spec_digits (x.extract 8 16) z2 v2 b2 h2 w)
      have hb8 : (8 : Int) ≤ (x.size : Int) := by omega
      clear hxl8 e1 e2 z1 z2 h1 h2
      rcases h3 with ⟨rfl, rfl, rfl, rfl⟩ | ⟨h, rfl, rfl⟩
      rotate_left
      · obtain ⟨rfl, rfl⟩ := lr_bad HR.out HNO.out HPA.out HV.out
        cases b1
        all_goals cases b2
        all_goals (try (exfalso; rcases h with h | h <;> cases h; done))
        all_goals
          go_wp2_with fail
          refine (HA.out _).mono ?_
          rintro e w2 ⟨rfl, hw⟩
          rw [hw]
          clear hw w2
          go_wp2_with fail
          refine (HB.out _).mono ?_
          rintro e w2 ⟨rfl, hw⟩
          rw [hw]
          clear hw w2
          go_wp2
          go_ret2
          exact ⟨_, _, rfl, isL_nil _ _ _ (by unfold maxLen; omega), HBE.out⟩
      · have hv0 : el (v1, v2) = .complex .f32 v1 v2 := rfl
        obtain ⟨v, hvv⟩ : ∃ v, v = (v1, v2) := ⟨_, rfl⟩
        rw [← hvv] at HV
        have hgs2 : w.heap.size ≤ wr.heap.size := hgs
        have hB2 : Below w.heap.size w wr := HBE.out
        have hown2 := HOW.out
        have hpo2 := HPO.out
        have hown1 : ∀ X, (wr.alloc (.cells #[X] 55)).ownsRow w.heap.size 55 1 (.slice (some ⟨g0, 0, none⟩) k cap0) k (zs.map el) := fun X => hown2.alloc _
        have hnews : ∀ (X : Value) j u, [X][j]? = some u → (wr.alloc (.cells #[X] 55)).cell? ((⟨wr.heap.size, 0, none⟩ : Addr).add j) = some u := fun X => cell_one wr _ _
        have hone : ∀ u ∈ [el v], u.oneCell' = true := by intro u hu; rw [List.mem_singleton.1 hu]; rfl
        have hne := ne_blocks (hpo2.alloc (.cells #[el v] 55)) (hown1 (el v)) (by decide)
        have HPO2 := Lib.hid hpo2
        have HB2 := Lib.hid hB2
        clear hown2 hpo2 hB2
        have hev : el v = .complex .f32 v1 v2 := by rw [hvv]; rfl
        have hnews' := hnews (el v)
        have hown1' := hown1 (el v)
        rw [hev] at hnews' hown1' hone
        go_wp2_with fail
        refine (HA.out _).mono ?_
        rintro e w2 ⟨rfl, hw⟩
        rw [hw]
        clear hw w2
        go_wp2_with fail
        refine (HB.out _).mono ?_
        rintro e w2 ⟨rfl, hw⟩
        rw [hw]
        clear hw w2
        go_wp2_with (at_builtin; refine wpList_append_own _ rfl (.tmp 56) (.tmp 60) 42 rfl w.heap.size 55 i0 (.complex .f32 0 0) 1 8 Tryd.underlying42 hi hz0 hz1 hz2 rfl (by decide) _ k (zs.map el) rfl hown1' ⟨wr.heap.size, 0, none⟩ 1 1 [.complex .f32 v1 v2] rfl rfl hnews' hone (by unfold maxLen; omega) (by omega) (Nat.le_trans hgs2 (by simp)) ?_; intro v3 w3 hown3 hgrow3 hnil3; obtain ⟨g3, cap3, rfl⟩ := Joins.ownsRow_form hown3 (by omega))
        rw [← hev] at hown3
        go_roundw
        case rel =>
          refine ⟨k + 1, zs ++ [v], by omega, by go_num, by rw [List.length_append, HZ.out]; rfl, own_els HZ.out hown3, ⟨g3, cap3, rfl⟩, ?_, fun j p hj hp => ?_, ?_⟩
          · exact (HPO2.out.alloc _).kept hgrow3 (.inr (fun h => hne (Option.some.inj (show some gp = some g0 from h))))
          · by_cases hjk : j = k
            · subst hjk
              rw [HPA.out] at hp
              obtain rfl := Option.some.inj hp
              rw [List.getD_eq_getElem?_getD, List.getElem?_append_right (by rw [HZ.out]; exact Nat.le_refl _), HZ.out, Nat.sub_self]
              exact HV.out
            · have h1 := HRD.out j p (by omega) hp
              rw [List.getD_eq_getElem?_getD] at h1 ⊢
              rw [List.getElem?_append_left (by rw [HZ.out]; omega)]
              exact h1
          · exact Below.grown (HB2.out.alloc hgs2 _) hgrow3 (Nat.le_trans hgs2 (by simp)) (fun r hr => by have hr' : some g0 = some r := hr; cases hr'; exact hg0)
        case measure => simp [intOf]; omega
    · have hkn : k = n := by omega
      obtain ⟨rfl, rfl⟩ := lr_all HR.out HNO.out (by rw [HXL.out]; omega) (by rw [HZ.out, HXL.out]; exact hkn) (fun j p hp => HRD.out j p (by
        have := (List.getElem?_eq_some_iff.1 hp).1
        rw [HXL.out] at this; omega) hp)
      have hwf : ∀ m ∈ zs0, okE m := fun m hm => by
        obtain ⟨j, hj, rfl⟩ := List.getElem_of_mem hm
        have hjn : j < (parts s.data.toList).length := by rw [HXL.out, ← hkn, ← HZ.out]; exact hj
        have h1 := HRD.out j _ (by rw [← HZ.out]; exact hj) (List.getElem?_eq_getElem hjn)
        rw [List.getD_eq_getElem?_getD, List.getElem?_eq_getElem hj] at h1
        exact Hex.ReadsC.ok h1
      have hin : IsL wr (some ⟨g0, 0, none⟩) zs0.length cap0 zs0 := els_of_own (by rw [HZ.out]; exact hown) hwf
      have HIN := Lib.hid hin
      clear hin hown hpo hwf
      go_wp2
      go_ret2
      exact ⟨_, _, by rw [HZ.out]; rfl, HIN.out, hbel⟩
end CList
end Go.Proofs.YtpmnjbgfdhhomaaDoor
