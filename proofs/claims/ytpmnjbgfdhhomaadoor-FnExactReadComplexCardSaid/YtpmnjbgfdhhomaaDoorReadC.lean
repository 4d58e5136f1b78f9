/- Reading a complex number: the program's function, the model's digits. -/
import Derived.Test.YtpmnjbgfdhhomaaDoorReadN
import Derived.Lib.Strings
import Derived.LoopTactic
namespace Go.Proofs.YtpmnjbgfdhhomaaDoor
set_option linter.unusedSimpArgs false
set_option linter.unusedVariables false
open Go.RowKit
namespace Hex
open NTL

set_option maxRecDepth 20000 in
set_option maxHeartbeats 1600000 in
theorem spec_digits (s : ByteArray) (h8 : s.size = 8) (v : Nat) (b : Bool) (hr : ReadsN s.data.toList v b) (w : World) :
    Calls Tryd.prog 53 #[.string s] w fun e w' => e = .returned (.tuple #[.float .f32 v, .bool b]) ∧ w' = w := by
  have hsl : s.data.toList.length = s.size := Array.length_toList
  have HV := Lib.hid hr
  have HX8 := Lib.hid hsl
  clear hr hsl
  go_enter Tryd.func53, Tryd.ntmps53
  go_wp2
  go_loop [4, 5, 6] (fun vn vk vd => ∃ (j acc : Nat), j ≤ 8 ∧ vk = .int .i64 j ∧ vn = .int .i64 acc ∧ Hid (acc < 16 ^ j ∧ pv lv 0 s.data.toList = pv lv acc (s.data.toList.drop j))) (fun _ vk _ => 8 - (intOf vk).toNat)
  case atStart => exact ⟨0, 0, by omega, rfl, rfl, Lib.hid ⟨by decide, rfl⟩⟩
  case round =>
    obtain ⟨j, acc, hj, rfl, rfl, hh⟩ := hrel
    obtain ⟨hacc, hdec⟩ := hh.out
    clear hh
    by_cases hlt8 : j < 8
    · have hjx : j < s.size := by omega
      have hpw7 : 16 ^ j ≤ 16 ^ 7 := Nat.pow_le_pow_right (by omega) (by omega)
      have e7 : (16 : Nat) ^ 7 = 268435456 := by decide
      rw [e7] at hpw7
      have hps : 16 ^ (j + 1) = 16 * 16 ^ j := by rw [Nat.pow_succ, Nat.mul_comm]
      have ha : acc ≤ 268435455 := by omega
      have hdrop : s.data.toList.drop j = s[j] :: s.data.toList.drop (j + 1) := by
        rw [List.drop_eq_getElem_cons (by rw [HX8.out]; exact hjx)]; rfl
      rw [hdrop, pv] at hdec
      have hb256 : s[j].toNat < 256 := s[j].toNat_lt
      by_cases hdig : 48 ≤ s[j].toNat ∧ s[j].toNat ≤ 57
      · have hd : lv s[j] = some (s[j].toNat - 48) := by unfold lv; rw [if_pos hdig]
        rw [hd] at hdec
        obtain ⟨d1, d2⟩ := hdig
        have HN : Hid (16 * acc + (s[j].toNat - 48) < 16 ^ (j + 1) ∧ pv lv 0 s.data.toList = pv lv (16 * acc + (s[j].toNat - 48)) (s.data.toList.drop (j + 1))) := Lib.hid ⟨by omega, hdec⟩
        have t1 : decide ((48 : Int) ≤ (s[j].toNat : Int)) = true := by simp; omega
        have t2 : decide ((s[j].toNat : Int) ≤ 57) = true := by simp; omega
        have t3 : decide ((97 : Int) ≤ (s[j].toNat : Int)) = false := by simp; omega
        clear hdec hd hdrop hpw7 e7 hps hacc
        go_wp2
        go_round
        case rel => exact ⟨j + 1, _, by omega, by go_num, by first | rfl | go_num | (congr 1; omega), HN⟩
        case measure => simp [intOf]; omega
      by_cases hlo : 97 ≤ s[j].toNat ∧ s[j].toNat ≤ 102
      · have hd : lv s[j] = some (s[j].toNat - 87) := by unfold lv; rw [if_neg hdig, if_pos hlo]
        rw [hd] at hdec
        obtain ⟨d1, d2⟩ := hlo
        have HN : Hid (16 * acc + (s[j].toNat - 87) < 16 ^ (j + 1) ∧ pv lv 0 s.data.toList = pv lv (16 * acc + (s[j].toNat - 87)) (s.data.toList.drop (j + 1))) := Lib.hid ⟨by omega, hdec⟩
        have t1 : decide ((48 : Int) ≤ (s[j].toNat : Int)) = true := by simp; omega
        have t2 : decide ((s[j].toNat : Int) ≤ 57) = false := by simp; omega
        have t3 : decide ((97 : Int) ≤ (s[j].toNat : Int)) = true := by simp; omega
        have t4 : decide ((s[j].toNat : Int) ≤ 102) = true := by simp; omega
        clear hdec hd hdrop hpw7 e7 hps hacc hdig
        go_wp2
        go_round
        case rel => exact ⟨j + 1, _, by omega, by go_num, by first | rfl | go_num | (congr 1; omega), HN⟩
        case measure => simp [intOf]; omega
      · have hd : lv s[j] = none := by unfold lv; rw [if_neg hdig, if_neg hlo]
        rw [hd] at hdec
        obtain ⟨rfl, rfl⟩ := HV.out.lacks hdec
        clear hdec hd hdrop hpw7 e7 hps hacc
        have hc3 : s[j].toNat < 48 ∨ (57 < s[j].toNat ∧ s[j].toNat < 97) ∨ 102 < s[j].toNat := by omega
        clear hdig hlo
        rcases hc3 with h | ⟨h, h'⟩ | h
        · have t1 : decide ((48 : Int) ≤ (s[j].toNat : Int)) = false := by simp; omega
          have t3 : decide ((97 : Int) ≤ (s[j].toNat : Int)) = false := by simp; omega
          go_wp2
          go_ret2
          exact ⟨rfl, rfl⟩
        · have t1 : decide ((48 : Int) ≤ (s[j].toNat : Int)) = true := by simp; omega
          have t2 : decide ((s[j].toNat : Int) ≤ 57) = false := by simp; omega
          have t3 : decide ((97 : Int) ≤ (s[j].toNat : Int)) = false := by simp; omega
          go_wp2
          go_ret2
          exact ⟨rfl, rfl⟩
        · have t1 : decide ((48 : Int) ≤ (s[j].toNat : Int)) = true := by simp; omega
          have t2 : decide ((s[j].toNat : Int) ≤ 57) = false := by simp; omega
          have t3 : decide ((97 : Int) ≤ (s[j].toNat : Int)) = true := by simp; omega
          have t4 : decide ((s[j].toNat : Int) ≤ 102) = false := by simp; omega
          go_wp2
          go_ret2
          exact ⟨rfl, rfl⟩
    · obtain rfl : j = 8 := by omega
      have hN : pv lv 0 s.data.toList = some acc := by
        rw [hdec, List.drop_eq_nil_of_le (by rw [HX8.out]; omega)]; rfl
      obtain ⟨hN32, hk1, hk2⟩ := HV.out.gives (by rw [HX8.out]; exact h8) hN
      have HFR := Lib.hid (spec_from acc hN32)
      have HBI := Lib.hid (spec_bits8 acc hN32)
      clear hdec hN hacc hlt8
      by_cases hnb : nb acc = acc
      · obtain ⟨h1, rfl⟩ := hk1 hnb
        subst h1
        clear hk1 hk2
        rw [hnb] at HBI
        go_wp2_with fail
        refine (HFR.out _).mono ?_
        rintro e w2 ⟨rfl, hw⟩
        rw [hw]
        clear hw w2
        go_wp2_with fail
        refine (HBI.out _).mono ?_
        rintro e w2 ⟨rfl, hw⟩
        rw [hw]
        clear hw w2
        go_wp2
        go_ret2
        exact ⟨rfl, rfl⟩
      · obtain ⟨h1, h2⟩ := hk2 hnb
        subst h1
        subst h2
        clear hk1 hk2
        have hne : ¬ ((nb acc : Nat) : Int) = (acc : Int) := fun h => hnb (Int.ofNat.inj h)
        generalize nb acc = B at *
        go_wp2_with fail
        refine (HFR.out _).mono ?_
        rintro e w2 ⟨rfl, hw⟩
        rw [hw]
        clear hw w2
        go_wp2_with fail
        refine (HBI.out _).mono ?_
        rintro e w2 ⟨rfl, hw⟩
        rw [hw]
        clear hw w2
        go_wp2
        go_ret2
        exact ⟨rfl, rfl⟩

theorem half_one (s : ByteArray) (h : s.size = 16) : (s.extract 0 8).data.toList = s.data.toList.take 8 ∧ (s.extract 0 8).size = 8 := by
  refine ⟨by rw [Lib.extract_data]; simp, ?_⟩
  rw [ByteArray.size_extract]; omega

theorem half_two (s : ByteArray) (h : s.size = 16) : (s.extract 8 16).data.toList = s.data.toList.drop 8 ∧ (s.extract 8 16).size = 8 := by
  have hsl : s.data.toList.length = s.size := Array.length_toList
  refine ⟨by rw [Lib.extract_data, List.take_of_length_le (by rw [List.length_drop]; omega)], ?_⟩
  rw [ByteArray.size_extract]; omega

/-- The two halves of a text of one complex number. -/
theorem ReadsC.halves {p : List UInt8} {v : Nat × Nat} {b : Bool} (h : ReadsC p v b) (hl : p.length = 16) : ∃ v1 b1 v2 b2, ReadsN (p.take 8) v1 b1 ∧ ReadsN (p.drop 8) v2 b2 ∧
    ((b1 = true ∧ b2 = true ∧ v = (v1, v2) ∧ b = true) ∨ ((b1 = false ∨ b2 = false) ∧ v = (0, 0) ∧ b = false)) := by
  obtain ⟨v1, b1, h1⟩ := readsN (p.take 8)
  obtain ⟨v2, b2, h2⟩ := readsN (p.drop 8)
  refine ⟨v1, b1, v2, b2, h1, h2, ?_⟩
  rcases h with ⟨hb, k1, k2⟩ | ⟨hb, hv, h | h | h⟩
  · cases b1
    · have := h1.zero; subst this
      exact absurd h1 (fun h => k1.nots h)
    · cases b2
      · have := h2.zero; subst this
        exact absurd h2 (fun h => k2.nots h)
      · exact .inl ⟨rfl, rfl, Prod.ext (k1.one h1) (k2.one h2), hb⟩
  · exact absurd hl h
  · cases b1
    · exact .inr ⟨.inl rfl, hv, hb⟩
    · exact absurd h (fun h => h1.nots h)
  · cases b2
    · exact .inr ⟨.inr rfl, hv, hb⟩
    · exact absurd h (fun h => h2.nots h)

theorem ReadsC.size {p : List UInt8} {v : Nat × Nat} {b : Bool} (h : ReadsC p v b) (hl : p.length ≠ 16) : v = (0, 0) ∧ b = false := by
  rcases h with ⟨_, h1, h2⟩ | ⟨hb, hv, _⟩
  · have e1 := h1.len
    have e2 := h2.len
    rw [List.length_take] at e1
    rw [List.length_drop] at e2
    omega
  · exact ⟨hv, hb⟩

set_option maxRecDepth 20000 in
set_option maxHeartbeats 1600000 in
theorem impl_readcomplex (s : ByteArray) (v : Nat × Nat) (b : Bool) (w : World) (hr : ReadsC s.data.toList v b) (hs : s.size ≤ 1048576) (ht : Tabs w) :
    Calls Tryd.prog 39 #[.string s] w fun e w' => e = .returned (.tuple #[.complex .f32 v.1 v.2, .bool b]) ∧ Below w.heap.size w w' := by
  have hsl : s.data.toList.length = s.size := Array.length_toList
  by_cases h16 : s.size = 16
  · obtain ⟨v1, b1, v2, b2, h1, h2, h3⟩ := hr.halves (by rw [hsl]; exact h16)
    obtain ⟨e1, z1⟩ := half_one s h16
    obtain ⟨e2, z2⟩ := half_two s h16
    rw [← e1] at h1
    rw [← e2] at h2
    have HA := Lib.hid (fun w ht => impl_readnum (s.extract 0 8) v1 b1 w h1 (by omega) ht)
    have HB := Lib.hid (fun w ht => impl_readnum (s.extract 8 16) v2 b2 w h2 (by omega) ht)
    have HT := Lib.hid ht
    have hb8 : (8 : Int) ≤ (s.size : Int) := by omega
    clear hr ht hsl e1 e2 z1 z2 h1 h2
    rcases h3 with ⟨rfl, rfl, rfl, rfl⟩ | ⟨h, rfl, rfl⟩
    · go_enter Tryd.func39, Tryd.ntmps39
      go_wp2_with fail
      refine (HA.out _ HT.out).mono ?_
      rintro e w1 ⟨rfl, hx1⟩
      have hz1 := hx1.size
      go_wp2_with fail
      refine (HB.out _ (HT.out.on hx1)).mono ?_
      rintro e w2 ⟨rfl, hx2⟩
      go_wp2
      go_ret2
      exact ⟨rfl, hx1.trans (hx2.mono hz1)⟩
    · cases b1
      all_goals cases b2
      all_goals (try (exfalso; rcases h with h | h <;> cases h; done))
      all_goals
        go_enter Tryd.func39, Tryd.ntmps39
        go_wp2_with fail
        refine (HA.out _ HT.out).mono ?_
        rintro e w1 ⟨rfl, hx1⟩
        have hz1 := hx1.size
        go_wp2_with fail
        refine (HB.out _ (HT.out.on hx1)).mono ?_
        rintro e w2 ⟨rfl, hx2⟩
        go_wp2
        go_ret2
        exact ⟨rfl, hx1.trans (hx2.mono hz1)⟩
  · obtain ⟨rfl, rfl⟩ := hr.size (by rw [hsl]; exact h16)
    have HR := Lib.hid hr
    have HT := Lib.hid ht
    clear hr ht
    have h16' : ¬ (s.size : Int) = 16 := by omega
    go_enter Tryd.func39, Tryd.ntmps39
    go_wp2
    go_ret2
    exact ⟨rfl, Below.refl _ _⟩
end Hex
end Go.Proofs.YtpmnjbgfdhhomaaDoor
