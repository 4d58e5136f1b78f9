/- strconv.ParseUint at base 16, of a text of 8 bytes. -/
import Derived.Test.YtpmnjbgfdhhomabGreatDoorHexV
import Derived.Test.YtpmnjbgfdhhomabGreatDoorShelfP
import Derived.Lib.Strings
import Derived.Lib.Walk
import Derived.Lib.ConvBytes
import Derived.Lib.ParseIntBMem
import Derived.Lib.AtoiErrMem
import Derived.Lib.Hide
import Derived.Laws.Strings3
import Derived.Laws.Closers25
import Derived.Laws.Closers25b
import Derived.BigCall
import Derived.BigGuard
namespace Go.Proofs.YtpmnjbgfdhhomabGreatDoor
set_option linter.unusedSimpArgs false
set_option linter.unusedVariables false
open Go.RowKit
namespace Hex
open NTL

theorem lower (c : Int) (w : World) : Calls Tryz.prog 80 #[.int .u8 c] w fun e w' => e = .returned (.int .u8 (bits .or .u8 c 32)) ∧ w' = w := by
  go_enter Tryz.func80, Tryz.ntmps80
  go_wp2
  go_ret
  exact ⟨rfl, rfl⟩

theorem low_small : ∀ c : Fin 256, 97 ≤ c.val → c.val ≤ 102 → bits .or .u8 (c.val : Int) 32 = c.val := by decide +kernel
theorem low_big : ∀ c : Fin 256, 65 ≤ c.val → c.val ≤ 70 → bits .or .u8 (c.val : Int) 32 = c.val + 32 := by decide +kernel
theorem low_no : ∀ c : Fin 256, ¬ (97 ≤ c.val ∧ c.val ≤ 102) → ¬ (65 ≤ c.val ∧ c.val ≤ 70) → bits .or .u8 (c.val : Int) 32 < 97 ∨ 103 ≤ bits .or .u8 (c.val : Int) 32 := by decide +kernel

def BigA : Int := 4294967296

set_option maxHeartbeats 32000000 in
set_option maxRecDepth 100000 in
theorem parse_in (t : ByteArray) (ht : t.size = 8) (w : World) :
    Calls Tryz.prog 67 #[.string t, .int .i64 16, .int .i64 32] w fun e w' => Below w.heap.size w w' ∧
      ((∃ N : Nat, N < 4294967296 ∧ pv dv 0 t.data.toList = some N ∧ e = .returned (.tuple #[.int .u64 N, .nilIface])) ∨
       (pv dv 0 t.data.toList = none ∧ e = .returned (.tuple #[.int .u64 0, .iface 112 (.int .i64 2)]))) := by
  have hemp : t.toList.isEmpty = false := by
    rw [← decide_eq_emptyBytes]
    exact decide_eq_false (fun h => by rw [h] at ht; exact absurd ht (by decide))
  have hcv := Lib.run_convert_string_bytes (P := Tryz.prog) w 9 22 5 t (u := .string) Tryz.underlying9 Tryz.underlying22 Tryz.underlying5
  have hB : ∀ j, j < t.size → (Lib.bytesWorld w 5 t).cell? ⟨w.heap.size, j, none⟩ = some (.int .u8 (t.data.toList.getD j 0).toNat) := fun j hj => Lib.bytesWorld_cell w 5 t j hj
  have hbel := Lib.bytesWorld_below w 5 t
  obtain ⟨W1, hW1⟩ : ∃ W1, W1 = Lib.bytesWorld w 5 t := ⟨_, rfl⟩
  rw [← hW1] at hcv hB hbel
  clear hW1
  have HBL := Lib.hid hbel
  clear hbel
  obtain ⟨bs, hL⟩ : ∃ bs, bs = t.data.toList := ⟨_, rfl⟩
  have hLn : bs.length = t.size := by rw [hL, Lib.size_eq]
  rw [← hL] at hB ⊢
  clear hL
  have hmv : IntKind.u64.wrap (IntKind.u64.wrap 4294967296 - 1) = 4294967295 := by
    rw [IntKind.wrap_u64, IntKind.wrap_u64]
    decide
  go_enter Tryz.func67, Tryz.ntmps67
  go_wp2
  go_loop [12, 13, 101] (fun vu vn vi => ∃ (k acc : Nat) (a : Int), vu = .bool false ∧ vn = .int .u64 a ∧ vi = .int .i64 k ∧ k ≤ t.size ∧ Hid (a = (acc : Int) ∧ acc < 16 ^ k ∧ pv dv 0 bs = pv dv acc (bs.drop k)))
    (fun _ _ vi => t.size - (intOf vi).toNat)
  case atStart => exact ⟨0, 0, 0, rfl, rfl, rfl, by omega, Lib.hid ⟨rfl, by decide, rfl⟩⟩
  case round =>
    obtain ⟨k, acc, a, rfl, rfl, rfl, hk, hh⟩ := hrel
    obtain ⟨ha, hacc, hdec⟩ := hh.out
    clear hh
    have hpw : 16 ^ k ≤ 16 ^ 8 := Nat.pow_le_pow_right (by omega) (by omega)
    have e8 : (16 : Nat) ^ 8 = 4294967296 := by decide
    rw [e8] at hpw
    have a0 : 0 ≤ a := by omega
    have a1 : a ≤ 4294967295 := by omega
    by_cases hkn : k < t.size
    · have hpw7 : 16 ^ k ≤ 16 ^ 7 := Nat.pow_le_pow_right (by omega) (by omega)
      have e7 : (16 : Nat) ^ 7 = 268435456 := by decide
      rw [e7] at hpw7
      have hps : 16 ^ (k + 1) = 16 * 16 ^ k := by rw [Nat.pow_succ, Nat.mul_comm]
      have a2 : a ≤ 268435455 := by omega
      have hc := hB k hkn
      have hdrop : bs.drop k = bs[k]'(by omega) :: bs.drop (k + 1) := List.drop_eq_getElem_cons (by omega)
      have hget : bs.getD k 0 = bs[k]'(by omega) := by simp [List.getD, List.getElem?_eq_getElem (show k < bs.length by omega)]
      rw [hdrop] at hdec
      rw [hget] at hc
      generalize bs[k]'(by omega) = c at hc hdec
      have hc256 : c.toNat < 256 := c.toNat_lt
      have HX1 := Lib.hid (low_small ⟨c.toNat, hc256⟩)
      have HX2 := Lib.hid (low_big ⟨c.toNat, hc256⟩)
      have HX3 := Lib.hid (low_no ⟨c.toNat, hc256⟩)
      clear hB hdrop hget
      by_cases hdig : 48 ≤ c.toNat ∧ c.toNat ≤ 57
      · have hd : dv c = some (c.toNat - 48) := by unfold dv; rw [if_pos hdig]
        obtain ⟨hd0, hd1⟩ := hdig
        rw [pv, hd] at hdec
        have HN : Hid (a * 16 + ((c.toNat : Int) - 48) = ((16 * acc + (c.toNat - 48) : Nat) : Int) ∧ 16 * acc + (c.toNat - 48) < 16 ^ (k + 1) ∧ pv dv 0 bs = pv dv (16 * acc + (c.toNat - 48)) (bs.drop (k + 1))) := Lib.hid ⟨by omega, by omega, hdec⟩
        have iov : a * 16 + ((c.toNat : Int) - 48) ≤ 4294967295 := by omega
        clear hacc hd hdec ha hpw hpw7 hps e8 e7
        go_wp2
        refine ⟨⟨k + 1, 16 * acc + (c.toNat - 48), a * 16 + ((c.toNat : Int) - 48), rfl, (by first | rfl | (congr 1; omega)), (by first | rfl | (congr 1; omega)), by omega, HN⟩, by simp [intOf]; omega⟩
      by_cases hlo : 97 ≤ c.toNat ∧ c.toNat ≤ 102
      · have hd : dv c = some (c.toNat - 87) := by unfold dv; rw [if_neg hdig, if_pos hlo]
        have hv := HX1.out hlo.1 hlo.2
        simp only at hv
        obtain ⟨hd0, hd1⟩ := hlo
        rw [pv, hd] at hdec
        have HN : Hid (a * 16 + ((c.toNat : Int) - 97 + 10) = ((16 * acc + (c.toNat - 87) : Nat) : Int) ∧ 16 * acc + (c.toNat - 87) < 16 ^ (k + 1) ∧ pv dv 0 bs = pv dv (16 * acc + (c.toNat - 87)) (bs.drop (k + 1))) := Lib.hid ⟨by omega, by omega, hdec⟩
        have iov : a * 16 + ((c.toNat : Int) - 97 + 10) ≤ 4294967295 := by omega
        have hnd : ¬ ((c.toNat : Int) ≤ 57) := by omega
        clear hacc hd hdec ha hpw hpw7 hps e8 e7 hdig
        go_wp2_with (go_at_call 80; refine (lower _ _).mono ?_; rintro e w' ⟨rfl, rfl⟩; rw [hv])
        refine ⟨⟨k + 1, 16 * acc + (c.toNat - 87), a * 16 + ((c.toNat : Int) - 97 + 10), rfl, (by first | rfl | (congr 1; omega)), (by first | rfl | (congr 1; omega)), by omega, HN⟩, by simp [intOf]; omega⟩
      by_cases hup : 65 ≤ c.toNat ∧ c.toNat ≤ 70
      · have hd : dv c = some (c.toNat - 55) := by unfold dv; rw [if_neg hdig, if_neg hlo, if_pos hup]
        have hv := HX2.out hup.1 hup.2
        simp only at hv
        obtain ⟨hd0, hd1⟩ := hup
        rw [pv, hd] at hdec
        have HN : Hid (a * 16 + ((c.toNat : Int) + 32 - 97 + 10) = ((16 * acc + (c.toNat - 55) : Nat) : Int) ∧ 16 * acc + (c.toNat - 55) < 16 ^ (k + 1) ∧ pv dv 0 bs = pv dv (16 * acc + (c.toNat - 55)) (bs.drop (k + 1))) := Lib.hid ⟨by omega, by omega, hdec⟩
        have iov : a * 16 + ((c.toNat : Int) + 32 - 97 + 10) ≤ 4294967295 := by omega
        have hnd : ¬ ((c.toNat : Int) ≤ 57) := by omega
        clear hacc hd hdec ha hpw hpw7 hps e8 e7 hdig hlo
        go_wp2_with (go_at_call 80; refine (lower _ _).mono ?_; rintro e w' ⟨rfl, rfl⟩; rw [hv])
        refine ⟨⟨k + 1, 16 * acc + (c.toNat - 55), a * 16 + ((c.toNat : Int) + 32 - 97 + 10), rfl, (by first | rfl | (congr 1; omega)), (by first | rfl | (congr 1; omega)), by omega, HN⟩, by simp [intOf]; omega⟩
      · have hd : dv c = none := by unfold dv; rw [if_neg hdig, if_neg hlo, if_neg hup]
        have hv := HX3.out hlo hup
        simp only at hv
        rw [pv, hd] at hdec
        have HD := Lib.hid hdec
        clear hdec hacc ha hd hpw hpw7 hps e8 e7 hlo hup
        have hv0 := bits_lo_u8 .or (c.toNat : Int) 32
        have hv1 := bits_hi_u8 .or (c.toNat : Int) 32
        have hu0 := bits_lo_u8 .or 95 32
        have hu1 := bits_hi_u8 .or 95 32
        rcases hv with hv | hv
        all_goals go_wp2_with (go_at_call 80; refine (lower _ _).mono ?_; rintro e w' ⟨rfl, rfl⟩)
        all_goals go_ret2
        all_goals exact ⟨HBL.out, .inr ⟨HD.out, rfl⟩⟩
    · have hkk : k = t.size := by omega
      subst hkk
      have hF : pv dv acc (bs.drop t.size) = some acc := by rw [List.drop_eq_nil_of_le (by omega)]; rfl
      rw [hF] at hdec
      subst ha
      have HD := Lib.hid hdec
      have hlt : acc < 4294967296 := by omega
      clear hacc hF a0 a1 hpw e8 hdec
      go_wp2
      go_ret2
      exact ⟨HBL.out, .inl ⟨acc, hlt, HD.out, rfl⟩⟩

/-- What reading a number asks of the memory: the errors as the library's text lays them. -/
def Errs (w : World) : Prop := ∃ te pe, w.cell? ⟨3, 0, none⟩ = some (.iface te pe)

theorem Errs.on {w w' : World} (h : Errs w) (hb : Below w.heap.size w w') : Errs w' := by
  obtain ⟨te, pe, h⟩ := h
  exact ⟨te, pe, by rw [hb.cell (block_lt_of_cell h)]; exact h⟩

set_option maxRecDepth 20000 in
theorem parse (t : ByteArray) (ht : t.size = 8) (w : World) (he : Errs w) :
    Calls Tryz.prog 54 #[.string t, .int .i64 16, .int .i64 32] w fun e w' => Below w.heap.size w w' ∧
      ((∃ N : Nat, N < 4294967296 ∧ pv dv 0 t.data.toList = some N ∧ e = .returned (.tuple #[.int .u64 N, .nilIface])) ∨
       (pv dv 0 t.data.toList = none ∧ ∃ u p, e = .returned (.tuple #[.int .u64 u, .iface 115 (.pointer (some p))]))) := by
  have HI := Lib.hid (parse_in t ht w)
  obtain ⟨te, pe, hv⟩ := he
  have HV := Lib.hid hv
  clear hv
  go_enter Tryz.func54, Tryz.ntmps54
  go_wp2_with fail
  refine HI.out.mono ?_
  rintro e w1 ⟨hb1, ⟨N, hN, hp, rfl⟩ | ⟨hp, rfl⟩⟩
  · have HP := Lib.hid hp
    clear hp
    go_wp2
    go_ret2
    exact ⟨hb1, .inl ⟨N, hN, HP.out, rfl⟩⟩
  · have HP := Lib.hid hp
    clear hp
    have hz1 := hb1.size
    have hv1 : w1.cell? ⟨3, 0, none⟩ = some (.iface te pe) := by rw [hb1.cell (block_lt_of_cell HV.out)]; exact HV.out
    have HT := Lib.hid (Tryz.strconv_toError_syntax ⟨#[80, 97, 114, 115, 101, 85, 105, 110, 116]⟩ t 16 32 _ w1 (by omega) hv1 (.inr ⟨_, _, rfl⟩))
    clear hv1
    go_wp2_with fail
    refine HT.out.mono ?_
    rintro e w2 ⟨N, rfl, _, _, hb2⟩
    go_wp2
    go_ret2
    exact ⟨hb1.trans (hb2.mono hz1), .inr ⟨HP.out, _, _, rfl⟩⟩
end Hex
end Go.Proofs.YtpmnjbgfdhhomabGreatDoor
