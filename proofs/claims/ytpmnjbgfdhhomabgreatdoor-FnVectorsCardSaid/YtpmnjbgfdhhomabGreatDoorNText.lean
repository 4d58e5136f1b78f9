/- The program's text of a number. -/
import Derived.Test.YtpmnjbgfdhhomabGreatDoorHexN
import Derived.Test.YtpmnjbgfdhhomabGreatDoorShelfR
import Derived.Lib.Strings
namespace Go.Proofs.YtpmnjbgfdhhomabGreatDoor
set_option linter.unusedSimpArgs false
set_option linter.unusedVariables false
open Go.RowKit
namespace Hex

theorem dig_high {N j : Nat} (h : N / 16 ^ j = 0) : dig N j = 48 := by
  rw [dig, h]; rfl

theorem high {N k j : Nat} (h : N / 16 ^ k < 16) (hj : k < j) : N / 16 ^ j = 0 := by
  obtain ⟨d, rfl⟩ : ∃ d, j = k + 1 + d := ⟨j - k - 1, by omega⟩
  rw [Nat.pow_add, ← Nat.div_div_eq_div_mul, Nat.pow_succ, ← Nat.div_div_eq_div_mul, Nat.div_eq_of_lt h, Nat.zero_div]

theorem range_map_add {α : Type} (f : Nat → α) (a b : Nat) : (List.range (a + b)).map f = (List.range a).map f ++ (List.range b).map fun t => f (a + t) := by
  rw [List.range_add, List.map_append, List.map_map]; rfl

/-- Zeros before the numeral make eight digits. -/
theorem pad {N k : Nat} (h : N / 16 ^ k < 16) (hk : k ≤ 7) : List.replicate (7 - k) 48 ++ text N k = hex8 N := by
  have e := range_map_add (fun t => dig N (7 - t)) (7 - k) (k + 1)
  rw [show 7 - k + (k + 1) = 7 + 1 by omega] at e
  unfold hex8 text
  rw [e]
  congr 1
  · refine List.ext_getElem (by simp) fun t h1 h2 => ?_
    simp only [List.getElem_replicate, List.getElem_map, List.getElem_range]
    rw [dig_high (high h (by simp at h1; omega))]
  · refine List.map_congr_left fun t ht => ?_
    rw [show 7 - (7 - k + t) = k - t by omega]

theorem small {N k : Nat} (hN : N < 4294967296) (h : k = 0 ∨ 1 ≤ N / 16 ^ k) : k ≤ 7 := by
  rcases h with rfl | h
  · omega
  · rcases Nat.lt_or_ge k 8 with h1 | h1
    · omega
    · have h2 : 16 ^ 8 ≤ 16 ^ k := Nat.pow_le_pow_right (by omega) h1
      have h3 : N / 16 ^ k = 0 := Nat.div_eq_of_lt (Nat.lt_of_lt_of_le hN h2)
      omega

theorem rep (n : Nat) : Lib.repeatL [48] n = List.replicate n 48 := by
  induction n with
  | zero => rfl
  | succ n ih => rw [Lib.repeatL, ih, List.replicate_succ]; rfl

theorem str_eq {S : ByteArray} {l : List UInt8} (h : S.data.toList = l) : S = ⟨l.toArray⟩ := by
  subst h; cases S; simp

set_option maxRecDepth 20000 in
theorem impl_text (x N : Nat) (hN : N < 4294967296) (w : World) (h64 : w.cell? ⟨6, 15, none⟩ = some (.int .u8 4)) (hc : Calls Tryz.prog 43 #[.float .f32 x] w fun e w' => e = .returned (.int .i64 N) ∧ w' = w) :
    Calls Tryz.prog 40 #[.float .f32 x] w fun e w' => e = .returned (.string ⟨(hex8 N).toArray⟩) ∧ Below w.heap.size w w' := by
  have HC := Lib.hid hc
  have HF := Lib.hid (format N (by omega) w h64)
  have HR := Lib.hid Tryz.strings_Repeat
  clear hc h64
  go_enter Tryz.func40, Tryz.ntmps40
  go_wp2_with fail
  refine HC.out.mono ?_
  rintro e w1 ⟨rfl, hw⟩
  rw [hw]
  clear hw
  go_wp2_with fail
  refine HF.out.mono ?_
  rintro e w2 ⟨k, _, h1, h2, rfl, hb2⟩
  have hk := small hN h2
  have HP := Lib.hid (pad h1 hk)
  have hz2 := hb2.size
  clear h1 h2
  have hsz : (⟨(text N k).toArray⟩ : ByteArray).size = k + 1 := by
    show (text N k).toArray.size = _
    rw [List.size_toArray, text_len]
  go_wp2_with fail
  rw [show (8 - ((k : Int) + 1)) = ((7 - k : Nat) : Int) by omega]
  refine (HR.out ⟨#[48]⟩ (7 - k) w2 (by omega) (by rw [show (⟨#[48]⟩ : ByteArray).size = 1 from rfl]; omega)).mono ?_
  rintro e w3 ⟨rfl, hb3⟩
  have hrl : (Lib.repeatL (⟨#[48]⟩ : ByteArray).data.toList (7 - k)) = List.replicate (7 - k) 48 := rep _
  rw [hrl]
  have hrs : (⟨(List.replicate (7 - k) (48 : UInt8)).toArray⟩ : ByteArray).size = 7 - k := by
    show (List.replicate (7 - k) (48 : UInt8)).toArray.size = _
    rw [List.size_toArray, List.length_replicate]
  obtain ⟨A, hA⟩ : ∃ A : ByteArray, A = ⟨(List.replicate (7 - k) (48 : UInt8)).toArray⟩ := ⟨_, rfl⟩
  obtain ⟨B, hB⟩ : ∃ B : ByteArray, B = ⟨(text N k).toArray⟩ := ⟨_, rfl⟩
  rw [← hA] at hrs ⊢
  rw [← hB] at hsz ⊢
  have HA := Lib.hid hA
  have HBB := Lib.hid hB
  clear hA hB hrl
  go_wp2
  go_ret
  refine ⟨?_, hb2.trans (hb3.mono hz2)⟩
  have he : A ++ B = ⟨(hex8 N).toArray⟩ := str_eq (by rw [Joins.data_append, show A = _ from HA, show B = _ from HBB]; exact HP.out)
  rw [he]
  rfl
end Hex
end Go.Proofs.YtpmnjbgfdhhomabGreatDoor
