/- Names and check numbers: loops over the bytes of a text. -/
import Derived.Test.YtfcpkjgnkkcchacRows
import Derived.Test.YtfcpkjgnkkcchacRet
import Derived.LoopTactic
namespace Go.Proofs.Ytfcpkjgnkkcchac
set_option linter.unusedSimpArgs false
set_option linter.unusedVariables false
open Go.RowKit
namespace Text
open Fl

/-- The byte is a letter. -/
def Letter (s : ByteArray) (j : Nat) : Prop := ∀ h : j < s.size, 97 ≤ s[j].toNat ∧ s[j].toNat ≤ 122

def NameP (s : ByteArray) : Prop := 1 ≤ s.size ∧ s.size ≤ 8 ∧ ∀ j, j < s.size → Letter s j

theorem not_name {s : ByteArray} {k : Nat} {b : Bool} (hb : b = true ↔ NameP s) (hk : k < s.size) (h : s[k].toNat < 97 ∨ 122 < s[k].toNat) : b = false := by
  cases b with
  | false => rfl
  | true =>
    have := (hb.1 rfl).2.2 k hk hk
    omega

set_option maxHeartbeats 800000 in
theorem spec_name (s : ByteArray) (b : Bool) (w : World) (hs : s.size ≤ maxLen) (hb : b = true ↔ NameP s) :
    Calls Try.prog 7 #[.string s] w (RetD (.bool b) w) := by
  unfold maxLen at hs
  have HB := Lib.hid hb; clear hb
  go_enter Try.func7, Try.ntmps7
  go_wp2
  go_loop [3] (fun i => ∃ k : Nat, k ≤ s.size ∧ i = .int .i64 k ∧ ∀ j, j < k → Letter s j) (fun i => s.size - (intOf i).toNat)
  case atStart => exact ⟨0, Nat.zero_le _, rfl, fun j hj => absurd hj (Nat.not_lt_zero _)⟩
  case round =>
    obtain ⟨k, hk, rfl, hd⟩ := hrel
    have HD := Lib.hid hd; clear hd
    by_cases hlt : k < s.size
    · by_cases h1 : s[k].toNat < 97
      · have hb := not_name HB.out hlt (Or.inl h1)
        subst hb
        have t1 : ((s[k].toNat : Int) < 97) := by omega
        go_wp2
        go_ret
        exact ⟨rfl, Below.refl _ _⟩
      · by_cases h2 : 122 < s[k].toNat
        · have hb := not_name HB.out hlt (Or.inr h2)
          subst hb
          have t1 : ¬ ((s[k].toNat : Int) < 97) := by omega
          have t2 : (122 : Int) < (s[k].toNat : Int) := by omega
          go_wp2
          go_ret
          exact ⟨rfl, Below.refl _ _⟩
        · have t1 : ¬ ((s[k].toNat : Int) < 97) := by omega
          have t2 : ¬ (122 : Int) < (s[k].toNat : Int) := by omega
          go_wp2
          go_round
          case rel =>
            refine ⟨k + 1, by omega, by go_num, fun j hj => ?_⟩
            by_cases hjk : j = k
            · subst hjk; exact fun _ => by omega
            · exact HD.out j (by omega)
          case measure => simp [intOf]; omega
    · have hkl : k = s.size := by omega
      have HK := Lib.hid hkl; clear hkl
      have hbb : b = (decide ((1 : Int) ≤ (s.size : Int)) && decide ((s.size : Int) ≤ 8)) := by
        rw [Bool.eq_iff_iff, HB.out]
        unfold NameP
        constructor
        · rintro ⟨a, c, _⟩; simp; omega
        · intro h; simp at h; exact ⟨by omega, by omega, fun j hj => HD.out j (by rw [HK.out]; exact hj)⟩
      by_cases h1 : (1 : Int) ≤ (s.size : Int)
      · have t1 : decide ((1 : Int) ≤ (s.size : Int)) = true := by simpa using h1
        rw [t1, Bool.true_and] at hbb
        have HBB := Lib.hid hbb; clear hbb
        go_wp2
        go_ret
        exact ⟨by rw [HBB.out] <;> rfl, Below.refl _ _⟩
      · have t1 : decide ((1 : Int) ≤ (s.size : Int)) = false := by simpa using h1
        rw [t1, Bool.false_and] at hbb
        have HBB := Lib.hid hbb; clear hbb
        go_wp2
        go_ret
        exact ⟨by rw [HBB.out] <;> rfl, Below.refl _ _⟩

set_option maxHeartbeats 800000 in
theorem impl_name (s : ByteArray) (b : Bool) (w : World) (hs : s.size ≤ maxLen) (hb : b = true ↔ NameP s) :
    Calls Try.prog 8 #[.string s] w (RetD (.bool b) w) := by
  unfold maxLen at hs
  have HB := Lib.hid hb; clear hb
  by_cases hsz : 1 ≤ s.size ∧ s.size ≤ 8
  · obtain ⟨z1, z2⟩ := hsz
    have t1 : ¬ (s.size : Int) < 1 := by omega
    have t2 : ¬ (8 : Int) < (s.size : Int) := by omega
    go_enter Try.func8, Try.ntmps8
    go_wp2
    go_loop [14] (fun i => ∃ k : Nat, k ≤ s.size ∧ i = .int .i64 k ∧ ∀ j, j < k → Letter s j) (fun i => s.size - (intOf i).toNat)
    case atStart => exact ⟨0, Nat.zero_le _, rfl, fun j hj => absurd hj (Nat.not_lt_zero _)⟩
    case round =>
      obtain ⟨k, hk, rfl, hd⟩ := hrel
      have HD := Lib.hid hd; clear hd
      by_cases hlt : k < s.size
      · by_cases h1 : s[k].toNat < 97
        · have hb := not_name HB.out hlt (Or.inl h1)
          subst hb
          have t1 : ((s[k].toNat : Int) < 97) := by omega
          go_wp2
          go_ret
          exact ⟨rfl, Below.refl _ _⟩
        · by_cases h2 : 122 < s[k].toNat
          · have hb := not_name HB.out hlt (Or.inr h2)
            subst hb
            have t1 : ¬ ((s[k].toNat : Int) < 97) := by omega
            have t2 : (122 : Int) < (s[k].toNat : Int) := by omega
            go_wp2
            go_ret
            exact ⟨rfl, Below.refl _ _⟩
          · have t1 : ¬ ((s[k].toNat : Int) < 97) := by omega
            have t2 : ¬ (122 : Int) < (s[k].toNat : Int) := by omega
            go_wp2
            go_round
            case rel =>
              refine ⟨k + 1, by omega, by go_num, fun j hj => ?_⟩
              by_cases hjk : j = k
              · subst hjk; exact fun _ => by omega
              · exact HD.out j (by omega)
            case measure => simp [intOf]; omega
      · have hkl : k = s.size := by omega
        have hbb : b = true := HB.out.2 ⟨z1, z2, fun j hj => HD.out j (by omega)⟩
        have HK := Lib.hid hkl; clear hkl
        subst hbb
        go_wp2
        go_ret
        exact ⟨rfl, Below.refl _ _⟩
  · have hbb : b = false := by
      cases b with
      | false => rfl
      | true => have := HB.out.1 rfl; unfold NameP at this; omega
    subst hbb
    by_cases z1 : (s.size : Int) < 1
    · go_enter Try.func8, Try.ntmps8
      go_wp2
      go_ret
      exact ⟨rfl, Below.refl _ _⟩
    · have t2 : (8 : Int) < (s.size : Int) := by omega
      go_enter Try.func8, Try.ntmps8
      go_wp2
      go_ret
      exact ⟨rfl, Below.refl _ _⟩

/-- The check number behind the first k bytes. -/
def chk (n : Int) (s : ByteArray) : Nat → Int
  | 0 => n
  | k + 1 => (787 * chk n s k + (if h : k < s.size then (s[k].toNat : Int) else 0) + 97) % 65003

theorem chk_bd {n : Int} {s : ByteArray} (h0 : 0 ≤ n) (h1 : n < 65003) (k : Nat) : 0 ≤ chk n s k ∧ chk n s k < 65003 := by
  cases k with
  | zero => exact ⟨h0, h1⟩
  | succ k => unfold chk; exact ⟨Int.emod_nonneg _ (by decide), Int.emod_lt_of_pos _ (by decide)⟩

theorem byte_lt (u : UInt8) : (u.toNat : Int) < 256 := by have := u.toNat_lt; omega

set_option maxHeartbeats 800000 in
theorem spec_chk (n : Int) (s : ByteArray) (w : World) (hs : s.size ≤ maxLen) (h0 : 0 ≤ n) (h1 : n < 65003) :
    Calls Try.prog 17 #[.int .i64 n, .string s] w (RetD (.int .i64 (chk n s s.size)) w) := by
  unfold maxLen at hs
  go_enter Try.func17, Try.ntmps17
  go_wp2
  go_loop [0, 5] (fun c i => ∃ k : Nat, k ≤ s.size ∧ i = .int .i64 k ∧ c = .int .i64 (chk n s k)) (fun _ i => s.size - (intOf i).toNat)
  case atStart => exact ⟨0, Nat.zero_le _, rfl, rfl⟩
  case round =>
    obtain ⟨k, hk, rfl, rfl⟩ := hrel
    obtain ⟨b0, b1⟩ := chk_bd (s := s) h0 h1 k
    by_cases hlt : k < s.size
    · have hb := byte_lt s[k]
      have hstep : chk n s (k + 1) = (787 * chk n s k + (s[k].toNat : Int) + 97) % 65003 := by rw [chk, dif_pos hlt]
      have HS := Lib.hid hstep; clear hstep
      generalize chk n s k = c at *
      go_wp2
      go_round
      case rel => exact ⟨k + 1, by omega, by go_num, by rw [HS.out]⟩
      case measure => simp [intOf]; omega
    · have hkl : k = s.size := by omega
      have HK := Lib.hid hkl; clear hkl
      generalize hc : chk n s k = c at *
      have HC := Lib.hid hc; clear hc
      go_wp2
      go_ret
      exact ⟨by rw [← HC.out, HK.out] <;> rfl, Below.refl _ _⟩

/-- A number, and whether there is one. -/
def RetIB (n : Int) (b : Bool) (w : World) (e : Ending) (w' : World) : Prop := RetD (.tuple #[.int .i64 n, .bool b]) w e w'

set_option maxHeartbeats 800000 in
theorem spec_check (n : Int) (s : ByteArray) (w : World) (hs : s.size ≤ maxLen) :
    Calls Try.prog 9 #[.int .i64 n, .string s] w (RetD (.tuple #[.int .i64 (if 0 ≤ n ∧ n < 65003 then chk n s s.size else 0), .bool (decide (0 ≤ n ∧ n < 65003))]) w) := by
  by_cases h : 0 ≤ n ∧ n < 65003
  · rw [if_pos h, show decide (0 ≤ n ∧ n < 65003) = true by simpa using h]
    obtain ⟨h0, h1⟩ := h
    have hc := spec_chk n s w hs h0 h1
    have HC := Lib.hid hc; clear hc
    have t1 : decide (0 ≤ n) = true := by simpa using h0
    have t2 : decide (n ≤ 65002) = true := by simp; omega
    generalize chk n s s.size = c at *
    go_enter Try.func9, Try.ntmps9
    go_wp2_with (first | (go_at_call 17; refine HC.out.mono ?_; rintro e w' ⟨rfl, hb⟩) | go_in)
    go_ret2
    exact ⟨rfl, by assumption⟩
  · rw [if_neg h, show decide (0 ≤ n ∧ n < 65003) = false by simpa using h]
    by_cases h0 : 0 ≤ n
    · have t1 : decide (0 ≤ n) = true := by simpa using h0
      have t2 : decide (n ≤ 65002) = false := by simp; omega
      have HH := Lib.hid h; clear h
      go_enter Try.func9, Try.ntmps9
      go_wp2_with go_in
      go_ret2
      exact ⟨rfl, Below.refl _ _⟩
    · have t1 : decide (0 ≤ n) = false := by simpa using h0
      have HH := Lib.hid h; clear h
      go_enter Try.func9, Try.ntmps9
      go_wp2_with go_in
      go_ret2
      exact ⟨rfl, Below.refl _ _⟩

set_option maxHeartbeats 800000 in
theorem impl_check (n : Int) (s : ByteArray) (w : World) (hs : s.size ≤ maxLen) :
    Calls Try.prog 10 #[.int .i64 n, .string s] w (RetD (.tuple #[.int .i64 (if 0 ≤ n ∧ n < 65003 then chk n s s.size else 0), .bool (decide (0 ≤ n ∧ n < 65003))]) w) := by
  unfold maxLen at hs
  by_cases h : 0 ≤ n ∧ n < 65003
  · rw [if_pos h, show decide (0 ≤ n ∧ n < 65003) = true by simpa using h]
    obtain ⟨h0, h1⟩ := h
    have t1 : ¬ n < 0 := by omega
    have t2 : ¬ 65003 ≤ n := by omega
    go_enter Try.func10, Try.ntmps10
    go_wp2
    go_loop [6, 17] (fun c i => ∃ k : Nat, k ≤ s.size ∧ i = .int .i64 k ∧ c = .int .i64 (chk n s k)) (fun _ i => s.size - (intOf i).toNat)
    case atStart => exact ⟨0, Nat.zero_le _, rfl, rfl⟩
    case round =>
      obtain ⟨k, hk, rfl, rfl⟩ := hrel
      obtain ⟨b0, b1⟩ := chk_bd (s := s) h0 h1 k
      by_cases hlt : k < s.size
      · have hb := byte_lt s[k]
        have hstep : chk n s (k + 1) = (787 * chk n s k + (s[k].toNat : Int) + 97) % 65003 := by rw [chk, dif_pos hlt]
        have HS := Lib.hid hstep; clear hstep
        generalize chk n s k = c at *
        go_wp2
        go_round
        case rel => exact ⟨k + 1, by omega, by go_num, by rw [HS.out]⟩
        case measure => simp [intOf]; omega
      · have hkl : k = s.size := by omega
        have HK := Lib.hid hkl; clear hkl
        generalize hc : chk n s k = c at *
        have HC := Lib.hid hc; clear hc
        go_wp2
        go_ret2
        exact ⟨by rw [← HC.out, HK.out] <;> rfl, Below.refl _ _⟩
  · rw [if_neg h, show decide (0 ≤ n ∧ n < 65003) = false by simpa using h]
    by_cases h0 : n < 0
    · have HH := Lib.hid h; clear h
      go_enter Try.func10, Try.ntmps10
      go_wp2
      go_ret2
      exact ⟨rfl, Below.refl _ _⟩
    · have t2 : 65003 ≤ n := by omega
      have HH := Lib.hid h; clear h
      go_enter Try.func10, Try.ntmps10
      go_wp2
      go_ret2
      exact ⟨rfl, Below.refl _ _⟩

end Text
end Go.Proofs.Ytfcpkjgnkkcchac
