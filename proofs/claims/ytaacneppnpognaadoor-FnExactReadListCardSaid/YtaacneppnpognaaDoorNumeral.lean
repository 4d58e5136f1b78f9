/- Numerals: what a list of bytes spells. -/
import Derived.Lib.ItoaNum
import Derived.Lib.ItoaLen
import Derived.Lib.ParseIntB
namespace Go.Proofs.YtaacneppnpognaaDoor
set_option linter.unusedSimpArgs false
set_option linter.unusedVariables false
namespace Dec

theorem digits_mem (R : Nat) : ∀ b ∈ Lib.decDigits R, 48 ≤ b.toNat ∧ b.toNat ≤ 57 := by
  induction R using Nat.strongRecOn with
  | _ R ih =>
    have hd : ∀ d, d < 10 → 48 ≤ (UInt8.ofNat (48 + d)).toNat ∧ (UInt8.ofNat (48 + d)).toNat ≤ 57 := fun d hd => by
      rw [UInt8.toNat_ofNat', Nat.mod_eq_of_lt (by omega)]; omega
    rw [Lib.decDigits]
    split
    · intro b hb
      rw [List.mem_singleton.1 hb]
      exact hd R (by assumption)
    · intro b hb
      rcases List.mem_append.1 hb with hb | hb
      · exact ih (R / 10) (by omega) b hb
      · rw [List.mem_singleton.1 hb]
        exact hd (R % 10) (Nat.mod_lt _ (by omega))

/-- A byte more: a digit counts, any other byte doesn't. -/
def stepD (n : Nat) (b : UInt8) : Nat := if 48 ≤ b.toNat ∧ b.toNat ≤ 57 then 10 * n + (b.toNat - 48) else n

def scan (l : List UInt8) : Nat := l.foldl stepD 0

theorem stepD_digit (n d : Nat) (hd : d < 10) : stepD n (UInt8.ofNat (48 + d)) = 10 * n + d := by
  unfold stepD
  rw [UInt8.toNat_ofNat', Nat.mod_eq_of_lt (by omega), if_pos (by omega)]
  omega

theorem scan_digits (R : Nat) : scan (Lib.decDigits R) = R := by
  induction R using Nat.strongRecOn with
  | _ R ih =>
    rw [Lib.decDigits]
    split
    · show stepD 0 _ = R
      rw [stepD_digit _ _ (by assumption)]; omega
    · have := ih (R / 10) (by omega)
      unfold scan at this ⊢
      rw [List.foldl_append, this]
      show stepD (R / 10) _ = R
      rw [stepD_digit _ _ (Nat.mod_lt _ (by omega))]; omega

theorem scan_neg (l : List UInt8) : scan (45 :: l) = scan l := rfl

theorem scan_lt (l : List UInt8) : ∀ a, l.foldl stepD a < (a + 1) * 10 ^ l.length := by
  induction l with
  | nil => intro a; simp
  | cons b r ih =>
    intro a
    refine Nat.lt_of_lt_of_le (ih (stepD a b)) ?_
    rw [List.length_cons, Nat.pow_succ, Nat.mul_comm (10 ^ _) 10, ← Nat.mul_assoc]
    refine Nat.mul_le_mul_right _ ?_
    unfold stepD
    split <;> omega

/-- The number that the bytes spell, if they spell one. -/
def val (l : List UInt8) : Int := if l.head? = some 45 then -(scan l : Int) else (scan l : Int)

theorem digits_ne (R : Nat) : Lib.decDigits R ≠ [] := by
  rw [Lib.decDigits]; split <;> simp

theorem head_digit (R : Nat) (c : UInt8) (h : (Lib.decDigits R).head? = some c) : 48 ≤ c.toNat ∧ c.toNat ≤ 57 :=
  digits_mem R c (List.mem_of_head? h)

theorem val_itoa (m : Int) : val (Lib.itoa m) = m := by
  unfold val Lib.itoa
  by_cases h : m < 0
  · rw [if_pos h]
    rw [if_pos (by rfl), scan_neg, scan_digits]
    omega
  · rw [if_neg h, if_neg ?_, scan_digits]
    · omega
    · intro hc
      have := head_digit _ _ hc
      revert this
      decide

theorem digits_len : ∀ (k R : Nat), R < 10 ^ k → 1 ≤ k → (Lib.decDigits R).length ≤ k := by
  intro k
  induction k with
  | zero => intro R _ h; omega
  | succ k ih =>
    intro R hR _
    rw [Lib.decDigits]
    split
    · simp
    · rw [List.length_append, List.length_singleton]
      have h1 : R / 10 < 10 ^ k := by rw [Nat.pow_succ] at hR; omega
      have h2 : 1 ≤ k := by
        rcases Nat.eq_zero_or_pos k with h | h
        · subst h; simp at h1; omega
        · exact h
      have := ih (R / 10) h1 h2
      omega

theorem itoa_len {m : Int} (h : -1000000000000000 ≤ m ∧ m ≤ 1000000000000000) : 1 ≤ (Lib.itoa m).length ∧ (Lib.itoa m).length ≤ 17 := by
  have h1 : ∀ R, R ≤ 1000000000000000 → 1 ≤ (Lib.decDigits R).length ∧ (Lib.decDigits R).length ≤ 16 := fun R hR =>
    ⟨List.length_pos_iff.2 (digits_ne R), digits_len 16 R (by omega) (by omega)⟩
  unfold Lib.itoa
  split
  · have := h1 m.natAbs (by omega)
    rw [List.length_cons]; omega
  · have := h1 m.toNat (by omega)
    omega

theorem parseM_append (M : Nat) (r : List UInt8) (u : Nat) : ∀ (l : List UInt8) (acc : Nat), Lib.parseUintM M acc l = .ok u → Lib.parseUintM M acc (l ++ r) = Lib.parseUintM M u r := by
  intro l
  induction l with
  | nil => intro acc h; rw [Lib.parseUintM] at h; cases h; rfl
  | cons c l ih =>
    intro acc h
    rw [List.cons_append]
    rw [Lib.parseUintM] at h ⊢
    split at h
    · rename_i h1
      rw [if_pos h1]
      split at h
      · cases h
      · rename_i h2
        rw [if_neg h2]
        split at h
        · cases h
        · rename_i h3
          rw [if_neg h3]
          exact ih _ h
    · cases h

theorem parseM_digits (R : Nat) : R ≤ 9223372036854775808 → Lib.parseUintM 18446744073709551615 0 (Lib.decDigits R) = .ok R := by
  induction R using Nat.strongRecOn with
  | _ R ih =>
    intro hR
    have hd : ∀ a d, d < 10 → a * 10 + d ≤ 9223372036854775808 → Lib.parseUintM 18446744073709551615 a [UInt8.ofNat (48 + d)] = .ok (a * 10 + d) := fun a d hd hb => by
      have e : (UInt8.ofNat (48 + d)).toNat = 48 + d := by rw [UInt8.toNat_ofNat', Nat.mod_eq_of_lt (by omega)]
      rw [Lib.parseUintM, e, if_pos (by omega), if_neg (by omega), if_neg (by omega), Lib.parseUintM, show 48 + d - 48 = d by omega]
    rw [Lib.decDigits]
    split
    · rw [hd 0 R (by assumption) (by omega)]; simp
    · rw [parseM_append _ _ _ _ _ (ih (R / 10) (by omega) (by omega))]
      rw [hd (R / 10) (R % 10) (Nat.mod_lt _ (by omega)) (by omega)]
      congr 1
      omega

theorem parse_itoa {m : Int} (h0 : -9223372036854775808 ≤ m) (h1 : m ≤ 9223372036854775807) : Lib.parseIntB 64 (Lib.itoa m) = .ok m := by
  unfold Lib.itoa
  by_cases h : m < 0
  · rw [if_pos h]
    have e : Lib.parseUintB 64 (Lib.decDigits m.natAbs) = .ok m.natAbs := by
      rw [Lib.parseUintB, if_neg (digits_ne _)]
      exact parseM_digits _ (by omega)
    have e2 : (if (45 : UInt8).toNat = 43 ∨ (45 : UInt8).toNat = 45 then Lib.decDigits m.natAbs else 45 :: Lib.decDigits m.natAbs) = Lib.decDigits m.natAbs := if_pos (.inr rfl)
    unfold Lib.parseIntB
    simp only [e2, e]
    rw [if_neg (fun hh => hh.1 rfl), if_neg (by omega), if_pos (show (45 : UInt8).toNat = 45 from rfl)]
    congr 1
    omega
  · rw [if_neg h]
    obtain ⟨c, r, hc⟩ : ∃ c r, Lib.decDigits m.toNat = c :: r := by
      cases hd : Lib.decDigits m.toNat with
      | nil => exact absurd hd (digits_ne _)
      | cons c r => exact ⟨c, r, rfl⟩
    have hcd := head_digit m.toNat c (by rw [hc]; rfl)
    have e : Lib.parseUintB 64 (c :: r) = .ok m.toNat := by
      rw [← hc, Lib.parseUintB, if_neg (digits_ne _)]
      exact parseM_digits _ (by omega)
    rw [hc]
    have e2 : (if c.toNat = 43 ∨ c.toNat = 45 then r else c :: r) = c :: r := if_neg (by omega)
    unfold Lib.parseIntB
    simp only [e2, e]
    rw [if_neg (by omega), if_neg (by omega), if_neg (by omega)]
    congr 1
    omega

/-- What a text reads as: a number in the bounds that it is the numeral of, or none. -/
def Reads (s : List UInt8) (v : Int) (b : Bool) : Prop :=
  (b = true ∧ (-1000000000000000 ≤ v ∧ v ≤ 1000000000000000) ∧ Lib.itoa v = s) ∨ (b = false ∧ v = 0 ∧ ∀ m : Int, -1000000000000000 ≤ m ∧ m ≤ 1000000000000000 → Lib.itoa m ≠ s)

theorem reads (s : List UInt8) : ∃ v b, Reads s v b := by
  by_cases h : ∃ m : Int, (-1000000000000000 ≤ m ∧ m ≤ 1000000000000000) ∧ Lib.itoa m = s
  · obtain ⟨m, h1, h2⟩ := h
    exact ⟨m, true, .inl ⟨rfl, h1, h2⟩⟩
  · exact ⟨0, false, .inr ⟨rfl, rfl, fun m hm he => h ⟨m, hm, he⟩⟩⟩

/-- The bytes one after another. -/
def sc (s : ByteArray) : Nat → Nat
  | 0 => 0
  | k + 1 => if h : k < s.size then stepD (sc s k) s[k] else sc s k

theorem sc_take (s : ByteArray) (k : Nat) (hk : k ≤ s.size) : sc s k = (s.data.toList.take k).foldl stepD 0 := by
  induction k with
  | zero => rfl
  | succ k ih =>
    have hlt : k < s.data.toList.length := by rw [Array.length_toList]; exact hk
    rw [sc, dif_pos (show k < s.size from hk), ih (by omega), List.take_add_one, List.getElem?_eq_getElem hlt, List.foldl_append]
    rfl

theorem sc_all (s : ByteArray) : sc s s.size = scan s.data.toList := by
  rw [sc_take s _ (Nat.le_refl _), List.take_of_length_le (by rw [Array.length_toList]; exact Nat.le_refl _)]
  rfl

theorem sc_lt (s : ByteArray) (k : Nat) (hk : k ≤ s.size) : sc s k < 10 ^ k := by
  rw [sc_take s k hk]
  have := scan_lt (s.data.toList.take k) 0
  rw [List.length_take, Array.length_toList, show min k s.data.size = k from Nat.min_eq_left hk, Nat.zero_add, Nat.one_mul] at this
  exact this
end Dec
end Go.Proofs.YtaacneppnpognaaDoor
