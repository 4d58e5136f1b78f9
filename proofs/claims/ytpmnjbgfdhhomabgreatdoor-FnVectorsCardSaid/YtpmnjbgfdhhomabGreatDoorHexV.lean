/- Numerals of base 16: what a list of bytes spells. -/
import Derived.Test.YtpmnjbgfdhhomabGreatDoorNTL
namespace Go.Proofs.YtpmnjbgfdhhomabGreatDoor
set_option linter.unusedSimpArgs false
set_option linter.unusedVariables false
open Go.RowKit
namespace Hex
open NTL

/-- The digit of a byte, where capital letters count too. -/
def dv (c : UInt8) : Option Nat :=
  if 48 ≤ c.toNat ∧ c.toNat ≤ 57 then some (c.toNat - 48) else if 97 ≤ c.toNat ∧ c.toNat ≤ 102 then some (c.toNat - 87) else if 65 ≤ c.toNat ∧ c.toNat ≤ 70 then some (c.toNat - 55) else none

/-- The digit of a byte, where they don't. -/
def lv (c : UInt8) : Option Nat :=
  if 48 ≤ c.toNat ∧ c.toNat ≤ 57 then some (c.toNat - 48) else if 97 ≤ c.toNat ∧ c.toNat ≤ 102 then some (c.toNat - 87) else none

def pv (f : UInt8 → Option Nat) : Nat → List UInt8 → Option Nat
  | acc, [] => some acc
  | acc, c :: r => match f c with | some d => pv f (16 * acc + d) r | none => none

theorem pv_append (f : UInt8 → Option Nat) (r : List UInt8) : ∀ (l : List UInt8) (acc : Nat), pv f acc (l ++ r) = (pv f acc l).bind fun a => pv f a r := by
  intro l
  induction l with
  | nil => intro acc; rfl
  | cons c l ih =>
    intro acc
    rw [List.cons_append, pv, pv]
    cases f c with
    | none => rfl
    | some d => exact ih _

theorem dv_hd : ∀ d : Fin 16, dv (hd d.val) = some d.val := by decide +kernel

theorem lv_hd : ∀ d : Fin 16, lv (hd d.val) = some d.val := by decide +kernel

theorem hd_lv_fin : ∀ c : Fin 256, (lv (UInt8.ofNat c.val)).elim true (fun d => decide (d < 16) && hd d == UInt8.ofNat c.val) = true := by decide +kernel

theorem hd_lv {c : UInt8} {d : Nat} (h : lv c = some d) : d < 16 ∧ hd d = c := by
  have h1 := hd_lv_fin ⟨c.toNat, c.toNat_lt⟩
  have e : UInt8.ofNat c.toNat = c := by simp
  simp only [e, h, Option.elim_some, Bool.and_eq_true, decide_eq_true_eq, beq_iff_eq] at h1
  exact h1

theorem dv_lt {c : UInt8} {d : Nat} (h : dv c = some d) : d < 16 := by
  unfold dv at h
  split at h
  · cases h; omega
  · split at h
    · cases h; omega
    · split at h
      · cases h; omega
      · cases h

theorem pv_lt {f : UInt8 → Option Nat} (hf : ∀ c d, f c = some d → d < 16) : ∀ (l : List UInt8) (acc N : Nat), pv f acc l = some N → N < (acc + 1) * 16 ^ l.length := by
  intro l
  induction l with
  | nil => intro acc N h; rw [pv] at h; cases h; simp
  | cons c l ih =>
    intro acc N h
    rw [pv] at h
    cases hc : f c with
    | none => rw [hc] at h; cases h
    | some d =>
      rw [hc] at h
      have h1 := ih _ _ h
      have h2 := hf c d hc
      refine Nat.lt_of_lt_of_le h1 ?_
      rw [List.length_cons, Nat.pow_succ, Nat.mul_comm (16 ^ _) 16, ← Nat.mul_assoc]
      exact Nat.mul_le_mul_right _ (by omega)

theorem text_succ (N k : Nat) : text N (k + 1) = text (N / 16) k ++ [hd (N % 16)] := by
  unfold text
  rw [List.range_succ, List.map_append]
  congr 1
  · refine List.map_congr_left fun t ht => ?_
    have ht := List.mem_range.1 ht
    rw [dig, dig, Nat.div_div_eq_div_mul, show k + 1 - t = k - t + 1 by omega, Nat.pow_succ, Nat.mul_comm 16]
  · simp [dig]

theorem pv_text {f : UInt8 → Option Nat} (hf : ∀ d : Fin 16, f (hd d.val) = some d.val) : ∀ k N, N < 16 ^ (k + 1) → pv f 0 (text N k) = some N := by
  intro k
  induction k with
  | zero =>
    intro N h
    have h16 : N < 16 := by simpa using h
    have e : text N 0 = [hd N] := by simp [text, dig, Nat.mod_eq_of_lt h16]
    rw [e, pv, hf ⟨N, h16⟩]
    simp only [pv, Option.some.injEq]
    omega
  | succ k ih =>
    intro N h
    rw [text_succ, pv_append, ih (N / 16) (by rw [Nat.pow_succ] at h; omega), Option.bind_some, pv, hf ⟨N % 16, Nat.mod_lt _ (by omega)⟩]
    simp only [pv, Option.some.injEq]
    omega

theorem text_pv : ∀ k l N, l.length = k + 1 → pv lv 0 l = some N → text N k = l := by
  intro k
  induction k with
  | zero =>
    intro l N hl h
    match l, hl with
    | [c], _ =>
      rw [pv] at h
      cases hc : lv c with
      | none => rw [hc] at h; cases h
      | some d =>
        rw [hc] at h
        simp only [pv] at h
        obtain ⟨h1, h2⟩ := hd_lv hc
        have : N = d := by simpa using h.symm
        subst this
        simp [text, dig, Nat.mod_eq_of_lt h1, h2]
  | succ k ih =>
    intro l N hl h
    obtain ⟨l', c, rfl⟩ : ∃ l' c, l = l' ++ [c] := by
      rcases List.eq_nil_or_concat l with rfl | ⟨l', c, h⟩
      · simp at hl
      · exact ⟨l', c, by simpa using h⟩
    rw [pv_append] at h
    cases ha : pv lv 0 l' with
    | none => rw [ha] at h; cases h
    | some a =>
      rw [ha, Option.bind_some, pv] at h
      cases hc : lv c with
      | none => rw [hc] at h; cases h
      | some d =>
        rw [hc] at h
        simp only [pv] at h
        obtain ⟨h1, h2⟩ := hd_lv hc
        have hN : N = 16 * a + d := by simpa using h.symm
        rw [text_succ, show N / 16 = a by omega, show N % 16 = d by omega, h2, ih l' a (by simpa using hl) ha]

/-- What a text of one number reads as. -/
def ReadsN (l : List UInt8) (v : Nat) (b : Bool) : Prop :=
  (b = true ∧ v < 4294967296 ∧ nb v = v ∧ hex8 v = l) ∨ (b = false ∧ v = 0 ∧ ∀ u, u < 4294967296 → nb u = u → hex8 u ≠ l)

theorem readsN (l : List UInt8) : ∃ v b, ReadsN l v b := by
  by_cases h : ∃ u, u < 4294967296 ∧ nb u = u ∧ hex8 u = l
  · obtain ⟨u, h⟩ := h
    exact ⟨u, true, .inl ⟨rfl, h⟩⟩
  · exact ⟨0, false, .inr ⟨rfl, rfl, fun u h1 h2 h3 => h ⟨u, h1, h2, h3⟩⟩⟩

theorem lv_dv {c : UInt8} {d : Nat} (h : lv c = some d) : d < 16 := (hd_lv h).1

theorem ReadsN.size {l : List UInt8} {v : Nat} {b : Bool} (h : ReadsN l v b) (hl : l.length ≠ 8) : v = 0 ∧ b = false := by
  rcases h with ⟨_, _, _, h⟩ | ⟨h1, h2, _⟩
  · exact absurd (by rw [← h, hex8, text_len]) hl
  · exact ⟨h2, h1⟩

theorem pow8 : (0 + 1) * 16 ^ 8 = 4294967296 := by decide

theorem ReadsN.gives {l : List UInt8} {v : Nat} {b : Bool} (h : ReadsN l v b) (hl : l.length = 8) {N : Nat} (hN : pv lv 0 l = some N) : N < 4294967296 ∧ (nb N = N → v = N ∧ b = true) ∧ (nb N ≠ N → v = 0 ∧ b = false) := by
  have h1 : N < 4294967296 := by
    have := pv_lt (fun c d h => lv_dv h) l 0 N hN
    rw [hl, pow8] at this
    exact this
  have h2 : hex8 N = l := text_pv 7 l N hl hN
  refine ⟨h1, fun hb => ?_, fun hb => ?_⟩
  · rcases h with ⟨h3, h4, _, h5⟩ | ⟨_, _, h3⟩
    · have : pv lv 0 l = some v := by rw [← h5]; exact pv_text lv_hd 7 v h4
      rw [hN] at this
      exact ⟨(Option.some.inj this).symm, h3⟩
    · exact absurd h2 (h3 N h1 hb)
  · rcases h with ⟨h3, h4, h6, h5⟩ | ⟨h3, h4, _⟩
    · have : pv lv 0 l = some v := by rw [← h5]; exact pv_text lv_hd 7 v h4
      rw [hN] at this
      cases Option.some.inj this
      exact absurd h6 hb
    · exact ⟨h4, h3⟩

theorem ReadsN.lacks {l : List UInt8} {v : Nat} {b : Bool} (h : ReadsN l v b) (hN : pv lv 0 l = none) : v = 0 ∧ b = false := by
  rcases h with ⟨h3, h4, _, h5⟩ | ⟨h3, h4, _⟩
  · have : pv lv 0 l = some v := by rw [← h5]; exact pv_text lv_hd 7 v h4
    rw [hN] at this
    cases this
  · exact ⟨h4, h3⟩

theorem nb_nb (z : Nat) (h : z < 4294967296) : nb (nb z) = nb z := by
  have hn : nb 2143289344 = 2143289344 := by
    unfold nb
    rw [show Fl.cl .f32 2143289344 = Option.none by decide +kernel]
    rfl
  rcases Fl.cl_cases .f32 z with h' | h'
  · have : nb z = 2143289344 := by unfold nb; rw [h']; rfl
    rw [this, hn]
  · have : nb z = z := by unfold nb; rw [h']; rfl
    rw [this, this]

/-- The program's way: a number is read and written again. -/
theorem ReadsN.any {l : List UInt8} {v : Nat} {b : Bool} (h : ReadsN l v b) {N : Nat} (h1 : N < 4294967296) (hN : pv dv 0 l = some N) : (hexz N = l → v = N ∧ b = true) ∧ (hexz N ≠ l → v = 0 ∧ b = false) := by
  have hv : b = true → hex8 v = l → v < 4294967296 → v = N := fun _ h5 h4 => by
    have : pv dv 0 l = some v := by rw [← h5]; exact pv_text dv_hd 7 v h4
    rw [hN] at this
    exact (Option.some.inj this).symm
  refine ⟨fun he => ?_, fun he => ?_⟩
  · rcases h with ⟨h3, h4, h6, h5⟩ | ⟨_, _, h3⟩
    · exact ⟨hv h3 h5 h4, h3⟩
    · exact absurd he (h3 (nb N) (nb_lt N h1) (nb_nb N h1))
  · rcases h with ⟨h3, h4, h6, h5⟩ | ⟨h3, h4, _⟩
    · obtain rfl := hv h3 h5 h4
      exact absurd (by rw [hexz, h6, h5]) he
    · exact ⟨h4, h3⟩

theorem ReadsN.fails {l : List UInt8} {v : Nat} {b : Bool} (h : ReadsN l v b) (hN : pv dv 0 l = none) : v = 0 ∧ b = false := by
  rcases h with ⟨h3, h4, _, h5⟩ | ⟨h3, h4, _⟩
  · have : pv dv 0 l = some v := by rw [← h5]; exact pv_text dv_hd 7 v h4
    rw [hN] at this
    cases this
  · exact ⟨h4, h3⟩
end Hex
end Go.Proofs.YtpmnjbgfdhhomabGreatDoor
