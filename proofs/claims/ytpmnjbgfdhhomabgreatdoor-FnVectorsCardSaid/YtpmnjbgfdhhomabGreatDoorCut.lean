/- The parts of a text between marks. -/
import Derived.Lib.Split
import Derived.Lib.IndexBytes
namespace Go.Proofs.YtpmnjbgfdhhomabGreatDoor
set_option linter.unusedSimpArgs false
set_option linter.unusedVariables false
namespace Cut

/-- The parts between the commas. -/
def parts : List UInt8 → List (List UInt8)
  | [] => [[]]
  | c :: r => if c = 44 then [] :: parts r else match parts r with
    | p :: ps => (c :: p) :: ps
    | [] => [[c]]

theorem parts_mark (r : List UInt8) : parts (44 :: r) = [] :: parts r := by rw [parts, if_pos rfl]

theorem parts_other {c : UInt8} {r p : List UInt8} {ps : List (List UInt8)} (h : c ≠ 44) (hr : parts r = p :: ps) : parts (c :: r) = (c :: p) :: ps := by
  rw [parts, if_neg h, hr]

theorem parts_cut (p r : List UInt8) (h : ∀ c ∈ p, c ≠ 44) : parts (p ++ 44 :: r) = p :: parts r := by
  induction p with
  | nil => exact parts_mark r
  | cons c p ih => exact parts_other (h c List.mem_cons_self) (ih fun d hd => h d (List.mem_cons_of_mem _ hd))

theorem parts_one (p : List UInt8) (h : ∀ c ∈ p, c ≠ 44) : parts p = [p] := by
  induction p with
  | nil => rfl
  | cons c p ih => exact parts_other (h c List.mem_cons_self) (ih fun d hd => h d (List.mem_cons_of_mem _ hd))

theorem split_parts (l : List UInt8) : Lib.split l [44] = parts l := by
  induction l with
  | nil => rfl
  | cons c r ih =>
    have hne : ([44] : List UInt8) ≠ [] := by simp
    by_cases hc : c = 44
    · subst hc
      have hi : Lib.index (44 :: r) [44] = ((0 : Nat) : Int) := by rw [Lib.index_one]; rfl
      rw [parts_mark, ← ih, Lib.split, Lib.count_hit hne hi, Nat.add_comm, Lib.splitK, if_neg (by rw [hi]; decide), hi]
      rfl
    · cases hk : Lib.index r [44] with
      | negSucc j =>
        have h1 : Lib.index r [44] = -1 := by
          have := Lib.index_ge r [44]
          omega
        have h2 : Lib.index (c :: r) [44] = -1 := by
          rw [Lib.index_one] at h1 ⊢
          rw [Lib.indexByte, if_neg (by simpa using hc), h1]
          rfl
        have e1 : Lib.split r [44] = [r] := by rw [Lib.split, Lib.count_miss h1]; rfl
        rw [Lib.split, Lib.count_miss h2]
        rw [e1] at ih
        exact (parts_other hc ih.symm).symm
      | ofNat i =>
        have h1 : Lib.index r [44] = ((i : Nat) : Int) := hk
        have h2 : Lib.index (c :: r) [44] = ((i + 1 : Nat) : Int) := by
          rw [Lib.index_one] at h1 ⊢
          rw [Lib.indexByte, if_neg (by simpa using hc), h1, if_neg (by simp)]
          omega
        have e1 : Lib.split r [44] = r.take i :: Lib.splitK [44] 0 (Lib.count (r.drop (i + 1)) [44]) (r.drop (i + 1)) := by
          rw [Lib.split, Lib.count_hit hne h1, Nat.add_comm, Lib.splitK, if_neg (by rw [h1]; simp), h1]
          rfl
        rw [Lib.split, Lib.count_hit hne h2, Nat.add_comm, Lib.splitK, if_neg (by rw [h2]; simp; omega), h2]
        rw [e1] at ih
        exact (parts_other hc ih.symm).symm

theorem parts_len (l : List UInt8) : (parts l).length = l.count 44 + 1 := by
  induction l with
  | nil => rfl
  | cons c r ih =>
    by_cases hc : c = 44
    · subst hc
      rw [parts_mark, List.length_cons, ih, List.count_cons_self]
    · cases hp : parts r with
      | nil => rw [hp] at ih; simp at ih
      | cons p ps =>
        rw [parts_other hc hp, List.length_cons, List.count_cons_of_ne (fun h => hc h)]
        rw [hp, List.length_cons] at ih
        exact ih
end Cut
end Go.Proofs.YtpmnjbgfdhhomabGreatDoor
