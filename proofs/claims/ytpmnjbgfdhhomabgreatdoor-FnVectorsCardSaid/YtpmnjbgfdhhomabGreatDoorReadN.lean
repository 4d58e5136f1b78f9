/- Reading a number: the program's function; what a text of a complex number reads as. -/
import Derived.Test.YtpmnjbgfdhhomabGreatDoorPU
namespace Go.Proofs.YtpmnjbgfdhhomabGreatDoor
set_option linter.unusedSimpArgs false
set_option linter.unusedVariables false
open Go.RowKit
namespace Hex
open NTL

theorem ReadsN.zero {p : List UInt8} {v : Nat} (h : ReadsN p v false) : v = 0 := by
  rcases h with ⟨h, _⟩ | ⟨_, h, _⟩
  · cases h
  · exact h

theorem ReadsN.nots {p : List UInt8} {v v' : Nat} (h : ReadsN p v true) (h' : ReadsN p v' false) : False := by
  rcases h with ⟨_, h1, h2, h3⟩ | ⟨h, _⟩
  · rcases h' with ⟨h, _⟩ | ⟨_, _, h4⟩
    · cases h
    · exact h4 v h1 h2 h3
  · cases h

theorem ReadsN.one {p : List UInt8} {v v' : Nat} (h : ReadsN p v true) (h' : ReadsN p v' true) : v = v' := by
  rcases h with ⟨_, h1, h2, h3⟩ | ⟨h, _⟩
  · rcases h' with ⟨_, k1, k2, k3⟩ | ⟨h, _⟩
    · have e1 : pv lv 0 p = some v := by rw [← h3]; exact pv_text lv_hd 7 v h1
      have e2 : pv lv 0 p = some v' := by rw [← k3]; exact pv_text lv_hd 7 v' k1
      rw [e1] at e2
      exact Option.some.inj e2
    · cases h
  · cases h

theorem ReadsN.ok {p : List UInt8} {v : Nat} {b : Bool} (h : ReadsN p v b) : v < 4294967296 := by
  rcases h with ⟨_, h1, h2, h3⟩ | ⟨_, h, _⟩ <;> omega

theorem ReadsN.len {p : List UInt8} {v : Nat} (h : ReadsN p v true) : p.length = 8 := by
  rcases h with ⟨_, h1, h2, h3⟩ | ⟨h, _⟩
  · rw [← h3, hex8, text_len]
  · cases h

/-- What a text of one complex number reads as. -/
def ReadsC (p : List UInt8) (v : Nat × Nat) (b : Bool) : Prop :=
  (b = true ∧ ReadsN (p.take 8) v.1 true ∧ ReadsN (p.drop 8) v.2 true) ∨ (b = false ∧ v = (0, 0) ∧ (p.length ≠ 16 ∨ ReadsN (p.take 8) 0 false ∨ ReadsN (p.drop 8) 0 false))

theorem readsC (p : List UInt8) : ∃ v b, ReadsC p v b := by
  obtain ⟨v1, b1, h1⟩ := readsN (p.take 8)
  obtain ⟨v2, b2, h2⟩ := readsN (p.drop 8)
  cases b1
  · have := h1.zero; subst this
    exact ⟨(0, 0), false, .inr ⟨rfl, rfl, .inr (.inl h1)⟩⟩
  · cases b2
    · have := h2.zero; subst this
      exact ⟨(0, 0), false, .inr ⟨rfl, rfl, .inr (.inr h2)⟩⟩
    · exact ⟨(v1, v2), true, .inl ⟨rfl, h1, h2⟩⟩

theorem ReadsC.zero {p : List UInt8} {v : Nat × Nat} (h : ReadsC p v false) : v = (0, 0) := by
  rcases h with ⟨h, _⟩ | ⟨_, h, _⟩
  · cases h
  · exact h

theorem ReadsC.nots {p : List UInt8} {v v' : Nat × Nat} (h : ReadsC p v true) (h' : ReadsC p v' false) : False := by
  rcases h with ⟨_, h1, h2⟩ | ⟨h, _⟩
  · rcases h' with ⟨h, _⟩ | ⟨_, _, h | h | h⟩
    · cases h
    · have e1 := h1.len
      have e2 := h2.len
      rw [List.length_take] at e1
      rw [List.length_drop] at e2
      omega
    · exact h1.nots h
    · exact h2.nots h
  · cases h

theorem ReadsC.one {p : List UInt8} {v v' : Nat × Nat} (h : ReadsC p v true) (h' : ReadsC p v' true) : v = v' := by
  rcases h with ⟨_, h1, h2⟩ | ⟨h, _⟩
  · rcases h' with ⟨_, k1, k2⟩ | ⟨h, _⟩
    · exact Prod.ext (h1.one k1) (h2.one k2)
    · cases h
  · cases h

theorem ReadsC.ok {p : List UInt8} {v : Nat × Nat} {b : Bool} (h : ReadsC p v b) : v.1 < 4294967296 ∧ v.2 < 4294967296 := by
  rcases h with ⟨_, h1, h2⟩ | ⟨_, h, _⟩
  · exact ⟨h1.ok, h2.ok⟩
  · subst h; exact ⟨by decide, by decide⟩

theorem byte_list (s : ByteArray) : s.toList = s.data.toList := ByteArray.toList_eq s

/-- What the program's reading asks of the memory. -/
def Tabs (w : World) : Prop := Errs w ∧ w.cell? ⟨6, 15, none⟩ = some (.int .u8 4) ∧ ∃ m, w.cell? ⟨1, 0, none⟩ = some (.int .i64 m)

theorem Tabs.on {w w' : World} (h : Tabs w) (hb : Below w.heap.size w w') : Tabs w' := by
  obtain ⟨h1, h2, m, h3⟩ := h
  refine ⟨h1.on hb, ?_, m, ?_⟩
  · rw [hb.cell (block_lt_of_cell h2)]; exact h2
  · rw [hb.cell (block_lt_of_cell h3)]; exact h3

theorem wrap32 (N : Nat) (h : N < 4294967296) : IntKind.u32.wrap (N : Int) = N := by
  rw [IntKind.wrap_u32]; omega

set_option maxRecDepth 20000 in
set_option maxHeartbeats 800000 in
theorem impl_readnum (s : ByteArray) (v : Nat) (b : Bool) (w : World) (hr : ReadsN s.data.toList v b) (hs : s.size ≤ 1048576) (ht : Tabs w) :
    Calls Tryz.prog 42 #[.string s] w fun e w' => e = .returned (.tuple #[.float .f32 v, .bool b]) ∧ Below w.heap.size w w' := by
  have hsl : s.data.toList.length = s.size := Array.length_toList
  by_cases h8 : s.size = 8
  · have HP := Lib.hid (parse s h8 w ht.1)
    have HR := Lib.hid hr
    have HT := Lib.hid ht
    have HH := Lib.hid impl_hexz
    have hf := Bits.frombits_run
    clear hr ht hsl
    go_enter Tryz.func42, Tryz.ntmps42
    go_wp2_with fail
    refine HP.out.mono ?_
    rintro e w1 ⟨hb1, ⟨N, hN, hp, rfl⟩ | ⟨hp, u, p, rfl⟩⟩
    · have HPP := Lib.hid hp
      clear hp
      have hz1 := hb1.size
      have HA := Lib.hid (HR.out.any hN HPP.out)
      have HT1 := Lib.hid (HT.out.on hb1).2.1
      have hw32 := wrap32 N hN
      go_wp2_with fail
      refine (HH.out N hN _ HT1.out).mono ?_
      rintro e w2 ⟨rfl, hb2⟩
      by_cases heq : hexz N = s.data.toList
      · obtain ⟨h1, rfl⟩ := HA.out.1 heq
        subst h1
        have hes : (⟨(hexz v).toArray⟩ : ByteArray) = s := by rw [heq]
        have hes2 : (hexz v == s.toList) = true := by rw [byte_list, heq]; simp
        clear heq
        go_wp2
        go_ret2
        exact ⟨rfl, hb1.trans (hb2.mono hz1)⟩
      · obtain ⟨rfl, rfl⟩ := HA.out.2 heq
        have hes2 : (hexz N == s.toList) = false := by rw [byte_list]; simpa using heq
        go_wp2
        go_ret2
        exact ⟨rfl, hb1.trans (hb2.mono hz1)⟩
    · obtain ⟨rfl, rfl⟩ := HR.out.fails hp
      clear hp
      go_wp2
      go_ret2
      exact ⟨rfl, hb1⟩
  · obtain ⟨rfl, rfl⟩ := hr.size (by rw [hsl]; exact h8)
    have HR := Lib.hid hr
    have HT := Lib.hid ht
    clear hr ht
    have h8' : ¬ (s.size : Int) = 8 := by omega
    go_enter Tryz.func42, Tryz.ntmps42
    go_wp2
    go_ret2
    exact ⟨rfl, Below.refl _ _⟩

theorem spec_from (N : Nat) (h : N < 4294967296) (w : World) : Calls Tryz.prog 47 #[.int .i64 N] w fun e w' => e = .returned (.float .f32 N) ∧ w' = w := by
  have hf := Bits.frombits_run
  have hw := wrap32 N h
  go_enter Tryz.func47, Tryz.ntmps47
  go_wp2
  go_ret
  exact ⟨rfl, rfl⟩

theorem spec_bits8 (N : Nat) (h : N < 4294967296) (w : World) : Calls Tryz.prog 32 #[.float .f32 N] w fun e w' => e = .returned (.int .i64 ((nb N : Nat) : Int)) ∧ w' = w :=
  (Bits.spec_bits N w h).mono fun e w' ⟨he, hw⟩ => ⟨by rw [he, nb_is], hw.symm⟩
end Hex
end Go.Proofs.YtpmnjbgfdhhomabGreatDoor
