/- A number in base 16: the library's function. -/
import Derived.Test.YtpmnjbgfdhhomabGreatDoorRows
import Derived.WalkKit
import Derived.WalkLawsBesides
import Derived.OwnWalk
import Derived.Below
import Derived.LoopTactic
import Derived.Lib.Hide
import Derived.Laws.Bits64b
import Derived.Lib.LaidTab
import Derived.Lib.SmallJoins
import Derived.Laws.IdiomStrings
namespace Go.Proofs.YtpmnjbgfdhhomabGreatDoor
set_option linter.unusedSimpArgs false
set_option linter.unusedVariables false
open Go.RowKit
namespace Hex

set_option maxRecDepth 20000 in
theorem power16 (w : World) : Calls Tryz.prog 91 #[.int .i64 16] w fun e w' => e = .returned (.bool true) ∧ w' = w := by
  go_enter Tryz.func91, Tryz.ntmps91
  go_wp2
  go_ret
  exact ⟨rfl, rfl⟩

set_option maxRecDepth 20000 in
theorem zeros16 (w : World) (h : w.cell? ⟨6, 15, none⟩ = some (.int .u8 4)) : Calls Tryz.prog 92 #[.int .u64 16] w fun e w' => e = .returned (.int .i64 4) ∧ w' = w := by
  have e : (IntKind.u64.wrap (bits BinOp.and IntKind.u64 16 (IntKind.u64.wrap (-16)) * 285870213051353865) / 288230376151711744).toNat = 15 := by kernel_rfl
  have h' : w.cell? ⟨6, (IntKind.u64.wrap (bits BinOp.and IntKind.u64 16 (IntKind.u64.wrap (-16)) * 285870213051353865) / 288230376151711744).toNat, none⟩ = some (.int .u8 4) := by rw [e]; exact h
  clear e h
  go_enter Tryz.func92, Tryz.ntmps92
  go_wp2_with go_in
  go_ret
  exact ⟨rfl, rfl⟩

theorem and15 (M : Nat) (h : M < 18446744073709551616) : bits .and .u64 (M : Int) 15 = ((M % 16 : Nat) : Int) := by
  have := bits_and_u64_nat M 15 h (by decide)
  rw [show ((15 : Nat) : Int) = 15 from rfl] at this
  rw [this, show M &&& 15 = M % 16 from Nat.and_two_pow_sub_one_eq_mod M 4]

def D36 : ByteArray := ⟨#[48, 49, 50, 51, 52, 53, 54, 55, 56, 57, 97, 98, 99, 100, 101, 102, 103, 104, 105, 106, 107, 108, 109, 110, 111, 112, 113, 114, 115, 116, 117, 118, 119, 120, 121, 122]⟩
def hd (n : Nat) : UInt8 := D36.data.getD n 0

theorem hd_at (n : Nat) (h : n < D36.size) : (D36[n]'h).toNat = (hd n).toNat := by
  unfold hd
  have h' : n < D36.data.size := h
  rw [Array.getD, dif_pos h']
  rfl

theorem slice_at (I : Nat) (b : Nat) (hI : I < 65) (w : World) : (Instr.sliceAt 124 (.pointer (some ⟨b, 0, none⟩)) (some (.int .i64 (I : Int))) none none).run Tryz.prog w = .ok (.slice (some ⟨b, I, none⟩) (65 - I) (65 - I)) w := by
  have e : Tryz.prog.arrayLen 124 = 65 := by kernel_rfl
  have e2 : Tryz.prog.elem 124 = 5 := by kernel_rfl
  rw [run_sliceAt_array_l w 124 ⟨b, 0, none⟩ (by rw [e, e2]; exact Tryz.underlying124) .i64 (I : Int) (by omega) (by rw [e]; omega), e2, Tryz.sizeOf5]
  simp only [Result.andThen, slicedAt, e, Int.toNat_natCast]
  rw [if_neg (by omega), Nat.mul_one, Addr.add_lit, Nat.zero_add]

/-- The last digits, as they are laid: the digit j places from the end. -/
def dig (N j : Nat) : UInt8 := hd (N / 16 ^ j % 16)

/-- The numeral of k + 1 digits. -/
def text (N k : Nat) : List UInt8 := (List.range (k + 1)).map fun t => dig N (k - t)

theorem text_len (N k : Nat) : (text N k).length = k + 1 := by simp [text]

theorem div_next (N k M : Nat) (h : M = N / 16 ^ k) : N / 16 ^ (k + 1) = M / 16 := by
  rw [Nat.pow_succ, ← Nat.div_div_eq_div_mul, ← h]

theorem few {N k M : Nat} (hN : N < 18446744073709551616) (h : M = N / 16 ^ k) (hk : k ≤ 15) (hM : 16 ≤ M) : k + 1 ≤ 15 := by
  rcases Nat.lt_or_ge k 15 with h1 | h1
  · exact h1
  · obtain rfl : k = 15 := by omega
    have e15 : (16 : Nat) ^ 15 = 1152921504606846976 := rfl
    rw [e15] at h
    omega

theorem conv_at {N k I b : Nat} {wr : World} {cur : Array Value} (hI : I = 64 - k) (hk : k ≤ 15) (hb : wr.heap[b]? = some (.cells cur 124)) (hs : cur.size = 65) (hd : ∀ j, j < k → cur[64 - j]? = some (.int .u8 (((dig N j).toNat : Nat) : Int))) (X : Int) (hX : X = (((dig N k).toNat : Nat) : Int)) :
    (convert 22 9 (.slice (some ⟨b, I, none⟩) (65 - I) (65 - I))).run Tryz.prog (wr.setCell ⟨b, I, none⟩ (.int .u8 X)) = .ok (.string ⟨(text N k).toArray⟩) (wr.setCell ⟨b, I, none⟩ (.int .u8 X)) := by
  have e : 65 - I = (text N k).length := by rw [text_len]; omega
  have hc : (wr.setCell ⟨b, I, none⟩ (.int .u8 X)).heap[b]? = some (.cells (cur.setIfInBounds I (.int .u8 X)) 124) := by
    simp [World.setCell, Array.getElem?_modify, hb]
  rw [e]
  refine run_convert_bytes_back _ 22 9 5 ⟨b, I, none⟩ _ (text N k) Tryz.underlying22 Tryz.underlying5 Tryz.underlying9 (fun j hj => ?_)
  rw [text_len] at hj
  rw [Addr.add_lit]
  have hat : (text N k)[j] = dig N (k - j) := by simp [text]
  rw [hat]
  have hcell : (wr.setCell ⟨b, I, none⟩ (.int .u8 X)).cell? ⟨b, I + j, none⟩ = (cur.setIfInBounds I (.int .u8 X))[I + j]? := by simp [World.cell?, hc]
  rw [hcell]
  by_cases h0 : j = 0
  · subst h0
    rw [Nat.add_zero, Array.getElem?_setIfInBounds_self_of_lt (by omega), hX, Nat.sub_zero]
  · rw [Array.getElem?_setIfInBounds_ne (by omega), show I + j = 64 - (k - j) by omega]
    exact hd (k - j) (by omega)

set_option maxRecDepth 20000 in
set_option maxHeartbeats 1600000 in
theorem bits16 (N : Nat) (hN : N < 18446744073709551616) (w : World) (h64 : w.cell? ⟨6, 15, none⟩ = some (.int .u8 4)) : Calls Tryz.prog 74 #[.slice none 0 0, .int .u64 N, .int .i64 16, .bool false, .bool false] w fun e w' => ∃ k, k ≤ 15 ∧ N / 16 ^ k < 16 ∧ (k = 0 ∨ 1 ≤ N / 16 ^ k) ∧ e = .returned (.tuple #[.slice none 0 0, .string ⟨(text N k).toArray⟩]) ∧ Below w.heap.size w w' := by
  have hz : (w.alloc (Obj.cells Tryz.zeroCells124 124)).cell? ⟨6, 15, none⟩ = some (.int .u8 4) := by
    rw [((Below.refl w.heap.size w).alloc (Nat.le_refl _) _).cell (block_lt_of_cell h64)]; exact h64
  have hb0 : (w.alloc (Obj.cells Tryz.zeroCells124 124)).heap[w.heap.size]? = some (.cells Tryz.zeroCells124 124) := by
    show (w.heap.push _)[w.heap.size]? = _
    simp
  have HB0 := Lib.hid hb0
  clear hb0
  go_enter Tryz.func74, Tryz.ntmps74
  go_wp2_with (first | (go_at_call 91; refine (power16 _).mono ?_; rintro e w' ⟨rfl, rfl⟩) | (go_at_call 92; refine (zeros16 _ hz).mono ?_; rintro e w' ⟨rfl, rfl⟩))
  go_loopw [1, 13] (fun u i wr => ∃ (k : Nat) (cur : Array Value), k ≤ 15 ∧ u = .int .u64 ((N / 16 ^ k : Nat) : Int) ∧ i = .int .i64 ((65 - k : Nat) : Int) ∧ (k = 0 ∨ 1 ≤ N / 16 ^ k) ∧ wr.heap[w.heap.size]? = some (.cells cur 124) ∧ cur.size = 65 ∧ (∀ j, j < k → cur[64 - j]? = some (.int .u8 (((dig N j).toNat : Nat) : Int))) ∧ Below w.heap.size w wr)
    (fun _ i _ => (intOf i).toNat)
  case atStart =>
    refine ⟨0, Tryz.zeroCells124, by omega, by rw [Nat.pow_zero, Nat.div_one], rfl, .inl rfl, HB0.out, by kernel_rfl, fun j hj => absurd hj (Nat.not_lt_zero _), (Below.refl _ _).alloc (Nat.le_refl _) _⟩
  case round =>
    obtain ⟨k, cur, hk, rfl, rfl, hk1, hb, hs, hd, hbel⟩ := hrel
    have hM : N / 16 ^ k < 18446744073709551616 := Nat.lt_of_le_of_lt (Nat.div_le_self _ _) hN
    have hand := and15 _ hM
    obtain ⟨M, hMe⟩ : ∃ M, M = N / 16 ^ k := ⟨_, rfl⟩
    rw [← hMe] at hand hM ⊢
    have HM := Lib.hid hMe
    have HD := Lib.hid hd
    clear hMe hd
    obtain ⟨I, hI⟩ : ∃ I, I = 64 - k := ⟨_, rfl⟩
    have hI1 : ((65 - k : Nat) : Int) = ((I + 1 : Nat) : Int) := by omega
    rw [hI1]
    have hI65 : I < 65 := by omega
    have HI := Lib.hid hI
    clear hI hI1
    have hdst : wr.cell? ⟨w.heap.size, I, none⟩ = some cur[I]! := by
      have : I < cur.size := by omega
      simp [World.cell?, hb, this]
    generalize cur[I]! = old at *
    have hfree : wr.frozen? ⟨w.heap.size, I, none⟩ = false := by simp [World.frozen?, hb]
    have HB := Lib.hid hb; clear hb
    have hm16 : M % 16 < 16 := Nat.mod_lt _ (by omega)
    have hsl := slice_at I w.heap.size hI65
    by_cases hge : 16 ≤ M
    · go_wp2
      go_roundw
      case rel =>
        refine ⟨k + 1, cur.setIfInBounds I (.int .u8 (((dig N k).toNat : Nat) : Int)), few hN HM hk hge, ?_, ?_, .inr ?_, ?_, by simpa using hs, fun j hj => ?_, hbel.setCell (Nat.le_refl _) _⟩
        · rw [div_next N k M HM]; rfl
        · have h1 := HI.out
          rw [show 65 - (k + 1) = I by omega]
        · rw [div_next N k M HM]; omega
        · have hX : (((D36[M % 16]'(Nat.lt_of_lt_of_le hm16 (by decide))).toNat : Nat) : Int) = (((dig N k).toNat : Nat) : Int) := by
            rw [hd_at, dig, ← show M = N / 16 ^ k from HM]
          rw [← hX]
          have hb := HB.out
          simp [World.setCell, Array.getElem?_modify, hb]
          rfl
        · have h1 := HI.out
          by_cases hjk : j = k
          · subst hjk
            rw [show 64 - j = I by omega, Array.getElem?_setIfInBounds_self_of_lt (by omega)]
          · rw [Array.getElem?_setIfInBounds_ne (by omega)]; exact HD.out j (by omega)
      case measure => simp [intOf]
    · go_wp2
      rw [conv_at (N := N) (k := k) HI.out hk HB.out hs HD.out _ (by
        have h1 : M < 16 := by omega
        have h2 := hd_at M (Nat.lt_of_lt_of_le h1 (by decide))
        rw [dig, ← show M = N / 16 ^ k from HM, Nat.mod_eq_of_lt h1]
        exact congrArg Nat.cast h2)]
      go_wp2
      go_ret2
      exact ⟨k, hk, by rw [← show M = N / 16 ^ k from HM]; omega, hk1, rfl, hbel.setCell (Nat.le_refl _) _⟩
end Hex
end Go.Proofs.YtpmnjbgfdhhomabGreatDoor
