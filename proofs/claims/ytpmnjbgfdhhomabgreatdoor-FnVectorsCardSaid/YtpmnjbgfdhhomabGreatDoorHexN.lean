/- Numerals of base 16: the library's FormatInt; the model's eight digits. -/
import Derived.Test.YtpmnjbgfdhhomabGreatDoorHex
import Derived.Laws.AppendOwn
namespace Go.Proofs.YtpmnjbgfdhhomabGreatDoor
set_option linter.unusedSimpArgs false
set_option linter.unusedVariables false
open Go.RowKit
namespace Hex

set_option maxRecDepth 20000 in
theorem format_in (N : Nat) (hN : N < 9223372036854775808) (w : World) (h64 : w.cell? ⟨6, 15, none⟩ = some (.int .u8 4)) :
    Calls Tryz.prog 59 #[.int .i64 N, .int .i64 16] w fun e w' => ∃ k, k ≤ 15 ∧ N / 16 ^ k < 16 ∧ (k = 0 ∨ 1 ≤ N / 16 ^ k) ∧ e = .returned (.string ⟨(text N k).toArray⟩) ∧ Below w.heap.size w w' := by
  have HB := Lib.hid (bits16 N (by omega) w h64)
  clear h64
  go_enter Tryz.func59, Tryz.ntmps59
  go_wp2_with fail
  refine HB.out.mono ?_
  rintro e w1 ⟨k, hk, h1, h2, rfl, hb⟩
  have H1 := Lib.hid (And.intro h1 h2)
  clear h1 h2
  go_wp2
  go_ret
  exact ⟨k, hk, H1.out.1, H1.out.2, rfl, hb⟩

set_option maxRecDepth 20000 in
theorem format (N : Nat) (hN : N < 9223372036854775808) (w : World) (h64 : w.cell? ⟨6, 15, none⟩ = some (.int .u8 4)) :
    Calls Tryz.prog 50 #[.int .i64 N, .int .i64 16] w fun e w' => ∃ k, k ≤ 15 ∧ N / 16 ^ k < 16 ∧ (k = 0 ∨ 1 ≤ N / 16 ^ k) ∧ e = .returned (.string ⟨(text N k).toArray⟩) ∧ Below w.heap.size w w' := by
  have HB := Lib.hid (format_in N hN w h64)
  clear h64
  go_enter Tryz.func50, Tryz.ntmps50
  go_wp2_with fail
  refine HB.out.mono ?_
  rintro e w1 ⟨k, hk, h1, h2, rfl, hb⟩
  have H1 := Lib.hid (And.intro h1 h2)
  clear h1 h2
  go_wp2
  go_ret
  exact ⟨k, hk, H1.out.1, H1.out.2, rfl, hb⟩

/-- Eight digits. -/
def hex8 (N : Nat) : List UInt8 := text N 7

theorem B_info : (Tryz.prog.info? 5).map (fun i => (i.zero, i.size, i.bytes)) = some (some (.int .u8 0), 1, 1) := by kernel_rfl

def bv (l : List UInt8) : List Value := l.map fun b => Value.int .u8 ((b.toNat : Nat) : Int)

theorem cell_one (w : World) (x : Value) (t : TypeId) : ∀ j u, [x][j]? = some u → (w.alloc (.cells #[x] t)).cell? ((⟨w.heap.size, 0, none⟩ : Addr).add j) = some u := by
  intro j u hj
  match j, hj with
  | 0, hj => simp at hj; subst hj; simp [Addr.add]

theorem and15i (M : Nat) (h : M < 9223372036854775808) : bits .and .i64 (M : Int) 15 = ((M % 16 : Nat) : Int) := by
  have h15 : (BitVec.ofInt 64 15).toNat = 2 ^ 4 - 1 := by decide
  have key : (BitVec.ofInt 64 (M : Int) &&& BitVec.ofInt 64 15).toNat = ((M : Int) % ((2 ^ 64 : Nat) : Int)).toNat % 2 ^ 4 := by
    rw [BitVec.toNat_and, BitVec.toNat_ofInt, h15, Nat.and_two_pow_sub_one_eq_mod]
  show IntKind.i64.wrap ((BitVec.ofInt 64 (M : Int) &&& BitVec.ofInt 64 15).toNat : Nat) = _
  rw [key, IntKind.wrap_i64]
  omega

theorem new_block (w : World) (o : Obj) : (w.alloc o).heap[w.heap.size]? = some o := by
  show (w.heap.push o)[w.heap.size]? = some o
  simp

def D16 : ByteArray := ⟨#[48, 49, 50, 51, 52, 53, 54, 55, 56, 57, 97, 98, 99, 100, 101, 102]⟩

theorem hd16_fin : ∀ i : Fin 16, D16.data.getD i.val 0 = hd i.val := by decide +kernel

theorem hd16 (n : Nat) (h : n < 16) : (D16[n]'h).toNat = (hd n).toNat := by
  rw [← hd16_fin ⟨n, h⟩]
  have h' : n < D16.data.size := h
  rw [Array.getD, dif_pos h']
  rfl

theorem hex_step {w : World} {B N K : Nat} {e : TypeId} {v : Value} {X : Int} (hX : X = (((dig N (7 - K)).toNat : Nat) : Int)) (h : w.ownsRow B e 1 v (K + 1) (bv ((List.range K).map fun t => dig N (7 - t)) ++ [Value.int .u8 X])) :
    w.ownsRow B e 1 v (K + 1) (bv ((List.range (K + 1)).map fun t => dig N (7 - t))) := by
  subst hX
  rw [List.range_succ, List.map_append, bv, List.map_append]
  exact h

theorem conv_own {w : World} {B g k cap : Nat} {l : List UInt8} (h : w.ownsRow B 5 1 (.slice (some ⟨g, 0, none⟩) k cap) k (bv l)) (hk : k = l.length) : (convert 22 9 (.slice (some ⟨g, 0, none⟩) k cap)).run Tryz.prog w = .ok (.string ⟨l.toArray⟩) w := by
  subst hk
  exact run_convert_bytes_back w 22 9 5 ⟨g, 0, none⟩ cap l Tryz.underlying22 Tryz.underlying5 Tryz.underlying9 (fun j hj => World.ownsRow.cells h rfl j _ (by simp [bv, hj]))