/- Flat basins. -/
import Derived.Test.YtbinjkaanbhikaaBaRo
namespace Go.Proofs.Ytbinjkaanbhikaa
set_option linter.unusedSimpArgs false
set_option linter.unusedVariables false
open Go.RowKit
set_option maxRecDepth 20000
namespace Ba
open Fl Rate

theorem cell_new (w : World) (x : Value) (t : TypeId) (b : Nat) (hb : b = w.heap.size) : ∀ j u, [x][j]? = some u → (w.alloc (.cells #[x] t)).cell? ((⟨b, 0, none⟩ : Addr).add j) = some u := by
  subst hb
  intro j u hj
  match j, hj with
  | 0, hj => simp at hj; subst hj; simp [Addr.add]

set_option maxHeartbeats 3200000 in
theorem spec_flatrow (W H : Int) (y : Nat) (d : Option Nat) (n : Nat) (w : World) (fy : Fr .f32 y d) (hW : sideB W = true) (hH : sideB H = true) (hn : (n : Int) = W * H) : Calls Try.prog 154 #[.int .i64 W, .int .i64 H, .float .f32 y] w (RetV W H n (fun _ => d) w) := by
  obtain ⟨i0, hi, hz0, hz1, hz2⟩ := info_parts Nums.A_info32
  have hmul := mul_bd hW hH
  have HN := Lib.hid hn
  have hn9 : 9 ≤ n ∧ n ≤ 256 := by omega
  clear hn
  go_enter Try.func154, Try.ntmps154
  go_wp2_with fail
  refine (spec_new _ _ _).mono ?_
  rintro e w3 ⟨g3, rfl, ho3, hb3⟩
  have hz3 := hb3.size
  simp only [World.size_alloc] at hz3
  have q4 := keep_block hb3 (new_block w (.cells #[.int .i64 0, .int .i64 0, .slice none 0 0] 40))
  have Q4 := Lib.hid q4
  have HO3 := Lib.hid ho3
  have HBW := Lib.hid (show Below w.heap.size w w3 by (repeat' first | exact Below.refl _ _ | (refine Below.setCell ?_ (by first | omega | (simp; omega) | simp) _) | (refine below_drewN ?_ _) | (refine Below.alloc ?_ (by first | omega | (simp; omega) | simp) _) | (refine Below.trans ?_ (Below.mono (by assumption) (by first | omega | (simp; omega) | simp)))))
  have HS0 := Lib.hid (new_block w3 (.cells #[.int .i64 W, .int .i64 H, .slice (some ⟨g3, 0, none⟩) 0 0] 40))
  have HO0 := Lib.hid (World.ownsRow.alloc HO3.out (.cells #[.int .i64 W, .int .i64 H, .slice (some ⟨g3, 0, none⟩) 0 0] 40))
  have HB0 := Lib.hid (show Below w3.heap.size w3 (w3.alloc (.cells #[.int .i64 W, .int .i64 H, .slice (some ⟨g3, 0, none⟩) 0 0] 40)) from (Below.refl _ _).alloc (Nat.le_refl _) _)
  clear hb3 ho3 q4
  go_wp2
  go_loopw [8] (fun i wr => ∃ (k : Nat) (v : Value) (xs : List Value), k ≤ n ∧ i = .int .i64 k ∧ wr.heap[w3.heap.size]? = some (.cells #[.int .i64 W, .int .i64 H, v] 40) ∧ wr.ownsRow (w.heap.size + 1) 28 1 v k xs ∧ FPts k (fun _ => d) xs ∧ Below (w.heap.size + 1) w3 wr)
    (fun i _ => n - (intOf i).toNat)
  case atStart => exact ⟨0, _, [], Nat.zero_le _, rfl, HS0.out, by simpa using HO0.out, FPts.nil _, by exact (HB0.out.mono (by omega))⟩
  case round =>
    obtain ⟨k, v, xs, hk, rfl, hblk, hown, hpts, hbel⟩ := hrel
    have HBK := Lib.hid hblk
    have HO := Lib.hid hown
    have HP := Lib.hid hpts
    have HB := Lib.hid hbel
    have hSl := block_lt hblk
    have s0 := (cells_of (i := 0) hblk).trans (show _ = some (.int .i64 W) from rfl)
    have s1 := (cells_of (i := 1) hblk).trans (show _ = some (.int .i64 H) from rfl)
    have s2 := (cells_of (i := 2) hblk).trans (show _ = some v from rfl)
    have fS := free_of hblk 2
    have hbs := hbel.size
    clear hblk hown hpts hbel
    by_cases hlt : k < n
    · have hkN : (k : Int) < W * H := by have := HN.out; omega
      clear s0 s1
      have HS4 := Lib.hid (alloc_block (o' := .cells #[.float .f32 y] 28) HBK.out)
      have HO4 := Lib.hid (World.ownsRow.alloc HO.out (.cells #[.float .f32 y] 28))
      have HB4 := Lib.hid (HB.out.alloc (show w.heap.size + 1 ≤ wr.heap.size by omega) (.cells #[.float .f32 y] 28))
      go_wp2_with (first
        | (
          at_builtin
          refine wpList_append_own _ rfl (.tmp 20) (.tmp 22) 22 rfl (w.heap.size + 1) 28 i0 (.float .f32 0) 1 4 Try.underlying22 hi hz0 hz1 hz2 rfl (by decide) v k xs rfl HO4.out ⟨_, 0, none⟩ 1 1 [.float .f32 y] rfl rfl (cell_new _ _ _ _ (by first | rfl | simp)) (by intro u hu; rw [List.mem_singleton.1 hu]; rfl) (by unfold maxLen; omega) (by omega) (by simp; omega) ?_
          intro v5 w5 hown5 hgrow5 hnil5
          obtain ⟨g5, cap5, rfl⟩ := Joins.ownsRow_form hown5 (by omega)
          have hz45 := hgrow5.size
          obtain ⟨hS5, hb5⟩ := appended HS4.out HO4.out HB4.out (by simp; omega) hgrow5 (by decide)
          have d50 := (cells_of (i := 2) hS5).trans (show _ = some v from rfl)
          have f50 := free_of hS5 2
          have l5 := block_lt hS5
          have HS5 := Lib.hid hS5
          have HO5 := Lib.hid hown5
          have HB5 := Lib.hid hb5
          clear hS5 hown5 hgrow5 hnil5 hb5
          skip))
      go_roundw
      case rel => exact ⟨k + 1, _, _, by omega, by go_num, setCell_block HS5.out 2 _, own_set HO5.out HS5.out (by decide), HP.out.next fy, Below.setCell HB5.out (by omega) (p := ⟨w3.heap.size, 2, none⟩) _⟩
      case measure => simp [intOf]; omega
    · obtain rfl : n = k := by omega
      have hge : ¬ (n : Int) < W * H := by have := HN.out; omega
      obtain ⟨av, capv, rfl, hio⟩ := isO_of HO.out HP.out (by omega)
      have HIO := Lib.hid hio
      have q4 : wr.heap[w.heap.size]? = some (.cells #[.int .i64 0, .int .i64 0, .slice none 0 0] 40) := by rw [HB.out.block _ (by omega)]; exact Q4.out
      have l4 := block_lt q4
      have c90 := (cells_of (i := 0) q4).trans (show _ = some (.int .i64 0) from rfl)
      have c91 := (cells_of (i := 1) q4).trans (show _ = some (.int .i64 0) from rfl)
      have c92 := (cells_of (i := 2) q4).trans (show _ = some (.slice none 0 0) from rfl)
      have f90 := free_of q4 0
      have f91 := free_of q4 1
      have f92 := free_of q4 2
      have HB9 := Lib.hid (HBW.out.trans (HB.out.mono (by omega)))
      clear q4 hio
      go_wp2
      refine bodyPost_ret ?ohr rfl ⟨av, capv, rfl, ?oio, ?obel⟩
      case ohr => simp [results, Try.results154, go_sem, *]
      case oio =>
        refine (HIO.out.keep fun g hg _ _ => ?_).wider (by omega) (by simp)
        rw [set_keep _ _ _ (by omega), set_keep _ _ _ (by omega), set_keep _ _ _ (by omega)]
      case obel => exact Below.setCell (Below.setCell (Below.setCell HB9.out (Nat.le_refl _) (p := ⟨w.heap.size, 0, none⟩) _) (Nat.le_refl _) (p := ⟨w.heap.size, 1, none⟩) _) (Nat.le_refl _) (p := ⟨w.heap.size, 2, none⟩) _

theorem spec_sizeD (W H : Int) (w : World) : Calls Try.prog 92 #[.int .i64 W, .int .i64 H] w (RetD (.bool (sideB W && sideB H)) w) := (spec_size W H w).mono fun e w' ⟨he, hw⟩ => ⟨he, by rw [← hw]; exact Below.refl _ _⟩

theorem impl_flat1 (W H : Int) (a : Option Addr) (n cap : Nat) (x1 y1 p0 y : Nat) (d : Option Nat) (w : World) (fy : Fr .f32 y d) (e0 : w.cell? ⟨p0, 0, none⟩ = some (.float .f32 y)) :
    Calls Try.prog 155 #[bV W H a n cap, .int .i64 (x1 : Int), .int .i64 (y1 : Int), .pointer (some ⟨p0, 0, none⟩)] w (RetF .f32 d w) := by
  have hp := block_lt_of_cell e0
  go_enter Try.func155, Try.ntmps155
  go_wp2
  go_ret
  exact ⟨_, rfl, fy, by (repeat' first | exact Below.refl _ _ | (refine Below.setCell ?_ (by first | omega | (simp; omega) | simp) _) | (refine below_drewN ?_ _) | (refine Below.alloc ?_ (by first | omega | (simp; omega) | simp) _) | (refine Below.trans ?_ (Below.mono (by assumption) (by first | omega | (simp; omega) | simp))))⟩

theorem enter_flat1 (args : Array Value) (w : World) : (callFunc 155 args).run Try.prog w = .ok (.enter 155 args) w := by go_simp

set_option maxHeartbeats 3200000 in
theorem impl_FlatB (W H : Int) (y : Nat) (d : Option Nat) (w : World) (fy : Fr .f32 y d) (R : Bool) (hR0 : ((sideB W && sideB H) && allF (fun _ => d) (W * H).toNat) = R) : Calls Try.prog 116 #[.int .i64 W, .int .i64 H, .float .f32 y] w (RetG R W H (W * H).toNat (fun _ => d) w) := by
  have HE := Lib.hid (fun (w' : World) (p0 : Nat) (e0 : w'.cell? ⟨p0, 0, none⟩ = some (.float .f32 y)) => each_cell W H none 0 0 155 #[.pointer (some ⟨p0, 0, none⟩)] (fun _ => d) w' enter_flat1 (fun x1 y1 w'' hx hy _ _ hb' => impl_flat1 W H none 0 0 x1 y1 p0 y d w'' fy ((hb'.cell (block_lt_of_cell e0)).trans e0)) R hR0)
  unfold RetG
  generalize (if R then W else 0) = W' at *
  generalize (if R then H else 0) = H' at *
  generalize (if R then (W * H).toNat else 0) = n at *
  clear hR0
  go_enter Try.func116, Try.ntmps116
  go_wp2_with fail
  refine (HE.out _ _ (by go_simp)).mono ?_
  rintro e w1 ⟨av, capv, rfl, ho, hb1⟩
  have hz1 := hb1.size
  try simp only [World.size_alloc, World.size_setCell, World.heap_drewN, World.size_drew] at hz1
  obtain ⟨hc1, hf1⟩ := Fl.bcell hb1
  try simp only [World.heap_drewN, World.cell?_drewN, World.frozen?_drewN] at hc1 hf1
  have g1_0 : w.heap.size < w1.heap.size := by omega
  have g1' : w.heap.size + 1 < w1.heap.size := by omega
  have HO := Lib.hid ho
  clear ho
  go_wp2
  refine bodyPost_ret ?ohr rfl ⟨av, capv, rfl, ?oio, ?obel⟩
  case ohr => simp [results, Try.results116, go_sem, *]
  case oio =>
    refine (HO.out.keep fun g hg _ _ => ?_).wider (by simp; omega) (by simp)
    simp at hg
    rw [set_keep _ _ _ (by omega), set_keep _ _ _ (by omega), set_keep _ _ _ (by omega)]
  case obel => (repeat' first | exact Below.refl _ _ | (refine Below.setCell ?_ (by first | omega | (simp; omega) | simp) _) | (refine below_drewN ?_ _) | (refine Below.alloc ?_ (by first | omega | (simp; omega) | simp) _) | (refine Below.trans ?_ (Below.mono (by assumption) (by first | omega | (simp; omega) | simp))))

end Ba
end Go.Proofs.Ytbinjkaanbhikaa
