/- Blobs in basins: the program. -/
import Derived.Test.YtbinjkaanbhikaaBaBl
namespace Go.Proofs.Ytbinjkaanbhikaa
set_option linter.unusedSimpArgs false
set_option linter.unusedVariables false
open Go.RowKit
set_option maxRecDepth 20000
namespace Ba
open Fl Rate

set_option maxHeartbeats 6400000 in
theorem impl_BlobB (W H : Int) (x y r s : Nat) (cx cy cr cs : Option Nat) (w : World) (fx : Fr .f32 x cx) (fy : Fr .f32 y cy) (fr : Fr .f32 r cr) (fs : Fr .f32 s cs) (R : Bool) (hR0 : (blobB cx cy cr cs && ((sideB W && sideB H) && allF (blobC W H cx cy (op2 .mul .f32 cr cr) cs) (W * H).toNat)) = R) : Calls Try.prog 39 #[.int .i64 W, .int .i64 H, .float .f32 x, .float .f32 y, .float .f32 r, .float .f32 s] w (RetG R W H (W * H).toNat (blobC W H cx cy (op2 .mul .f32 cr cr) cs) w) := by
  have HF := Lib.hid (fun w b hb => impl_four w x y r s cx cy cr cs fx fy fr fs b hb)
  cases hB : blobB cx cy cr cs
  · rw [hB] at HF hR0
    obtain rfl : R = false := by rw [← hR0]; rfl
    clear hR0
    show Calls _ _ _ w (RetG false W H (W * H).toNat _ w)
    go_enter Try.func39, Try.ntmps39
    go_wp2_with fail
    refine (HF.out _ _ (new_at (by simp))).mono ?_
    rintro e w1 ⟨rfl, hb1⟩
    have hz1 := hb1.size
    try simp only [World.size_alloc, World.size_setCell, World.heap_drewN, World.size_drew] at hz1
    obtain ⟨hc1, hf1⟩ := Fl.bcell hb1
    try simp only [World.heap_drewN, World.cell?_drewN, World.frozen?_drewN] at hc1 hf1
    have g1_0 : w.heap.size < w1.heap.size := by omega
    have g1_1 : w.heap.size + 1 < w1.heap.size := by omega
    have g1_2 : w.heap.size + 1 + 1 < w1.heap.size := by omega
    have g1_3 : w.heap.size + 1 + 1 + 1 < w1.heap.size := by omega
    have g1_4 : w.heap.size + 1 + 1 + 1 + 1 < w1.heap.size := by omega
    have g1_5 : w.heap.size + 1 + 1 + 1 + 1 + 1 < w1.heap.size := by omega
    go_wp2
    refine bodyPost_ret ?ohr rfl (retG_no ?obel)
    case ohr => simp [results, Try.results39, go_sem, *]
    case obel => (repeat' first | exact Below.refl _ _ | (refine Below.setCell ?_ (by first | omega | (simp; omega) | simp) _) | (refine below_drewN ?_ _) | (refine Below.alloc ?_ (by first | omega | (simp; omega) | simp) _) | (refine Below.trans ?_ (Below.mono (by assumption) (by first | omega | (simp; omega) | simp))))
  rw [hB, Bool.true_and] at hR0
  rw [hB] at HF
  have HE := Lib.hid (fun (w' : World) (p0 : Nat) (p1 : Nat) (p2 : Nat) (p3 : Nat) (p4 : Nat) (p5 : Nat) (m : Nat) (fm : Fr .f32 m (op2 .mul .f32 cr cr)) (e0 : w'.cell? ⟨p0, 0, none⟩ = some (.float .f32 x)) (e1 : w'.cell? ⟨p1, 0, none⟩ = some (.int .i64 W)) (e2 : w'.cell? ⟨p2, 0, none⟩ = some (.float .f32 y)) (e3 : w'.cell? ⟨p3, 0, none⟩ = some (.int .i64 H)) (e4 : w'.cell? ⟨p4, 0, none⟩ = some (.float .f32 m)) (e5 : w'.cell? ⟨p5, 0, none⟩ = some (.float .f32 s)) => each_cell W H none 0 0 94 #[.pointer (some ⟨p0, 0, none⟩), .pointer (some ⟨p1, 0, none⟩), .pointer (some ⟨p2, 0, none⟩), .pointer (some ⟨p3, 0, none⟩), .pointer (some ⟨p4, 0, none⟩), .pointer (some ⟨p5, 0, none⟩)] (blobC W H cx cy (op2 .mul .f32 cr cr) cs) w' enter_blob1 (fun x1 y1 w'' hx hy s1 s2 hb' => impl_blob1 W H none 0 0 x1 y1 p0 p1 p2 p3 p4 p5 x y m s cx cy _ cs w'' hx hy s1 fx fy fm fs ((hb'.cell (block_lt_of_cell e0)).trans e0) ((hb'.cell (block_lt_of_cell e1)).trans e1) ((hb'.cell (block_lt_of_cell e2)).trans e2) ((hb'.cell (block_lt_of_cell e3)).trans e3) ((hb'.cell (block_lt_of_cell e4)).trans e4) ((hb'.cell (block_lt_of_cell e5)).trans e5)) R hR0)
  unfold RetG
  generalize (if R then W else 0) = W' at *
  generalize (if R then H else 0) = H' at *
  generalize (if R then (W * H).toNat else 0) = n at *
  clear hR0 hB
  go_enter Try.func39, Try.ntmps39
  go_wp2_with fail
  refine (HF.out _ _ (new_at (by simp))).mono ?_
  rintro e w1 ⟨rfl, hb1⟩
  have hz1 := hb1.size
  try simp only [World.size_alloc, World.size_setCell, World.heap_drewN, World.size_drew] at hz1
  obtain ⟨hc1, hf1⟩ := Fl.bcell hb1
  try simp only [World.heap_drewN, World.cell?_drewN, World.frozen?_drewN] at hc1 hf1
  have g1_0 : w.heap.size < w1.heap.size := by omega
  have g1_1 : w.heap.size + 1 < w1.heap.size := by omega
  have g1_2 : w.heap.size + 1 + 1 < w1.heap.size := by omega
  have g1_3 : w.heap.size + 1 + 1 + 1 < w1.heap.size := by omega
  have g1_4 : w.heap.size + 1 + 1 + 1 + 1 < w1.heap.size := by omega
  have g1_5 : w.heap.size + 1 + 1 + 1 + 1 + 1 < w1.heap.size := by omega
  have b1_0 : w1.cell? ⟨w.heap.size, 0, none⟩ = some (.int .i64 W) := (hc1 _ _ (by simp <;> omega)).trans (by go_simp)
  have b1_1 : w1.cell? ⟨w.heap.size + 1, 0, none⟩ = some (.int .i64 H) := (hc1 _ _ (by simp <;> omega)).trans (by go_simp)
  have b1_2 : w1.cell? ⟨w.heap.size + 1 + 1, 0, none⟩ = some (.float .f32 x) := (hc1 _ _ (by simp <;> omega)).trans (by go_simp)
  have b1_3 : w1.cell? ⟨w.heap.size + 1 + 1 + 1, 0, none⟩ = some (.float .f32 y) := (hc1 _ _ (by simp <;> omega)).trans (by go_simp)
  have b1_4 : w1.cell? ⟨w.heap.size + 1 + 1 + 1 + 1, 0, none⟩ = some (.float .f32 s) := (hc1 _ _ (by simp <;> omega)).trans (by go_simp)
  go_wp2_with fail
  refine (product_run _ _ _ _ _ fr fr).mono ?_
  rintro e w2 ⟨r2, rfl, hr2, hb2⟩
  have hz2 := hb2.size
  try simp only [World.size_alloc, World.size_setCell, World.heap_drewN, World.size_drew] at hz2
  obtain ⟨hc2, hf2⟩ := Fl.bcell hb2
  try simp only [World.heap_drewN, World.cell?_drewN, World.frozen?_drewN] at hc2 hf2
  have g2_0 : w.heap.size < w2.heap.size := by omega
  have g2_1 : w.heap.size + 1 < w2.heap.size := by omega
  have g2_2 : w.heap.size + 1 + 1 < w2.heap.size := by omega
  have g2_3 : w.heap.size + 1 + 1 + 1 < w2.heap.size := by omega
  have g2_4 : w.heap.size + 1 + 1 + 1 + 1 < w2.heap.size := by omega
  have g2_5 : w.heap.size + 1 + 1 + 1 + 1 + 1 < w2.heap.size := by omega
  have b2_0 : w2.cell? ⟨w.heap.size, 0, none⟩ = some (.int .i64 W) := (hc2 _ _ (by first | omega | (simp; omega))).trans (by first | exact b1_0 | (simpa using b1_0))
  have b2_1 : w2.cell? ⟨w.heap.size + 1, 0, none⟩ = some (.int .i64 H) := (hc2 _ _ (by first | omega | (simp; omega))).trans (by first | exact b1_1 | (simpa using b1_1))
  have b2_2 : w2.cell? ⟨w.heap.size + 1 + 1, 0, none⟩ = some (.float .f32 x) := (hc2 _ _ (by first | omega | (simp; omega))).trans (by first | exact b1_2 | (simpa using b1_2))
  have b2_3 : w2.cell? ⟨w.heap.size + 1 + 1 + 1, 0, none⟩ = some (.float .f32 y) := (hc2 _ _ (by first | omega | (simp; omega))).trans (by first | exact b1_3 | (simpa using b1_3))
  have b2_4 : w2.cell? ⟨w.heap.size + 1 + 1 + 1 + 1, 0, none⟩ = some (.float .f32 s) := (hc2 _ _ (by first | omega | (simp; omega))).trans (by first | exact b1_4 | (simpa using b1_4))
  go_wp2_with fail
  refine (HE.out _ _ _ _ _ _ _ _ hr2 (by go_simp) (by go_simp) (by go_simp) (by go_simp) (by go_simp) (by go_simp)).mono ?_
  rintro e w3 ⟨av, capv, rfl, ho, hb3⟩
  have hz3 := hb3.size
  try simp only [World.size_alloc, World.size_setCell, World.heap_drewN, World.size_drew] at hz3
  obtain ⟨hc3, hf3⟩ := Fl.bcell hb3
  try simp only [World.heap_drewN, World.cell?_drewN, World.frozen?_drewN] at hc3 hf3
  have g3_0 : w.heap.size < w3.heap.size := by omega
  have g3_1 : w.heap.size + 1 < w3.heap.size := by omega
  have g3_2 : w.heap.size + 1 + 1 < w3.heap.size := by omega
  have g3_3 : w.heap.size + 1 + 1 + 1 < w3.heap.size := by omega
  have g3_4 : w.heap.size + 1 + 1 + 1 + 1 < w3.heap.size := by omega
  have g3_5 : w.heap.size + 1 + 1 + 1 + 1 + 1 < w3.heap.size := by omega
  have HO := Lib.hid ho
  clear ho
  go_wp2
  refine bodyPost_ret ?ohr rfl ⟨av, capv, rfl, ?oio, ?obel⟩
  case ohr => simp [results, Try.results39, go_sem, *]
  case oio =>
    refine (HO.out.keep fun g hg _ _ => ?_).wider (by simp; omega) (by simp)
    try simp only [World.size_alloc, World.size_setCell] at hg
    rw [set_keep _ _ _ (by omega), set_keep _ _ _ (by omega), set_keep _ _ _ (by omega)]
  case obel => (repeat' first | exact Below.refl _ _ | (refine Below.setCell ?_ (by first | omega | (simp; omega) | simp) _) | (refine below_drewN ?_ _) | (refine Below.alloc ?_ (by first | omega | (simp; omega) | simp) _) | (refine Below.trans ?_ (Below.mono (by assumption) (by first | omega | (simp; omega) | simp))))

end Ba
end Go.Proofs.Ytbinjkaanbhikaa
