/- Impulses of threads: the program's function and the model's. -/
import Derived.Test.YtjkkefbfhapblaaThA
namespace Go.Proofs.Ytjkkefbfhapblaa
set_option linter.unusedSimpArgs false
set_option linter.unusedVariables false
open Go.RowKit
set_option maxRecDepth 20000
namespace Th
open Fl Rate

def impC (c : Nat → Option Nat) (n : Nat) (cs : Option Nat) (i : Nat) : Option Nat := op2 .mul .f32 (areaC c n i) cs

set_option maxHeartbeats 3200000 in
theorem spec_ImpT (a : Option Addr) (n cap s : Nat) (cs : Option Nat) (c : Nat → Option Nat) (w : World) (h : IsV w a n cap c) (fs : Fr .f32 s cs) (A : Bool) (hA : okT n cs c = A) (F : Bool) (hF : (A && fin3 (areaC c n 0) (areaC c n 1) (areaC c n 2)) = F) (F2 : Bool) (hF2 : (F && fin3 (impC c n cs 0) (impC c n cs 1) (impC c n cs 2)) = F2) :
    Calls Try.prog 14 #[tV a n cap s] w (RetVF F2 (impC c n cs 0) (impC c n cs 1) (impC c n cs 2) w) := by
  have HA := Lib.hid (fun w' (hb : Below w.heap.size w w') => spec_AreaT a n cap s cs c w' (h.later hb) fs A hA F hF)
  clear hF hA h
  cases F
  · obtain rfl : F2 = false := by rw [← hF2]; rfl
    clear hF2
    go_enter Try.func14, Try.ntmps14
    go_wp2_with fail
    refine (HA.out _ (by (repeat' first | exact Below.refl _ _ | (refine Below.setCell ?_ (by first | omega | (simp; omega) | simp) _) | (refine below_drewN ?_ _) | (refine Below.alloc ?_ (by first | omega | (simp; omega) | simp) _) | (refine Below.trans ?_ (Below.mono (by assumption) (by first | omega | (simp; omega) | simp)))))).mono ?_
    rintro e w1 ⟨x1, y1, z1, rfl, fx, fy, fz, hb1⟩
    have hz1 := hb1.size
    try simp only [World.size_alloc, World.size_setCell, World.heap_drewN, World.size_drew] at hz1
    obtain ⟨hc1, hf1⟩ := Fl.bcell hb1
    try simp only [World.heap_drewN, World.cell?_drewN, World.frozen?_drewN] at hc1 hf1
    have g1_0 : w.heap.size < w1.heap.size := by omega
    have g1' : w.heap.size + 1 < w1.heap.size := by omega
    go_wp2
    refine bodyPost_ret ?ohr rfl ⟨0, 0, 0, rfl, zz, zz, zz, ?obel⟩
    case ohr => simp [results, Try.results14, go_sem, *]
    case obel => (repeat' first | exact Below.refl _ _ | (refine Below.setCell ?_ (by first | omega | (simp; omega) | simp) _) | (refine below_drewN ?_ _) | (refine Below.alloc ?_ (by first | omega | (simp; omega) | simp) _) | (refine Below.trans ?_ (Below.mono (by assumption) (by first | omega | (simp; omega) | simp))))
  · rw [Bool.true_and] at hF2
    have HF := Lib.hid hF2
    clear hF2
    go_enter Try.func14, Try.ntmps14
    go_wp2_with fail
    refine (HA.out _ (by (repeat' first | exact Below.refl _ _ | (refine Below.setCell ?_ (by first | omega | (simp; omega) | simp) _) | (refine below_drewN ?_ _) | (refine Below.alloc ?_ (by first | omega | (simp; omega) | simp) _) | (refine Below.trans ?_ (Below.mono (by assumption) (by first | omega | (simp; omega) | simp)))))).mono ?_
    rintro e w1 ⟨x1, y1, z1, rfl, fx, fy, fz, hb1⟩
    have hz1 := hb1.size
    simp only [World.size_alloc] at hz1
    have qp := keep_block hb1 (alloc_block (o' := .cells #[.float .f32 0, .float .f32 0, .float .f32 0] 28) (new_block w (.cells #[.slice a n cap, .float .f32 s] 33)))
    have q4 : w1.heap[w.heap.size + 1]? = some (.cells #[.float .f32 0, .float .f32 0, .float .f32 0] 28) := keep_block hb1 (by simpa using new_block (w.alloc (.cells #[.slice a n cap, .float .f32 s] 33)) (.cells #[.float .f32 0, .float .f32 0, .float .f32 0] 28))
    have e20 := (cells_of (i := 0) qp).trans (show _ = some (.slice a n cap) from rfl)
    have e21 := (cells_of (i := 1) qp).trans (show _ = some (.float .f32 s) from rfl)
    have hbw : Below w.heap.size w w1 := by (repeat' first | exact Below.refl _ _ | (refine Below.setCell ?_ (by first | omega | (simp; omega) | simp) _) | (refine below_drewN ?_ _) | (refine Below.alloc ?_ (by first | omega | (simp; omega) | simp) _) | (refine Below.trans ?_ (Below.mono (by assumption) (by first | omega | (simp; omega) | simp))))
    have HBW := Lib.hid hbw
    have lP := block_lt qp
    have Q4 := Lib.hid q4
    clear qp q4 hbw hb1
    simp only [if_true] at fx fy fz
    have hfs := fs
    go_wp2_with fail
    refine (Vec.spec_scale _ _ _ _ _ _ _ _ _ fx fy fz hfs).mono ?_
    rintro e w2 ⟨x2, y2, z2, rfl, fx2, fy2, fz2, hb2⟩
    have hz2 := hb2.size
    simp only [World.size_alloc] at hz2
    clear e20 e21
    go_wp2_with fail
    refine (spec_checkedV _ _ _ _ _ _ _ fx2 fy2 fz2 F2 HF.out).mono ?_
    rintro e w3 ⟨x9, y9, z9, rfl, gx, gy, gz, hb3⟩
    have hz3 := hb3.size
    have q4 := keep_block hb3 (keep_block hb2 (alloc_block Q4.out))
    have t0 := (cells_of (i := 0) q4).trans (show _ = some (.float .f32 0) from rfl)
    have t1 := (cells_of (i := 1) q4).trans (show _ = some (.float .f32 0) from rfl)
    have t2 := (cells_of (i := 2) q4).trans (show _ = some (.float .f32 0) from rfl)
    have u0 := free_of q4 0
    have u1 := free_of q4 1
    have u2 := free_of q4 2
    have l4 := block_lt q4
    have HBX := Lib.hid ((HBW.out.alloc (by omega) _).trans ((hb2.mono (by simp; omega)).trans (hb3.mono (by omega))))
    have F4 := Lib.hid (And.intro gx (And.intro gy gz))
    clear q4 hb2 hb3 gx gy gz fx fy fz fx2 fy2 fz2
    go_wp2
    refine bodyPost_ret ?ohr rfl ⟨x9, y9, z9, rfl, F4.out.1, F4.out.2.1, F4.out.2.2, ?obel⟩
    case ohr => simp [results, Try.results14, go_sem, *]
    case obel => exact ((HBX.out.setCell (by first | omega | simp) _).setCell (by first | omega | simp) _).setCell (by first | omega | simp) _

set_option maxHeartbeats 3200000 in
theorem impl_ImpT (a : Option Addr) (n cap s : Nat) (cs : Option Nat) (c : Nat → Option Nat) (w : World) (h : IsV w a n cap c) (fs : Fr .f32 s cs) (A : Bool) (hA : okT n cs c = A) (F : Bool) (hF : (A && fin3 (areaC c n 0) (areaC c n 1) (areaC c n 2)) = F) (F2 : Bool) (hF2 : (F && fin3 (impC c n cs 0) (impC c n cs 1) (impC c n cs 2)) = F2) :
    Calls Try.prog 16 #[tV a n cap s] w (RetVF F2 (impC c n cs 0) (impC c n cs 1) (impC c n cs 2) w) := by
  have HA := Lib.hid (fun w' (hb : Below w.heap.size w w') => impl_AreaT a n cap s cs c w' (h.later hb) fs A hA F hF)
  clear hF hA h
  cases F
  · obtain rfl : F2 = false := by rw [← hF2]; rfl
    clear hF2
    go_enter Try.func16, Try.ntmps16
    go_wp2_with fail
    refine (HA.out _ (by (repeat' first | exact Below.refl _ _ | (refine Below.setCell ?_ (by first | omega | (simp; omega) | simp) _) | (refine below_drewN ?_ _) | (refine Below.alloc ?_ (by first | omega | (simp; omega) | simp) _) | (refine Below.trans ?_ (Below.mono (by assumption) (by first | omega | (simp; omega) | simp)))))).mono ?_
    rintro e w1 ⟨x1, y1, z1, rfl, fx, fy, fz, hb1⟩
    have hz1 := hb1.size
    try simp only [World.size_alloc, World.size_setCell, World.heap_drewN, World.size_drew] at hz1
    obtain ⟨hc1, hf1⟩ := Fl.bcell hb1
    try simp only [World.heap_drewN, World.cell?_drewN, World.frozen?_drewN] at hc1 hf1
    have g1_0 : w.heap.size < w1.heap.size := by omega
    have g1' : w.heap.size + 1 < w1.heap.size := by omega
    go_wp2
    refine bodyPost_ret ?ohr rfl ⟨0, 0, 0, rfl, zz, zz, zz, ?obel⟩
    case ohr => simp [results, Try.results16, go_sem, *]
    case obel => (repeat' first | exact Below.refl _ _ | (refine Below.setCell ?_ (by first | omega | (simp; omega) | simp) _) | (refine below_drewN ?_ _) | (refine Below.alloc ?_ (by first | omega | (simp; omega) | simp) _) | (refine Below.trans ?_ (Below.mono (by assumption) (by first | omega | (simp; omega) | simp))))
  · rw [Bool.true_and] at hF2
    have HF := Lib.hid hF2
    clear hF2
    go_enter Try.func16, Try.ntmps16
    go_wp2_with fail
    refine (HA.out _ (by (repeat' first | exact Below.refl _ _ | (refine Below.setCell ?_ (by first | omega | (simp; omega) | simp) _) | (refine below_drewN ?_ _) | (refine Below.alloc ?_ (by first | omega | (simp; omega) | simp) _) | (refine Below.trans ?_ (Below.mono (by assumption) (by first | omega | (simp; omega) | simp)))))).mono ?_
    rintro e w1 ⟨x1, y1, z1, rfl, fx, fy, fz, hb1⟩
    have hz1 := hb1.size
    simp only [World.size_alloc] at hz1
    have qp := keep_block hb1 (alloc_block (o' := .cells #[.float .f32 0, .float .f32 0, .float .f32 0] 28) (new_block w (.cells #[.slice a n cap, .float .f32 s] 33)))
    have q4 : w1.heap[w.heap.size + 1]? = some (.cells #[.float .f32 0, .float .f32 0, .float .f32 0] 28) := keep_block hb1 (by simpa using new_block (w.alloc (.cells #[.slice a n cap, .float .f32 s] 33)) (.cells #[.float .f32 0, .float .f32 0, .float .f32 0] 28))
    have e20 := (cells_of (i := 0) qp).trans (show _ = some (.slice a n cap) from rfl)
    have e21 := (cells_of (i := 1) qp).trans (show _ = some (.float .f32 s) from rfl)
    have hbw : Below w.heap.size w w1 := by (repeat' first | exact Below.refl _ _ | (refine Below.setCell ?_ (by first | omega | (simp; omega) | simp) _) | (refine below_drewN ?_ _) | (refine Below.alloc ?_ (by first | omega | (simp; omega) | simp) _) | (refine Below.trans ?_ (Below.mono (by assumption) (by first | omega | (simp; omega) | simp))))
    have HBW := Lib.hid hbw
    have lP := block_lt qp
    have Q4 := Lib.hid q4
    clear qp q4 hbw hb1
    simp only [if_true] at fx fy fz
    have hfs := fs
    go_wp2_with fail
    refine (Vec.impl_scale _ _ _ _ _ _ _ _ _ fx fy fz hfs).mono ?_
    rintro e w2 ⟨x2, y2, z2, rfl, fx2, fy2, fz2, hb2⟩
    have hz2 := hb2.size
    simp only [World.size_alloc] at hz2
    clear e20 e21
    go_wp2_with fail
    refine (impl_checkedV _ _ _ _ _ _ _ fx2 fy2 fz2 F2 HF.out).mono ?_
    rintro e w3 ⟨x9, y9, z9, rfl, gx, gy, gz, hb3⟩
    have hz3 := hb3.size
    have q4 := keep_block hb3 (keep_block hb2 (alloc_block Q4.out))
    have t0 := (cells_of (i := 0) q4).trans (show _ = some (.float .f32 0) from rfl)
    have t1 := (cells_of (i := 1) q4).trans (show _ = some (.float .f32 0) from rfl)
    have t2 := (cells_of (i := 2) q4).trans (show _ = some (.float .f32 0) from rfl)
    have u0 := free_of q4 0
    have u1 := free_of q4 1
    have u2 := free_of q4 2
    have l4 := block_lt q4
    have HBX := Lib.hid ((HBW.out.alloc (by omega) _).trans ((hb2.mono (by simp; omega)).trans (hb3.mono (by omega))))
    have F4 := Lib.hid (And.intro gx (And.intro gy gz))
    clear q4 hb2 hb3 gx gy gz fx fy fz fx2 fy2 fz2
    go_wp2
    refine bodyPost_ret ?ohr rfl ⟨x9, y9, z9, rfl, F4.out.1, F4.out.2.1, F4.out.2.2, ?obel⟩
    case ohr => simp [results, Try.results16, go_sem, *]
    case obel => exact ((HBX.out.setCell (by first | omega | simp) _).setCell (by first | omega | simp) _).setCell (by first | omega | simp) _

end Th
end Go.Proofs.Ytjkkefbfhapblaa
