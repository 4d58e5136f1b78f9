/- Sums of basins: the program's. -/
import Derived.Test.YtbinjkaanbhikaaBaTi
namespace Go.Proofs.Ytbinjkaanbhikaa
set_option linter.unusedSimpArgs false
set_option linter.unusedVariables false
open Go.RowKit
set_option maxRecDepth 20000
namespace Ba
open Fl Rate

set_option maxHeartbeats 1600000 in
theorem impl_add1 (W H : Int) (a a' : Option Addr) (n cap cap' : Nat) (c d : Nat → Option Nat) (x y p0 : Nat) (w : World) (h : IsY w a n cap c) (h' : IsY w a' n cap' d) (hW : sideB W = true) (hH : sideB H = true) (hn : (n : Int) = W * H) (hx : (x : Int) < W) (hy : (y : Int) < H)
    (e0 : w.cell? ⟨p0, 0, none⟩ = some (.int .i64 W)) (e1 : w.cell? ⟨p0, 1, none⟩ = some (.int .i64 H)) (e2 : w.cell? ⟨p0, 2, none⟩ = some (.slice a' n cap')) :
    Calls Try.prog 83 #[bV W H a n cap, .int .i64 (x : Int), .int .i64 (y : Int), .pointer (some ⟨p0, 0, none⟩)] w (RetF .f32 (op2 .add .f32 (c ((W * (y : Int)).toNat + x)) (d ((W * (y : Int)).toNat + x))) w) := by
  have HI := Lib.hid (idx_cell hx hy)
  have sW := side_of hW
  have sH := side_of hH
  have HX := Lib.hid h
  have HX2 := Lib.hid h'
  have hp : p0 < w.heap.size := block_lt_of_cell e0
  clear h h'
  go_enter Try.func83, Try.ntmps83
  go_wp2
  refine Loose.wp_region_below 9 [] (by kernel_rfl) (by kernel_rfl) (by simp [undef]) ?_
  apply Exists.intro
  simp only [List.take_succ_cons, List.take_zero, List.drop_succ_cons, List.drop_zero]
  repeat (apply Loose.walk_step; intro K hK; apply Loose.turn_value (hwant := rfl) (hd := rfl); (focus (intro w' hw'; obtain ⟨hc, hf⟩ := Fl.bcell hw'; go_simp; first | done | rfl | exact ⟨rfl, rfl⟩)); go_simp; refine hK _ ?_; clear hK K)
  (apply Loose.walk_step; intro K hK; apply Loose.turn_callFB (Nat.le_refl _) (hwant := rfl) (hd := rfl); (focus (intro w'; go_simp; first | done | rfl | exact ⟨rfl, rfl⟩)); (focus (intro w' hw'; go_at_call 84; exact impl_at W H a n cap c w' ((HX.out.alloc _).later hw') hW hH hn (x : Int) (y : Int) (by omega) (by omega))); intro r hr; go_simp; refine hK _ ?_; clear hK K)
  repeat (apply Loose.walk_step; intro K hK; apply Loose.turn_value (hwant := rfl) (hd := rfl); (focus (intro w' hw'; obtain ⟨hc, hf⟩ := Fl.bcell hw'; go_simp; first | done | rfl | exact ⟨rfl, rfl⟩)); go_simp; refine hK _ ?_; clear hK K)
  (apply Loose.walk_step; intro K hK; apply Loose.turn_callFB (Nat.le_refl _) (hwant := rfl) (hd := rfl); (focus (intro w'; go_simp; first | done | rfl | exact ⟨rfl, rfl⟩)); (focus (intro w' hw'; go_at_call 84; exact impl_at W H a' n cap' d w' ((HX2.out.alloc _).later hw') hW hH hn (x : Int) (y : Int) (by omega) (by omega))); intro r hr; go_simp; refine hK _ ?_; clear hK K)
  repeat (apply Loose.walk_step; intro K hK; apply Loose.turn_value (hwant := rfl) (hd := rfl); (focus (intro w' hw'; obtain ⟨hc, hf⟩ := Fl.bcell hw'; go_simp; first | done | rfl | exact ⟨rfl, rfl⟩)); go_simp; refine hK _ ?_; clear hK K)
  (apply Loose.walk_step; intro K hK; refine Loose.turn_fl (Nat.le_refl _) rfl rfl rfl rfl rfl rfl (by assumption) (by assumption) ?_; intro r hr; go_simp; refine hK _ ?_; clear hK K)
  refine Loose.walk_nil ?_
  intro w1 hcls1
  obtain ⟨hb1, _⟩ := hcls1
  obtain ⟨hc1, hf1⟩ := Fl.bcell hb1
  have hz1 := hb1.size
  try simp only [World.size_alloc, World.size_setCell, World.heap_drewN, World.size_drew] at hz1
  go_wp2
  go_ret
  exact ⟨_, rfl, by rw [← HI.out]; assumption, by (repeat' first | exact Below.refl _ _ | (refine Below.setCell ?_ (by first | omega | (simp; omega) | simp) _) | (refine below_drewN ?_ _) | (refine Below.alloc ?_ (by first | omega | (simp; omega) | simp) _) | (refine Below.trans ?_ (Below.mono (by assumption) (by first | omega | (simp; omega) | simp))))⟩

theorem enter_add1 (args : Array Value) (w : World) : (callFunc 83 args).run Try.prog w = .ok (.enter 83 args) w := by go_simp

set_option maxHeartbeats 3200000 in
theorem impl_AddB (W H W' H' : Int) (a a' : Option Addr) (n n' cap cap' : Nat) (c d : Nat → Option Nat) (w : World) (h : IsY w a n cap c) (h' : IsY w a' n' cap' d) (A A2 : Bool) (hA : okB W H n c = A) (hA2 : okB W' H' n' d = A2) : Calls Try.prog 31 #[bV W H a n cap, bV W' H' a' n' cap'] w (RetG ((((A && A2) && decide (W = W')) && decide (H = H')) && allF (fun k => op2 .add .f32 (c k) (d k)) n) W H n (fun k => op2 .add .f32 (c k) (d k)) w) := by
  have HT := Lib.hid (fun g w' (hb : Below w.heap.size w w') j0 j1 j2 => impl_alike g W H W' H' a a' n n' cap cap' c d w' (h.later hb) (h'.later hb) A A2 hA hA2 j0 j1 j2)
  obtain ⟨L, hL⟩ : ∃ L, (((A && A2) && decide (W = W')) && decide (H = H')) = L := ⟨_, rfl⟩
  rw [hL] at HT ⊢
  cases L
  · clear h h' hA hA2 hL
    show Calls _ _ _ w (RetG false W H n _ w)
    go_enter Try.func31, Try.ntmps31
    go_wp2_with fail
    refine (HT.out _ _ (by (repeat' first | exact Below.refl _ _ | (refine Below.setCell ?_ (by first | omega | (simp; omega) | simp) _) | (refine below_drewN ?_ _) | (refine Below.alloc ?_ (by first | omega | (simp; omega) | simp) _) | (refine Below.trans ?_ (Below.mono (by assumption) (by first | omega | (simp; omega) | simp))))) (by go_simp) (by go_simp) (by go_simp)).mono ?_
    rintro e w1 ⟨rfl, hb1⟩
    have hz1 := hb1.size
    try simp only [World.size_alloc, World.size_setCell, World.heap_drewN, World.size_drew] at hz1
    obtain ⟨hc1, hf1⟩ := Fl.bcell hb1
    try simp only [World.heap_drewN, World.cell?_drewN, World.frozen?_drewN] at hc1 hf1
    have g1_0 : w.heap.size < w1.heap.size := by omega
    have g1_1 : w.heap.size + 1 < w1.heap.size := by omega
    have g1_2 : w.heap.size + 1 + 1 < w1.heap.size := by omega
    go_wp2
    refine bodyPost_ret ?ohr rfl (retG_no ?obel)
    case ohr => simp [results, Try.results31, go_sem, *]
    case obel => (repeat' first | exact Below.refl _ _ | (refine Below.setCell ?_ (by first | omega | (simp; omega) | simp) _) | (refine below_drewN ?_ _) | (refine Below.alloc ?_ (by first | omega | (simp; omega) | simp) _) | (refine Below.trans ?_ (Below.mono (by assumption) (by first | omega | (simp; omega) | simp))))
  simp only [Bool.and_eq_true, decide_eq_true_eq] at hL
  obtain ⟨⟨⟨rfl, rfl⟩, rfl⟩, rfl⟩ := hL
  have hs := okB_of hA
  have hs2 := okB_of hA2
  have hn9 := okB_n hA
  obtain rfl : n = n' := by have h1 := hs.2.2.1; have h2 := hs2.2.2.1; omega
  show Calls _ _ _ w (RetG (allF (fun k => op2 .add .f32 (c k) (d k)) n) W H n _ w)
  have hNn : (W * H).toNat = n := by omega
  obtain ⟨R, hR0⟩ : ∃ R, allF (fun k => op2 .add .f32 (c k) (d k)) n = R := ⟨_, rfl⟩
  have HE := Lib.hid (fun (w' : World) (hb : Below w.heap.size w w') (p0 : Nat) (e0 : w'.cell? ⟨p0, 0, none⟩ = some (.int .i64 W)) (e1 : w'.cell? ⟨p0, 1, none⟩ = some (.int .i64 H)) (e2 : w'.cell? ⟨p0, 2, none⟩ = some (.slice a' n cap')) => each_cell W H a n cap 83 #[.pointer (some ⟨p0, 0, none⟩)] (fun k => op2 .add .f32 (c k) (d k)) w' enter_add1 (fun x1 y1 w'' hx hy _ _ hb' => impl_add1 W H a a' n cap cap' c d x1 y1 p0 w'' ((h.later hb).later hb') ((h'.later hb).later hb') hs.1 hs.2.1 hs.2.2.1 hx hy ((hb'.cell (block_lt_of_cell e0)).trans e0) ((hb'.cell (block_lt_of_cell e1)).trans e1) ((hb'.cell (block_lt_of_cell e2)).trans e2)) R (by rw [hs.1, hs.2.1, hNn]; exact hR0))
  rw [hNn] at HE
  rw [hR0]
  unfold RetG
  generalize (if R then W else 0) = W' at *
  generalize (if R then H else 0) = H' at *
  generalize (if R then n else 0) = N' at *
  clear hR0 hs hs2 hNn h h' hA hA2
  go_enter Try.func31, Try.ntmps31
  go_wp2_with fail
  refine (HT.out _ _ (by (repeat' first | exact Below.refl _ _ | (refine Below.setCell ?_ (by first | omega | (simp; omega) | simp) _) | (refine below_drewN ?_ _) | (refine Below.alloc ?_ (by first | omega | (simp; omega) | simp) _) | (refine Below.trans ?_ (Below.mono (by assumption) (by first | omega | (simp; omega) | simp))))) (by go_simp) (by go_simp) (by go_simp)).mono ?_
  rintro e w1 ⟨rfl, hb1⟩
  have hz1 := hb1.size
  try simp only [World.size_alloc, World.size_setCell, World.heap_drewN, World.size_drew] at hz1
  obtain ⟨hc1, hf1⟩ := Fl.bcell hb1
  try simp only [World.heap_drewN, World.cell?_drewN, World.frozen?_drewN] at hc1 hf1
  have g1_0 : w.heap.size < w1.heap.size := by omega
  have g1_1 : w.heap.size + 1 < w1.heap.size := by omega
  have g1_2 : w.heap.size + 1 + 1 < w1.heap.size := by omega
  go_wp2_with fail
  refine (HE.out _ (by (repeat' first | exact Below.refl _ _ | (refine Below.setCell ?_ (by first | omega | (simp; omega) | simp) _) | (refine below_drewN ?_ _) | (refine Below.alloc ?_ (by first | omega | (simp; omega) | simp) _) | (refine Below.trans ?_ (Below.mono (by assumption) (by first | omega | (simp; omega) | simp))))) _ (by refine (hc1 _ _ (by simp)).trans ?_; go_simp) (by refine (hc1 _ _ (by simp)).trans ?_; go_simp) (by refine (hc1 _ _ (by simp)).trans ?_; go_simp)).mono ?_
  rintro e w2 ⟨av, capv, rfl, ho, hb2⟩
  have hz2 := hb2.size
  try simp only [World.size_alloc, World.size_setCell, World.heap_drewN, World.size_drew] at hz2
  obtain ⟨hc2, hf2⟩ := Fl.bcell hb2
  try simp only [World.heap_drewN, World.cell?_drewN, World.frozen?_drewN] at hc2 hf2
  have g2_0 : w.heap.size < w2.heap.size := by omega
  have g2_1 : w.heap.size + 1 < w2.heap.size := by omega
  have g2_2 : w.heap.size + 1 + 1 < w2.heap.size := by omega
  have HO := Lib.hid ho
  clear ho
  go_wp2
  refine bodyPost_ret ?ohr rfl ⟨av, capv, rfl, ?oio, ?obel⟩
  case ohr => simp [results, Try.results31, go_sem, *]
  case oio =>
    refine (HO.out.keep fun g hg _ _ => ?_).wider (by omega) (by simp)
    try simp only [World.size_alloc] at hg
    rw [set_keep _ _ _ (by omega), set_keep _ _ _ (by omega), set_keep _ _ _ (by omega)]
  case obel => (repeat' first | exact Below.refl _ _ | (refine Below.setCell ?_ (by first | omega | (simp; omega) | simp) _) | (refine below_drewN ?_ _) | (refine Below.alloc ?_ (by first | omega | (simp; omega) | simp) _) | (refine Below.trans ?_ (Below.mono (by assumption) (by first | omega | (simp; omega) | simp))))

end Ba
end Go.Proofs.Ytbinjkaanbhikaa
