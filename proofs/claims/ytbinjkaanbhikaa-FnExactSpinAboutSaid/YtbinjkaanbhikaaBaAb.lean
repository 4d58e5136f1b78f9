/- Spins between cells. -/
import Derived.Test.YtbinjkaanbhikaaBaFo
import Derived.Test.YtbinjkaanbhikaaLooseP
namespace Go.Proofs.Ytbinjkaanbhikaa
set_option linter.unusedSimpArgs false
set_option linter.unusedVariables false
open Go.RowKit
set_option maxRecDepth 20000
namespace Ba
open Fl Rate

theorem spec_near (x : Nat) (c : Option Nat) (w : World) (f : Fr .f32 x c) : Calls Try.prog 86 #[.float .f32 x] w (RetD (.bool (placeB c)) w) := by
  unfold placeB
  have k0 := far32.1
  have k1 := far32.2
  cases h1 : cmpC .geq (ord .f32 c far0)
  all_goals cases h2 : cmpC .leq (ord .f32 c far1)
  all_goals
    go_enter Try.func86, Try.ntmps86
    go_wp2_with (refine Fl.wpList_cmp rfl rfl rfl rfl rfl (by assumption) (by assumption) ?_; try simp only [h1, h2])
    go_ret
    exact ⟨rfl, by (repeat' first | exact Below.refl _ _ | (refine Below.setCell ?_ (by first | omega | (simp; omega) | simp) _) | (refine below_drewN ?_ _) | (refine Below.alloc ?_ (by first | omega | (simp; omega) | simp) _) | (refine Below.trans ?_ (Below.mono (by assumption) (by first | omega | (simp; omega) | simp))))⟩

theorem impl_place (x : Nat) (c : Option Nat) (w : World) (f : Fr .f32 x c) : Calls Try.prog 144 #[.float .f32 x] w (RetD (.bool (placeB c)) w) := by
  unfold placeB
  have k0 := far32.1
  have k1 := far32.2
  cases h1 : cmpC .geq (ord .f32 c far0)
  all_goals cases h2 : cmpC .leq (ord .f32 c far1)
  all_goals
    go_enter Try.func144, Try.ntmps144
    go_wp2_with (refine Fl.wpList_cmp rfl rfl rfl rfl rfl (by assumption) (by assumption) ?_; try simp only [h1, h2])
    go_ret
    exact ⟨rfl, by (repeat' first | exact Below.refl _ _ | (refine Below.setCell ?_ (by first | omega | (simp; omega) | simp) _) | (refine below_drewN ?_ _) | (refine Below.alloc ?_ (by first | omega | (simp; omega) | simp) _) | (refine Below.trans ?_ (Below.mono (by assumption) (by first | omega | (simp; omega) | simp))))⟩

theorem impl_betw (x y s : Nat) (a b c : Option Nat) (w : World) (f0 : Fr .f32 x a) (f1 : Fr .f32 y b) (f2 : Fr .f32 s c) : Calls Try.prog 146 #[.float .f32 x, .float .f32 y, .float .f32 s] w (RetF .f32 (betwC a b c) w) := by
  go_enter Try.func146, Try.ntmps146
  go_wp2_with (first | (refine Fl.wpList_fl rfl rfl rfl rfl rfl (by assumption) (by assumption) ?_; intro r n' hr) | (go_at_call 69; refine (product_run _ _ _ _ _ (by assumption) (by assumption)).mono ?_; rintro e w' ⟨r, rfl, hr, hb⟩; have hz := hb.size; try simp only [World.size_alloc, World.size_setCell, World.heap_drewN, World.size_drew] at hz; obtain ⟨hc, hf⟩ := Fl.bcell hb; try (have g : w.heap.size < w'.heap.size := by omega); try (have g : w.heap.size ≤ w'.heap.size := by omega)))
  go_ret
  exact ⟨_, rfl, by assumption, by (repeat' first | exact Below.refl _ _ | (refine Below.setCell ?_ (by first | omega | (simp; omega) | simp) _) | (refine below_drewN ?_ _) | (refine Below.alloc ?_ (by first | omega | (simp; omega) | simp) _) | (refine Below.trans ?_ (Below.mono (by assumption) (by first | omega | (simp; omega) | simp))))⟩

def RetS (I : Int) (s : Option Nat) (w : World) (e : Ending) (w' : World) : Prop := ∃ r, e = .returned (.tuple #[.int .i64 I, .float .f32 r]) ∧ Fr .f32 r s ∧ Below w.heap.size w w'

theorem impl_split (x : Nat) (c : Option Nat) (w : World) (f : Fr .f32 x c) (hp : placeB c = true) : Calls Try.prog 145 #[.float .f32 x] w (RetS (cellI c) (shareC c) w) := by
  have hc : c = cl .f32 x := f.1.symm
  subst hc
  obtain ⟨h1, h2, h3, h4⟩ := place_facts hp
  have HD := Lib.hid h1
  have HN := Lib.hid h2
  have fi := (Mks.ms_facts (cellI (cl .f32 x))).2
  clear h1 h2 hp
  unfold shareC
  generalize cellI (cl .f32 x) = I at *
  generalize cl .f32 x = c at *
  go_enter Try.func145, Try.ntmps145
  go_wp2_with (first | (refine Fl.wpList_conv rfl rfl rfl (by kernel_rfl) Try.underlying50 (by assumption) (Fl.fits_wide _) ?_; intro r n hr) | (go_at_call 142; refine (go_floor _ _ _ (by assumption) (HD.out _ (by assumption))).mono ?_; rintro e w' ⟨r, rfl, hr, hb⟩; have hz := hb.size; try simp only [World.size_alloc, World.size_setCell, World.heap_drewN, World.size_drew] at hz; obtain ⟨hc, hf⟩ := Fl.bcell hb; try (have g : w.heap.size < w'.heap.size := by omega); try (have g : w.heap.size ≤ w'.heap.size := by omega)) | (refine Fl.wpList_fint rfl rfl rfl (by kernel_rfl) Try.underlying2 (HN.out _ (by assumption)) ?_) | (refine Fl.wpList_fl rfl rfl rfl rfl rfl (by assumption) (by assumption) ?_; intro r n' hr))
  go_ret2
  exact ⟨_, rfl, by assumption, by (repeat' first | exact Below.refl _ _ | (refine Below.setCell ?_ (by first | omega | (simp; omega) | simp) _) | (refine below_drewN ?_ _) | (refine Below.alloc ?_ (by first | omega | (simp; omega) | simp) _) | (refine Below.trans ?_ (Below.mono (by assumption) (by first | omega | (simp; omega) | simp))))⟩

theorem impl_nan (w : World) : Calls Try.prog 129 #[] w (RetF .f32 none w) := by
  have hb := Bits.frombits_run 2143289344
  go_enter Try.func129, Try.ntmps129
  go_wp2
  go_ret
  exact ⟨_, rfl, ⟨by decide +kernel, by decide⟩, by (repeat' first | exact Below.refl _ _ | (refine Below.setCell ?_ (by first | omega | (simp; omega) | simp) _) | (refine below_drewN ?_ _) | (refine Below.alloc ?_ (by first | omega | (simp; omega) | simp) _) | (refine Below.trans ?_ (Below.mono (by assumption) (by first | omega | (simp; omega) | simp))))⟩

set_option maxHeartbeats 6400000 in
theorem spec_about (G : Nat) (W H : Int) (a : Option Addr) (n cap : Nat) (c : Nat → Option Nat) (w : World) (h : IsY w a n cap c) (hW : sideB W = true) (hH : sideB H = true) (hn : (n : Int) = W * H) (x y : Nat) (d e : Option Nat) (fx : Fr .f32 x d) (fy : Fr .f32 y e) (hpx : placeB d = true) (hpy : placeB e = true) (e0 : w.cell? ⟨G, 0, none⟩ = some (.int .i64 W)) (e1 : w.cell? ⟨G, 1, none⟩ = some (.int .i64 H)) (e2 : w.cell? ⟨G, 2, none⟩ = some (.slice a n cap)) :
    Calls Try.prog 88 #[.pointer (some ⟨G, 0, none⟩), .float .f32 x, .float .f32 y] w (RetF .f32 (aboutC c W H d e) w) := by
  have hG : G < w.heap.size := block_lt_of_cell e0
  have HA := Lib.hid (fun w' (hb : Below w.heap.size w w') x y hx hy => spec_at G W H a n cap c w' (h.later hb) hW hH hn x y hx hy ((hb.cell hG).trans e0) ((hb.cell hG).trans e1) ((hb.cell hG).trans e2))
  have hcx : d = cl .f32 x := fx.1.symm
  have hcy : e = cl .f32 y := fy.1.symm
  obtain ⟨hx1, hx2, hx3, hx4⟩ := place_facts (x := x) (by rw [← hcx]; exact hpx)
  obtain ⟨hy1, hy2, hy3, hy4⟩ := place_facts (x := y) (by rw [← hcy]; exact hpy)
  rw [← hcx] at hx1 hx2 hx3 hx4
  rw [← hcy] at hy1 hy2 hy3 hy4
  clear hcx hcy
  have HD := Lib.hid hx1
  have HN := Lib.hid hx2
  have HD2 := Lib.hid hy1
  have HN2 := Lib.hid hy2
  have fi := (Mks.ms_facts (cellI d)).2
  have fj := (Mks.ms_facts (cellI e)).2
  clear h e0 e1 e2 hn hx1 hx2 hy1 hy2 hpx hpy
  unfold aboutC shareC
  generalize cellI d = I at *
  generalize cellI e = J at *
  have hw0 : IntKind.i64.wrap (I + 1) = I + 1 := IntWalk.i64_in _ (by omega)
  have hw1 : IntKind.i64.wrap (J + 1) = J + 1 := IntWalk.i64_in _ (by omega)
  go_enter Try.func88, Try.ntmps88
  go_wp2_with (first | (refine Fl.wpList_conv rfl rfl rfl (by kernel_rfl) Try.underlying50 (by assumption) (Fl.fits_wide _) ?_; intro r n hr) | (go_at_call 142; refine (go_floor _ _ _ (by assumption) (HD.out _ (by assumption))).mono ?_; rintro e w' ⟨r, rfl, hr, hb⟩; have hz := hb.size; try simp only [World.size_alloc, World.size_setCell, World.heap_drewN, World.size_drew] at hz; obtain ⟨hc, hf⟩ := Fl.bcell hb; try (have g : w.heap.size < w'.heap.size := by omega); try (have g : w.heap.size ≤ w'.heap.size := by omega)) | (go_at_call 142; refine (go_floor _ _ _ (by assumption) (HD2.out _ (by assumption))).mono ?_; rintro e w' ⟨r, rfl, hr, hb⟩; have hz := hb.size; try simp only [World.size_alloc, World.size_setCell, World.heap_drewN, World.size_drew] at hz; obtain ⟨hc, hf⟩ := Fl.bcell hb; try (have g : w.heap.size < w'.heap.size := by omega); try (have g : w.heap.size ≤ w'.heap.size := by omega)) | (refine Fl.wpList_fint rfl rfl rfl (by kernel_rfl) Try.underlying2 (HN.out _ (by assumption)) ?_) | (refine Fl.wpList_fint rfl rfl rfl (by kernel_rfl) Try.underlying2 (HN2.out _ (by assumption)) ?_) | (refine Fl.wpList_fl rfl rfl rfl rfl rfl (by assumption) (by assumption) ?_; intro r n' hr) | (go_at_call 143; refine (HA.out _ (by (repeat' first | exact Below.refl _ _ | (refine Below.setCell ?_ (by first | omega | (simp; omega) | simp) _) | (refine below_drewN ?_ _) | (refine Below.alloc ?_ (by first | omega | (simp; omega) | simp) _) | (refine Below.trans ?_ (Below.mono (by assumption) (by first | omega | (simp; omega) | simp))))) _ _ (by omega) (by omega)).mono ?_; rintro e w' ⟨r, rfl, hr, hb⟩; have hz := hb.size; try simp only [World.size_alloc, World.size_setCell, World.heap_drewN, World.size_drew] at hz; obtain ⟨hc, hf⟩ := Fl.bcell hb; try (have g : w.heap.size < w'.heap.size := by omega); try (have g : w.heap.size ≤ w'.heap.size := by omega)))
  go_ret
  exact ⟨_, rfl, by assumption, by (repeat' first | exact Below.refl _ _ | (refine Below.setCell ?_ (by first | omega | (simp; omega) | simp) _) | (refine below_drewN ?_ _) | (refine Below.alloc ?_ (by first | omega | (simp; omega) | simp) _) | (refine Below.trans ?_ (Below.mono (by assumption) (by first | omega | (simp; omega) | simp))))⟩

set_option maxHeartbeats 6400000 in
theorem impl_about (W H : Int) (a : Option Addr) (n cap : Nat) (c : Nat → Option Nat) (w : World) (h : IsY w a n cap c) (hW : sideB W = true) (hH : sideB H = true) (hn : (n : Int) = W * H) (x y : Nat) (d e : Option Nat) (fx : Fr .f32 x d) (fy : Fr .f32 y e) (hpx : placeB d = true) (hpy : placeB e = true) :
    Calls Try.prog 91 #[bV W H a n cap, .float .f32 x, .float .f32 y] w (RetF .f32 (aboutC c W H d e) w) := by
  have HX := Lib.hid h
  have HS1 := Lib.hid (fun w => impl_split x d w fx hpx)
  have HS2 := Lib.hid (fun w => impl_split y e w fy hpy)
  have HP1 := Lib.hid (fun w => impl_place x d w fx)
  have HP2 := Lib.hid (fun w => impl_place y e w fy)
  rw [hpx] at HP1
  rw [hpy] at HP2
  have hcx : d = cl .f32 x := fx.1.symm
  have hcy : e = cl .f32 y := fy.1.symm
  obtain ⟨hx1, hx2, hx3, hx4⟩ := place_facts (x := x) (by rw [← hcx]; exact hpx)
  obtain ⟨hy1, hy2, hy3, hy4⟩ := place_facts (x := y) (by rw [← hcy]; exact hpy)
  rw [← hcx] at hx1 hx2 hx3 hx4
  rw [← hcy] at hy1 hy2 hy3 hy4
  clear hcx hcy
  clear h hx1 hx2 hy1 hy2 hpx hpy
  unfold aboutC
  generalize shareC d = sx at *
  generalize shareC e = sy at *
  generalize cellI d = I at *
  generalize cellI e = J at *
  have hw0 : IntKind.i64.wrap (I + 1) = I + 1 := IntWalk.i64_in _ (by omega)
  have hw1 : IntKind.i64.wrap (J + 1) = J + 1 := IntWalk.i64_in _ (by omega)
  go_enter Try.func91, Try.ntmps91
  go_wp2_with fail
  refine (HP1.out _).mono ?_
  rintro e1 w1 ⟨rfl, hb1⟩
  have hz1 := hb1.size
  try simp only [World.size_alloc, World.size_setCell, World.heap_drewN, World.size_drew] at hz1
  obtain ⟨hc1, hf1⟩ := Fl.bcell hb1
  try simp only [World.heap_drewN, World.cell?_drewN, World.frozen?_drewN] at hc1 hf1
  have g1_0 : w.heap.size < w1.heap.size := by omega
  go_wp2_with fail
  refine (HP2.out _).mono ?_
  rintro e2 w2 ⟨rfl, hb2⟩
  have hz2 := hb2.size
  try simp only [World.size_alloc, World.size_setCell, World.heap_drewN, World.size_drew] at hz2
  obtain ⟨hc2, hf2⟩ := Fl.bcell hb2
  try simp only [World.heap_drewN, World.cell?_drewN, World.frozen?_drewN] at hc2 hf2
  have g2_0 : w.heap.size < w2.heap.size := by omega
  go_wp2_with fail
  refine (HS1.out _).mono ?_
  rintro e3 w3 ⟨r3, rfl, fr3, hb3⟩
  have hz3 := hb3.size
  try simp only [World.size_alloc, World.size_setCell, World.heap_drewN, World.size_drew] at hz3
  obtain ⟨hc3, hf3⟩ := Fl.bcell hb3
  try simp only [World.heap_drewN, World.cell?_drewN, World.frozen?_drewN] at hc3 hf3
  have g3_0 : w.heap.size < w3.heap.size := by omega
  go_wp2_with fail
  refine (HS2.out _).mono ?_
  rintro e4 w4 ⟨r4, rfl, fr4, hb4⟩
  have hz4 := hb4.size
  try simp only [World.size_alloc, World.size_setCell, World.heap_drewN, World.size_drew] at hz4
  obtain ⟨hc4, hf4⟩ := Fl.bcell hb4
  try simp only [World.heap_drewN, World.cell?_drewN, World.frozen?_drewN] at hc4 hf4
  have g4_0 : w.heap.size < w4.heap.size := by omega
  have HB := Lib.hid (show Below w.heap.size w w4 by (repeat' first | exact Below.refl _ _ | (refine Below.setCell ?_ (by first | omega | (simp; omega) | simp) _) | (refine below_drewN ?_ _) | (refine Below.alloc ?_ (by first | omega | (simp; omega) | simp) _) | (refine Below.trans ?_ (Below.mono (by assumption) (by first | omega | (simp; omega) | simp)))))
  have q4 : w4.heap[w.heap.size]? = some (.cells #[.int .i64 W, .int .i64 H, .slice a n cap] 40) := keep_block hb4 (keep_block hb3 (keep_block hb2 (keep_block hb1 (new_block _ _))))
  clear hb1 hb2 hb3 hb4 hc1 hc2 hc3 hc4 hf1 hf2 hf3 hf4
  have Q4 := Lib.hid q4
  have l4 := block_lt q4
  have e40 := (cells_of (i := 0) q4).trans (show _ = some (.int .i64 W) from rfl)
  have e41 := (cells_of (i := 1) q4).trans (show _ = some (.int .i64 H) from rfl)
  have e42 := (cells_of (i := 2) q4).trans (show _ = some (.slice a n cap) from rfl)
  clear q4
  go_wp2
  refine Loose.wp_region_below 11 [] (by kernel_rfl) (by kernel_rfl) (by simp [undef]) ?_
  apply Exists.intro
  simp only [List.take_succ_cons, List.take_zero, List.drop_succ_cons, List.drop_zero]
  repeat (first | (apply Loose.walk_step; intro K hK; apply Loose.turn_value (hwant := rfl) (hd := rfl); (focus (intro w' hw'; obtain ⟨hc, hf⟩ := Fl.bcell hw'; go_simp; first | done | rfl | exact ⟨rfl, rfl⟩)); go_simp; refine hK _ ?_; clear hK K) | (apply Loose.walk_step; intro K hK; apply Loose.turn_callFB (Nat.le_refl _) (hwant := rfl) (hd := rfl); (focus (intro w'; go_simp; first | done | rfl | exact ⟨rfl, rfl⟩)); (focus (intro w' hw'; go_at_call 84; exact impl_at W H a n cap c w' ((HX.out.later HB.out).later hw') hW hH hn _ _ (by omega) (by omega))); intro r hr; go_simp; refine hK _ ?_; clear hK K) | (apply Loose.walk_step; intro K hK; apply Loose.turn_callF (Nat.le_refl _) (hwant := rfl) (hd := rfl); (focus (intro w'; go_simp; first | done | rfl | exact ⟨rfl, rfl⟩)); (focus (intro w'; go_at_call 146; exact impl_betw _ _ _ _ _ _ _ (by assumption) (by assumption) (by assumption))); intro r hr; go_simp; refine hK _ ?_; clear hK K) | (apply Loose.walk_step; intro K hK; refine Loose.turn_fl (Nat.le_refl _) rfl rfl rfl rfl rfl rfl (by assumption) (by assumption) ?_; intro r hr; go_simp; refine hK _ ?_; clear hK K))
  refine Loose.walk_nil ?_
  intro w5 hcls5
  obtain ⟨hb5, _⟩ := hcls5
  obtain ⟨hc5, hf5⟩ := Fl.bcell hb5
  have hz5 := hb5.size
  try simp only [World.size_alloc, World.size_setCell, World.heap_drewN, World.size_drew] at hz5
  have HB5 := Lib.hid (show Below w.heap.size w w5 from HB.out.trans (hb5.mono (by omega)))
  have q5 := keep_block hb5 Q4.out
  clear Q4 l4 e40 e41 e42
  clear hb5 hc5 hf5
  have Q5 := Lib.hid q5
  have l5 := block_lt q5
  have e50 := (cells_of (i := 0) q5).trans (show _ = some (.int .i64 W) from rfl)
  have e51 := (cells_of (i := 1) q5).trans (show _ = some (.int .i64 H) from rfl)
  have e52 := (cells_of (i := 2) q5).trans (show _ = some (.slice a n cap) from rfl)
  clear q5
  go_wp2
  refine Loose.wp_region_below 13 [] (by kernel_rfl) (by kernel_rfl) (by simp [undef]) ?_
  apply Exists.intro
  simp only [List.take_succ_cons, List.take_zero, List.drop_succ_cons, List.drop_zero]
  repeat (first | (apply Loose.walk_step; intro K hK; apply Loose.turn_value (hwant := rfl) (hd := rfl); (focus (intro w' hw'; obtain ⟨hc, hf⟩ := Fl.bcell hw'; go_simp; first | done | rfl | exact ⟨rfl, rfl⟩)); go_simp; refine hK _ ?_; clear hK K) | (apply Loose.walk_step; intro K hK; apply Loose.turn_callFB (Nat.le_refl _) (hwant := rfl) (hd := rfl); (focus (intro w'; go_simp; first | done | rfl | exact ⟨rfl, rfl⟩)); (focus (intro w' hw'; go_at_call 84; exact impl_at W H a n cap c w' ((HX.out.later HB5.out).later hw') hW hH hn _ _ (by omega) (by omega))); intro r hr; go_simp; refine hK _ ?_; clear hK K) | (apply Loose.walk_step; intro K hK; apply Loose.turn_callF (Nat.le_refl _) (hwant := rfl) (hd := rfl); (focus (intro w'; go_simp; first | done | rfl | exact ⟨rfl, rfl⟩)); (focus (intro w'; go_at_call 146; exact impl_betw _ _ _ _ _ _ _ (by assumption) (by assumption) (by assumption))); intro r hr; go_simp; refine hK _ ?_; clear hK K) | (apply Loose.walk_step; intro K hK; refine Loose.turn_fl (Nat.le_refl _) rfl rfl rfl rfl rfl rfl (by assumption) (by assumption) ?_; intro r hr; go_simp; refine hK _ ?_; clear hK K))
  refine Loose.walk_nil ?_
  intro w6 hcls6
  obtain ⟨hb6, _⟩ := hcls6
  obtain ⟨hc6, hf6⟩ := Fl.bcell hb6
  have hz6 := hb6.size
  try simp only [World.size_alloc, World.size_setCell, World.heap_drewN, World.size_drew] at hz6
  have HB6 := Lib.hid (show Below w.heap.size w w6 from HB5.out.trans (hb6.mono (by omega)))
  go_wp2_with fail
  refine (impl_betw _ _ _ _ _ _ _ (by assumption) (by assumption) (by assumption)).mono ?_
  rintro e7 w7 ⟨r7, rfl, fr7, hb7⟩
  have hz7 := hb7.size
  have HB7 := HB6.out.trans (hb7.mono (by omega))
  go_wp2
  go_ret
  exact ⟨_, rfl, by assumption, by assumption⟩

set_option maxHeartbeats 6400000 in
theorem impl_far (W H : Int) (a : Option Addr) (n cap : Nat) (x y : Nat) (d e : Option Nat) (fx : Fr .f32 x d) (fy : Fr .f32 y e) (w : World) (hp : (placeB d && placeB e) = false) :
    Calls Try.prog 91 #[bV W H a n cap, .float .f32 x, .float .f32 y] w (RetF .f32 none w) := by
  have HP1 := Lib.hid (fun w => impl_place x d w fx)
  have HP2 := Lib.hid (fun w => impl_place y e w fy)
  cases h1 : placeB d
  · rw [h1] at HP1
    clear HP2
    go_enter Try.func91, Try.ntmps91
    go_wp2_with (first | (go_at_call 144; refine (HP1.out _).mono ?_; rintro e w' ⟨rfl, hb⟩; have hz := hb.size; try simp only [World.size_alloc, World.size_setCell, World.heap_drewN, World.size_drew] at hz; obtain ⟨hc, hf⟩ := Fl.bcell hb; try (have g : w.heap.size < w'.heap.size := by omega); try (have g : w.heap.size ≤ w'.heap.size := by omega)) | (go_at_call 129; refine (impl_nan _).mono ?_; rintro e w' ⟨r, rfl, hr, hb⟩; have hz := hb.size; try simp only [World.size_alloc, World.size_setCell, World.heap_drewN, World.size_drew] at hz; obtain ⟨hc, hf⟩ := Fl.bcell hb; try (have g : w.heap.size < w'.heap.size := by omega); try (have g : w.heap.size ≤ w'.heap.size := by omega)))
    go_ret
    exact ⟨_, rfl, by assumption, by (repeat' first | exact Below.refl _ _ | (refine Below.setCell ?_ (by first | omega | (simp; omega) | simp) _) | (refine below_drewN ?_ _) | (refine Below.alloc ?_ (by first | omega | (simp; omega) | simp) _) | (refine Below.trans ?_ (Below.mono (by assumption) (by first | omega | (simp; omega) | simp))))⟩
  · have h2 : placeB e = false := by rw [h1] at hp; exact hp
    rw [h1] at HP1
    rw [h2] at HP2
    go_enter Try.func91, Try.ntmps91
    go_wp2_with fail
    refine (HP1.out _).mono ?_
    rintro e1 w1 ⟨rfl, hb1⟩
    have hz1 := hb1.size
    try simp only [World.size_alloc, World.size_setCell, World.heap_drewN, World.size_drew] at hz1
    obtain ⟨hc1, hf1⟩ := Fl.bcell hb1
    try simp only [World.heap_drewN, World.cell?_drewN, World.frozen?_drewN] at hc1 hf1
    have g1_0 : w.heap.size < w1.heap.size := by omega
    go_wp2_with (first | (go_at_call 144; refine (HP2.out _).mono ?_; rintro e w' ⟨rfl, hb⟩; have hz := hb.size; try simp only [World.size_alloc, World.size_setCell, World.heap_drewN, World.size_drew] at hz; obtain ⟨hc, hf⟩ := Fl.bcell hb; try (have g : w.heap.size < w'.heap.size := by omega); try (have g : w.heap.size ≤ w'.heap.size := by omega)) | (go_at_call 129; refine (impl_nan _).mono ?_; rintro e w' ⟨r, rfl, hr, hb⟩; have hz := hb.size; try simp only [World.size_alloc, World.size_setCell, World.heap_drewN, World.size_drew] at hz; obtain ⟨hc, hf⟩ := Fl.bcell hb; try (have g : w.heap.size < w'.heap.size := by omega); try (have g : w.heap.size ≤ w'.heap.size := by omega)))
    go_ret
    exact ⟨_, rfl, by assumption, by (repeat' first | exact Below.refl _ _ | (refine Below.setCell ?_ (by first | omega | (simp; omega) | simp) _) | (refine below_drewN ?_ _) | (refine Below.alloc ?_ (by first | omega | (simp; omega) | simp) _) | (refine Below.trans ?_ (Below.mono (by assumption) (by first | omega | (simp; omega) | simp))))⟩

set_option maxHeartbeats 6400000 in
theorem spec_SpinAboutB (W H : Int) (a : Option Addr) (n cap : Nat) (c : Nat → Option Nat) (w : World) (h : IsY w a n cap c) (A : Bool) (hA : okB W H n c = A) (x y : Nat) (d e : Option Nat) (fx : Fr .f32 x d) (fy : Fr .f32 y e) : Calls Try.prog 35 #[bV W H a n cap, .float .f32 x, .float .f32 y] w (RetN (if A && (placeB d && placeB e) then aboutC c W H d e else none) w) := by
  have HV := Lib.hid (fun G w' (hb : Below w.heap.size w w') e0 e1 e2 => spec_is G W H a n cap c w' e0 e1 e2 (h.later hb) A hA)
  have HP1 := Lib.hid (fun w => spec_near x d w fx)
  have HP2 := Lib.hid (fun w => spec_near y e w fy)
  cases A
  · clear hA h
    go_enter Try.func35, Try.ntmps35
    go_wp2_with (go_at_call 85; refine (HV.out _ _ (by (repeat' first | exact Below.refl _ _ | (refine Below.setCell ?_ (by first | omega | (simp; omega) | simp) _) | (refine below_drewN ?_ _) | (refine Below.alloc ?_ (by first | omega | (simp; omega) | simp) _) | (refine Below.trans ?_ (Below.mono (by assumption) (by first | omega | (simp; omega) | simp))))) (by simp) (by simp) (by simp)).mono ?_; rintro e w1 ⟨rfl, hb1⟩)
    go_ret2
    exact ⟨_, rfl, zero32, by (repeat' first | exact Below.refl _ _ | (refine Below.setCell ?_ (by first | omega | (simp; omega) | simp) _) | (refine below_drewN ?_ _) | (refine Below.alloc ?_ (by first | omega | (simp; omega) | simp) _) | (refine Below.trans ?_ (Below.mono (by assumption) (by first | omega | (simp; omega) | simp))))⟩
  cases h1 : placeB d
  · rw [h1] at HP1
    clear hA h
    go_enter Try.func35, Try.ntmps35
    go_wp2_with fail
    refine (HV.out _ _ (by (repeat' first | exact Below.refl _ _ | (refine Below.setCell ?_ (by first | omega | (simp; omega) | simp) _) | (refine below_drewN ?_ _) | (refine Below.alloc ?_ (by first | omega | (simp; omega) | simp) _) | (refine Below.trans ?_ (Below.mono (by assumption) (by first | omega | (simp; omega) | simp))))) (by simp) (by simp) (by simp)).mono ?_
    rintro e w1 ⟨rfl, hb1⟩
    have hz1 := hb1.size
    try simp only [World.size_alloc, World.size_setCell, World.heap_drewN, World.size_drew] at hz1
    obtain ⟨hc1, hf1⟩ := Fl.bcell hb1
    try simp only [World.heap_drewN, World.cell?_drewN, World.frozen?_drewN] at hc1 hf1
    have g1_0 : w.heap.size < w1.heap.size := by omega
    go_wp2_with (go_at_call 86; refine (HP1.out _).mono ?_; rintro e w' ⟨rfl, hb⟩; have hz := hb.size; try simp only [World.size_alloc, World.size_setCell, World.heap_drewN, World.size_drew] at hz; obtain ⟨hc, hf⟩ := Fl.bcell hb; try (have g : w.heap.size < w'.heap.size := by omega); try (have g : w.heap.size ≤ w'.heap.size := by omega))
    go_ret2
    exact ⟨_, rfl, zero32, by (repeat' first | exact Below.refl _ _ | (refine Below.setCell ?_ (by first | omega | (simp; omega) | simp) _) | (refine below_drewN ?_ _) | (refine Below.alloc ?_ (by first | omega | (simp; omega) | simp) _) | (refine Below.trans ?_ (Below.mono (by assumption) (by first | omega | (simp; omega) | simp))))⟩
  cases h2 : placeB e
  · rw [h1] at HP1
    rw [h2] at HP2
    clear hA h
    go_enter Try.func35, Try.ntmps35
    go_wp2_with fail
    refine (HV.out _ _ (by (repeat' first | exact Below.refl _ _ | (refine Below.setCell ?_ (by first | omega | (simp; omega) | simp) _) | (refine below_drewN ?_ _) | (refine Below.alloc ?_ (by first | omega | (simp; omega) | simp) _) | (refine Below.trans ?_ (Below.mono (by assumption) (by first | omega | (simp; omega) | simp))))) (by simp) (by simp) (by simp)).mono ?_
    rintro e w1 ⟨rfl, hb1⟩
    have hz1 := hb1.size
    try simp only [World.size_alloc, World.size_setCell, World.heap_drewN, World.size_drew] at hz1
    obtain ⟨hc1, hf1⟩ := Fl.bcell hb1
    try simp only [World.heap_drewN, World.cell?_drewN, World.frozen?_drewN] at hc1 hf1
    have g1_0 : w.heap.size < w1.heap.size := by omega
    go_wp2_with fail
    refine (HP1.out _).mono ?_
    rintro e w2 ⟨rfl, hb2⟩
    have hz2 := hb2.size
    try simp only [World.size_alloc, World.size_setCell, World.heap_drewN, World.size_drew] at hz2
    obtain ⟨hc2, hf2⟩ := Fl.bcell hb2
    try simp only [World.heap_drewN, World.cell?_drewN, World.frozen?_drewN] at hc2 hf2
    have g2_0 : w.heap.size < w2.heap.size := by omega
    go_wp2_with (go_at_call 86; refine (HP2.out _).mono ?_; rintro e w' ⟨rfl, hb⟩; have hz := hb.size; try simp only [World.size_alloc, World.size_setCell, World.heap_drewN, World.size_drew] at hz; obtain ⟨hc, hf⟩ := Fl.bcell hb; try (have g : w.heap.size < w'.heap.size := by omega); try (have g : w.heap.size ≤ w'.heap.size := by omega))
    go_ret2
    exact ⟨_, rfl, zero32, by (repeat' first | exact Below.refl _ _ | (refine Below.setCell ?_ (by first | omega | (simp; omega) | simp) _) | (refine below_drewN ?_ _) | (refine Below.alloc ?_ (by first | omega | (simp; omega) | simp) _) | (refine Below.trans ?_ (Below.mono (by assumption) (by first | omega | (simp; omega) | simp))))⟩
  · have hs := okB_of hA
    have HA := Lib.hid (fun G w' (hb : Below w.heap.size w w') e0 e1 e2 => spec_about G W H a n cap c w' (h.later hb) hs.1 hs.2.1 hs.2.2.1 x y d e fx fy h1 h2 e0 e1 e2)
    have HN := Lib.hid (fun r w f => spec_number r (aboutC c W H d e) w f)
    rw [h1] at HP1
    rw [h2] at HP2
    unfold RetN at *
    simp only [if_true, Bool.true_and, Bool.and_self]
    generalize aboutC c W H d e = d1 at *
    generalize finC d1 = B at *
    generalize (if B then d1 else some 0) = d2 at *
    clear hA h h1 h2 hs
    go_enter Try.func35, Try.ntmps35
    go_wp2_with fail
    refine (HV.out _ _ (by (repeat' first | exact Below.refl _ _ | (refine Below.setCell ?_ (by first | omega | (simp; omega) | simp) _) | (refine below_drewN ?_ _) | (refine Below.alloc ?_ (by first | omega | (simp; omega) | simp) _) | (refine Below.trans ?_ (Below.mono (by assumption) (by first | omega | (simp; omega) | simp))))) (by simp) (by simp) (by simp)).mono ?_
    rintro e w1 ⟨rfl, hb1⟩
    have hz1 := hb1.size
    try simp only [World.size_alloc, World.size_setCell, World.heap_drewN, World.size_drew] at hz1
    obtain ⟨hc1, hf1⟩ := Fl.bcell hb1
    try simp only [World.heap_drewN, World.cell?_drewN, World.frozen?_drewN] at hc1 hf1
    have g1_0 : w.heap.size < w1.heap.size := by omega
    go_wp2_with fail
    refine (HP1.out _).mono ?_
    rintro e w2 ⟨rfl, hb2⟩
    have hz2 := hb2.size
    try simp only [World.size_alloc, World.size_setCell, World.heap_drewN, World.size_drew] at hz2
    obtain ⟨hc2, hf2⟩ := Fl.bcell hb2
    try simp only [World.heap_drewN, World.cell?_drewN, World.frozen?_drewN] at hc2 hf2
    have g2_0 : w.heap.size < w2.heap.size := by omega
    go_wp2_with fail
    refine (HP2.out _).mono ?_
    rintro e w3 ⟨rfl, hb3⟩
    have hz3 := hb3.size
    try simp only [World.size_alloc, World.size_setCell, World.heap_drewN, World.size_drew] at hz3
    obtain ⟨hc3, hf3⟩ := Fl.bcell hb3
    try simp only [World.heap_drewN, World.cell?_drewN, World.frozen?_drewN] at hc3 hf3
    have g3_0 : w.heap.size < w3.heap.size := by omega
    go_wp2_with fail
    refine (HA.out _ _ (by (repeat' first | exact Below.refl _ _ | (refine Below.setCell ?_ (by first | omega | (simp; omega) | simp) _) | (refine below_drewN ?_ _) | (refine Below.alloc ?_ (by first | omega | (simp; omega) | simp) _) | (refine Below.trans ?_ (Below.mono (by assumption) (by first | omega | (simp; omega) | simp))))) (by rw [hc3 _ _ (by first | omega | (simp; omega) | simp), hc2 _ _ (by first | omega | (simp; omega) | simp), hc1 _ _ (by simp)]; simp) (by rw [hc3 _ _ (by first | omega | (simp; omega) | simp), hc2 _ _ (by first | omega | (simp; omega) | simp), hc1 _ _ (by simp)]; simp) (by rw [hc3 _ _ (by first | omega | (simp; omega) | simp), hc2 _ _ (by first | omega | (simp; omega) | simp), hc1 _ _ (by simp)]; simp)).mono ?_
    rintro e w4 ⟨r4, rfl, hr4, hb4⟩
    have hz4 := hb4.size
    try simp only [World.size_alloc, World.size_setCell, World.heap_drewN, World.size_drew] at hz4
    obtain ⟨hc4, hf4⟩ := Fl.bcell hb4
    try simp only [World.heap_drewN, World.cell?_drewN, World.frozen?_drewN] at hc4 hf4
    have g4_0 : w.heap.size < w4.heap.size := by omega
    go_wp2_with fail
    refine (HN.out _ _ hr4).mono ?_
    rintro e w5 ⟨r5, rfl, hr5, hb5⟩
    have hz5 := hb5.size
    try simp only [World.size_alloc, World.size_setCell, World.heap_drewN, World.size_drew] at hz5
    obtain ⟨hc5, hf5⟩ := Fl.bcell hb5
    try simp only [World.heap_drewN, World.cell?_drewN, World.frozen?_drewN] at hc5 hf5
    have g5_0 : w.heap.size < w5.heap.size := by omega
    go_wp2
    go_ret2
    exact ⟨_, rfl, hr5, by (repeat' first | exact Below.refl _ _ | (refine Below.setCell ?_ (by first | omega | (simp; omega) | simp) _) | (refine below_drewN ?_ _) | (refine Below.alloc ?_ (by first | omega | (simp; omega) | simp) _) | (refine Below.trans ?_ (Below.mono (by assumption) (by first | omega | (simp; omega) | simp))))⟩

set_option maxHeartbeats 6400000 in
theorem impl_SpinAboutB (W H : Int) (a : Option Addr) (n cap : Nat) (c : Nat → Option Nat) (w : World) (h : IsY w a n cap c) (A : Bool) (hA : okB W H n c = A) (x y : Nat) (d e : Option Nat) (fx : Fr .f32 x d) (fy : Fr .f32 y e) : Calls Try.prog 36 #[bV W H a n cap, .float .f32 x, .float .f32 y] w (RetN (if A && (placeB d && placeB e) then aboutC c W H d e else none) w) := by
  have HV := Lib.hid (fun w' (hb : Below w.heap.size w w') => impl_valid W H a n cap c w' (h.later hb) A hA)
  cases A
  · clear hA h
    go_enter Try.func36, Try.ntmps36
    go_wp2_with (go_at_call 89; refine (HV.out _ (by (repeat' first | exact Below.refl _ _ | (refine Below.setCell ?_ (by first | omega | (simp; omega) | simp) _) | (refine below_drewN ?_ _) | (refine Below.alloc ?_ (by first | omega | (simp; omega) | simp) _) | (refine Below.trans ?_ (Below.mono (by assumption) (by first | omega | (simp; omega) | simp)))))).mono ?_; rintro e w1 ⟨rfl, hb1⟩)
    go_ret2
    exact ⟨_, rfl, zero32, by (repeat' first | exact Below.refl _ _ | (refine Below.setCell ?_ (by first | omega | (simp; omega) | simp) _) | (refine below_drewN ?_ _) | (refine Below.alloc ?_ (by first | omega | (simp; omega) | simp) _) | (refine Below.trans ?_ (Below.mono (by assumption) (by first | omega | (simp; omega) | simp))))⟩
  · have hs := okB_of hA
    have HA := Lib.hid (show ∀ w', Below w.heap.size w w' → Calls Try.prog 91 #[bV W H a n cap, .float .f32 x, .float .f32 y] w' (RetF .f32 (if placeB d && placeB e then aboutC c W H d e else none) w') by
      intro w' hb
      cases h1 : (placeB d && placeB e)
      · exact impl_far W H a n cap x y d e fx fy w' h1
      · rw [Bool.and_eq_true] at h1
        exact impl_about W H a n cap c w' (h.later hb) hs.1 hs.2.1 hs.2.2.1 x y d e fx fy h1.1 h1.2)
    rw [Bool.true_and]
    generalize (if placeB d && placeB e then aboutC c W H d e else none) = d1 at *
    have HN := Lib.hid (fun r w f => impl_number r d1 w f)
    unfold RetN at *
    generalize finC d1 = B at *
    generalize (if B then d1 else some 0) = d2 at *
    clear hA h hs
    go_enter Try.func36, Try.ntmps36
    go_wp2_with fail
    refine (HV.out _ (by (repeat' first | exact Below.refl _ _ | (refine Below.setCell ?_ (by first | omega | (simp; omega) | simp) _) | (refine below_drewN ?_ _) | (refine Below.alloc ?_ (by first | omega | (simp; omega) | simp) _) | (refine Below.trans ?_ (Below.mono (by assumption) (by first | omega | (simp; omega) | simp)))))).mono ?_
    rintro e w1 ⟨rfl, hb1⟩
    have hz1 := hb1.size
    try simp only [World.size_alloc, World.size_setCell, World.heap_drewN, World.size_drew] at hz1
    obtain ⟨hc1, hf1⟩ := Fl.bcell hb1
    try simp only [World.heap_drewN, World.cell?_drewN, World.frozen?_drewN] at hc1 hf1
    have g1_0 : w.heap.size < w1.heap.size := by omega
    go_wp2_with fail
    refine (HA.out _ (by (repeat' first | exact Below.refl _ _ | (refine Below.setCell ?_ (by first | omega | (simp; omega) | simp) _) | (refine below_drewN ?_ _) | (refine Below.alloc ?_ (by first | omega | (simp; omega) | simp) _) | (refine Below.trans ?_ (Below.mono (by assumption) (by first | omega | (simp; omega) | simp)))))).mono ?_
    rintro e w2 ⟨r2, rfl, hr2, hb2⟩
    have hz2 := hb2.size
    try simp only [World.size_alloc, World.size_setCell, World.heap_drewN, World.size_drew] at hz2
    obtain ⟨hc2, hf2⟩ := Fl.bcell hb2
    try simp only [World.heap_drewN, World.cell?_drewN, World.frozen?_drewN] at hc2 hf2
    have g2_0 : w.heap.size < w2.heap.size := by omega
    go_wp2_with fail
    refine (HN.out _ _ hr2).mono ?_
    rintro e w3 ⟨r3, rfl, hr3, hb3⟩
    have hz3 := hb3.size
    try simp only [World.size_alloc, World.size_setCell, World.heap_drewN, World.size_drew] at hz3
    obtain ⟨hc3, hf3⟩ := Fl.bcell hb3
    try simp only [World.heap_drewN, World.cell?_drewN, World.frozen?_drewN] at hc3 hf3
    have g3_0 : w.heap.size < w3.heap.size := by omega
    go_wp2
    go_ret2
    exact ⟨_, rfl, hr3, by (repeat' first | exact Below.refl _ _ | (refine Below.setCell ?_ (by first | omega | (simp; omega) | simp) _) | (refine below_drewN ?_ _) | (refine Below.alloc ?_ (by first | omega | (simp; omega) | simp) _) | (refine Below.trans ?_ (Below.mono (by assumption) (by first | omega | (simp; omega) | simp))))⟩

end Ba
end Go.Proofs.Ytbinjkaanbhikaa
