/- WaveThread, the program's side. -/
import Derived.Test.YtggklnanhiomjabThK
namespace Go.Proofs.Ytggklnanhiomjab
set_option linter.unusedSimpArgs false
set_option linter.unusedVariables false
open Go.RowKit
set_option maxRecDepth 20000
namespace Th
open Fl Rate

set_option maxHeartbeats 3200000 in
theorem impl_wave1 (k n m p q r z : Nat) (cz : Option Nat) (w : World) (hn0 : 0 < n) (ep : w.cell? ⟨p, 0, none⟩ = some (.float .f32 z)) (eq : w.cell? ⟨q, 0, none⟩ = some (.int .i64 (m : Int))) (er : w.cell? ⟨r, 0, none⟩ = some (.int .i64 (n : Int))) (fz : Fr .f32 z cz) :
    Calls Try.prog 58 #[.int .i64 (k : Int), .pointer (some ⟨p, 0, none⟩), .pointer (some ⟨q, 0, none⟩), .pointer (some ⟨r, 0, none⟩)] w (RetF .f32 (waveC cz m n k) w) := by
  have fkm : Fr .f32 (floatOfInt .f32 ((IntKind.i64.wrap ((k : Int) * (m : Int))).tmod (n : Int))) (cl .f32 (floatOfInt .f32 ((wrap64 ((k : Int) * (m : Int))).tmod (n : Int)))) := by rw [IntWalk.i64_left]; exact fl_int _
  have fN := fl_int (n : Int)
  have lp := block_lt_of_cell ep
  have lq := block_lt_of_cell eq
  have lr := block_lt_of_cell er
  have hne : ¬ (n : Int) = 0 := by omega
  go_enter Try.func58, Try.ntmps58
  go_wp2_with fail
  refine Loose.wp_region_below 12 [] (by kernel_rfl) (by kernel_rfl) (by simp [undef]) ?_
  apply Exists.intro
  simp only [List.take_succ_cons, List.take_zero, List.drop_succ_cons, List.drop_zero]
  repeat (first | (apply Loose.walk_step; intro K hK; apply Loose.turn_value (hwant := rfl) (hd := rfl); (focus (intro w' hw'; obtain ⟨hc, hf⟩ := Fl.bcell hw'; go_simp; first | done | rfl | exact ⟨rfl, rfl⟩)); go_simp; refine hK _ ?_; clear hK K) | (apply Loose.walk_step; intro K hK; refine Loose.turn_fl (Nat.le_refl _) rfl rfl rfl rfl rfl rfl (by assumption) (by assumption) ?_; intro r9 hr9; go_simp; refine hK _ ?_; clear hK K) | (apply Loose.walk_step; intro K hK; apply Loose.turn_callF (Nat.le_refl _) (hwant := rfl) (hd := rfl); (focus (intro w'; go_simp; first | done | rfl | exact ⟨rfl, rfl⟩)); (focus (intro w'; go_at_call 60; exact impl_sine _ _ _ (by assumption))); intro r9 hr9; go_simp; refine hK _ ?_; clear hK K) | (apply Loose.walk_step; intro K hK; apply Loose.turn_callF (Nat.le_refl _) (hwant := rfl) (hd := rfl); (focus (intro w'; go_simp; first | done | rfl | exact ⟨rfl, rfl⟩)); (focus (intro w'; go_at_call 59; exact Rate.product_run _ _ _ _ _ (by assumption) (by assumption))); intro r9 hr9; go_simp; refine hK _ ?_; clear hK K) | (apply Loose.walk_step; intro K hK; apply Loose.turn_value (v := .int .i64 ((IntKind.i64.wrap ((k : Int) * (m : Int))).tmod (n : Int))) (hwant := rfl) (hd := rfl); (focus (intro w' hw'; go_simp; omega)); go_simp; refine hK _ ?_; clear hK K))
  refine Loose.walk_nil ?_
  intro w4 hcls4
  obtain ⟨hb4, _⟩ := hcls4
  obtain ⟨hc4, hf4⟩ := Fl.bcell hb4
  have hz4 := hb4.size
  try simp only [World.size_alloc, World.size_setCell, World.heap_drewN, World.size_drew] at hz4
  go_wp2
  refine bodyPost_ret ?ohr rfl ⟨r9, rfl, hr9, hb4⟩
  case ohr => simp [results, Try.results58, go_sem, *]

theorem enter_wave1 (args : Array Value) (w : World) : (callFunc 58 args).run Try.prog w = .ok (.enter 58 args) w := by go_simp

theorem wave_R {n m : Nat} {cs cx : Option Nat} {z : Nat} (hz : z < 4294967296) {A : Bool} {R : Bool} (hn : 3 ≤ n) (hR : ((A && finC (cl .f32 z)) && okT n cs (ringC n cx (waveC (cl .f32 z) m n))) = R) : (A && okT n cs (ringC n cx (waveC (cl .f32 z) m n))) = R := by
  rw [← hR]
  cases hf : finC (cl .f32 z)
  · have h : allV (ringC n cx (waveC (cl .f32 z) m n)) n = false := allV_no (j := 0 * 3 + 2) (by omega) (by rw [ringC_2]; exact mul_not ⟨rfl, hz⟩ hf)
    have h2 : okT n cs (ringC n cx (waveC (cl .f32 z) m n)) = false := by
      cases ho : okT n cs (ringC n cx (waveC (cl .f32 z) m n))
      · rfl
      · have := (okT_of ho).2.2.2
        rw [h] at this; cases this
    rw [h2]; cases A <;> rfl
  · cases A <;> rfl

theorem impl_WaveBad (N W : Int) (x z s : Nat) (w : World) (hW : wavB W = false) (f : Nat → Option Nat) (n : Nat) : Calls Try.prog 21 #[.int .i64 N, .int .i64 W, .float .f32 x, .float .f32 z, .float .f32 s] w (RetG false s n f w) := by
  have h : W < 0 ∨ (¬ W < 0 ∧ 12 < W) := by
    by_cases h0 : W < 0
    · exact .inl h0
    · refine .inr ⟨h0, ?_⟩
      unfold wavB at hW
      simp only [Bool.and_eq_false_iff, decide_eq_false_iff_not] at hW
      omega
  rcases h with h | ⟨h, h2⟩
  all_goals
    clear hW
    go_enter Try.func21, Try.ntmps21
    go_wp2
    refine bodyPost_ret ?ohr rfl (retG_no ?obel)
    case ohr => simp [results, Try.results21, go_sem, *]
    case obel => (repeat' first | exact Below.refl _ _ | (refine Below.setCell ?_ (by first | omega | (simp; omega) | simp) _) | (refine below_drewN ?_ _) | (refine Below.alloc ?_ (by first | omega | (simp; omega) | simp) _) | (refine Below.trans ?_ (Below.mono (by assumption) (by first | omega | (simp; omega) | simp))))

set_option maxHeartbeats 3200000 in
theorem impl_WaveT (N W : Int) (x z s : Nat) (cs : Option Nat) (w : World) (hx : x < 4294967296) (hz : z < 4294967296) (fs : Fr .f32 s cs)
    (R : Bool) (hR : (((cntB N && wavB W) && (Rs.isLen x && finC (cl .f32 z))) && okT N.toNat cs (ringC N.toNat (cl .f32 x) (waveC (cl .f32 z) W.toNat N.toNat))) = R) :
    Calls Try.prog 21 #[.int .i64 N, .int .i64 W, .float .f32 x, .float .f32 z, .float .f32 s] w (RetG R s N.toNat (ringC N.toNat (cl .f32 x) (waveC (cl .f32 z) W.toNat N.toNat)) w) := by
  cases hW : wavB W
  · rw [hW] at hR
    obtain rfl : R = false := by rw [← hR]; simp
    exact impl_WaveBad N W x z s w hW _ _
  have hWW : 0 ≤ W ∧ W ≤ 12 := by
    have h := hW
    unfold wavB at h
    simpa using h
  obtain ⟨m, rfl⟩ : ∃ m : Nat, W = (m : Int) := ⟨W.toNat, by omega⟩
  have hm12 : m ≤ 12 := by omega
  have hR2 : ((cntB N && Rs.isLen x) && okT N.toNat cs (ringC N.toNat (cl .f32 x) (waveC (cl .f32 z) ((m : Int).toNat) N.toNat))) = R := by
    rw [hW, Bool.and_true, ← Bool.and_assoc] at hR
    cases hA : cntB N
    · rw [hA] at hR
      rw [← hR]; simp
    · have hNN : 3 ≤ N ∧ N ≤ 32 := by
        have h := hA
        unfold cntB at h
        simpa using h
      rw [hA] at hR
      exact wave_R hz (by omega) hR
  rw [show ((m : Int)).toNat = m by simp] at hR2 ⊢
  have HE := Lib.hid (fun (w' : World) (p q r : Nat) (ep : w'.cell? ⟨p, 0, none⟩ = some (.float .f32 z)) (eq : w'.cell? ⟨q, 0, none⟩ = some (.int .i64 (m : Int))) (er : w'.cell? ⟨r, 0, none⟩ = some (.int .i64 N)) => impl_round N x s cs 58 #[.pointer (some ⟨p, 0, none⟩), .pointer (some ⟨q, 0, none⟩), .pointer (some ⟨r, 0, none⟩)] (waveC (cl .f32 z) m N.toNat) w' hx fs enter_wave1 (fun k w'' hk hb' => by
    have hN : N = (N.toNat : Int) := by omega
    have er' := (hb'.cell (p := ⟨r, 0, none⟩) (block_lt_of_cell er)).trans er
    rw [hN] at er'
    simpa using impl_wave1 k N.toNat m p q r z _ w'' (by omega) ((hb'.cell (p := ⟨p, 0, none⟩) (block_lt_of_cell ep)).trans ep) ((hb'.cell (p := ⟨q, 0, none⟩) (block_lt_of_cell eq)).trans eq) er' ⟨rfl, hz⟩) R hR2)
  clear hR hR2 hW hWW
  unfold RetG at HE ⊢
  generalize (ringC N.toNat (cl .f32 x) (waveC (cl .f32 z) m N.toNat)) = F at *
  obtain ⟨s', hs'⟩ : ∃ s', (if R then s else 0) = s' := ⟨_, rfl⟩
  obtain ⟨N', hN'⟩ : ∃ N', (if R then N.toNat else 0) = N' := ⟨_, rfl⟩
  rw [hs', hN'] at HE ⊢
  clear hs' hN'
  have hm0 : ¬ (m : Int) < 0 := by omega
  have hm12' : ¬ 12 < (m : Int) := by omega
  go_enter Try.func21, Try.ntmps21
  go_wp2_with fail
  have q5 : ((((w.alloc (.cells #[.int .i64 N] 2)).alloc (.cells #[.int .i64 (m : Int)] 2)).alloc (.cells #[.float .f32 z] 22)).alloc (.cells #[.slice none 0 0, .float .f32 0] 25)).heap[w.heap.size]? = some (.cells #[.int .i64 N] 2) := alloc_block (alloc_block (alloc_block (new_block _ _)))
  have q6 : ((((w.alloc (.cells #[.int .i64 N] 2)).alloc (.cells #[.int .i64 (m : Int)] 2)).alloc (.cells #[.float .f32 z] 22)).alloc (.cells #[.slice none 0 0, .float .f32 0] 25)).heap[w.heap.size + 1]? = some (.cells #[.int .i64 (m : Int)] 2) := alloc_block (alloc_block (by simpa using new_block (w.alloc (.cells #[.int .i64 N] 2)) (.cells #[.int .i64 (m : Int)] 2)))
  have q8 : ((((w.alloc (.cells #[.int .i64 N] 2)).alloc (.cells #[.int .i64 (m : Int)] 2)).alloc (.cells #[.float .f32 z] 22)).alloc (.cells #[.slice none 0 0, .float .f32 0] 25)).heap[w.heap.size + 1 + 1]? = some (.cells #[.float .f32 z] 22) := alloc_block (by simpa using new_block ((w.alloc (.cells #[.int .i64 N] 2)).alloc (.cells #[.int .i64 (m : Int)] 2)) (.cells #[.float .f32 z] 22))
  refine (HE.out _ (w.heap.size + 1 + 1) (w.heap.size + 1) w.heap.size ((cells_of (i := 0) q8).trans rfl) ((cells_of (i := 0) q6).trans rfl) ((cells_of (i := 0) q5).trans rfl)).mono ?_
  rintro e w3 ⟨a1, cap1, rfl, ho1, hb3⟩
  have hz3 := hb3.size
  simp only [World.size_alloc] at hz3
  obtain ⟨hc3, hf3⟩ := Fl.bcell hb3
  have g3 : w.heap.size + 1 + 1 + 1 < w3.heap.size := by omega
  have HO := Lib.hid ho1
  clear ho1 q5 q6 q8
  go_wp2
  refine bodyPost_ret ?ohr rfl ⟨a1, cap1, rfl, ?oio, ?obel⟩
  case ohr => simp [results, Try.results21, go_sem, *]
  case oio =>
    refine (HO.out.keep fun g hg hgl hgs => ?_).wider (by simp; omega) (by simp)
    simp at hg
    repeat rw [set_keep _ _ _ (by omega)]
  case obel => (repeat' first | exact Below.refl _ _ | (refine Below.setCell ?_ (by first | omega | (simp; omega) | simp) _) | (refine below_drewN ?_ _) | (refine Below.alloc ?_ (by first | omega | (simp; omega) | simp) _) | (refine Below.trans ?_ (Below.mono (by assumption) (by first | omega | (simp; omega) | simp))))

end Th
end Go.Proofs.Ytggklnanhiomjab
