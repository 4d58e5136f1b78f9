/- NoiseTracers: the program. -/
import Derived.Test.YtjkkefbfhapblabNs
namespace Go.Proofs.Ytjkkefbfhapblab
set_option linter.unusedSimpArgs false
set_option linter.unusedVariables false
open Go.RowKit
set_option maxRecDepth 20000
namespace Nt
open Fl Rate

theorem okN_no1 {N : Int} {z : Nat} {s : Int} (h : N < 0 ∨ 64 < N) : okN N z s = false := by
  have e : inB N 0 64 = false := by
    unfold inB
    rcases h with h | h
    · rw [decide_eq_false (by omega)]; rfl
    · rw [decide_eq_false (show ¬ N ≤ 64 by omega), Bool.and_false]
  unfold okN
  rw [e]; rfl

theorem okN_no2 {N : Int} {z : Nat} {s : Int} (h : sizB z = false) : okN N z s = false := by
  unfold okN
  rw [h, Bool.and_false]; rfl

theorem okN_no3 {N : Int} {z : Nat} {s : Int} (h : s < 0 ∨ 2147483648 ≤ s) : okN N z s = false := by
  have e : inB s 0 2147483647 = false := by
    unfold inB
    rcases h with h | h
    · rw [decide_eq_false (by omega)]; rfl
    · rw [decide_eq_false (show ¬ s ≤ 2147483647 by omega), Bool.and_false]
  unfold okN
  rw [e, Bool.and_false]

theorem okN_yes {N : Int} {z : Nat} {s : Int} (h0 : 0 ≤ N) (h1 : N ≤ 64) (h2 : sizB z = true) (h3 : 0 ≤ s) (h4 : s ≤ 2147483647) : okN N z s = true := by
  unfold okN inB
  rw [h2, decide_eq_true h0, decide_eq_true h1, decide_eq_true h3, decide_eq_true h4]; rfl

set_option maxHeartbeats 3200000 in
theorem impl_Noise (N : Int) (z : Nat) (s : Int) (w : World) (wz : (Lit.float .f32 z).wf = true) :
    Calls Try.prog 11 #[.int .i64 N, .float .f32 z, .int .i64 s] w (RetTG (okN N z s) N.toNat (xN (cl .f32 z) s) (yN (cl .f32 z) s) (seedN s (2 * N.toNat)) w) := by
  have H2 := Lib.hid (fun w => impl_size z w (Fl.lt32 wz))
  by_cases h0 : N < 0
  · rw [okN_no1 (.inl h0)]
    go_enter Try.func11, Try.ntmps11
    go_wp2
    refine bodyPost_ret ?ohr rfl (retT_no ?obel)
    case ohr => simp [results, Try.results11, go_sem, *]
    case obel => (repeat' first | exact Below.refl _ _ | (refine Below.setCell ?_ (by first | omega | (simp; omega) | simp) _) | (refine below_drewN ?_ _) | (refine Below.alloc ?_ (by first | omega | (simp; omega) | simp) _) | (refine Below.trans ?_ (Below.mono (by assumption) (by first | omega | (simp; omega) | simp))))
  by_cases h1 : 64 < N
  · rw [okN_no1 (.inr h1)]
    go_enter Try.func11, Try.ntmps11
    go_wp2
    refine bodyPost_ret ?ohr rfl (retT_no ?obel)
    case ohr => simp [results, Try.results11, go_sem, *]
    case obel => (repeat' first | exact Below.refl _ _ | (refine Below.setCell ?_ (by first | omega | (simp; omega) | simp) _) | (refine below_drewN ?_ _) | (refine Below.alloc ?_ (by first | omega | (simp; omega) | simp) _) | (refine Below.trans ?_ (Below.mono (by assumption) (by first | omega | (simp; omega) | simp))))
  cases h2 : sizB z
  · rw [okN_no2 h2]
    rw [h2] at H2
    go_enter Try.func11, Try.ntmps11
    go_wp2_with fail
    refine (H2.out _).mono ?_
    rintro e w1 ⟨rfl, hb1⟩
    have hz1 := hb1.size
    simp only [World.size_alloc] at hz1
    have t0 : w1.cell? ⟨w.heap.size + 1, 0, none⟩ = some (.int .i64 s) := by rw [hb1.cell (p := ⟨w.heap.size + 1, 0, none⟩) (by simp)]; simp
    have g1 : w.heap.size + 1 < w1.heap.size := by omega
    go_wp2
    refine bodyPost_ret ?ohr rfl (retT_no ?obel)
    case ohr => simp [results, Try.results11, go_sem, *]
    case obel => (repeat' first | exact Below.refl _ _ | (refine Below.setCell ?_ (by first | omega | (simp; omega) | simp) _) | (refine below_drewN ?_ _) | (refine Below.alloc ?_ (by first | omega | (simp; omega) | simp) _) | (refine Below.trans ?_ (Below.mono (by assumption) (by first | omega | (simp; omega) | simp))))
  rw [h2] at H2
  by_cases h3 : s < 0
  · rw [okN_no3 (.inl h3)]
    go_enter Try.func11, Try.ntmps11
    go_wp2_with fail
    refine (H2.out _).mono ?_
    rintro e w1 ⟨rfl, hb1⟩
    have hz1 := hb1.size
    simp only [World.size_alloc] at hz1
    have t0 : w1.cell? ⟨w.heap.size + 1, 0, none⟩ = some (.int .i64 s) := by rw [hb1.cell (p := ⟨w.heap.size + 1, 0, none⟩) (by simp)]; simp
    have g1 : w.heap.size + 1 < w1.heap.size := by omega
    go_wp2
    refine bodyPost_ret ?ohr rfl (retT_no ?obel)
    case ohr => simp [results, Try.results11, go_sem, *]
    case obel => (repeat' first | exact Below.refl _ _ | (refine Below.setCell ?_ (by first | omega | (simp; omega) | simp) _) | (refine below_drewN ?_ _) | (refine Below.alloc ?_ (by first | omega | (simp; omega) | simp) _) | (refine Below.trans ?_ (Below.mono (by assumption) (by first | omega | (simp; omega) | simp))))
  by_cases h4 : 2147483648 ≤ s
  · rw [okN_no3 (.inr h4)]
    go_enter Try.func11, Try.ntmps11
    go_wp2_with fail
    refine (H2.out _).mono ?_
    rintro e w1 ⟨rfl, hb1⟩
    have hz1 := hb1.size
    simp only [World.size_alloc] at hz1
    have t0 : w1.cell? ⟨w.heap.size + 1, 0, none⟩ = some (.int .i64 s) := by rw [hb1.cell (p := ⟨w.heap.size + 1, 0, none⟩) (by simp)]; simp
    have g1 : w.heap.size + 1 < w1.heap.size := by omega
    go_wp2
    refine bodyPost_ret ?ohr rfl (retT_no ?obel)
    case ohr => simp [results, Try.results11, go_sem, *]
    case obel => (repeat' first | exact Below.refl _ _ | (refine Below.setCell ?_ (by first | omega | (simp; omega) | simp) _) | (refine below_drewN ?_ _) | (refine Below.alloc ?_ (by first | omega | (simp; omega) | simp) _) | (refine Below.trans ?_ (Below.mono (by assumption) (by first | omega | (simp; omega) | simp))))
  rw [okN_yes (by omega) (by omega) h2 (by omega) (by omega)]
  have hs : 0 ≤ s ∧ s ≤ 2147483647 := by omega
  obtain ⟨n, rfl⟩ : ∃ n : Nat, N = (n : Int) := ⟨N.toNat, by omega⟩
  rw [show (n : Int).toNat = n by simp]
  show Calls _ _ _ w (RetTr true n _ _ _ w)
  have hSB := Lib.hid (seed_bd hs)
  have HX := Lib.hid (show ∀ k, xN (cl .f32 z) s k = dv (cl .f32 z) (nextS (seedN s (2 * k))) from fun k => rfl)
  have HY := Lib.hid (show ∀ k, yN (cl .f32 z) s k = dv (cl .f32 z) (nextS (nextS (seedN s (2 * k)))) from fun k => rfl)
  have HNX := Lib.hid (show ∀ k, seedN s (2 * (k + 1)) = nextS (nextS (seedN s (2 * k))) from fun k => rfl)
  have HN0 := Lib.hid (show seedN s (2 * 0) = s from rfl)
  have FZ := Lib.hid (show Fr .f32 z (cl .f32 z) from ⟨rfl, Fl.lt32 wz⟩)
  generalize xN (cl .f32 z) s = cx at *
  generalize yN (cl .f32 z) s = cy at *
  generalize cl .f32 z = c at *
  have hn64 : n ≤ 64 := by omega
  obtain ⟨i0, hI, hI0, hI1, hI2⟩ := info_c
  have h3' : s < 2147483648 := by omega
  clear h2 hs wz
  go_enter Try.func11, Try.ntmps11
  go_wp2_with fail
  refine (H2.out _).mono ?_
  rintro e w1 ⟨rfl, hb1⟩
  have hz1 := hb1.size
  simp only [World.size_alloc] at hz1
  have t0 : w1.cell? ⟨w.heap.size + 1, 0, none⟩ = some (.int .i64 s) := by rw [hb1.cell (p := ⟨w.heap.size + 1, 0, none⟩) (by simp)]; simp
  have g1 : w.heap.size + 1 < w1.heap.size := by omega
  have qS : w1.heap[w.heap.size + 1]? = some (.cells #[.int .i64 s] 2) := keep_block hb1 (by simpa using new_block (w.alloc (.cells #[.float .f32 z] 22)) (.cells #[.int .i64 s] 2))
  have qZ : w1.heap[w.heap.size]? = some (.cells #[.float .f32 z] 22) := keep_block hb1 (alloc_block (new_block w (.cells #[.float .f32 z] 22)))
  have hbw : Below w.heap.size w w1 := by (repeat' first | exact Below.refl _ _ | (refine Below.setCell ?_ (by first | omega | (simp; omega) | simp) _) | (refine below_drewN ?_ _) | (refine Below.alloc ?_ (by first | omega | (simp; omega) | simp) _) | (refine Below.trans ?_ (Below.mono (by assumption) (by first | omega | (simp; omega) | simp))))
  have QS := Lib.hid qS
  have QZ := Lib.hid qZ
  have HBW := Lib.hid hbw
  clear qS qZ hbw hb1
  go_wp2_with (at_make; refine wpList_make_full _ rfl _ _ 23 rfl w1.heap.size 64 i0 (.complex .f32 0 0) 1 Try.underlying23 hI hI0 hI1 .i64 .i64 _ _ n rfl rfl rfl rfl (by rw [hI2]; omega) (by unfold maxLen; omega) (Nat.le_refl _) ?_)
  intro w2 hown hgrow
  have hb2 : Below w1.heap.size w1 w2 := (Below.refl _ _).grown hgrow (Nat.le_refl _) (fun k h => by cases h)
  have hblk : ∃ cur : Array Value, w2.heap[w1.heap.size]? = some (.cells cur 64) ∧ cur.size = n := by
    obtain ⟨_, h | ⟨g, c, cur, hv, _, hh, _, _, hs, _⟩⟩ := hown
    · cases h.1
    · simp only [Value.slice.injEq, Option.some.injEq, Addr.mk.injEq] at hv
      obtain ⟨⟨rfl, _⟩, _, rfl⟩ := hv
      exact ⟨cur, hh, by omega⟩
  obtain ⟨cur0, hc0, hs0⟩ := hblk
  have hz2 := hb2.size
  have hl2 := block_lt hc0
  have HC0 := Lib.hid hc0
  have HS0 := Lib.hid hs0
  have HB2 := Lib.hid (show Below w.heap.size w w2 from HBW.out.trans (hb2.mono (by omega)))
  have QS2 := Lib.hid (keep_block hb2 QS.out)
  have QZ2 := Lib.hid (keep_block hb2 QZ.out)
  clear hown hgrow hc0 hs0 hb2 t0 g1
  go_wp2
  go_loopw [36] (fun i wr => ∃ (k : Nat) (cur : Array Value), k ≤ n ∧ i = .int .i64 (k : Int) ∧ wr.heap[w.heap.size + 1]? = some (.cells #[.int .i64 (seedN s (2 * k))] 2) ∧ wr.heap[w.heap.size]? = some (.cells #[.float .f32 z] 22) ∧ wr.heap[w1.heap.size]? = some (.cells cur 64) ∧ cur.size = n ∧ Pc k cx cy cur ∧ Below w.heap.size w wr)
    (fun i _ => n - (intOf i).toNat)
  case atStart => exact ⟨0, cur0, Nat.zero_le _, rfl, by rw [HN0.out]; exact QS2.out, QZ2.out, HC0.out, HS0.out, fun j hj => absurd hj (by omega), HB2.out⟩
  case round =>
    obtain ⟨k, cur, hk, rfl, eS, eZ, eG, hcs, hpc, hb⟩ := hrel
    have lS := block_lt eS
    have lZ := block_lt eZ
    have lG := block_lt eG
    have HE := Lib.hid (And.intro eS (And.intro eZ eG))
    have HC := Lib.hid hcs
    have HP := Lib.hid hpc
    have HB := Lib.hid hb
    have hbs := hb.size
    clear eS eZ eG hcs hpc hb
    by_cases hlt : k < n
    · have b0 := hSB.out (2 * k)
      have b1 := hSB.out (2 * k + 1)
      obtain ⟨S, hS⟩ : ∃ S, seedN s (2 * k) = S := ⟨_, rfl⟩
      have HSE := Lib.hid hS
      rw [hS] at HE b0
      rw [show seedN s (2 * k + 1) = nextS S by rw [← hS]; rfl] at b1
      have hne : w1.heap.size ≠ w.heap.size + 1 := by omega
      clear hS
      go_wp2_with fail
      refine (impl_draw (w.heap.size + 1) w.heap.size z c S _ HE.out.1 HE.out.2.1 FZ.out b0).mono ?_
      rintro e w3 ⟨r3, rfl, fr3, eS3, hk3, hb3⟩
      have hz3 := hb3.size
      have eZ3 := (hk3 w.heap.size (by omega) lZ).trans HE.out.2.1
      have eG3 := (hk3 w1.heap.size hne lG).trans HE.out.2.2
      go_wp2_with fail
      refine (impl_draw (w.heap.size + 1) w.heap.size z c (nextS S) _ eS3 eZ3 FZ.out b1).mono ?_
      rintro e w4 ⟨r4, rfl, fr4, eS4, hk4, hb4⟩
      have hz4 := hb4.size
      have eZ4 := (hk4 w.heap.size (by omega) (block_lt eZ3)).trans eZ3
      have eG4 := (hk4 w1.heap.size hne (block_lt eG3)).trans eG3
      have hd4 : w4.cell? ⟨w1.heap.size, k, none⟩ = some cur[k]! := by
        rw [cells_of eG4]
        have : k < cur.size := by rw [HC.out]; omega
        simp [this]
      have hf4 := free_of eG4 k
      generalize cur[k]! = o0 at hd4
      have l4 := block_lt eG4
      have HE4 := Lib.hid (And.intro eS4 (And.intro eZ4 eG4))
      have HB4 := Lib.hid (HB.out.trans ((hb3.mono (by omega)).trans (hb4.mono (by omega))))
      have F4 := Lib.hid (show Fr .f32 r3 (cx k) ∧ Fr .f32 r4 (cy k) by rw [HX.out, HY.out, HSE.out]; exact ⟨fr3, fr4⟩)
      clear eS3 eZ3 eG3 eS4 eZ4 eG4 hk3 hk4 hb3 hb4 fr3 fr4 b0 b1
      go_wp2
      go_roundw
      case rel => exact ⟨k + 1, _, by omega, by go_num, by rw [set_keep _ _ _ (by omega), HNX.out, HSE.out]; exact HE4.out.1, by rw [set_keep _ _ _ (by omega)]; exact HE4.out.2.1, setCell_block HE4.out.2.2 k _, by simpa using HC.out, HP.out.next F4.out.1 F4.out.2 (by rw [HC.out]; omega), Below.setCell (p := ⟨w1.heap.size, k, none⟩) HB4.out (show w.heap.size ≤ w1.heap.size by omega) _⟩
      case measure => simp [intOf]; omega
    · obtain rfl : n = k := by omega
      have c0 := (cells_of (i := 0) HE.out.1).trans (show _ = some (.int .i64 (seedN s (2 * n))) from rfl)
      go_wp2_with fail
      refine LooseP.wp_region 4 [] (by kernel_rfl) (by kernel_rfl) (by intro p hp; cases hp) ?_
      apply Exists.intro
      simp only [List.take_succ_cons, List.take_zero, List.drop_succ_cons, List.drop_zero]
      repeat (apply Loose.walk_step; intro K hK; apply LooseP.turn_value (hwant := rfl) (hd := rfl); (focus (intro w' hw'; obtain ⟨hc, hf⟩ := Fl.bcell hw'; go_simp; first | done | rfl | exact ⟨rfl, rfl⟩)); go_simp; refine hK _ ?_; clear hK K)
      refine Loose.walk_nil ?_
      intro w3 hcls3
      have hb3 := hcls3.1
      clear hcls3
      have HE3 := Lib.hid (keep_block hb3 HE.out.2.2)
      have HB3 := Lib.hid (HB.out.trans (hb3.mono hbs))
      have hz3 := hb3.size
      go_wp2
      refine bodyPost_ret ?ohr rfl ⟨some ⟨w1.heap.size, 0, none⟩, n, rfl, ⟨Nat.le_refl _, by unfold maxLen; omega, w1.heap.size, cur, fun _ => ⟨rfl, by omega, by omega, HE3.out⟩, by rw [HC.out]; exact Nat.le_refl _, HP.out⟩, HB3.out⟩
      case ohr => simp [results, Try.results11, go_sem, *]

end Nt
end Go.Proofs.Ytjkkefbfhapblab
