/- Rings and what is like them: the loops of the program and of the model. -/
import Derived.Test.YtggklnanhiomjabThG
import Derived.Test.YtggklnanhiomjabThM
namespace Go.Proofs.Ytggklnanhiomjab
set_option linter.unusedSimpArgs false
set_option linter.unusedVariables false
open Go.RowKit
set_option maxRecDepth 20000
namespace Th
open Fl Rate

def cntB (N : Int) : Bool := decide (3 ≤ N) && decide (N ≤ 32)

set_option maxHeartbeats 6400000 in
theorem impl_round (N : Int) (x s : Nat) (cs : Option Nat) (fn : FuncId) (caps : Array Value) (hz : Nat → Option Nat) (w : World) (hx : x < 4294967296) (fs : Fr .f32 s cs)
    (hfn : ∀ (args : Array Value) (w : World), (callFunc fn args).run Try.prog w = .ok (.enter fn args) w)
    (hcall : ∀ (k : Nat) (w' : World), (k : Int) < N → Below w.heap.size w w' → Calls Try.prog fn (#[.int .i64 (k : Int)] ++ caps) w' (RetF .f32 (hz k) w'))
    (R : Bool) (hR : ((cntB N && Rs.isLen x) && okT N.toNat cs (ringC N.toNat (cl .f32 x) hz)) = R) :
    Calls Try.prog 51 #[.int .i64 N, .float .f32 x, .float .f32 s, .func (Fn.func fn) #[] caps] w (RetG R s N.toNat (ringC N.toNat (cl .f32 x) hz) w) := by
  have HCN := Lib.hid (fun w => impl_count N w)
  change Hid (∀ w, Calls Try.prog 70 #[.int .i64 N] w fun e w' => e = .returned (.bool (cntB N)) ∧ w = w') at HCN
  have HLN := Lib.hid (fun w => Rs.impl_len x w hx)
  cases hA : cntB N
  · rw [hA] at hR HCN
    obtain rfl : R = false := by rw [← hR]; rfl
    clear hR hcall hA
    go_enter Try.func51, Try.ntmps51
    go_wp2_with (go_at_call 70; refine (HCN.out _).mono ?_; rintro e w1 ⟨rfl, rfl⟩)
    refine bodyPost_ret ?ohr rfl (retG_no ?obel)
    case ohr => simp [results, Try.results51, go_sem, *]
    case obel => (repeat' first | exact Below.refl _ _ | (refine Below.setCell ?_ (by first | omega | (simp; omega) | simp) _) | (refine below_drewN ?_ _) | (refine Below.alloc ?_ (by first | omega | (simp; omega) | simp) _) | (refine Below.trans ?_ (Below.mono (by assumption) (by first | omega | (simp; omega) | simp))))
  cases hB : Rs.isLen x
  · rw [hA, hB] at hR
    rw [hA] at HCN
    rw [hB] at HLN
    obtain rfl : R = false := by rw [← hR]; rfl
    clear hR hcall hA hB
    go_enter Try.func51, Try.ntmps51
    go_wp2_with (go_at_call 70; refine (HCN.out _).mono ?_; rintro e w1 ⟨rfl, rfl⟩)
    refine (HLN.out _).mono ?_
    rintro e w1 ⟨rfl, hb1⟩
    have hz1 := hb1.size
    try simp only [World.size_alloc, World.size_setCell, World.heap_drewN, World.size_drew] at hz1
    obtain ⟨hc1, hf1⟩ := Fl.bcell hb1
    try simp only [World.heap_drewN, World.cell?_drewN, World.frozen?_drewN] at hc1 hf1
    have g1_0 : w.heap.size < w1.heap.size := by omega
    go_wp2
    refine bodyPost_ret ?ohr rfl (retG_no ?obel)
    case ohr => simp [results, Try.results51, go_sem, *]
    case obel => (repeat' first | exact Below.refl _ _ | (refine Below.setCell ?_ (by first | omega | (simp; omega) | simp) _) | (refine below_drewN ?_ _) | (refine Below.alloc ?_ (by first | omega | (simp; omega) | simp) _) | (refine Below.trans ?_ (Below.mono (by assumption) (by first | omega | (simp; omega) | simp))))
  rw [hA, hB] at hR
  rw [hA] at HCN
  rw [hB] at HLN
  have hNN : 3 ≤ N ∧ N ≤ 32 := by
    unfold cntB at hA
    simpa using hA
  obtain ⟨n, rfl⟩ : ∃ n : Nat, N = (n : Int) := ⟨N.toNat, by omega⟩
  rw [show (n : Int).toNat = n by simp] at hR ⊢
  have hok : okT n cs (ringC n (cl .f32 x) hz) = R := hR
  have HCH := Lib.hid (fun a cap w (h : IsV w a n cap (ringC n (cl .f32 x) hz)) => impl_checked a n cap s cs _ w h fs R hok)
  have HC := Lib.hid hcall
  obtain ⟨s', hs'⟩ : ∃ s', (if R then s else 0) = s' := ⟨_, rfl⟩
  obtain ⟨N', hN'⟩ : ∃ N', (if R then n else 0) = N' := ⟨_, rfl⟩
  show Calls _ _ _ w (RetB R _ _ _ w)
  rw [hs', hN']
  have HR := Lib.hid (And.intro hs' hN')
  obtain ⟨F, hF⟩ : ∃ F, ringC n (cl .f32 x) hz = F := ⟨_, rfl⟩
  have HFF := Lib.hid hF
  rw [hF] at HCH ⊢
  have fx : Fr .f32 x (cl .f32 x) := ⟨rfl, hx⟩
  have q25 : Fr .f32 1048576000 (some 1048576000) := Fr.const (by decide +kernel) (by decide)
  have hn3 : 3 ≤ n := by omega
  have hn32 : n ≤ 32 := by omega
  obtain ⟨i0, hi, hz0, hz1, hz2⟩ := info_v
  clear hA hB hR hok hcall hs' hN' hF hNN
  go_enter Try.func51, Try.ntmps51
  go_wp2_with (go_at_call 70; refine (HCN.out _).mono ?_; rintro e w1 ⟨rfl, rfl⟩)
  refine (HLN.out _).mono ?_
  rintro e w1 ⟨rfl, hb1⟩
  have hzz1 := hb1.size
  simp only [World.size_alloc] at hzz1
  have qq : w1.heap[w.heap.size]? = some (.cells #[.slice none 0 0, .float .f32 0] 25) := keep_block hb1 (new_block w (.cells #[.slice none 0 0, .float .f32 0] 25))
  have QQ := Lib.hid qq
  have hbw : Below w.heap.size w w1 := by (repeat' first | exact Below.refl _ _ | (refine Below.setCell ?_ (by first | omega | (simp; omega) | simp) _) | (refine below_drewN ?_ _) | (refine Below.alloc ?_ (by first | omega | (simp; omega) | simp) _) | (refine Below.trans ?_ (Below.mono (by assumption) (by first | omega | (simp; omega) | simp))))
  have HBW := Lib.hid hbw
  clear qq hbw hb1
  go_wp2
  go_loopw [25, 48] (fun i sl wr => ∃ (k : Nat) (v : Value) (xs : List Value), (∀ b, sl = .slice (some ⟨b, 0, none⟩) 1 1 → b < wr.heap.size) ∧ k ≤ n ∧ i = .int .i64 (k : Int) ∧ wr.heap[w1.heap.size]? = some (.cells #[v, .float .f32 s] 25) ∧ wr.ownsRow w1.heap.size 49 3 v k xs ∧ FP (k * 3) F xs ∧ Below w1.heap.size w1 wr)
    (fun i _ _ => n - (intOf i).toNat)
  case atStart => exact ⟨0, _, [], by intro b hb; simp [undef] at hb, Nat.zero_le _, rfl, new_block _ _, World.ownsRow_nil _ _ _ _, FP.nil _, (Below.refl _ _).alloc (Nat.le_refl _) _⟩
  case round =>
    obtain ⟨k, v, xs, hsl, hk, rfl, hblk, hown, hpts, hbel⟩ := hrel
    have HSL := Lib.hid hsl
    have HBK := Lib.hid hblk
    have HO := Lib.hid hown
    have HP := Lib.hid hpts
    have HB := Lib.hid hbel
    have hbs := hbel.size
    have fk := fl_int (k : Int)
    have fN := fl_int (n : Int)
    have FK := Lib.hid (And.intro fk fN)
    clear hsl hblk hown hpts hbel
    by_cases hlt : k < n
    · go_wp2_with (first | (refine Fl.wpList_fl rfl rfl rfl rfl rfl (by assumption) (by assumption) ?_; intro r nd hr))
      generalize hwz : World.drewN wr _ = wz
      have hbz : Below wr.heap.size wr wz := by rw [← hwz]; exact below_drewN (Below.refl _ _) _
      have hsz : wz.heap.size = wr.heap.size := by rw [← hwz]; rfl
      have HSL := Lib.hid (show ∀ b, u48 = .slice (some ⟨b, 0, none⟩) 1 1 → b < wz.heap.size by rw [hsz]; exact HSL.out)
      have hqz := keep_block hbz HBK.out
      have s0 := (cells_of (i := 0) hqz).trans (show _ = some v from rfl)
      have s1 := (cells_of (i := 1) hqz).trans (show _ = some (.float .f32 s) from rfl)
      have fS := free_of hqz 0
      have hSl := block_lt hqz
      have HQZ := Lib.hid hqz
      have HOZ := Lib.hid (own_below HO.out hbz)
      have HBZ := Lib.hid (HB.out.trans (hbz.mono hbs))
      clear hwz hbz hqz hsz
      have HCZ := Lib.hid (fun w' (hw' : Below wz.heap.size wz w') => HC.out k w' (by omega) (HBW.out.trans ((HBZ.out.trans (hw'.mono HBZ.out.size)).mono (by omega))))
      have E0 : F (k * 3) = op2 .mul .f32 (cl .f32 x) (sineOf (op2 .add .f32 (quoC (k : Int) (n : Int)) (some 1048576000))) := by rw [← HFF.out]; exact ringC_0 n (cl .f32 x) hz k
      have E1 : F (k * 3 + 1) = op2 .mul .f32 (cl .f32 x) (sineOf (quoC (k : Int) (n : Int))) := by rw [← HFF.out]; exact ringC_1 n (cl .f32 x) hz k
      have E2 : F (k * 3 + 2) = hz k := by rw [← HFF.out]; exact ringC_2 n (cl .f32 x) hz k
      unfold quoC at E0 E1
      refine LooseS.wp_region 16 48 (fun ob => ∃ x y z, ob = .cells #[.float .f32 x, .float .f32 y, .float .f32 z] 49 ∧ Fr .f32 x (F (k * 3)) ∧ Fr .f32 y (F (k * 3 + 1)) ∧ Fr .f32 z (F (k * 3 + 2))) (by kernel_rfl) (by kernel_rfl) (by intro b hb; exact HSL.out b (by simpa using hb)) ?_
      apply Exists.intro
      simp only [List.take_succ_cons, List.take_zero, List.drop_succ_cons, List.drop_zero]
      repeat (first | (apply Loose.walk_step; intro K hK; apply LooseS.turn_value (hwant := rfl) (hd := rfl); (focus (intro w' hw'; obtain ⟨hc, hf⟩ := Fl.bcell hw'; go_simp; first | done | rfl | exact ⟨rfl, rfl⟩)); go_simp; refine hK _ ?_; clear hK K) | (apply Loose.walk_step; intro K hK; refine LooseS.turn_fl (Nat.le_refl _) rfl rfl rfl rfl rfl rfl (by assumption) (by assumption) ?_; intro r9 hr9; go_simp; refine hK _ ?_; clear hK K) | (apply Loose.walk_step; intro K hK; apply LooseS.turn_callF (Nat.le_refl _) (hwant := rfl) (hd := rfl); (focus (intro w'; go_simp; first | done | rfl | exact ⟨rfl, rfl⟩)); (focus (intro w' hw'; go_at_call 60; exact impl_sine _ _ _ (by assumption))); intro r9 hr9; go_simp; refine hK _ ?_; clear hK K) | (apply Loose.walk_step; intro K hK; apply LooseS.turn_callF (Nat.le_refl _) (hwant := rfl) (hd := rfl); (focus (intro w'; go_simp; first | done | rfl | exact ⟨rfl, rfl⟩)); (focus (intro w' hw'; go_at_call 59; exact Rate.product_run _ _ _ _ _ (by assumption) (by assumption))); intro r9 hr9; go_simp; refine hK _ ?_; clear hK K) | (apply Loose.walk_step; intro K hK; apply LooseS.turn_callF (Nat.le_refl _) (hwant := rfl) (hd := rfl); (focus (intro w'; go_simp; first | done | rfl | exact ⟨rfl, rfl⟩)); (focus (intro w' hw'; exact HCZ.out w' hw')); intro r9 hr9; go_simp; refine hK _ ?_; clear hK K) | (apply Loose.walk_step; intro K hK; refine LooseS.turn_build3 (hwant := rfl) (hd := rfl) (by intro w'; go_simp; exact ⟨rfl, rfl, rfl⟩) (by assumption) (by assumption) (by assumption) ?_; intro x4 y4 z4 fx4 fy4 fz4; go_simp; refine hK _ ?_; clear hK K) | (apply Loose.walk_step; intro K hK; refine LooseS.turn_row (ob := .cells #[.float .f32 x4, .float .f32 y4, .float .f32 z4] 49) (Nat.le_refl _) rfl rfl ⟨x4, y4, z4, rfl, by rw [E0]; exact fx4, by rw [E1]; exact fy4, by rw [E2]; exact fz4⟩ (by intro w'; go_simp; first | done | rfl | exact ⟨rfl, rfl⟩) ?_; intro b4 hb4B; go_simp; refine hK _ ?_; clear hK K))
      refine Loose.walk_nil ?_
      intro w4 hcls4
      obtain ⟨hb4, hrow4⟩ := hcls4
      obtain ⟨ob4, hob4, x5, y5, z5, rfl, gx, gy, gz⟩ := hrow4 _ hb4B rfl
      have hz4 := hb4.size
      have hS4 := keep_block hb4 HQZ.out
      have HS4 := Lib.hid hS4
      have HO4 := Lib.hid (own_below HOZ.out hb4)
      have HB4 := Lib.hid (HBZ.out.trans (hb4.mono HBZ.out.size))
      have hzb4 := HB4.out.size
      have HOB4 := Lib.hid hob4
      have lob4 := block_lt hob4
      have l4 := block_lt hS4
      have HG4 := Lib.hid (And.intro gx (And.intro gy gz))
      clear hS4 hb4 hrow4 hob4 s0 s1 fS gx gy gz
      go_wp2_with (first
        | (
          at_builtin
          refine wpList_append_own _ rfl (.tmp 34) (.tmp 48) 23 rfl w1.heap.size 49 i0 (.agg #[.float .f32 0, .float .f32 0, .float .f32 0]) 3 12 Try.underlying23 hi hz0 hz1 hz2 rfl (by decide) v k xs rfl HO4.out ⟨b4, 0, none⟩ 1 1 [.float .f32 x5, .float .f32 y5, .float .f32 z5] rfl rfl (row_cell3 HOB4.out) (by intro u hu; simp at hu; rcases hu with rfl | rfl | rfl <;> rfl) (by unfold maxLen; omega) (by omega) (by omega) ?_
          intro v5 w5 hown5 hgrow5 hnil5
          obtain ⟨g5, cap5, rfl⟩ := Joins.ownsRow_form hown5 (by omega)
          have hz45 := hgrow5.size
          obtain ⟨hS5, hb5⟩ := appended HS4.out HO4.out HB4.out (by omega) hgrow5 (by decide)
          have d50 := (cells_of (i := 0) hS5).trans (show _ = some v from rfl)
          have f50 := free_of hS5 0
          have l5 := block_lt hS5
          have HS5 := Lib.hid hS5
          have HO5 := Lib.hid hown5
          have HB5 := Lib.hid hb5
          clear hS5 hown5 hgrow5 hnil5 hb5
          skip))
      go_roundw
      case rel => exact ⟨k + 1, _, _, by intro b hb; simp at hb; subst hb; simp; omega, by omega, by go_num, by simpa using setCell_block HS5.out 0 _, own_set HO5.out HS5.out (by decide), HP.out.three HG4.out.1 HG4.out.2.1 HG4.out.2.2, Below.setCell HB5.out (by show w1.heap.size ≤ w1.heap.size; omega) (p := ⟨w1.heap.size, 0, none⟩) _⟩
      case measure => simp [intOf]; omega
    · obtain rfl : n = k := by omega
      obtain ⟨av, capv, rfl, hio⟩ := isR_own HO.out HP.out (by omega)
      have HIO := Lib.hid hio
      have s0 := (cells_of (i := 0) HBK.out).trans (show _ = some (.slice av n capv) from rfl)
      have s1 := (cells_of (i := 1) HBK.out).trans (show _ = some (.float .f32 s) from rfl)
      have q4 := keep_block HB.out QQ.out
      have Q4 := Lib.hid q4
      clear hio q4
      go_wp2_with fail
      refine (HCH.out _ _ _ HIO.out.v).mono ?_
      rintro e w9 ⟨rfl, hb9⟩
      have hz9 := hb9.size
      have q49 := keep_block hb9 Q4.out
      have e40 := (cells_of (i := 0) q49).trans (show _ = some (Value.slice none 0 0) from rfl)
      have e41 := (cells_of (i := 1) q49).trans (show _ = some (Value.float .f32 0) from rfl)
      have f40 := free_of q49 0
      have f41 := free_of q49 1
      have HB9 := Lib.hid ((HBW.out.trans (HB.out.mono (by omega))).trans (hb9.mono (by omega)))
      have HIO9 := Lib.hid (HIO.out.later hb9)
      have l9 := block_lt q49
      clear q49 hb9 s0 s1
      cases R
      all_goals
        go_wp2
        have hR := HR.out
        simp only [Bool.false_eq_true, if_false, if_true] at hR
        obtain ⟨rfl, rfl⟩ := hR
      · refine bodyPost_ret ?ohr rfl ⟨none, 0, rfl, isR_nil _ _ _ _, ?obel⟩
        case ohr => simp [results, Try.results51, go_sem, *]
        case obel => exact Below.setCell (Below.setCell HB9.out (by simp) _) (by simp) _
      · refine bodyPost_ret ?ohr rfl ⟨av, capv, rfl, ?oio, ?obel⟩
        case ohr => simp [results, Try.results51, go_sem, *]
        case oio =>
          refine (HIO9.out.keep fun g hg _ _ => ?_).wider (by omega) (by simp; omega)
          rw [set_keep _ _ _ (by omega), set_keep _ _ _ (by omega)]
        case obel => exact Below.setCell (Below.setCell HB9.out (by simp) _) (by simp) _

end Th
end Go.Proofs.Ytggklnanhiomjab
