/- What spreads: the program. -/
import Derived.Test.YtbinjkaanbhikaaBaSf
import Derived.Test.YtbinjkaanbhikaaBaTG
namespace Go.Proofs.Ytbinjkaanbhikaa
set_option linter.unusedSimpArgs false
set_option linter.unusedVariables false
open Go.RowKit
set_option maxRecDepth 20000
namespace Ba
open Fl Rate

set_option maxHeartbeats 12800000 in
theorem impl_spreadgood (W H : Int) (a : Option Addr) (n cap : Nat) (c : Nat → Option Nat) (w : World) (h : IsY w a n cap c) (hA : okB W H n c = true) (y : Nat) (d : Option Nat) (fy : Fr .f32 y d) (hd : finC d = true) (N : Nat) (hN : N ≤ 64) (T : Bool) (hT : spB W H d c n N = T) :
    Calls Try.prog 45 #[bV W H a n cap, .float .f32 y, .int .i64 (N : Int)] w (RetG T W H n (spF W H d c N) w) := by
  have HV := Lib.hid (fun w' (hb : Below w.heap.size w w') => impl_valid W H a n cap c w' (h.later hb) true hA)
  have HF := Lib.hid (fun w => impl_fin y d w fy)
  rw [hd] at HF
  have hn9 := okB_n hA
  have hs := okB_of hA
  have hNn : (W * H).toNat = n := by omega
  have HCL := Lib.hid (fun w' (hb : Below w.heap.size w w') => impl_clone W H a n cap c w' (h.later hb) hn9)
  have HA := Lib.hid hA
  have HTT := Lib.hid hT
  have HSS := Lib.hid hs
  have hN0 : ¬ (N : Int) < 0 := by omega
  have hN1 : ¬ (64 : Int) < (N : Int) := by omega
  have hd0 : decide ((N : Int) < 0) = false := decide_eq_false hN0
  have hd1 : decide ((64 : Int) < (N : Int)) = false := decide_eq_false hN1
  unfold RetG
  obtain ⟨W', hW'⟩ : ∃ W' : Int, (if T then W else 0) = W' := ⟨_, rfl⟩
  obtain ⟨H', hH'⟩ : ∃ H' : Int, (if T then H else 0) = H' := ⟨_, rfl⟩
  obtain ⟨N', hN'⟩ : ∃ N' : Nat, (if T then n else 0) = N' := ⟨_, rfl⟩
  rw [hW', hH', hN']
  have HR := Lib.hid (And.intro hW' (And.intro hH' hN'))
  clear h hA hT hs hW' hH' hN' hd
  go_enter Try.func45, Try.ntmps45
  go_wp2_with fail
  refine (HV.out _ (by (repeat' first | exact Below.refl _ _ | (refine Below.setCell ?_ (by first | omega | (simp; omega) | simp) _) | (refine below_drewN ?_ _) | (refine Below.alloc ?_ (by first | omega | (simp; omega) | simp) _) | (refine Below.trans ?_ (Below.mono (by assumption) (by first | omega | (simp; omega) | simp)))))).mono ?_
  rintro e w1 ⟨rfl, hb1⟩
  have hz1 := hb1.size
  try simp only [World.size_alloc, World.size_setCell, World.heap_drewN, World.size_drew] at hz1
  obtain ⟨hc1, hf1⟩ := Fl.bcell hb1
  try simp only [World.heap_drewN, World.cell?_drewN, World.frozen?_drewN] at hc1 hf1
  have g1_0 : w.heap.size < w1.heap.size := by omega
  have g1_1 : w.heap.size + 1 < w1.heap.size := by omega
  have g1_2 : w.heap.size + 1 + 1 < w1.heap.size := by omega
  go_wp2_with fail
  refine (HF.out _).mono ?_
  rintro e w2 ⟨rfl, hb2⟩
  have hz2 := hb2.size
  try simp only [World.size_alloc, World.size_setCell, World.heap_drewN, World.size_drew] at hz2
  obtain ⟨hc2, hf2⟩ := Fl.bcell hb2
  try simp only [World.heap_drewN, World.cell?_drewN, World.frozen?_drewN] at hc2 hf2
  have g2_0 : w.heap.size < w2.heap.size := by omega
  have g2_1 : w.heap.size + 1 < w2.heap.size := by omega
  have g2_2 : w.heap.size + 1 + 1 < w2.heap.size := by omega
  go_wp2_with fail
  refine (HCL.out _ (by (repeat' first | exact Below.refl _ _ | (refine Below.setCell ?_ (by first | omega | (simp; omega) | simp) _) | (refine below_drewN ?_ _) | (refine Below.alloc ?_ (by first | omega | (simp; omega) | simp) _) | (refine Below.trans ?_ (Below.mono (by assumption) (by first | omega | (simp; omega) | simp)))))).mono ?_
  rintro e w3 ⟨a3, cap3, rfl, ho3, hb3⟩
  have hz3 := hb3.size
  have hz31 : w.heap.size + 1 + 1 < w3.heap.size := by omega
  have qr : w3.heap[w.heap.size + 1]? = some (.cells #[.float .f32 y] 28) := keep_block hb3 (keep_block hb2 (keep_block hb1 (alloc_block (by simpa using new_block (w.alloc (.cells #[.int .i64 W, .int .i64 H, .slice a n cap] 40)) (.cells #[.float .f32 y] 28)))))
  have qz : w3.heap[w.heap.size + 1 + 1]? = some (.cells #[.int .i64 0, .int .i64 0, .slice none 0 0] 40) := keep_block hb3 (keep_block hb2 (keep_block hb1 (by simpa using new_block ((w.alloc (.cells #[.int .i64 W, .int .i64 H, .slice a n cap] 40)).alloc (.cells #[.float .f32 y] 28)) (.cells #[.int .i64 0, .int .i64 0, .slice none 0 0] 40))))
  have QR := Lib.hid qr
  have QZ := Lib.hid qz
  have HBW := Lib.hid (show Below w.heap.size w w3 by (repeat' first | exact Below.refl _ _ | (refine Below.setCell ?_ (by first | omega | (simp; omega) | simp) _) | (refine below_drewN ?_ _) | (refine Below.alloc ?_ (by first | omega | (simp; omega) | simp) _) | (refine Below.trans ?_ (Below.mono (by assumption) (by first | omega | (simp; omega) | simp)))))
  have HO3 := Lib.hid ho3
  clear hb1 hb2 hb3 hc1 hc2 hf1 hf2 qr qz ho3 g1_0 g1_1 g1_2 g2_0 g2_1
  go_wp2
  go_loopw [30] (fun i wr => ∃ (k : Nat) (ak : Option Addr) (ck : Nat), k ≤ N ∧ i = .int .i64 (k : Int) ∧ wr.heap[w3.heap.size]? = some (.cells #[.int .i64 W, .int .i64 H, .slice ak n ck] 40) ∧ IsO w2.heap.size wr.heap.size wr ak n ck (spF W H d c k) ∧ spB W H d c n k = true ∧ Below w3.heap.size w3 wr)
    (fun i _ => N - (intOf i).toNat)
  case atStart => exact ⟨0, a3, cap3, Nat.zero_le _, rfl, new_block _ _, (HO3.out.alloc _).wider (Nat.le_refl _) (by simp), rfl, (Below.refl _ _).alloc (Nat.le_refl _) _⟩
  case round =>
    obtain ⟨k, ak, ck, hk, rfl, hblk, hown, hsp, hbel⟩ := hrel
    have HBK := Lib.hid hblk
    have HO := Lib.hid hown
    have HP := Lib.hid hsp
    have HB := Lib.hid hbel
    have hbs := hbel.size
    have hSl := block_lt hblk
    have hqr : wr.heap[w.heap.size + 1]? = some (.cells #[.float .f32 y] 28) := by rw [hbel.block _ (by omega)]; exact QR.out
    have hqz : wr.heap[w.heap.size + 1 + 1]? = some (.cells #[.int .i64 0, .int .i64 0, .slice none 0 0] 40) := by rw [hbel.block _ (by omega)]; exact QZ.out
    have HQR := Lib.hid hqr
    have HQZ := Lib.hid hqz
    have er := (cells_of (i := 0) hqr).trans (show _ = some (.float .f32 y) from rfl)
    have lr := block_lt hqr
    have s0 := (cells_of (i := 0) hblk).trans (show _ = some (.int .i64 W) from rfl)
    have s1 := (cells_of (i := 1) hblk).trans (show _ = some (.int .i64 H) from rfl)
    have s2 := (cells_of (i := 2) hblk).trans (show _ = some (.slice ak n ck) from rfl)
    clear hblk hown hsp hbel hqr hqz
    have hne : ¬ w.heap.size + 1 + 1 = w3.heap.size := by omega
    have hne' : ¬ w3.heap.size = w.heap.size + 1 + 1 := by omega
    by_cases hlt : k < N
    · have hok := sp_ok HA.out HP.out
      have hs := okB_of hok
      obtain ⟨R1, hR1⟩ : ∃ R1, allF (spF W H d c (k + 1)) n = R1 := ⟨_, rfl⟩
      have HE := Lib.hid (fun (w' : World) (hb : Below wr.heap.size wr w') => each_cell W H ak n ck 105 #[.pointer (some ⟨w.heap.size + 1, 0, none⟩)] (spF W H d c (k + 1)) w' enter_spread1 (fun x1 y1 w'' hx hy s1 s2 hb' => impl_spread1 W H ak n ck (spF W H d c k) x1 y1 (w.heap.size + 1) y d w'' ((HO.out.y.later hb).later hb') hs.1 hs.2.1 hs.2.2.1 hx hy s1 s2 fy ((hb'.cell (show w.heap.size + 1 < w'.heap.size from Nat.lt_of_lt_of_le lr hb.size)).trans ((hb.cell lr).trans er))) R1 (by rw [hs.1, hs.2.1, hNn]; exact hR1))
      rw [hNn] at HE
      have HR1 := Lib.hid hR1
      clear hok hs hR1
      obtain ⟨W1, hW1⟩ : ∃ W1 : Int, (if R1 then W else 0) = W1 := ⟨_, rfl⟩
      obtain ⟨H1, hH1⟩ : ∃ H1 : Int, (if R1 then H else 0) = H1 := ⟨_, rfl⟩
      obtain ⟨N1, hN1'⟩ : ∃ N1 : Nat, (if R1 then n else 0) = N1 := ⟨_, rfl⟩
      rw [hW1, hH1, hN1'] at HE
      have HRR := Lib.hid (And.intro hW1 (And.intro hH1 hN1'))
      clear hW1 hH1 hN1'
      go_wp2_with fail
      refine (HE.out _ (by (repeat' first | exact Below.refl _ _ | (refine Below.setCell ?_ (by first | omega | (simp; omega) | simp) _) | (refine below_drewN ?_ _) | (refine Below.alloc ?_ (by first | omega | (simp; omega) | simp) _) | (refine Below.trans ?_ (Below.mono (by assumption) (by first | omega | (simp; omega) | simp)))))).mono ?_
      rintro e w5 ⟨av, capv, rfl, ho5, hb5⟩
      have hz5 := hb5.size
      have hq5 := keep_block hb5 HBK.out
      have hqz5 := keep_block hb5 HQZ.out
      have HQ5 := Lib.hid hq5
      have HZ5 := Lib.hid hqz5
      have HO5 := Lib.hid ho5
      have HB5 := Lib.hid (HB.out.trans (hb5.mono hbs))
      have l5 := block_lt hq5
      have lz5 := block_lt hqz5
      clear hb5 ho5 s0 s1 s2
      have s0 := (cells_of (i := 0) hq5).trans (show _ = some (.int .i64 W) from rfl)
      have s1 := (cells_of (i := 1) hq5).trans (show _ = some (.int .i64 H) from rfl)
      have s2 := (cells_of (i := 2) hq5).trans (show _ = some (.slice ak n ck) from rfl)
      have f0 := free_of hq5 0
      have f1 := free_of hq5 1
      have f2 := free_of hq5 2
      have z0 := (cells_of (i := 0) hqz5).trans (show _ = some (.int .i64 0) from rfl)
      have z1 := (cells_of (i := 1) hqz5).trans (show _ = some (.int .i64 0) from rfl)
      have z2 := (cells_of (i := 2) hqz5).trans (show _ = some (.slice none 0 0) from rfl)
      have y0 := free_of hqz5 0
      have y1 := free_of hqz5 1
      have y2 := free_of hqz5 2
      clear hq5 hqz5
      cases R1
      · have hRR := HRR.out
        simp only [Bool.false_eq_true, if_false] at hRR
        obtain ⟨rfl, rfl, rfl⟩ := hRR
        obtain rfl : T = false := by rw [← HTT.out]; exact spB_le (k := k + 1) (by show (spB W H d c n k && allF (spF W H d c (k + 1)) n) = false; rw [HR1.out, Bool.and_false]) (by omega)
        go_wp2
        have hR := HR.out
        simp only [Bool.false_eq_true, if_false, if_true] at hR
        obtain ⟨rfl, rfl, rfl⟩ := hR
        refine bodyPost_ret ?ohr rfl ⟨none, 0, rfl, isO_nil _ _ _ _, ?obel⟩
        case ohr => simp [results, Try.results45, go_sem, *]
        case obel =>
          have HBX := HBW.out.trans (HB5.out.mono (by omega))
          (repeat' first | exact HBX | (refine Below.setCell ?_ (by first | omega | (simp; omega) | simp) _))
      · have hRR := HRR.out
        simp only [if_true] at hRR
        obtain ⟨rfl, rfl, rfl⟩ := hRR
        go_wp2
        go_roundw
        case rel => exact ⟨k + 1, av, capv, by omega, by go_num, by simpa using setCell_block (setCell_block (setCell_block HQ5.out 0 (.int .i64 W)) 1 (.int .i64 H)) 2 (.slice av n capv), (isO_set (isO_set (isO_set HO5.out HQ5.out (by decide)) (setCell_block HQ5.out 0 _) (by decide)) (setCell_block (setCell_block HQ5.out 0 _) 1 _) (by decide)).wider (by omega) (by simp), by show (spB W H d c n k && allF (spF W H d c (k + 1)) n) = true; rw [HP.out, HR1.out]; rfl, Below.setCell (Below.setCell (Below.setCell HB5.out (Nat.le_refl _) (p := ⟨w3.heap.size, 0, none⟩) _) (Nat.le_refl _) (p := ⟨w3.heap.size, 1, none⟩) _) (Nat.le_refl _) (p := ⟨w3.heap.size, 2, none⟩) _⟩
        case measure => simp [intOf]; omega
    · obtain rfl : N = k := by omega
      obtain rfl : T = true := by rw [← HTT.out]; exact HP.out
      have z0 := (cells_of (i := 0) HQZ.out).trans (show _ = some (.int .i64 0) from rfl)
      have z1 := (cells_of (i := 1) HQZ.out).trans (show _ = some (.int .i64 0) from rfl)
      have z2 := (cells_of (i := 2) HQZ.out).trans (show _ = some (.slice none 0 0) from rfl)
      have y0 := free_of HQZ.out 0
      have y1 := free_of HQZ.out 1
      have y2 := free_of HQZ.out 2
      have lz := block_lt HQZ.out
      go_wp2
      have hR := HR.out
      simp only [Bool.false_eq_true, if_false, if_true] at hR
      obtain ⟨rfl, rfl, rfl⟩ := hR
      refine bodyPost_ret ?ohr rfl ⟨ak, ck, rfl, ?oio, ?obel⟩
      case ohr => simp [results, Try.results45, go_sem, *]
      case oio =>
        refine (HO.out.keep fun g hg _ _ => ?_).wider (by omega) (by simp)
        rw [set_keep _ _ _ (by omega), set_keep _ _ _ (by omega), set_keep _ _ _ (by omega)]
      case obel =>
        have HBX := HBW.out.trans (HB.out.mono (by omega))
        (repeat' first | exact HBX | (refine Below.setCell ?_ (by first | omega | (simp; omega) | simp) _))

/-- What a basin must be so that it can spread. -/
def canB (A : Bool) (d : Option Nat) (s : Int) : Bool := (A && finC d) && inB s 0 64

theorem can_ok {A : Bool} {d : Option Nat} {s : Int} (h : canB A d s = true) : A = true := by
  unfold canB at h
  rw [Bool.and_eq_true, Bool.and_eq_true] at h
  exact h.1.1

theorem in_no {s : Int} (h : s < 0 ∨ 64 < s) : inB s 0 64 = false := by
  unfold inB
  rcases h with h | h
  · rw [decide_eq_false (by omega)]; rfl
  · rw [decide_eq_false (show ¬ s ≤ 64 by omega), Bool.and_false]

set_option maxHeartbeats 6400000 in
theorem impl_SpreadB (W H : Int) (a : Option Addr) (n cap : Nat) (c : Nat → Option Nat) (w : World) (h : IsY w a n cap c) (A : Bool) (hA : okB W H n c = A) (y : Nat) (d : Option Nat) (fy : Fr .f32 y d) (s : Int) : Calls Try.prog 45 #[bV W H a n cap, .float .f32 y, .int .i64 s] w (RetG (canB A d s && spB W H d c n s.toNat) W H n (spF W H d c s.toNat) w) := by
  have HV := Lib.hid (fun w' (hb : Below w.heap.size w w') => impl_valid W H a n cap c w' (h.later hb) A hA)
  have HF := Lib.hid (fun w => impl_fin y d w fy)
  cases A
  · clear hA h
    show Calls _ _ _ w (RetG false W H n _ w)
    go_enter Try.func45, Try.ntmps45
    go_wp2_with fail
    refine (HV.out _ (by (repeat' first | exact Below.refl _ _ | (refine Below.setCell ?_ (by first | omega | (simp; omega) | simp) _) | (refine below_drewN ?_ _) | (refine Below.alloc ?_ (by first | omega | (simp; omega) | simp) _) | (refine Below.trans ?_ (Below.mono (by assumption) (by first | omega | (simp; omega) | simp)))))).mono ?_
    rintro e w1 ⟨rfl, hb1⟩
    have hz1 := hb1.size
    try simp only [World.size_alloc, World.size_setCell, World.heap_drewN, World.size_drew] at hz1
    obtain ⟨hc1, hf1⟩ := Fl.bcell hb1
    try simp only [World.heap_drewN, World.cell?_drewN, World.frozen?_drewN] at hc1 hf1
    have g1_0 : w.heap.size < w1.heap.size := by omega
    have g1_1 : w.heap.size + 1 < w1.heap.size := by omega
    have g1_2 : w.heap.size + 1 + 1 < w1.heap.size := by omega
    go_wp2
    refine bodyPost_ret ?ohr rfl (retG_no ?obel)
    case ohr => simp [results, Try.results45, go_sem, *]
    case obel => (repeat' first | exact Below.refl _ _ | (refine Below.setCell ?_ (by first | omega | (simp; omega) | simp) _) | (refine below_drewN ?_ _) | (refine Below.alloc ?_ (by first | omega | (simp; omega) | simp) _) | (refine Below.trans ?_ (Below.mono (by assumption) (by first | omega | (simp; omega) | simp))))
  cases hd : finC d
  · rw [hd] at HF
    have e : canB true d s = false := by unfold canB; rw [hd]; rfl
    rw [e]
    clear hA h
    show Calls _ _ _ w (RetG false W H n _ w)
    go_enter Try.func45, Try.ntmps45
    go_wp2_with fail
    refine (HV.out _ (by (repeat' first | exact Below.refl _ _ | (refine Below.setCell ?_ (by first | omega | (simp; omega) | simp) _) | (refine below_drewN ?_ _) | (refine Below.alloc ?_ (by first | omega | (simp; omega) | simp) _) | (refine Below.trans ?_ (Below.mono (by assumption) (by first | omega | (simp; omega) | simp)))))).mono ?_
    rintro e w1 ⟨rfl, hb1⟩
    have hz1 := hb1.size
    try simp only [World.size_alloc, World.size_setCell, World.heap_drewN, World.size_drew] at hz1
    obtain ⟨hc1, hf1⟩ := Fl.bcell hb1
    try simp only [World.heap_drewN, World.cell?_drewN, World.frozen?_drewN] at hc1 hf1
    have g1_0 : w.heap.size < w1.heap.size := by omega
    have g1_1 : w.heap.size + 1 < w1.heap.size := by omega
    have g1_2 : w.heap.size + 1 + 1 < w1.heap.size := by omega
    go_wp2_with fail
    refine (HF.out _).mono ?_
    rintro e w2 ⟨rfl, hb2⟩
    have hz2 := hb2.size
    try simp only [World.size_alloc, World.size_setCell, World.heap_drewN, World.size_drew] at hz2
    obtain ⟨hc2, hf2⟩ := Fl.bcell hb2
    try simp only [World.heap_drewN, World.cell?_drewN, World.frozen?_drewN] at hc2 hf2
    have g2_0 : w.heap.size < w2.heap.size := by omega
    have g2_1 : w.heap.size + 1 < w2.heap.size := by omega
    have g2_2 : w.heap.size + 1 + 1 < w2.heap.size := by omega
    go_wp2
    refine bodyPost_ret ?ohr rfl (retG_no ?obel)
    case ohr => simp [results, Try.results45, go_sem, *]
    case obel => (repeat' first | exact Below.refl _ _ | (refine Below.setCell ?_ (by first | omega | (simp; omega) | simp) _) | (refine below_drewN ?_ _) | (refine Below.alloc ?_ (by first | omega | (simp; omega) | simp) _) | (refine Below.trans ?_ (Below.mono (by assumption) (by first | omega | (simp; omega) | simp))))
  by_cases h0 : s < 0
  · have e : canB true d s = false := by unfold canB; rw [in_no (.inl h0), Bool.and_false]
    rw [e]
    rw [hd] at HF
    clear hA h
    show Calls _ _ _ w (RetG false W H n _ w)
    go_enter Try.func45, Try.ntmps45
    go_wp2_with fail
    refine (HV.out _ (by (repeat' first | exact Below.refl _ _ | (refine Below.setCell ?_ (by first | omega | (simp; omega) | simp) _) | (refine below_drewN ?_ _) | (refine Below.alloc ?_ (by first | omega | (simp; omega) | simp) _) | (refine Below.trans ?_ (Below.mono (by assumption) (by first | omega | (simp; omega) | simp)))))).mono ?_
    rintro e w1 ⟨rfl, hb1⟩
    have hz1 := hb1.size
    try simp only [World.size_alloc, World.size_setCell, World.heap_drewN, World.size_drew] at hz1
    obtain ⟨hc1, hf1⟩ := Fl.bcell hb1
    try simp only [World.heap_drewN, World.cell?_drewN, World.frozen?_drewN] at hc1 hf1
    have g1_0 : w.heap.size < w1.heap.size := by omega
    have g1_1 : w.heap.size + 1 < w1.heap.size := by omega
    have g1_2 : w.heap.size + 1 + 1 < w1.heap.size := by omega
    go_wp2_with fail
    refine (HF.out _).mono ?_
    rintro e w2 ⟨rfl, hb2⟩
    have hz2 := hb2.size
    try simp only [World.size_alloc, World.size_setCell, World.heap_drewN, World.size_drew] at hz2
    obtain ⟨hc2, hf2⟩ := Fl.bcell hb2
    try simp only [World.heap_drewN, World.cell?_drewN, World.frozen?_drewN] at hc2 hf2
    have g2_0 : w.heap.size < w2.heap.size := by omega
    have g2_1 : w.heap.size + 1 < w2.heap.size := by omega
    have g2_2 : w.heap.size + 1 + 1 < w2.heap.size := by omega
    go_wp2
    refine bodyPost_ret ?ohr rfl (retG_no ?obel)
    case ohr => simp [results, Try.results45, go_sem, *]
    case obel => (repeat' first | exact Below.refl _ _ | (refine Below.setCell ?_ (by first | omega | (simp; omega) | simp) _) | (refine below_drewN ?_ _) | (refine Below.alloc ?_ (by first | omega | (simp; omega) | simp) _) | (refine Below.trans ?_ (Below.mono (by assumption) (by first | omega | (simp; omega) | simp))))
  by_cases h1 : 64 < s
  · have e : canB true d s = false := by unfold canB; rw [in_no (.inr h1), Bool.and_false]
    rw [e]
    rw [hd] at HF
    have h0' : 0 ≤ s := by omega
    clear hA h
    show Calls _ _ _ w (RetG false W H n _ w)
    go_enter Try.func45, Try.ntmps45
    go_wp2_with fail
    refine (HV.out _ (by (repeat' first | exact Below.refl _ _ | (refine Below.setCell ?_ (by first | omega | (simp; omega) | simp) _) | (refine below_drewN ?_ _) | (refine Below.alloc ?_ (by first | omega | (simp; omega) | simp) _) | (refine Below.trans ?_ (Below.mono (by assumption) (by first | omega | (simp; omega) | simp)))))).mono ?_
    rintro e w1 ⟨rfl, hb1⟩
    have hz1 := hb1.size
    try simp only [World.size_alloc, World.size_setCell, World.heap_drewN, World.size_drew] at hz1
    obtain ⟨hc1, hf1⟩ := Fl.bcell hb1
    try simp only [World.heap_drewN, World.cell?_drewN, World.frozen?_drewN] at hc1 hf1
    have g1_0 : w.heap.size < w1.heap.size := by omega
    have g1_1 : w.heap.size + 1 < w1.heap.size := by omega
    have g1_2 : w.heap.size + 1 + 1 < w1.heap.size := by omega
    go_wp2_with fail
    refine (HF.out _).mono ?_
    rintro e w2 ⟨rfl, hb2⟩
    have hz2 := hb2.size
    try simp only [World.size_alloc, World.size_setCell, World.heap_drewN, World.size_drew] at hz2
    obtain ⟨hc2, hf2⟩ := Fl.bcell hb2
    try simp only [World.heap_drewN, World.cell?_drewN, World.frozen?_drewN] at hc2 hf2
    have g2_0 : w.heap.size < w2.heap.size := by omega
    have g2_1 : w.heap.size + 1 < w2.heap.size := by omega
    have g2_2 : w.heap.size + 1 + 1 < w2.heap.size := by omega
    go_wp2
    refine bodyPost_ret ?ohr rfl (retG_no ?obel)
    case ohr => simp [results, Try.results45, go_sem, *]
    case obel => (repeat' first | exact Below.refl _ _ | (refine Below.setCell ?_ (by first | omega | (simp; omega) | simp) _) | (refine below_drewN ?_ _) | (refine Below.alloc ?_ (by first | omega | (simp; omega) | simp) _) | (refine Below.trans ?_ (Below.mono (by assumption) (by first | omega | (simp; omega) | simp))))
  · obtain ⟨N, rfl⟩ : ∃ N : Nat, s = (N : Int) := ⟨s.toNat, by omega⟩
    have e : canB true d (N : Int) = true := by unfold canB inB; rw [hd, decide_eq_true (show (0 : Int) ≤ (N : Int) by omega), decide_eq_true (show (N : Int) ≤ 64 by omega)]; rfl
    rw [e, Bool.true_and, Int.toNat_natCast]
    exact impl_spreadgood W H a n cap c w h hA y d fy hd N (by omega) _ rfl

end Ba
end Go.Proofs.Ytbinjkaanbhikaa
