/- Blobs in basins: the model. -/
import Derived.Test.YtbinjkaanbhikaaBaBl
namespace Go.Proofs.Ytbinjkaanbhikaa
set_option linter.unusedSimpArgs false
set_option linter.unusedVariables false
open Go.RowKit
set_option maxRecDepth 20000
namespace Ba
open Fl Rate


set_option maxHeartbeats 12800000 in
theorem spec_blobgood (W H : Int) (x y r s : Nat) (cx cy cr cs : Option Nat) (w : World) (fx : Fr .f32 x cx) (fy : Fr .f32 y cy) (fr : Fr .f32 r cr) (fs : Fr .f32 s cs) (h1 : sideB W = true) (h2 : sideB H = true) (gx : finC cx = true) (gy : finC cy = true) (gr : finC cr = true) (n : Nat) (hn : (n : Int) = W * H) (S : Bool) (hS : finC cs = S) (R : Bool) (hR0 : allF (blobC W H cx cy (op2 .mul .f32 cr cr) cs) n = R) : Calls Try.prog 38 #[.int .i64 W, .int .i64 H, .float .f32 x, .float .f32 y, .float .f32 r, .float .f32 s] w (RetG (S && R) W H n (blobC W H cx cy (op2 .mul .f32 cr cr) cs) w) := by
  have HV := Lib.hid (fun w => spec_sizeD W H w)
  rw [h1, h2] at HV
  have HFX := Lib.hid (fun w => spec_fin x cx w fx)
  have HFY := Lib.hid (fun w => spec_fin y cy w fy)
  have HFR := Lib.hid (fun w => spec_fin r cr w fr)
  have HFS := Lib.hid (fun w => spec_fin s cs w fs)
  rw [gx] at HFX
  rw [gy] at HFY
  rw [gr] at HFR
  rw [hS] at HFS
  have hok : okB W H n (blobC W H cx cy (op2 .mul .f32 cr cr) cs) = R := by
    unfold okB
    rw [h1, h2, hR0, decide_eq_true hn]; rfl
  have HG := Lib.hid (fun a cap w (h : IsY w a n cap (blobC W H cx cy (op2 .mul .f32 cr cr) cs)) => spec_give W H a n cap _ w h R hok)
  obtain ⟨i0, hi, iz0, iz1, iz2⟩ := info_parts Nums.A_info32
  have hmul := mul_bd h1 h2
  have sW := side_of h1
  have HN := Lib.hid hn
  have hn9 : 9 ≤ n ∧ n ≤ 256 := by omega
  have zz := zero32
  obtain ⟨T, hT⟩ : ∃ T, (S && R) = T := ⟨_, rfl⟩
  rw [hT]
  unfold RetG
  obtain ⟨W', hW'⟩ : ∃ W' : Int, (if T then W else 0) = W' := ⟨_, rfl⟩
  obtain ⟨H', hH'⟩ : ∃ H' : Int, (if T then H else 0) = H' := ⟨_, rfl⟩
  obtain ⟨N', hN'⟩ : ∃ N' : Nat, (if T then n else 0) = N' := ⟨_, rfl⟩
  rw [hW', hH', hN']
  have HR := Lib.hid (And.intro hW' (And.intro hH' hN'))
  have HT := Lib.hid hT
  clear hn hok hR0 h1 h2 gx gy gr hS hW' hH' hN' hT
  go_enter Try.func38, Try.ntmps38
  go_wp2_with fail
  refine (HV.out _).mono ?_
  rintro e v1 ⟨rfl, hb1⟩
  have hz1 := hb1.size
  try simp only [World.size_alloc] at hz1
  have q4 := keep_block hb1 (new_block w (.cells #[.int .i64 0, .int .i64 0, .slice none 0 0] 40))
  have hbw : Below w.heap.size w v1 := by (repeat' first | exact Below.refl _ _ | (refine Below.setCell ?_ (by first | omega | (simp; omega) | simp) _) | (refine below_drewN ?_ _) | (refine Below.alloc ?_ (by first | omega | (simp; omega) | simp) _) | (refine Below.trans ?_ (Below.mono (by assumption) (by first | omega | (simp; omega) | simp))))
  have Q4 := Lib.hid q4
  have HBW := Lib.hid hbw
  clear q4 hbw hb1
  go_wp2_with fail
  refine (HFX.out _).mono ?_
  rintro e v2 ⟨rfl, hb2⟩
  have hz2 := hb2.size
  try simp only [World.size_alloc] at hz2
  have q4 := keep_block hb2 Q4.out
  have hbw := HBW.out.trans (hb2.mono HBW.out.size)
  clear Q4 HBW
  have Q4 := Lib.hid q4
  have HBW := Lib.hid hbw
  clear q4 hbw hb2
  go_wp2_with fail
  refine (HFY.out _).mono ?_
  rintro e v3 ⟨rfl, hb3⟩
  have hz3 := hb3.size
  try simp only [World.size_alloc] at hz3
  have q4 := keep_block hb3 Q4.out
  have hbw := HBW.out.trans (hb3.mono HBW.out.size)
  clear Q4 HBW
  have Q4 := Lib.hid q4
  have HBW := Lib.hid hbw
  clear q4 hbw hb3
  go_wp2_with fail
  refine (HFR.out _).mono ?_
  rintro e v4 ⟨rfl, hb4⟩
  have hz4 := hb4.size
  try simp only [World.size_alloc] at hz4
  have q4 := keep_block hb4 Q4.out
  have hbw := HBW.out.trans (hb4.mono HBW.out.size)
  clear Q4 HBW
  have Q4 := Lib.hid q4
  have HBW := Lib.hid hbw
  clear q4 hbw hb4
  go_wp2_with fail
  refine (spec_new _ _ _).mono ?_
  rintro e w3 ⟨g3, rfl, ho3, hb3⟩
  have hz5 := hb3.size
  have q4 := keep_block hb3 Q4.out
  clear Q4
  have Q4 := Lib.hid q4
  have HO3 := Lib.hid ho3
  have hbw := HBW.out.trans (hb3.mono HBW.out.size)
  clear HBW
  have HBW := Lib.hid hbw
  have HS0 := Lib.hid (new_block w3 (.cells #[.int .i64 W, .int .i64 H, .slice (some ⟨g3, 0, none⟩) 0 0] 40))
  have HO0 := Lib.hid (World.ownsRow.alloc HO3.out (.cells #[.int .i64 W, .int .i64 H, .slice (some ⟨g3, 0, none⟩) 0 0] 40))
  have HB0 := Lib.hid (show Below w3.heap.size w3 (w3.alloc (.cells #[.int .i64 W, .int .i64 H, .slice (some ⟨g3, 0, none⟩) 0 0] 40)) from (Below.refl _ _).alloc (Nat.le_refl _) _)
  clear hb3 ho3 q4 hbw
  go_wp2_with (refine Fl.wpList_fl rfl rfl rfl rfl rfl (by assumption) (by assumption) ?_; intro rm nm hrm)
  go_loopw [16] (fun i wr => ∃ (k : Nat) (v : Value) (xs : List Value), k ≤ n ∧ i = .int .i64 k ∧ wr.heap[w3.heap.size]? = some (.cells #[.int .i64 W, .int .i64 H, v] 40) ∧ wr.ownsRow v4.heap.size 28 1 v k xs ∧ FPts k (blobC W H cx cy (op2 .mul .f32 cr cr) cs) xs ∧ Below v4.heap.size w3 wr)
    (fun i _ => n - (intOf i).toNat)
  case atStart => exact ⟨0, _, [], Nat.zero_le _, rfl, by simpa only [World.heap_drewN] using HS0.out, own_heap HO0.out (fun g _ _ => by simp only [World.heap_drewN]), FPts.nil _, below_drewN (HB0.out.mono (by omega)) _⟩
  case round =>
    obtain ⟨k, v, xs, hk, rfl, hblk, hown, hpts, hbel⟩ := hrel
    have HBK := Lib.hid hblk
    have HO := Lib.hid hown
    have HP := Lib.hid hpts
    have HB := Lib.hid hbel
    have hSl := block_lt hblk
    have hbs := hbel.size
    clear hblk hown hpts hbel
    by_cases hlt : k < n
    · obtain ⟨b, hb0⟩ : ∃ b, cmpC .leq (ord .f32 (farC W H cx cy k) (op2 .mul .f32 cr cr)) = b := ⟨_, rfl⟩
      have hfk := blob_eq W H cx cy (op2 .mul .f32 cr cr) cs k b hb0
      unfold farC at hb0
      have hkN : (k : Int) < W * H := by have := HN.out; omega
      have hwW : 0 < W := by omega
      have hm0 := Int.emod_nonneg (k : Int) (show W ≠ 0 by omega)
      have hm1 := Int.emod_lt_of_pos (k : Int) hwW
      have hd0 : 0 ≤ (k : Int) / W := Int.ediv_nonneg (by omega) (by omega)
      have hd1 : (k : Int) / W ≤ (k : Int) := Int.ediv_le_self _ (by omega)
      have hWz : (W == 0) = false := by simp; omega
      have ht : (k : Int).tmod W = (k : Int) % W := Int.tmod_eq_emod_of_nonneg (by omega)
      have hq : (k : Int).tdiv W = (k : Int) / W := Int.tdiv_eq_ediv_of_nonneg (by omega)
      have hw1 : IntKind.i64.wrap ((k : Int) % W) = (k : Int) % W := IntWalk.i64_in _ (by omega)
      have hw2 : IntKind.i64.wrap ((k : Int) / W) = (k : Int) / W := IntWalk.i64_in _ (by omega)
      have hwz : W ≠ 0 := by omega
      have fX := (Mks.ms_facts ((k : Int) % W)).2
      have fY := (Mks.ms_facts ((k : Int) / W)).2
      go_wp2_with fail
      refine (spec_gap _ _ _ _ _ _ fX fx).mono ?_
      rintro e w6 ⟨r6, rfl, hr6, hb6⟩
      have hz6 := hb6.size
      go_wp2_with fail
      refine (spec_gap _ _ _ _ _ _ fY fy).mono ?_
      rintro e w7 ⟨r7, rfl, hr7, hb7⟩
      have hz7 := hb7.size
      have hblk7 := keep_block hb7 (keep_block hb6 HBK.out)
      have HBK7 := Lib.hid hblk7
      have HO7 := Lib.hid (own_heap HO.out (w' := w7) fun g hg hgl => by rw [hb7.block g (by omega), hb6.block g hgl])
      have HB7 := Lib.hid ((HB.out.trans (hb6.mono (by omega))).trans (hb7.mono (by omega)))
      have s2 := (cells_of (i := 2) hblk7).trans (show _ = some v from rfl)
      have fS := free_of hblk7 2
      have hSl7 := block_lt hblk7
      clear hb6 hb7 hblk7 HBK HO HB
      cases b
      · have HFV := Lib.hid (show Fr .f32 0 ((blobC W H cx cy (op2 .mul .f32 cr cr) cs) k) by rw [hfk]; exact zz)
        clear hfk
        go_wp2_with (first | (refine Fl.wpList_cmp rfl rfl rfl rfl rfl (by assumption) (by assumption) ?_; try simp only [hb0]) | (refine Fl.wpList_fl rfl rfl rfl rfl rfl (by assumption) (by assumption) ?_; intro rf nf hrf) | (at_builtin; refine wpList_append_own _ rfl (.tmp 78) (.tmp 80) 22 rfl v4.heap.size 28 i0 (.float .f32 0) 1 4 Try.underlying22 hi iz0 iz1 iz2 rfl (by decide) v k xs rfl (World.ownsRow.alloc (own_heap HO7.out fun g _ _ => by simp only [World.heap_drewN]) _) ⟨_, 0, none⟩ 1 1 [.float .f32 0] rfl rfl (cell_new _ _ _ _ (by first | rfl | simp)) (by intro u hu; rw [List.mem_singleton.1 hu]; rfl) (by unfold maxLen; omega) (by omega) (by simp; omega) ?_; intro v5 w5 hown5 hgrow5 hnil5; obtain ⟨g5, cap5, rfl⟩ := Joins.ownsRow_form hown5 (by omega); have hz45 := hgrow5.size; obtain ⟨hS5, hb5⟩ := appended (B := v4.heap.size) (w2 := w3) (alloc_block (by simpa only [World.heap_drewN] using HBK7.out)) (World.ownsRow.alloc (own_heap HO7.out fun g _ _ => by simp only [World.heap_drewN]) _) (Below.alloc (by first | exact HB7.out | (refine below_drewN ?_ _; exact HB7.out) | (refine below_drewN (below_drewN ?_ _) _; exact HB7.out) | (refine below_drewN (below_drewN (below_drewN ?_ _) _) _; exact HB7.out) | (refine below_drewN (below_drewN (below_drewN (below_drewN ?_ _) _) _) _; exact HB7.out)) (by simp; omega) _) (by simp; omega) hgrow5 (by decide); have d50 := (cells_of (i := 2) hS5).trans (show _ = some v from rfl); have f50 := free_of hS5 2; have l5 := block_lt hS5; have HS5 := Lib.hid hS5; have HO5 := Lib.hid hown5; have HB5 := Lib.hid hb5; clear hS5 hown5 hgrow5 hnil5 hb5; skip))
        go_roundw
        case rel => exact ⟨k + 1, _, _, by omega, by go_num, setCell_block HS5.out 2 _, own_set HO5.out HS5.out (by decide), HP.out.next HFV.out, Below.setCell HB5.out (by omega) (p := ⟨w3.heap.size, 2, none⟩) _⟩
        case measure => simp [intOf]; omega
      · have HFV := Lib.hid (show Fr .f32 s ((blobC W H cx cy (op2 .mul .f32 cr cr) cs) k) by rw [hfk]; exact fs)
        clear hfk
        go_wp2_with (first | (refine Fl.wpList_cmp rfl rfl rfl rfl rfl (by assumption) (by assumption) ?_; try simp only [hb0]) | (refine Fl.wpList_fl rfl rfl rfl rfl rfl (by assumption) (by assumption) ?_; intro rf nf hrf) | (at_builtin; refine wpList_append_own _ rfl (.tmp 78) (.tmp 80) 22 rfl v4.heap.size 28 i0 (.float .f32 0) 1 4 Try.underlying22 hi iz0 iz1 iz2 rfl (by decide) v k xs rfl (World.ownsRow.alloc (own_heap HO7.out fun g _ _ => by simp only [World.heap_drewN]) _) ⟨_, 0, none⟩ 1 1 [.float .f32 s] rfl rfl (cell_new _ _ _ _ (by first | rfl | simp)) (by intro u hu; rw [List.mem_singleton.1 hu]; rfl) (by unfold maxLen; omega) (by omega) (by simp; omega) ?_; intro v5 w5 hown5 hgrow5 hnil5; obtain ⟨g5, cap5, rfl⟩ := Joins.ownsRow_form hown5 (by omega); have hz45 := hgrow5.size; obtain ⟨hS5, hb5⟩ := appended (B := v4.heap.size) (w2 := w3) (alloc_block (by simpa only [World.heap_drewN] using HBK7.out)) (World.ownsRow.alloc (own_heap HO7.out fun g _ _ => by simp only [World.heap_drewN]) _) (Below.alloc (by first | exact HB7.out | (refine below_drewN ?_ _; exact HB7.out) | (refine below_drewN (below_drewN ?_ _) _; exact HB7.out) | (refine below_drewN (below_drewN (below_drewN ?_ _) _) _; exact HB7.out) | (refine below_drewN (below_drewN (below_drewN (below_drewN ?_ _) _) _) _; exact HB7.out)) (by simp; omega) _) (by simp; omega) hgrow5 (by decide); have d50 := (cells_of (i := 2) hS5).trans (show _ = some v from rfl); have f50 := free_of hS5 2; have l5 := block_lt hS5; have HS5 := Lib.hid hS5; have HO5 := Lib.hid hown5; have HB5 := Lib.hid hb5; clear hS5 hown5 hgrow5 hnil5 hb5; skip))
        go_roundw
        case rel => exact ⟨k + 1, _, _, by omega, by go_num, setCell_block HS5.out 2 _, own_set HO5.out HS5.out (by decide), HP.out.next HFV.out, Below.setCell HB5.out (by omega) (p := ⟨w3.heap.size, 2, none⟩) _⟩
        case measure => simp [intOf]; omega
    · obtain rfl : n = k := by omega
      have hge : ¬ (n : Int) < W * H := by have := HN.out; omega
      obtain ⟨av, capv, rfl, hio⟩ := isO_of HO.out HP.out (by omega)
      have HIO := Lib.hid hio
      clear hio
      go_wp2_with fail
      refine (HFS.out _).mono ?_
      rintro e w8 ⟨rfl, hb8⟩
      have hz8 := hb8.size
      have hblk8 := keep_block hb8 HBK.out
      have q8 : w8.heap[w.heap.size]? = some (.cells #[.int .i64 0, .int .i64 0, .slice none 0 0] 40) := keep_block hb8 (by rw [HB.out.block _ (by have := HBW.out.size; have := block_lt Q4.out; omega)]; exact Q4.out)
      have HIO8 := Lib.hid (HIO.out.later hb8)
      have HB8 := Lib.hid ((HBW.out.trans (HB.out.mono (by have := HBW.out.size; omega))).trans (hb8.mono (by have := HBW.out.size; omega)))
      clear hb8 HIO HB HBK HO
      have s80 := (cells_of (i := 0) hblk8).trans (show _ = some (.int .i64 W) from rfl)
      have s81 := (cells_of (i := 1) hblk8).trans (show _ = some (.int .i64 H) from rfl)
      have s82 := (cells_of (i := 2) hblk8).trans (show _ = some (.slice av n capv) from rfl)
      have Q8 := Lib.hid q8
      have l8 := block_lt q8
      have ls8 := block_lt hblk8
      clear hblk8
      cases S
      · obtain rfl : T = false := by rw [← HT.out]; rfl
        have c90 := (cells_of (i := 0) q8).trans (show _ = some (.int .i64 0) from rfl)
        have c91 := (cells_of (i := 1) q8).trans (show _ = some (.int .i64 0) from rfl)
        have c92 := (cells_of (i := 2) q8).trans (show _ = some (.slice none 0 0) from rfl)
        have f90 := free_of q8 0
        have f91 := free_of q8 1
        have f92 := free_of q8 2
        clear q8
        go_wp2
        have hR := HR.out
        simp only [Bool.false_eq_true, if_false, if_true] at hR
        obtain ⟨rfl, rfl, rfl⟩ := hR
        refine bodyPost_ret ?ohr rfl ⟨none, 0, rfl, isO_nil _ _ _ _, ?obel⟩
        case ohr => simp [results, Try.results38, go_sem, *]
        case obel => exact Below.setCell (Below.setCell (Below.setCell HB8.out (Nat.le_refl _) (p := ⟨w.heap.size, 0, none⟩) _) (Nat.le_refl _) (p := ⟨w.heap.size, 1, none⟩) _) (Nat.le_refl _) (p := ⟨w.heap.size, 2, none⟩) _
      · obtain rfl : R = T := by rw [← HT.out, Bool.true_and]
        clear q8
        go_wp2_with fail
        refine (HG.out _ _ _ HIO8.out.y).mono ?_
        rintro e w9 ⟨rfl, hb9⟩
        have hz9 := hb9.size
        have hq9 := keep_block hb9 Q8.out
        have c90 := (cells_of (i := 0) hq9).trans (show _ = some (.int .i64 0) from rfl)
        have c91 := (cells_of (i := 1) hq9).trans (show _ = some (.int .i64 0) from rfl)
        have c92 := (cells_of (i := 2) hq9).trans (show _ = some (.slice none 0 0) from rfl)
        have f90 := free_of hq9 0
        have f91 := free_of hq9 1
        have f92 := free_of hq9 2
        have l9 := block_lt hq9
        have HIO9 := Lib.hid (HIO8.out.later hb9)
        have HB9 := Lib.hid (HB8.out.trans (hb9.mono (by omega)))
        clear hq9 hb9 s80 s81 s82 HIO8 HB8
        cases R
        all_goals
          go_wp2
          have hR := HR.out
          simp only [Bool.false_eq_true, if_false, if_true] at hR
          obtain ⟨rfl, rfl, rfl⟩ := hR
        · refine bodyPost_ret ?ohr rfl ⟨none, 0, rfl, isO_nil _ _ _ _, ?obel⟩
          case ohr => simp [results, Try.results38, go_sem, *]
          case obel => exact Below.setCell (Below.setCell (Below.setCell HB9.out (Nat.le_refl _) (p := ⟨w.heap.size, 0, none⟩) _) (Nat.le_refl _) (p := ⟨w.heap.size, 1, none⟩) _) (Nat.le_refl _) (p := ⟨w.heap.size, 2, none⟩) _
        · refine bodyPost_ret ?ohr rfl ⟨av, capv, rfl, ?oio, ?obel⟩
          case ohr => simp [results, Try.results38, go_sem, *]
          case oio =>
            refine (HIO9.out.keep fun g hg _ _ => ?_).wider (by have := HBW.out.size; omega) (by simp; omega)
            rw [set_keep _ _ _ (by omega), set_keep _ _ _ (by omega), set_keep _ _ _ (by omega)]
          case obel => exact Below.setCell (Below.setCell (Below.setCell HB9.out (Nat.le_refl _) (p := ⟨w.heap.size, 0, none⟩) _) (Nat.le_refl _) (p := ⟨w.heap.size, 1, none⟩) _) (Nat.le_refl _) (p := ⟨w.heap.size, 2, none⟩) _

set_option maxHeartbeats 6400000 in
theorem spec_BlobB (W H : Int) (x y r s : Nat) (cx cy cr cs : Option Nat) (w : World) (fx : Fr .f32 x cx) (fy : Fr .f32 y cy) (fr : Fr .f32 r cr) (fs : Fr .f32 s cs) (R : Bool) (hR0 : (blobB cx cy cr cs && ((sideB W && sideB H) && allF (blobC W H cx cy (op2 .mul .f32 cr cr) cs) (W * H).toNat)) = R) : Calls Try.prog 38 #[.int .i64 W, .int .i64 H, .float .f32 x, .float .f32 y, .float .f32 r, .float .f32 s] w (RetG R W H (W * H).toNat (blobC W H cx cy (op2 .mul .f32 cr cr) cs) w) := by
  have HV := Lib.hid (fun w => spec_sizeD W H w)
  have HFX := Lib.hid (fun w => spec_fin x cx w fx)
  have HFY := Lib.hid (fun w => spec_fin y cy w fy)
  have HFR := Lib.hid (fun w => spec_fin r cr w fr)
  have RN : ∀ b : Bool, b = false → (blobB cx cy cr cs && b) = false := by intro b hb; rw [hb, Bool.and_false]
  cases hS : (sideB W && sideB H)
  · rw [hS] at HV hR0
    obtain rfl : R = false := by rw [← hR0]; exact RN _ rfl
    go_enter Try.func38, Try.ntmps38
    go_wp2_with fail
    refine (HV.out _).mono ?_
    rintro e w1 ⟨rfl, hb1⟩
    have hz1 := hb1.size
    try simp only [World.size_alloc, World.size_setCell, World.heap_drewN, World.size_drew] at hz1
    obtain ⟨hc1, hf1⟩ := Fl.bcell hb1
    try simp only [World.heap_drewN, World.cell?_drewN, World.frozen?_drewN] at hc1 hf1
    have g1_0 : w.heap.size < w1.heap.size := by omega
    go_wp2
    refine bodyPost_ret ?ohr rfl (retG_no ?obel)
    case ohr => simp [results, Try.results38, go_sem, *]
    case obel => (repeat' first | exact Below.refl _ _ | (refine Below.setCell ?_ (by first | omega | (simp; omega) | simp) _) | (refine below_drewN ?_ _) | (refine Below.alloc ?_ (by first | omega | (simp; omega) | simp) _) | (refine Below.trans ?_ (Below.mono (by assumption) (by first | omega | (simp; omega) | simp))))
  rw [hS] at HV
  cases gx : finC cx
  · rw [gx] at HFX
    obtain rfl : R = false := by rw [← hR0]; unfold blobB; rw [gx]; rfl
    go_enter Try.func38, Try.ntmps38
    go_wp2_with fail
    refine (HV.out _).mono ?_
    rintro e w1 ⟨rfl, hb1⟩
    have hz1 := hb1.size
    try simp only [World.size_alloc, World.size_setCell, World.heap_drewN, World.size_drew] at hz1
    obtain ⟨hc1, hf1⟩ := Fl.bcell hb1
    try simp only [World.heap_drewN, World.cell?_drewN, World.frozen?_drewN] at hc1 hf1
    have g1_0 : w.heap.size < w1.heap.size := by omega
    go_wp2_with fail
    refine (HFX.out _).mono ?_
    rintro e w2 ⟨rfl, hb2⟩
    have hz2 := hb2.size
    try simp only [World.size_alloc, World.size_setCell, World.heap_drewN, World.size_drew] at hz2
    obtain ⟨hc2, hf2⟩ := Fl.bcell hb2
    try simp only [World.heap_drewN, World.cell?_drewN, World.frozen?_drewN] at hc2 hf2
    have g2_0 : w.heap.size < w2.heap.size := by omega
    go_wp2
    refine bodyPost_ret ?ohr rfl (retG_no ?obel)
    case ohr => simp [results, Try.results38, go_sem, *]
    case obel => (repeat' first | exact Below.refl _ _ | (refine Below.setCell ?_ (by first | omega | (simp; omega) | simp) _) | (refine below_drewN ?_ _) | (refine Below.alloc ?_ (by first | omega | (simp; omega) | simp) _) | (refine Below.trans ?_ (Below.mono (by assumption) (by first | omega | (simp; omega) | simp))))
  rw [gx] at HFX
  cases gy : finC cy
  · rw [gy] at HFY
    obtain rfl : R = false := by rw [← hR0]; unfold blobB; rw [gx, gy]; rfl
    go_enter Try.func38, Try.ntmps38
    go_wp2_with fail
    refine (HV.out _).mono ?_
    rintro e w1 ⟨rfl, hb1⟩
    have hz1 := hb1.size
    try simp only [World.size_alloc, World.size_setCell, World.heap_drewN, World.size_drew] at hz1
    obtain ⟨hc1, hf1⟩ := Fl.bcell hb1
    try simp only [World.heap_drewN, World.cell?_drewN, World.frozen?_drewN] at hc1 hf1
    have g1_0 : w.heap.size < w1.heap.size := by omega
    go_wp2_with fail
    refine (HFX.out _).mono ?_
    rintro e w2 ⟨rfl, hb2⟩
    have hz2 := hb2.size
    try simp only [World.size_alloc, World.size_setCell, World.heap_drewN, World.size_drew] at hz2
    obtain ⟨hc2, hf2⟩ := Fl.bcell hb2
    try simp only [World.heap_drewN, World.cell?_drewN, World.frozen?_drewN] at hc2 hf2
    have g2_0 : w.heap.size < w2.heap.size := by omega
    go_wp2_with fail
    refine (HFY.out _).mono ?_
    rintro e w3 ⟨rfl, hb3⟩
    have hz3 := hb3.size
    try simp only [World.size_alloc, World.size_setCell, World.heap_drewN, World.size_drew] at hz3
    obtain ⟨hc3, hf3⟩ := Fl.bcell hb3
    try simp only [World.heap_drewN, World.cell?_drewN, World.frozen?_drewN] at hc3 hf3
    have g3_0 : w.heap.size < w3.heap.size := by omega
    go_wp2
    refine bodyPost_ret ?ohr rfl (retG_no ?obel)
    case ohr => simp [results, Try.results38, go_sem, *]
    case obel => (repeat' first | exact Below.refl _ _ | (refine Below.setCell ?_ (by first | omega | (simp; omega) | simp) _) | (refine below_drewN ?_ _) | (refine Below.alloc ?_ (by first | omega | (simp; omega) | simp) _) | (refine Below.trans ?_ (Below.mono (by assumption) (by first | omega | (simp; omega) | simp))))
  rw [gy] at HFY
  cases gr : finC cr
  · rw [gr] at HFR
    obtain rfl : R = false := by rw [← hR0]; unfold blobB; rw [gx, gy, gr]; rfl
    go_enter Try.func38, Try.ntmps38
    go_wp2_with fail
    refine (HV.out _).mono ?_
    rintro e w1 ⟨rfl, hb1⟩
    have hz1 := hb1.size
    try simp only [World.size_alloc, World.size_setCell, World.heap_drewN, World.size_drew] at hz1
    obtain ⟨hc1, hf1⟩ := Fl.bcell hb1
    try simp only [World.heap_drewN, World.cell?_drewN, World.frozen?_drewN] at hc1 hf1
    have g1_0 : w.heap.size < w1.heap.size := by omega
    go_wp2_with fail
    refine (HFX.out _).mono ?_
    rintro e w2 ⟨rfl, hb2⟩
    have hz2 := hb2.size
    try simp only [World.size_alloc, World.size_setCell, World.heap_drewN, World.size_drew] at hz2
    obtain ⟨hc2, hf2⟩ := Fl.bcell hb2
    try simp only [World.heap_drewN, World.cell?_drewN, World.frozen?_drewN] at hc2 hf2
    have g2_0 : w.heap.size < w2.heap.size := by omega
    go_wp2_with fail
    refine (HFY.out _).mono ?_
    rintro e w3 ⟨rfl, hb3⟩
    have hz3 := hb3.size
    try simp only [World.size_alloc, World.size_setCell, World.heap_drewN, World.size_drew] at hz3
    obtain ⟨hc3, hf3⟩ := Fl.bcell hb3
    try simp only [World.heap_drewN, World.cell?_drewN, World.frozen?_drewN] at hc3 hf3
    have g3_0 : w.heap.size < w3.heap.size := by omega
    go_wp2_with fail
    refine (HFR.out _).mono ?_
    rintro e w4 ⟨rfl, hb4⟩
    have hz4 := hb4.size
    try simp only [World.size_alloc, World.size_setCell, World.heap_drewN, World.size_drew] at hz4
    obtain ⟨hc4, hf4⟩ := Fl.bcell hb4
    try simp only [World.heap_drewN, World.cell?_drewN, World.frozen?_drewN] at hc4 hf4
    have g4_0 : w.heap.size < w4.heap.size := by omega
    go_wp2
    refine bodyPost_ret ?ohr rfl (retG_no ?obel)
    case ohr => simp [results, Try.results38, go_sem, *]
    case obel => (repeat' first | exact Below.refl _ _ | (refine Below.setCell ?_ (by first | omega | (simp; omega) | simp) _) | (refine below_drewN ?_ _) | (refine Below.alloc ?_ (by first | omega | (simp; omega) | simp) _) | (refine Below.trans ?_ (Below.mono (by assumption) (by first | omega | (simp; omega) | simp))))
  rw [Bool.and_eq_true] at hS
  obtain ⟨h1, h2⟩ := hS
  have hmul := mul_bd h1 h2
  obtain ⟨n, hn⟩ : ∃ n : Nat, (n : Int) = W * H := ⟨(W * H).toNat, by omega⟩
  have hNn : (W * H).toNat = n := by omega
  rw [hNn] at hR0 ⊢
  have e : R = (finC cs && allF (blobC W H cx cy (op2 .mul .f32 cr cr) cs) n) := by
    rw [← hR0]; unfold blobB; rw [gx, gy, gr, h1, h2]
    cases finC cs <;> rfl
  rw [e]
  exact spec_blobgood W H x y r s cx cy cr cs w fx fy fr fs h1 h2 gx gy gr n hn _ rfl _ rfl

end Ba
end Go.Proofs.Ytbinjkaanbhikaa
