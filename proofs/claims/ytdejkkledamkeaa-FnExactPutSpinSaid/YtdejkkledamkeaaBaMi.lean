/- Mirrored basins. -/
import Derived.Test.YtdejkkledamkeaaBaR
import Derived.Test.YtdejkkledamkeaaHalf
namespace Go.Proofs.Ytdejkkledamkeaa
set_option linter.unusedSimpArgs false
set_option linter.unusedVariables false
open Go.RowKit
set_option maxRecDepth 20000
namespace Ba
open Fl Rate

theorem cell_divmod {W : Int} {x y : Nat} (hW : 3 ≤ W) (hx : (x : Int) < W) : (((W * (y : Int)).toNat + x : Nat) : Int) % W = (x : Int) ∧ (((W * (y : Int)).toNat + x : Nat) : Int) / W = (y : Int) := by
  have h0 : 0 ≤ W * (y : Int) := Int.mul_nonneg (by omega) (by omega)
  have e : (((W * (y : Int)).toNat + x : Nat) : Int) = (x : Int) + W * (y : Int) := by omega
  rw [e]
  constructor
  · rw [Int.add_mul_emod_self_left, Int.emod_eq_of_lt (by omega) hx]
  · rw [Int.add_mul_ediv_left _ _ (by omega), Int.ediv_eq_zero_of_lt (by omega) hx]; omega

theorem neg_fin (d : Option Nat) (hd : ∀ b, d = some b → cl .f32 b = some b) : finC (d.map (Op.negFloat .f32)) = finC d := by
  cases d with
  | none => rfl
  | some b =>
    show fin .f32 (Op.negFloat .f32 b) = fin .f32 b
    have hm : Op.negFloat .f32 b % 2147483648 = b % 2147483648 := by
      show (b ^^^ 2 ^ 31) % 2 ^ 31 = b % 2 ^ 31
      rw [Nat.xor_mod_two_pow, Nat.mod_self, Nat.xor_zero]
    unfold fin
    rw [show FloatKind.f32.format.signWeight = 2147483648 from by decide, hm]

theorem neg_fin' (d : Option Nat) : finC (d.map (Op.negFloat .f32)) = finC d := by
  cases d with
  | none => rfl
  | some b =>
    show fin .f32 (Op.negFloat .f32 b) = fin .f32 b
    have hm : Op.negFloat .f32 b % 2147483648 = b % 2147483648 := by
      show (b ^^^ 2 ^ 31) % 2 ^ 31 = b % 2 ^ 31
      rw [Nat.xor_mod_two_pow, Nat.mod_self, Nat.xor_zero]
    unfold fin
    rw [show FloatKind.f32.format.signWeight = 2147483648 from by decide, hm]

set_option maxHeartbeats 6400000 in
theorem spec_MirrorB (W H : Int) (a : Option Addr) (n cap : Nat) (c : Nat → Option Nat) (w : World) (h : IsY w a n cap c) (A : Bool) (hA : okB W H n c = A) : Calls Try.prog 43 #[bV W H a n cap] w (RetG A W H n (fun k => (c (idx W H (W - 1 - (k : Int) % W) ((k : Int) / W))).map (Op.negFloat .f32)) w) := by
  have HV := Lib.hid (fun G w' (hb : Below w.heap.size w w') e0 e1 e2 => spec_is G W H a n cap c w' e0 e1 e2 (h.later hb) A hA)
  cases A
  · clear hA h
    show Calls _ _ _ w (RetG false W H n _ w)
    go_enter Try.func43, Try.ntmps43
    go_wp2_with fail
    refine (HV.out _ _ (by (repeat' first | exact Below.refl _ _ | (refine Below.setCell ?_ (by first | omega | (simp; omega) | simp) _) | (refine below_drewN ?_ _) | (refine Below.alloc ?_ (by first | omega | (simp; omega) | simp) _) | (refine Below.trans ?_ (Below.mono (by assumption) (by first | omega | (simp; omega) | simp))))) (by simp) (by simp) (by simp)).mono ?_
    rintro e w1 ⟨rfl, hb1⟩
    have hz1 := hb1.size
    try simp only [World.size_alloc, World.size_setCell, World.heap_drewN, World.size_drew] at hz1
    obtain ⟨hc1, hf1⟩ := Fl.bcell hb1
    try simp only [World.heap_drewN, World.cell?_drewN, World.frozen?_drewN] at hc1 hf1
    have g1_0 : w.heap.size < w1.heap.size := by omega
    have g1_1 : w.heap.size + 1 < w1.heap.size := by omega
    go_wp2
    refine bodyPost_ret ?ohr rfl (retG_no ?obel)
    case ohr => simp [results, Try.results43, go_sem, *]
    case obel => (repeat' first | exact Below.refl _ _ | (refine Below.setCell ?_ (by first | omega | (simp; omega) | simp) _) | (refine below_drewN ?_ _) | (refine Below.alloc ?_ (by first | omega | (simp; omega) | simp) _) | (refine Below.trans ?_ (Below.mono (by assumption) (by first | omega | (simp; omega) | simp))))
  have hs := okB_of hA
  have hn9 := okB_n hA
  have sW := side_of hs.1
  have sH := side_of hs.2.1
  have HN := Lib.hid hs.2.2.1
  have hmul := mul_bd hs.1 hs.2.1
  clear hA
  show Calls _ _ _ w (RetB true W H n _ w)
  have H6 := Lib.hid h
  have HSS := Lib.hid hs
  clear h hs
  go_enter Try.func43, Try.ntmps43
  go_wp2_with fail
  refine (HV.out _ _ (by (repeat' first | exact Below.refl _ _ | (refine Below.setCell ?_ (by first | omega | (simp; omega) | simp) _) | (refine below_drewN ?_ _) | (refine Below.alloc ?_ (by first | omega | (simp; omega) | simp) _) | (refine Below.trans ?_ (Below.mono (by assumption) (by first | omega | (simp; omega) | simp))))) (by simp) (by simp) (by simp)).mono ?_
  rintro e w1 ⟨rfl, hb1⟩
  have hz1 := hb1.size
  simp only [World.size_alloc] at hz1
  have q2 := keep_block hb1 (alloc_block (o' := .cells #[.int .i64 0, .int .i64 0, .slice none 0 0] 27) (new_block w (.cells #[.int .i64 W, .int .i64 H, .slice a n cap] 27)))
  have q4 : w1.heap[w.heap.size + 1]? = some (.cells #[.int .i64 0, .int .i64 0, .slice none 0 0] 27) := keep_block hb1 (by simpa using new_block (w.alloc (.cells #[.int .i64 W, .int .i64 H, .slice a n cap] 27)) (.cells #[.int .i64 0, .int .i64 0, .slice none 0 0] 27))
  have HBW := Lib.hid (show Below w.heap.size w w1 by (repeat' first | exact Below.refl _ _ | (refine Below.setCell ?_ (by first | omega | (simp; omega) | simp) _) | (refine below_drewN ?_ _) | (refine Below.alloc ?_ (by first | omega | (simp; omega) | simp) _) | (refine Below.trans ?_ (Below.mono (by assumption) (by first | omega | (simp; omega) | simp)))))
  have Q2 := Lib.hid q2
  have l2 := block_lt q2
  have e20 := (cells_of (i := 0) q2).trans (show _ = some (.int .i64 W) from rfl)
  have e21 := (cells_of (i := 1) q2).trans (show _ = some (.int .i64 H) from rfl)
  have e22 := (cells_of (i := 2) q2).trans (show _ = some (.slice a n cap) from rfl)
  clear q2
  have Q4 := Lib.hid q4
  have l4 := block_lt q4
  clear q4
  clear hb1
  go_wp2_with fail
  refine (spec_new _ _ _).mono ?_
  rintro e w3 ⟨g3, rfl, ho3, hb3⟩
  have HO3 := Lib.hid ho3
  have HB3 := Lib.hid hb3
  clear ho3 hb3 e20 e21 e22
  obtain ⟨i0, hi, hz0, hz1, hz2⟩ := info_parts Nums.A_info32
  have HS0 := Lib.hid (new_block w3 (.cells #[.int .i64 W, .int .i64 H, .slice (some ⟨g3, 0, none⟩) 0 0] 27))
  have HO0 := Lib.hid (World.ownsRow.alloc HO3.out (.cells #[.int .i64 W, .int .i64 H, .slice (some ⟨g3, 0, none⟩) 0 0] 27))
  have HB0 := Lib.hid (show Below w1.heap.size w1 (w3.alloc (.cells #[.int .i64 W, .int .i64 H, .slice (some ⟨g3, 0, none⟩) 0 0] 27)) from HB3.out.alloc HB3.out.size _)
  have hz3 := HB3.out.size
  go_wp2
  go_loopw [5, 39] (fun i s wr => ∃ (k : Nat) (v : Value) (xs : List Value), (∀ b, s = .slice (some ⟨b, 0, none⟩) 1 1 → b < wr.heap.size) ∧ k ≤ n ∧ i = .int .i64 k ∧ wr.heap[w3.heap.size]? = some (.cells #[.int .i64 W, .int .i64 H, v] 27) ∧ wr.ownsRow w1.heap.size 32 1 v k xs ∧ FPts k (fun k => (c (idx W H (W - 1 - (k : Int) % W) ((k : Int) / W))).map (Op.negFloat .f32)) xs ∧ Below w1.heap.size w1 wr)
    (fun i _ _ => n - (intOf i).toNat)
  case atStart => exact ⟨0, _, [], by intro b hb; simp [undef] at hb, Nat.zero_le _, rfl, HS0.out, HO0.out, FPts.nil _, HB0.out⟩
  case round =>
    obtain ⟨k, v, xs, hsl, hk, rfl, hblk, hown, hpts, hbel⟩ := hrel
    have HSL := Lib.hid hsl
    have HBK := Lib.hid hblk
    have HO := Lib.hid hown
    have HP := Lib.hid hpts
    have HB := Lib.hid hbel
    have hSl := block_lt hblk
    have s0 := (cells_of (i := 0) hblk).trans (show _ = some (.int .i64 W) from rfl)
    have s1 := (cells_of (i := 1) hblk).trans (show _ = some (.int .i64 H) from rfl)
    have s2 := (cells_of (i := 2) hblk).trans (show _ = some v from rfl)
    have fS := free_of hblk 2
    have hbs := hbel.size
    have q2 : wr.heap[w.heap.size]? = some (.cells #[.int .i64 W, .int .i64 H, .slice a n cap] 27) := by rw [hbel.block _ (by omega)]; exact Q2.out
    have Q2 := Lib.hid q2
    have l2 := block_lt q2
    have e20 := (cells_of (i := 0) q2).trans (show _ = some (.int .i64 W) from rfl)
    have e21 := (cells_of (i := 1) q2).trans (show _ = some (.int .i64 H) from rfl)
    have e22 := (cells_of (i := 2) q2).trans (show _ = some (.slice a n cap) from rfl)
    clear q2
    clear hsl hblk hown hpts hbel
    by_cases hlt : k < n
    · clear s0 s1
      have hN := HN.out
      have HX := Lib.hid (H6.out.later (HBW.out.trans (HB.out.mono (by omega))))
      have hkN : (k : Int) < W * H := by omega
      have hwW : 0 < W := by omega
      have hm0 := Int.emod_nonneg (k : Int) (show W ≠ 0 by omega)
      have hm1 := Int.emod_lt_of_pos (k : Int) hwW
      have hd0 : 0 ≤ (k : Int) / W := Int.ediv_nonneg (by omega) (by omega)
      have hd1 : (k : Int) / W ≤ (k : Int) := Int.ediv_le_self _ (by omega)
      have hWz : (W == 0) = false := by simp; omega
      have ht : (k : Int).tmod W = (k : Int) % W := Int.tmod_eq_emod_of_nonneg (by omega)
      have hq : (k : Int).tdiv W = (k : Int) / W := Int.tdiv_eq_ediv_of_nonneg (by omega)
      have hw1 : IntKind.i64.wrap ((k : Int) % W) = (k : Int) % W := IntWalk.i64_in _ (by omega)
      have hw2 : IntKind.i64.wrap ((k : Int) / W) = (k : Int) / W := IntWalk.i64_in _ (by omega)
      have hwz : W ≠ 0 := by omega
      have hw3 : IntKind.i64.wrap (W - 1) = W - 1 := IntWalk.i64_in _ (by omega)
      have hw4 : IntKind.i64.wrap (W - 1 - (k : Int) % W) = W - 1 - (k : Int) % W := IntWalk.i64_in _ (by omega)
      clear hN
      go_wp2_with fail
      refine LooseS.wp_region 17 39 (fun ob => ∃ r, ob = .cells #[.float .f32 r] 32 ∧ Fr .f32 r ((c (idx W H (W - 1 - (k : Int) % W) ((k : Int) / W))).map (Op.negFloat .f32))) (by kernel_rfl) (by kernel_rfl) (by intro b hb; exact HSL.out b (by simpa using hb)) ?_
      apply Exists.intro
      simp only [List.take_succ_cons, List.take_zero, List.drop_succ_cons, List.drop_zero]
      repeat (first | (apply Loose.walk_step; intro K hK; apply LooseS.turn_value (hwant := rfl) (hd := rfl); (focus (intro w' hw'; obtain ⟨hc, hf⟩ := Fl.bcell hw'; go_simp; first | done | rfl | exact ⟨rfl, rfl⟩)); go_simp; refine hK _ ?_; clear hK K) | (apply Loose.walk_step; intro K hK; apply LooseS.turn_callF (Nat.le_refl _) (hwant := rfl) (hd := rfl); (focus (intro w'; go_simp; first | done | rfl | exact ⟨rfl, rfl⟩)); (focus (intro w' hw'; go_at_call 63; exact spec_at w.heap.size W H _ n cap c w' (HX.out.later hw') HSS.out.1 HSS.out.2.1 HSS.out.2.2.1 (W - 1 - (k : Int) % W) ((k : Int) / W) (by omega) (by omega) ((hw'.cell l2).trans e20) ((hw'.cell l2).trans e21) ((hw'.cell l2).trans e22))); intro r hr; go_simp; refine hK _ ?_; clear hK K) | (apply Loose.walk_step; intro K hK; refine LooseS.turn_neg rfl rfl rfl rfl (by assumption) ?_; intro r hr; go_simp; refine hK _ ?_; clear hK K) | (apply Loose.walk_step; intro K hK; apply LooseS.turn_row (Nat.le_refl _) (hwant := rfl) (hdst := rfl) (hφ := ⟨_, rfl, by assumption⟩); (focus (intro w'; go_simp; first | done | rfl | exact ⟨rfl, rfl⟩)); intro b4 hb4B; go_simp; refine hK _ ?_; clear hK K))
      refine Loose.walk_nil ?_
      intro w4 hcls4
      obtain ⟨hb4, hrow4⟩ := hcls4
      obtain ⟨ob4, hob4, q, rfl, fq⟩ := hrow4 _ hb4B rfl
      have hz4 := hb4.size
      have hS4 : w4.heap[w3.heap.size]? = some (.cells #[.int .i64 W, .int .i64 H, v] 27) := by rw [hb4.block _ hSl]; exact HBK.out
      have HS4 := Lib.hid hS4
      have HO4 := Lib.hid (own_below HO.out hb4)
      have HB4 := Lib.hid (HB.out.trans (hb4.mono HB.out.size))
      have HOB4 := Lib.hid hob4
      have hb4l := block_lt hob4
      have l4 := block_lt hS4
      clear hS4 hb4 hrow4 hob4 e20 e21 e22 s2 fS
      go_wp2_with (first
        | (
          at_builtin
          refine wpList_append_own _ rfl (.tmp 24) (.tmp 39) 22 rfl w1.heap.size 32 i0 (.float .f32 0) 1 4 Try.underlying22 hi hz0 hz1 hz2 rfl (by decide) v k xs rfl HO4.out ⟨b4, 0, none⟩ 1 1 [.float .f32 q] rfl rfl (row_cell HOB4.out) (by intro u hu; rw [List.mem_singleton.1 hu]; rfl) (by unfold maxLen; omega) (by omega) (by omega) ?_
          intro v5 w5 hown5 hgrow5 hnil5
          obtain ⟨g5, cap5, rfl⟩ := Joins.ownsRow_form hown5 (by omega)
          have hz45 := hgrow5.size
          obtain ⟨hS5, hb5⟩ := appended HS4.out HO4.out HB4.out (by omega) hgrow5 (by decide)
          have d50 := (cells_of (i := 2) hS5).trans (show _ = some v from rfl)
          have f50 := free_of hS5 2
          have l5 := block_lt hS5
          have HS5 := Lib.hid hS5
          have HO5 := Lib.hid hown5
          have HB5 := Lib.hid hb5
          clear hS5 hown5 hgrow5 hnil5 hb5
          skip))
      go_roundw
      case rel => exact ⟨k + 1, _, _, by intro b hb; simp at hb; subst hb; simp; omega, by omega, by go_num, setCell_block HS5.out 2 _, own_set HO5.out HS5.out (by decide), HP.out.next fq, Below.setCell HB5.out (by omega) (p := ⟨w3.heap.size, 2, none⟩) _⟩
      case measure => simp [intOf]; omega
    · obtain rfl : n = k := by omega
      obtain ⟨av, capv, rfl, hio⟩ := isO_of HO.out HP.out (by omega)
      have HIO := Lib.hid hio
      clear hio
      have hge : ¬ (n : Int) < W * H := by have := HN.out; omega
      have q4 : wr.heap[w.heap.size + 1]? = some (.cells #[.int .i64 0, .int .i64 0, .slice none 0 0] 27) := by rw [HB.out.block _ (by omega)]; exact Q4.out
      have l4 := block_lt q4
      have c90 := (cells_of (i := 0) q4).trans (show _ = some (.int .i64 0) from rfl)
      have c91 := (cells_of (i := 1) q4).trans (show _ = some (.int .i64 0) from rfl)
      have c92 := (cells_of (i := 2) q4).trans (show _ = some (.slice none 0 0) from rfl)
      have f90 := free_of q4 0
      have f91 := free_of q4 1
      have f92 := free_of q4 2
      have HB9 := Lib.hid (HBW.out.trans (HB.out.mono (by omega)))
      clear q4
      go_wp2
      refine bodyPost_ret ?ohr rfl ⟨av, capv, rfl, ?oio, ?obel⟩
      case ohr => simp [results, Try.results43, go_sem, *]
      case oio =>
        refine (HIO.out.keep fun g hg _ _ => ?_).wider (by omega) (by simp)
        rw [set_keep _ _ _ (by omega), set_keep _ _ _ (by omega), set_keep _ _ _ (by omega)]
      case obel => exact Below.setCell (Below.setCell (Below.setCell HB9.out (by simp) (p := ⟨w.heap.size + 1, 0, none⟩) _) (by simp) (p := ⟨w.heap.size + 1, 1, none⟩) _) (by simp) (p := ⟨w.heap.size + 1, 2, none⟩) _

set_option maxHeartbeats 1600000 in
theorem impl_mirrored (W H : Int) (a : Option Addr) (n cap : Nat) (c : Nat → Option Nat) (x y : Nat) (w : World) (h : IsY w a n cap c) (hW : sideB W = true) (hH : sideB H = true) (hn : (n : Int) = W * H) (hx : (x : Int) < W) (hy : (y : Int) < H) :
    Calls Try.prog 86 #[bV W H a n cap, .int .i64 (x : Int), .int .i64 (y : Int)] w (RetF .f32 ((fun k => (c (idx W H (W - 1 - (k : Int) % W) ((k : Int) / W))).map (Op.negFloat .f32)) ((W * (y : Int)).toNat + x)) w) := by
  have sW := side_of hW
  have sH := side_of hH
  have hdm := cell_divmod (y := y) sW.1 hx
  show Calls _ _ _ w (RetF .f32 ((c (idx W H (W - 1 - (((W * (y : Int)).toNat + x : Nat) : Int) % W) ((((W * (y : Int)).toNat + x : Nat) : Int) / W))).map (Op.negFloat .f32)) w)
  rw [hdm.1, hdm.2]
  have HA := Lib.hid (fun w' (hb : Below w.heap.size w w') => impl_at W H a n cap c w' (h.later hb) hW hH hn (W - 1 - (x : Int)) (y : Int) (by omega) (by omega))
  clear h hdm hn
  go_enter Try.func86, Try.ntmps86
  go_wp2_with fail
  refine (HA.out _ (by (repeat' first | exact Below.refl _ _ | (refine Below.setCell ?_ (by first | omega | (simp; omega) | simp) _) | (refine below_drewN ?_ _) | (refine Below.alloc ?_ (by first | omega | (simp; omega) | simp) _) | (refine Below.trans ?_ (Below.mono (by assumption) (by first | omega | (simp; omega) | simp)))))).mono ?_
  rintro e w1 ⟨r, rfl, hr, hb1⟩
  go_wp2
  go_ret
  exact ⟨_, rfl, Fl.neg32_fr hr, by (repeat' first | exact Below.refl _ _ | (refine Below.setCell ?_ (by first | omega | (simp; omega) | simp) _) | (refine below_drewN ?_ _) | (refine Below.alloc ?_ (by first | omega | (simp; omega) | simp) _) | (refine Below.trans ?_ (Below.mono (by assumption) (by first | omega | (simp; omega) | simp))))⟩

theorem enter_mirrored (args : Array Value) (w : World) : (callFunc 86 args).run Try.prog w = .ok (.enter 86 args) w := by go_simp

set_option maxHeartbeats 3200000 in
theorem impl_MirrorB (W H : Int) (a : Option Addr) (n cap : Nat) (c : Nat → Option Nat) (w : World) (h : IsY w a n cap c) (A : Bool) (hA : okB W H n c = A) : Calls Try.prog 44 #[bV W H a n cap] w (RetG A W H n (fun k => (c (idx W H (W - 1 - (k : Int) % W) ((k : Int) / W))).map (Op.negFloat .f32)) w) := by
  have HV := Lib.hid (fun w' (hb : Below w.heap.size w w') => impl_valid W H a n cap c w' (h.later hb) A hA)
  cases A
  · clear hA h
    show Calls _ _ _ w (RetG false W H n _ w)
    go_enter Try.func44, Try.ntmps44
    go_wp2_with fail
    refine (HV.out _ (by (repeat' first | exact Below.refl _ _ | (refine Below.setCell ?_ (by first | omega | (simp; omega) | simp) _) | (refine below_drewN ?_ _) | (refine Below.alloc ?_ (by first | omega | (simp; omega) | simp) _) | (refine Below.trans ?_ (Below.mono (by assumption) (by first | omega | (simp; omega) | simp)))))).mono ?_
    rintro e w1 ⟨rfl, hb1⟩
    have hz1 := hb1.size
    try simp only [World.size_alloc, World.size_setCell, World.heap_drewN, World.size_drew] at hz1
    obtain ⟨hc1, hf1⟩ := Fl.bcell hb1
    try simp only [World.heap_drewN, World.cell?_drewN, World.frozen?_drewN] at hc1 hf1
    have g1_0 : w.heap.size < w1.heap.size := by omega
    have g1_1 : w.heap.size + 1 < w1.heap.size := by omega
    go_wp2
    refine bodyPost_ret ?ohr rfl (retG_no ?obel)
    case ohr => simp [results, Try.results44, go_sem, *]
    case obel => (repeat' first | exact Below.refl _ _ | (refine Below.setCell ?_ (by first | omega | (simp; omega) | simp) _) | (refine below_drewN ?_ _) | (refine Below.alloc ?_ (by first | omega | (simp; omega) | simp) _) | (refine Below.trans ?_ (Below.mono (by assumption) (by first | omega | (simp; omega) | simp))))
  have hs := okB_of hA
  have hNn : (W * H).toNat = n := by omega
  have hall : allF (fun k => (c (idx W H (W - 1 - (k : Int) % W) ((k : Int) / W))).map (Op.negFloat .f32)) n = true := allF_of fun i hi => by rw [neg_fin']; exact allF_at hs.2.2.2 _ (idx_lt hs.1 hs.2.1 hs.2.2.1 _ _)
  show Calls _ _ _ w (RetB true W H n _ w)
  have HE := Lib.hid (fun (w' : World) (hb : Below w.heap.size w w') => each_cell W H a n cap 86 #[] (fun k => (c (idx W H (W - 1 - (k : Int) % W) ((k : Int) / W))).map (Op.negFloat .f32)) w' enter_mirrored (fun x1 y1 w'' hx hy _ _ hb' => impl_mirrored W H a n cap c x1 y1 w'' ((h.later hb).later hb') hs.1 hs.2.1 hs.2.2.1 hx hy) true (by rw [hs.1, hs.2.1, hNn]; exact hall))
  rw [hNn] at HE
  simp only [if_true] at HE
  clear hall hs hNn h hA
  go_enter Try.func44, Try.ntmps44
  go_wp2_with fail
  refine (HV.out _ (by (repeat' first | exact Below.refl _ _ | (refine Below.setCell ?_ (by first | omega | (simp; omega) | simp) _) | (refine below_drewN ?_ _) | (refine Below.alloc ?_ (by first | omega | (simp; omega) | simp) _) | (refine Below.trans ?_ (Below.mono (by assumption) (by first | omega | (simp; omega) | simp)))))).mono ?_
  rintro e w1 ⟨rfl, hb1⟩
  have hz1 := hb1.size
  try simp only [World.size_alloc, World.size_setCell, World.heap_drewN, World.size_drew] at hz1
  obtain ⟨hc1, hf1⟩ := Fl.bcell hb1
  try simp only [World.heap_drewN, World.cell?_drewN, World.frozen?_drewN] at hc1 hf1
  have g1_0 : w.heap.size < w1.heap.size := by omega
  have g1_1 : w.heap.size + 1 < w1.heap.size := by omega
  go_wp2_with fail
  refine (HE.out _ (by (repeat' first | exact Below.refl _ _ | (refine Below.setCell ?_ (by first | omega | (simp; omega) | simp) _) | (refine below_drewN ?_ _) | (refine Below.alloc ?_ (by first | omega | (simp; omega) | simp) _) | (refine Below.trans ?_ (Below.mono (by assumption) (by first | omega | (simp; omega) | simp)))))).mono ?_
  rintro e w2 ⟨av, capv, rfl, ho, hb2⟩
  have hz2 := hb2.size
  try simp only [World.size_alloc, World.size_setCell, World.heap_drewN, World.size_drew] at hz2
  obtain ⟨hc2, hf2⟩ := Fl.bcell hb2
  try simp only [World.heap_drewN, World.cell?_drewN, World.frozen?_drewN] at hc2 hf2
  have g2_0 : w.heap.size < w2.heap.size := by omega
  have g2_1 : w.heap.size + 1 < w2.heap.size := by omega
  have HO := Lib.hid ho
  clear ho
  go_wp2
  refine bodyPost_ret ?ohr rfl ⟨av, capv, rfl, ?oio, ?obel⟩
  case ohr => simp [results, Try.results44, go_sem, *]
  case oio =>
    refine (HO.out.keep fun g hg _ _ => ?_).wider (by omega) (by simp)
    try simp only [World.size_alloc] at hg
    rw [set_keep _ _ _ (by omega), set_keep _ _ _ (by omega), set_keep _ _ _ (by omega)]
  case obel => (repeat' first | exact Below.refl _ _ | (refine Below.setCell ?_ (by first | omega | (simp; omega) | simp) _) | (refine below_drewN ?_ _) | (refine Below.alloc ?_ (by first | omega | (simp; omega) | simp) _) | (refine Below.trans ?_ (Below.mono (by assumption) (by first | omega | (simp; omega) | simp))))

end Ba
end Go.Proofs.Ytdejkkledamkeaa
