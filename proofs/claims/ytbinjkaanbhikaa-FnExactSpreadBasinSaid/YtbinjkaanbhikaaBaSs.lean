/- What spreads: the model. -/
import Derived.Test.YtbinjkaanbhikaaBaSp
import Derived.Test.YtbinjkaanbhikaaBaRo
namespace Go.Proofs.Ytbinjkaanbhikaa
set_option linter.unusedSimpArgs false
set_option linter.unusedVariables false
open Go.RowKit
set_option maxRecDepth 20000
namespace Ba
open Fl Rate

/-- The first m numbers are those of f, the others those of e. -/
def mixF (f e : Nat → Option Nat) (m : Nat) : Nat → Option Nat := fun i => if i < m then f i else e i

theorem mix_next (f e : Nat → Option Nat) (m : Nat) : (fun k => if k = m then f m else mixF f e m k) = mixF f e (m + 1) := by
  funext k
  unfold mixF
  by_cases h1 : k = m
  · subst h1; simp
  · rw [if_neg h1]
    by_cases h2 : k < m
    · rw [if_pos h2, if_pos (by omega)]
    · rw [if_neg h2, if_neg (by omega)]

theorem ne_row {w : World} {S g : Nat} {cs cur : Array Value} {T : TypeId} (hS : w.heap[S]? = some (.cells cs T)) (hg : w.heap[g]? = some (.cells cur 28)) (hT : T ≠ 28) : S ≠ g := by
  rintro rfl
  rw [hS] at hg
  simp only [Option.some.injEq, Obj.cells.injEq] at hg
  exact hT hg.2.1

set_option maxHeartbeats 25600000 in
theorem spec_spread (G : Nat) (W H : Int) (a : Option Addr) (n cap : Nat) (c : Nat → Option Nat) (w : World) (h : IsY w a n cap c) (hG : w.heap[G]? = some (.cells #[.int .i64 W, .int .i64 H, .slice a n cap] 40)) (hA : okB W H n c = true) (y : Nat) (d : Option Nat) (fy : Fr .f32 y d) (N : Nat) (hN : N ≤ 64) (T : Bool) (hT : spB W H d c n N = T) :
    Calls Try.prog 103 #[.pointer (some ⟨G, 0, none⟩), .float .f32 y, .int .i64 (N : Int)] w (RetG T W H n (spF W H d c N) w) := by
  have hn9 := okB_n hA
  have hs := okB_of hA
  have HOW := Lib.hid (fun w' (hb : Below w.heap.size w w') => spec_own G W H a n cap c w' (h.later hb) (keep_block hb hG) hn9)
  have HA := Lib.hid hA
  have HTT := Lib.hid hT
  unfold RetG
  obtain ⟨W', hW'⟩ : ∃ W' : Int, (if T then W else 0) = W' := ⟨_, rfl⟩
  obtain ⟨H', hH'⟩ : ∃ H' : Int, (if T then H else 0) = H' := ⟨_, rfl⟩
  obtain ⟨N', hN'⟩ : ∃ N' : Nat, (if T then n else 0) = N' := ⟨_, rfl⟩
  rw [hW', hH', hN']
  have HR := Lib.hid (And.intro hW' (And.intro hH' hN'))
  clear h hA hT hs hW' hH' hN' hG
  go_enter Try.func103, Try.ntmps103
  go_wp2_with fail
  refine (HOW.out _ (by (repeat' first | exact Below.refl _ _ | (refine Below.setCell ?_ (by first | omega | (simp; omega) | simp) _) | (refine below_drewN ?_ _) | (refine Below.alloc ?_ (by first | omega | (simp; omega) | simp) _) | (refine Below.trans ?_ (Below.mono (by assumption) (by first | omega | (simp; omega) | simp)))))).mono ?_
  rintro e w3 ⟨a3, cap3, rfl, ho3, hb3⟩
  have hz3 := hb3.size
  simp only [World.size_alloc] at hz3 ho3
  have qz : w3.heap[w.heap.size]? = some (.cells #[.int .i64 0, .int .i64 0, .slice none 0 0] 40) := keep_block hb3 (new_block _ _)
  have QZ := Lib.hid qz
  have HBW := Lib.hid (show Below w.heap.size w w3 by (repeat' first | exact Below.refl _ _ | (refine Below.setCell ?_ (by first | omega | (simp; omega) | simp) _) | (refine below_drewN ?_ _) | (refine Below.alloc ?_ (by first | omega | (simp; omega) | simp) _) | (refine Below.trans ?_ (Below.mono (by assumption) (by first | omega | (simp; omega) | simp)))))
  have HO3 := Lib.hid ho3
  clear hb3 qz ho3
  go_wp2
  go_loopw [9] (fun i wr => ∃ (k : Nat) (ak : Option Addr) (ck : Nat), k ≤ N ∧ i = .int .i64 (k : Int) ∧ wr.heap[w3.heap.size]? = some (.cells #[.int .i64 W, .int .i64 H, .slice ak n ck] 40) ∧ wr.heap[w.heap.size]? = some (.cells #[.int .i64 0, .int .i64 0, .slice none 0 0] 40) ∧ IsO (w.heap.size + 1) wr.heap.size wr ak n ck (spF W H d c k) ∧ spB W H d c n k = true ∧ Below w.heap.size w wr)
    (fun i _ => N - (intOf i).toNat)
  case atStart => exact ⟨0, a3, cap3, Nat.zero_le _, rfl, new_block _ _, alloc_block QZ.out, (HO3.out.alloc _).wider (Nat.le_refl _) (by simp), rfl, HBW.out.alloc (by omega) _⟩
  case round =>
    obtain ⟨k, ak, ck, hk, rfl, hblk, hqz, hown, hsp, hbel⟩ := hrel
    have HBK := Lib.hid hblk
    have HQZ := Lib.hid hqz
    have HO := Lib.hid hown
    have HP := Lib.hid hsp
    have HB := Lib.hid hbel
    have hSl := block_lt hblk
    have hbs := hbel.size
    have s0 := (cells_of (i := 0) hblk).trans (show _ = some (.int .i64 W) from rfl)
    have s1 := (cells_of (i := 1) hblk).trans (show _ = some (.int .i64 H) from rfl)
    have s2 := (cells_of (i := 2) hblk).trans (show _ = some (.slice ak n ck) from rfl)
    clear hblk hown hsp hbel hqz
    have hne : ¬ w.heap.size = w3.heap.size := by omega
    have hne' : ¬ w3.heap.size = w.heap.size := by omega
    by_cases hlt : k < N
    · have hok := sp_ok HA.out HP.out
      obtain ⟨RL, hRL⟩ : ∃ RL, allF (lapC W H (spF W H d c k)) n = RL := ⟨_, rfl⟩
      have HL := Lib.hid (show ∀ w' : World, Below wr.heap.size wr w' → Calls Try.prog 100 #[.pointer (some ⟨w3.heap.size, 0, none⟩)] w' (RetG RL W H n (lapC W H (spF W H d c k)) w') from fun w' hb => hRL ▸ spec_laplace w3.heap.size W H ak n ck (spF W H d c k) w' (HO.out.y.later hb) (keep_block hb HBK.out) hok)
      have HRL := Lib.hid hRL
      have hoks := okB_of hok
      have HOK := Lib.hid hoks
      clear hok hRL hoks
      unfold RetG at HL
      obtain ⟨W1, hW1⟩ : ∃ W1 : Int, (if RL then W else 0) = W1 := ⟨_, rfl⟩
      obtain ⟨H1, hH1⟩ : ∃ H1 : Int, (if RL then H else 0) = H1 := ⟨_, rfl⟩
      obtain ⟨N1, hN1'⟩ : ∃ N1 : Nat, (if RL then n else 0) = N1 := ⟨_, rfl⟩
      rw [hW1, hH1, hN1'] at HL
      have HRR := Lib.hid (And.intro hW1 (And.intro hH1 hN1'))
      clear hW1 hH1 hN1'
      go_wp2_with fail
      refine (HL.out _ (by (repeat' first | exact Below.refl _ _ | (refine Below.setCell ?_ (by first | omega | (simp; omega) | simp) _) | (refine below_drewN ?_ _) | (refine Below.alloc ?_ (by first | omega | (simp; omega) | simp) _) | (refine Below.trans ?_ (Below.mono (by assumption) (by first | omega | (simp; omega) | simp)))))).mono ?_
      rintro e w5 ⟨al, cl5, rfl, ho5, hb5⟩
      have hz5 := hb5.size
      have hq5 := keep_block hb5 HBK.out
      have hqz5 := keep_block hb5 HQZ.out
      have HQ5 := Lib.hid hq5
      have HZ5 := Lib.hid hqz5
      have HL5 := Lib.hid ho5
      have HO5 := Lib.hid (HO.out.later hb5)
      have HB5 := Lib.hid (HB.out.trans (hb5.mono hbs))
      have l5 := block_lt hq5
      have lz5 := block_lt hqz5
      clear hb5 ho5 s0 s1 s2
      have s0 := (cells_of (i := 0) hq5).trans (show _ = some (.int .i64 W) from rfl)
      have s1 := (cells_of (i := 1) hq5).trans (show _ = some (.int .i64 H) from rfl)
      have s2 := (cells_of (i := 2) hq5).trans (show _ = some (.slice ak n ck) from rfl)
      have f0 := free_of hq5 0
      have f1 := free_of hq5 1
      have f2 := free_of hq5 2
      have z0 := (cells_of (i := 0) hqz5).trans (show _ = some (.int .i64 0) from rfl)
      have z1 := (cells_of (i := 1) hqz5).trans (show _ = some (.int .i64 0) from rfl)
      have z2 := (cells_of (i := 2) hqz5).trans (show _ = some (.slice none 0 0) from rfl)
      have y0 := free_of hqz5 0
      have y1 := free_of hqz5 1
      have y2 := free_of hqz5 2
      clear hq5 hqz5
      cases RL
      · have hRR := HRR.out
        simp only [Bool.false_eq_true, if_false] at hRR
        obtain ⟨rfl, rfl, rfl⟩ := hRR
        obtain rfl : T = false := by rw [← HTT.out]; exact spB_le (k := k + 1) (by show (spB W H d c n k && allF (spF W H d c (k + 1)) n) = false; rw [sp_lap HRL.out, Bool.and_false]) (by omega)
        go_wp2
        have hR := HR.out
        simp only [Bool.false_eq_true, if_false, if_true] at hR
        obtain ⟨rfl, rfl, rfl⟩ := hR
        refine bodyPost_ret ?ohr rfl ⟨none, 0, rfl, isO_nil _ _ _ _, ?obel⟩
        case ohr => simp [results, Try.results103, go_sem, *]
        case obel =>
          have HBX := HB5.out
          (repeat' first | exact HBX | (refine Below.setCell ?_ (by first | omega | (simp; omega) | simp) _) | (refine Below.alloc ?_ (by first | omega | (simp; omega) | simp) _))
      · have hRR := HRR.out
        simp only [if_true] at hRR
        obtain ⟨rfl, rfl, rfl⟩ := hRR
        go_wp2
        go_loopw [12] (fun j wj => ∃ (m : Nat), m ≤ n ∧ j = .int .i64 (m : Int) ∧ wj.heap[w3.heap.size]? = some (.cells #[.int .i64 W, .int .i64 H, .slice ak n ck] 40) ∧ wj.heap[w5.heap.size]? = some (.cells #[.int .i64 W, .int .i64 H, .slice al n cl5] 40) ∧ wj.heap[w.heap.size]? = some (.cells #[.int .i64 0, .int .i64 0, .slice none 0 0] 40) ∧ IsO (w.heap.size + 1) wr.heap.size wj ak n ck (mixF (spF W H d c (k + 1)) (spF W H d c k) m) ∧ IsO wr.heap.size w5.heap.size wj al n cl5 (lapC W H (spF W H d c k)) ∧ Below w.heap.size w wj)
          (fun j _ => n - (intOf j).toNat)
        case atStart => exact ⟨0, Nat.zero_le _, rfl, alloc_block HQ5.out, new_block _ _, alloc_block HZ5.out, (HO5.out.alloc _).congr (fun i _ => by simp [mixF]), HL5.out.alloc _, HB5.out.alloc (by omega) _⟩
        case round =>
          obtain ⟨m, hm, rfl, hS, hD, hZ, hO, hL, hB⟩ := hrel
          have hSj := block_lt hS
          have hDj := block_lt hD
          have hZj := block_lt hZ
          have hBs := hB.size
          have HSj := Lib.hid hS
          have HDj := Lib.hid hD
          have HZj := Lib.hid hZ
          have HOj := Lib.hid hO
          have HLj := Lib.hid hL
          have HBj := Lib.hid hB
          have u0 := (cells_of (i := 0) hS).trans (show _ = some (.int .i64 W) from rfl)
          have u1 := (cells_of (i := 1) hS).trans (show _ = some (.int .i64 H) from rfl)
          have u2 := (cells_of (i := 2) hS).trans (show _ = some (.slice ak n ck) from rfl)
          have v0 := (cells_of (i := 0) hD).trans (show _ = some (.int .i64 W) from rfl)
          have v1 := (cells_of (i := 1) hD).trans (show _ = some (.int .i64 H) from rfl)
          have v2 := (cells_of (i := 2) hD).trans (show _ = some (.slice al n cl5) from rfl)
          clear hS hD hZ hO hL hB
          by_cases hmn : m < n
          · obtain ⟨h2, h3, g, cur, h5, h6, h7⟩ := HOj.out
            obtain ⟨rfl, hBg, hgL, hcur⟩ := h5 (by omega)
            obtain ⟨xk, hxk, fxk⟩ := h7 m hmn
            obtain ⟨i2, i3, gl, curl, i5, i6, i7⟩ := HLj.out
            obtain ⟨rfl, hBl, hLl, hcurl⟩ := i5 (by omega)
            obtain ⟨xl, hxl, fxl⟩ := i7 m hmn
            have ek := (cells_of (i := m) hcur).trans hxk
            have el := (cells_of (i := m) hcurl).trans hxl
            have fk : Fr .f32 xk (spF W H d c k m) := by simpa [mixF] using fxk
            have lg := block_lt hcur
            have lgl := block_lt hcurl
            have HCur := Lib.hid hcur
            have fg := free_of hcur m
            have HSg := Lib.hid (ne_row HSj.out hcur (by decide))
            have HDg := Lib.hid (ne_row HDj.out hcur (by decide))
            have HZg := Lib.hid (ne_row HZj.out hcur (by decide))
            have hmd : decide ((m : Int) < (n : Int)) = true := decide_eq_true (by omega)
            have hm0 : 0 ≤ (m : Int) := by omega
            unfold maxLen at h3 i3
            clear h5 h6 h7 i5 i6 i7 hxk hxl fxk hcur hcurl
            go_wp2
            refine Loose.wp_region_below 17 [] (by kernel_rfl) (by kernel_rfl) (by simp [undef]) ?_
            apply Exists.intro
            simp only [List.take_succ_cons, List.take_zero, List.drop_succ_cons, List.drop_zero]
            repeat (first | (apply Loose.walk_step; intro K hK; apply Loose.turn_value (hwant := rfl) (hd := rfl); (focus (intro w' hw'; obtain ⟨hc, hf⟩ := Fl.bcell hw'; go_simp; first | done | rfl | exact ⟨rfl, rfl⟩)); go_simp; refine hK _ ?_; clear hK K) | (apply Loose.walk_step; intro K hK; refine Loose.turn_fl (Nat.le_refl _) rfl rfl rfl rfl rfl rfl (by assumption) (by assumption) ?_; intro r hr; go_simp; refine hK _ ?_; clear hK K))
            refine Loose.walk_nil ?_
            intro w7 hcls7
            obtain ⟨hb7, _⟩ := hcls7
            obtain ⟨hc7, hf7⟩ := Fl.bcell hb7
            have hz7 := hb7.size
            try simp only [World.size_alloc, World.size_setCell, World.heap_drewN, World.size_drew] at hz7
            have l7 : g < w7.heap.size := by omega
            go_wp2
            go_roundw
            case rel => exact ⟨m + 1, by omega, by go_num, by rw [set_keep _ _ _ HSg.out]; exact keep_block hb7 HSj.out, by rw [set_keep _ _ _ HDg.out]; exact keep_block hb7 HDj.out, by rw [set_keep _ _ _ HZg.out]; exact keep_block hb7 HZj.out, by have hp := isO_put (HOj.out.later hb7) (show Fr .f32 r (spF W H d c (k + 1) m) from hr) hmn; rwa [mix_next] at hp, (HLj.out.later hb7).keep fun g' hg' _ _ => set_keep _ _ _ (by omega), Below.setCell (HBj.out.trans (hb7.mono hBs)) (show w.heap.size ≤ g by omega) (p := ⟨g, m, none⟩) _⟩
            case measure => simp [intOf]; omega
          · obtain rfl : n = m := by omega
            have HOK' := Lib.hid (HOj.out.congr (d := spF W H d c (k + 1)) (fun i hi => by simp [mixF, hi]))
            obtain ⟨R1, hR1⟩ : ∃ R1, allF (spF W H d c (k + 1)) n = R1 := ⟨_, rfl⟩
            have hokR : okB W H n (spF W H d c (k + 1)) = R1 := by
              unfold okB; rw [HOK.out.1, HOK.out.2.1, hR1, decide_eq_true HOK.out.2.2.1]; rfl
            have HIS := Lib.hid (spec_is w3.heap.size W H ak n ck (spF W H d c (k + 1)) _ u0 u1 u2 HOK'.out.y R1 hokR)
            have HR1 := Lib.hid hR1
            clear hokR hR1 v0 v1 v2
            go_wp2_with fail
            refine HIS.out.mono ?_
            rintro e w8 ⟨rfl, hb8⟩
            have hz8 := hb8.size
            have hS8 := keep_block hb8 HSj.out
            have hZ8 := keep_block hb8 HZj.out
            have HS8 := Lib.hid hS8
            have HZ8 := Lib.hid hZ8
            have HO8 := Lib.hid (HOK'.out.later hb8)
            have HB8 := Lib.hid (HBj.out.trans (hb8.mono hBs))
            have l8 := block_lt hS8
            have lz8 := block_lt hZ8
            clear u0 u1 u2 hb8 z0 z1 z2 y0 y1 y2 s0 s1 s2 f0 f1 f2
            have s0 := (cells_of (i := 0) hS8).trans (show _ = some (.int .i64 W) from rfl)
            have s1 := (cells_of (i := 1) hS8).trans (show _ = some (.int .i64 H) from rfl)
            have s2 := (cells_of (i := 2) hS8).trans (show _ = some (.slice ak n ck) from rfl)
            have z0 := (cells_of (i := 0) hZ8).trans (show _ = some (.int .i64 0) from rfl)
            have z1 := (cells_of (i := 1) hZ8).trans (show _ = some (.int .i64 0) from rfl)
            have z2 := (cells_of (i := 2) hZ8).trans (show _ = some (.slice none 0 0) from rfl)
            have y0 := free_of hZ8 0
            have y1 := free_of hZ8 1
            have y2 := free_of hZ8 2
            clear hS8 hZ8
            cases R1
            · obtain rfl : T = false := by rw [← HTT.out]; exact spB_le (k := k + 1) (by show (spB W H d c n k && allF (spF W H d c (k + 1)) n) = false; rw [HR1.out, Bool.and_false]) (by omega)
              go_wp2
              have hR := HR.out
              simp only [Bool.false_eq_true, if_false, if_true] at hR
              obtain ⟨rfl, rfl, rfl⟩ := hR
              refine bodyPost_ret ?ohr rfl ⟨none, 0, rfl, isO_nil _ _ _ _, ?obel⟩
              case ohr => simp [results, Try.results103, go_sem, *]
              case obel =>
                have HBX := HB8.out
                (repeat' first | exact HBX | (refine Below.setCell ?_ (by first | omega | (simp; omega) | simp) _) | (refine Below.alloc ?_ (by first | omega | (simp; omega) | simp) _))
            · go_wp2
              go_roundw
              case rel => exact ⟨k + 1, ak, ck, by omega, by go_num, HS8.out, HZ8.out, HO8.out.wider (Nat.le_refl _) (by omega), by show (spB W H d c n k && allF (spF W H d c (k + 1)) n) = true; rw [HP.out, HR1.out]; rfl, HB8.out⟩
              case measure => simp [intOf]; omega
    · obtain rfl : N = k := by omega
      obtain rfl : T = true := by rw [← HTT.out]; exact HP.out
      have z0 := (cells_of (i := 0) HQZ.out).trans (show _ = some (.int .i64 0) from rfl)
      have z1 := (cells_of (i := 1) HQZ.out).trans (show _ = some (.int .i64 0) from rfl)
      have z2 := (cells_of (i := 2) HQZ.out).trans (show _ = some (.slice none 0 0) from rfl)
      have y0 := free_of HQZ.out 0
      have y1 := free_of HQZ.out 1
      have y2 := free_of HQZ.out 2
      have lz := block_lt HQZ.out
      go_wp2
      have hR := HR.out
      simp only [Bool.false_eq_true, if_false, if_true] at hR
      obtain ⟨rfl, rfl, rfl⟩ := hR
      refine bodyPost_ret ?ohr rfl ⟨ak, ck, rfl, ?oio, ?obel⟩
      case ohr => simp [results, Try.results103, go_sem, *]
      case oio =>
        refine (HO.out.keep fun g hg _ _ => ?_).wider (by omega) (by simp)
        rw [set_keep _ _ _ (by omega), set_keep _ _ _ (by omega), set_keep _ _ _ (by omega)]
      case obel =>
        have HBX := HB.out
        (repeat' first | exact HBX | (refine Below.setCell ?_ (by first | omega | (simp; omega) | simp) _) | (refine Below.alloc ?_ (by first | omega | (simp; omega) | simp) _))

set_option maxHeartbeats 6400000 in
theorem spec_SpreadB (W H : Int) (a : Option Addr) (n cap : Nat) (c : Nat → Option Nat) (w : World) (h : IsY w a n cap c) (A : Bool) (hA : okB W H n c = A) (y : Nat) (d : Option Nat) (fy : Fr .f32 y d) (s : Int) : Calls Try.prog 44 #[bV W H a n cap, .float .f32 y, .int .i64 s] w (RetG (canB A d s && spB W H d c n s.toNat) W H n (spF W H d c s.toNat) w) := by
  have HV := Lib.hid (fun G w' (hb : Below w.heap.size w w') e0 e1 e2 => spec_is G W H a n cap c w' e0 e1 e2 (h.later hb) A hA)
  have HF := Lib.hid (fun w => spec_fin y d w fy)
  have HX := Lib.hid (fun w => spec_inD s 0 64 w)
  cases A
  · clear hA h
    show Calls _ _ _ w (RetG false W H n _ w)
    go_enter Try.func44, Try.ntmps44
    go_wp2_with fail
    refine (HV.out _ _ (by (repeat' first | exact Below.refl _ _ | (refine Below.setCell ?_ (by first | omega | (simp; omega) | simp) _) | (refine below_drewN ?_ _) | (refine Below.alloc ?_ (by first | omega | (simp; omega) | simp) _) | (refine Below.trans ?_ (Below.mono (by assumption) (by first | omega | (simp; omega) | simp))))) (by simp) (by simp) (by simp)).mono ?_
    rintro e w1 ⟨rfl, hb1⟩
    have hz1 := hb1.size
    try simp only [World.size_alloc, World.size_setCell, World.heap_drewN, World.size_drew] at hz1
    obtain ⟨hc1, hf1⟩ := Fl.bcell hb1
    try simp only [World.heap_drewN, World.cell?_drewN, World.frozen?_drewN] at hc1 hf1
    have g1_0 : w.heap.size < w1.heap.size := by omega
    have g1_1 : w.heap.size + 1 < w1.heap.size := by omega
    go_wp2
    refine bodyPost_ret ?ohr rfl (retG_no ?obel)
    case ohr => simp [results, Try.results44, go_sem, *]
    case obel => (repeat' first | exact Below.refl _ _ | (refine Below.setCell ?_ (by first | omega | (simp; omega) | simp) _) | (refine below_drewN ?_ _) | (refine Below.alloc ?_ (by first | omega | (simp; omega) | simp) _) | (refine Below.trans ?_ (Below.mono (by assumption) (by first | omega | (simp; omega) | simp))))
  cases hd : finC d
  · rw [hd] at HF
    have e : canB true d s = false := by unfold canB; rw [hd]; rfl
    rw [e]
    clear hA h
    show Calls _ _ _ w (RetG false W H n _ w)
    go_enter Try.func44, Try.ntmps44
    go_wp2_with fail
    refine (HV.out _ _ (by (repeat' first | exact Below.refl _ _ | (refine Below.setCell ?_ (by first | omega | (simp; omega) | simp) _) | (refine below_drewN ?_ _) | (refine Below.alloc ?_ (by first | omega | (simp; omega) | simp) _) | (refine Below.trans ?_ (Below.mono (by assumption) (by first | omega | (simp; omega) | simp))))) (by simp) (by simp) (by simp)).mono ?_
    rintro e w1 ⟨rfl, hb1⟩
    have hz1 := hb1.size
    try simp only [World.size_alloc, World.size_setCell, World.heap_drewN, World.size_drew] at hz1
    obtain ⟨hc1, hf1⟩ := Fl.bcell hb1
    try simp only [World.heap_drewN, World.cell?_drewN, World.frozen?_drewN] at hc1 hf1
    have g1_0 : w.heap.size < w1.heap.size := by omega
    have g1_1 : w.heap.size + 1 < w1.heap.size := by omega
    go_wp2_with fail
    refine (HF.out _).mono ?_
    rintro e w2 ⟨rfl, hb2⟩
    have hz2 := hb2.size
    try simp only [World.size_alloc, World.size_setCell, World.heap_drewN, World.size_drew] at hz2
    obtain ⟨hc2, hf2⟩ := Fl.bcell hb2
    try simp only [World.heap_drewN, World.cell?_drewN, World.frozen?_drewN] at hc2 hf2
    have g2_0 : w.heap.size < w2.heap.size := by omega
    have g2_1 : w.heap.size + 1 < w2.heap.size := by omega
    go_wp2
    refine bodyPost_ret ?ohr rfl (retG_no ?obel)
    case ohr => simp [results, Try.results44, go_sem, *]
    case obel => (repeat' first | exact Below.refl _ _ | (refine Below.setCell ?_ (by first | omega | (simp; omega) | simp) _) | (refine below_drewN ?_ _) | (refine Below.alloc ?_ (by first | omega | (simp; omega) | simp) _) | (refine Below.trans ?_ (Below.mono (by assumption) (by first | omega | (simp; omega) | simp))))
  cases hx : inB s 0 64
  · rw [hx] at HX
    have e : canB true d s = false := by unfold canB; rw [hx, Bool.and_false]
    rw [e]
    rw [hd] at HF
    clear hA h
    show Calls _ _ _ w (RetG false W H n _ w)
    go_enter Try.func44, Try.ntmps44
    go_wp2_with fail
    refine (HV.out _ _ (by (repeat' first | exact Below.refl _ _ | (refine Below.setCell ?_ (by first | omega | (simp; omega) | simp) _) | (refine below_drewN ?_ _) | (refine Below.alloc ?_ (by first | omega | (simp; omega) | simp) _) | (refine Below.trans ?_ (Below.mono (by assumption) (by first | omega | (simp; omega) | simp))))) (by simp) (by simp) (by simp)).mono ?_
    rintro e w1 ⟨rfl, hb1⟩
    have hz1 := hb1.size
    try simp only [World.size_alloc, World.size_setCell, World.heap_drewN, World.size_drew] at hz1
    obtain ⟨hc1, hf1⟩ := Fl.bcell hb1
    try simp only [World.heap_drewN, World.cell?_drewN, World.frozen?_drewN] at hc1 hf1
    have g1_0 : w.heap.size < w1.heap.size := by omega
    have g1_1 : w.heap.size + 1 < w1.heap.size := by omega
    go_wp2_with fail
    refine (HF.out _).mono ?_
    rintro e w2 ⟨rfl, hb2⟩
    have hz2 := hb2.size
    try simp only [World.size_alloc, World.size_setCell, World.heap_drewN, World.size_drew] at hz2
    obtain ⟨hc2, hf2⟩ := Fl.bcell hb2
    try simp only [World.heap_drewN, World.cell?_drewN, World.frozen?_drewN] at hc2 hf2
    have g2_0 : w.heap.size < w2.heap.size := by omega
    have g2_1 : w.heap.size + 1 < w2.heap.size := by omega
    go_wp2_with fail
    refine (HX.out _).mono ?_
    rintro e w3 ⟨rfl, hb3⟩
    have hz3 := hb3.size
    try simp only [World.size_alloc, World.size_setCell, World.heap_drewN, World.size_drew] at hz3
    obtain ⟨hc3, hf3⟩ := Fl.bcell hb3
    try simp only [World.heap_drewN, World.cell?_drewN, World.frozen?_drewN] at hc3 hf3
    have g3_0 : w.heap.size < w3.heap.size := by omega
    have g3_1 : w.heap.size + 1 < w3.heap.size := by omega
    go_wp2
    refine bodyPost_ret ?ohr rfl (retG_no ?obel)
    case ohr => simp [results, Try.results44, go_sem, *]
    case obel => (repeat' first | exact Below.refl _ _ | (refine Below.setCell ?_ (by first | omega | (simp; omega) | simp) _) | (refine below_drewN ?_ _) | (refine Below.alloc ?_ (by first | omega | (simp; omega) | simp) _) | (refine Below.trans ?_ (Below.mono (by assumption) (by first | omega | (simp; omega) | simp))))
  have hs0 : 0 ≤ s ∧ s ≤ 64 := by
    unfold inB at hx
    simpa [Bool.and_eq_true] using hx
  obtain ⟨N, rfl⟩ : ∃ N : Nat, s = (N : Int) := ⟨s.toNat, by omega⟩
  have e : canB true d (N : Int) = true := by unfold canB; rw [hd, hx]; rfl
  rw [e, Bool.true_and, Int.toNat_natCast]
  rw [hd] at HF
  rw [hx] at HX
  have HE := Lib.hid (fun (w' : World) (hb : Below w.heap.size w w') (hG : w'.heap[w.heap.size]? = some (.cells #[.int .i64 W, .int .i64 H, .slice a n cap] 40)) => spec_spread w.heap.size W H a n cap c w' (h.later hb) hG hA y d fy N (by omega) _ rfl)
  obtain ⟨T, hT⟩ : ∃ T, spB W H d c n N = T := ⟨_, rfl⟩
  rw [hT] at HE ⊢
  clear hT e hs0 hd hx hA h
  unfold RetG at HE ⊢
  generalize (if T then W else 0) = W' at *
  generalize (if T then H else 0) = H' at *
  generalize (if T then n else 0) = N' at *
  go_enter Try.func44, Try.ntmps44
  go_wp2_with fail
  refine (HV.out _ _ (by (repeat' first | exact Below.refl _ _ | (refine Below.setCell ?_ (by first | omega | (simp; omega) | simp) _) | (refine below_drewN ?_ _) | (refine Below.alloc ?_ (by first | omega | (simp; omega) | simp) _) | (refine Below.trans ?_ (Below.mono (by assumption) (by first | omega | (simp; omega) | simp))))) (by simp) (by simp) (by simp)).mono ?_
  rintro e w1 ⟨rfl, hb1⟩
  have hz1 := hb1.size
  try simp only [World.size_alloc, World.size_setCell, World.heap_drewN, World.size_drew] at hz1
  obtain ⟨hc1, hf1⟩ := Fl.bcell hb1
  try simp only [World.heap_drewN, World.cell?_drewN, World.frozen?_drewN] at hc1 hf1
  have g1_0 : w.heap.size < w1.heap.size := by omega
  have g1_1 : w.heap.size + 1 < w1.heap.size := by omega
  go_wp2_with fail
  refine (HF.out _).mono ?_
  rintro e w2 ⟨rfl, hb2⟩
  have hz2 := hb2.size
  try simp only [World.size_alloc, World.size_setCell, World.heap_drewN, World.size_drew] at hz2
  obtain ⟨hc2, hf2⟩ := Fl.bcell hb2
  try simp only [World.heap_drewN, World.cell?_drewN, World.frozen?_drewN] at hc2 hf2
  have g2_0 : w.heap.size < w2.heap.size := by omega
  have g2_1 : w.heap.size + 1 < w2.heap.size := by omega
  go_wp2_with fail
  refine (HX.out _).mono ?_
  rintro e w3 ⟨rfl, hb3⟩
  have hz3 := hb3.size
  try simp only [World.size_alloc, World.size_setCell, World.heap_drewN, World.size_drew] at hz3
  obtain ⟨hc3, hf3⟩ := Fl.bcell hb3
  try simp only [World.heap_drewN, World.cell?_drewN, World.frozen?_drewN] at hc3 hf3
  have g3_0 : w.heap.size < w3.heap.size := by omega
  have g3_1 : w.heap.size + 1 < w3.heap.size := by omega
  go_wp2_with fail
  refine (HE.out _ (by (repeat' first | exact Below.refl _ _ | (refine Below.setCell ?_ (by first | omega | (simp; omega) | simp) _) | (refine below_drewN ?_ _) | (refine Below.alloc ?_ (by first | omega | (simp; omega) | simp) _) | (refine Below.trans ?_ (Below.mono (by assumption) (by first | omega | (simp; omega) | simp))))) (keep_block hb3 (keep_block hb2 (keep_block hb1 (alloc_block (new_block _ _)))))).mono ?_
  rintro e w4 ⟨av, capv, rfl, ho, hb4⟩
  have hz4 := hb4.size
  try simp only [World.size_alloc, World.size_setCell, World.heap_drewN, World.size_drew] at hz4
  obtain ⟨hc4, hf4⟩ := Fl.bcell hb4
  try simp only [World.heap_drewN, World.cell?_drewN, World.frozen?_drewN] at hc4 hf4
  have g4_0 : w.heap.size < w4.heap.size := by omega
  have g4_1 : w.heap.size + 1 < w4.heap.size := by omega
  have HO := Lib.hid ho
  clear ho
  go_wp2
  refine bodyPost_ret ?ohr rfl ⟨av, capv, rfl, ?oio, ?obel⟩
  case ohr => simp [results, Try.results44, go_sem, *]
  case oio =>
    refine (HO.out.keep fun g hg _ _ => ?_).wider (by omega) (by simp)
    try simp only [World.size_alloc] at hg
    rw [set_keep _ _ _ (by omega), set_keep _ _ _ (by omega), set_keep _ _ _ (by omega)]
  case obel => (repeat' first | exact Below.refl _ _ | (refine Below.setCell ?_ (by first | omega | (simp; omega) | simp) _) | (refine below_drewN ?_ _) | (refine Below.alloc ?_ (by first | omega | (simp; omega) | simp) _) | (refine Below.trans ?_ (Below.mono (by assumption) (by first | omega | (simp; omega) | simp))))

end Ba
end Go.Proofs.Ytbinjkaanbhikaa
