/- The source of choices that draws read. -/
import Derived.Test.YtpmnjbgfdhhomaaGreatDoorSrc
import Derived.Test.YtpmnjbgfdhhomaaGreatDoorFList
import Derived.Test.YtpmnjbgfdhhomaaGreatDoorBits
import Derived.LoopTactic
import Derived.Deep.QuietTactic
import Derived.BigQuiet
import Derived.Laws.Bits64b
namespace Go.Proofs.YtpmnjbgfdhhomaaGreatDoor
set_option linter.unusedSimpArgs false
set_option linter.unusedVariables false
open Go.RowKit
namespace Src
open Fl

theorem own_keeps {G : Nat} {w w' : World} {B e size n : Nat} {v : Value} {xs : List Value} (h : w.ownsRow B e size v n xs) (hk : Keeps G w w') (hG : G < B) : w'.ownsRow B e size v n xs := by
  obtain ⟨h1, h2 | ⟨g, cap, cur, h3, h4, h5, h6⟩⟩ := h
  · exact ⟨h1, .inl h2⟩
  · refine ⟨h1, .inr ⟨g, cap, cur, h3, h4, ?_, h6⟩⟩
    rw [hk.2 g (by omega) (Array.getElem?_eq_some_iff.1 h5).1]
    exact h5

theorem Keeps.grown {G : Nat} {a w w' : World} {row : Option Nat} (h : Keeps G a w) (hg : w.grownBy w' row) (hr : ∀ r, row = some r → a.heap.size ≤ r) (hG : G < a.heap.size) : Keeps G a w' :=
  ⟨h.1.grown hg (by have := h.1.size; omega) (fun r e => by have := hr r e; omega), fun b hb hl => (hg.block b (by have := h.1.size; omega) (fun e => by have := hr b e.symm; omega)).trans (h.2 b hb hl)⟩

theorem IsSrc.grown {G K : Nat} {w w' : World} {row : Option Nat} (h : IsSrc G K w) (hg : w.grownBy w' row) (hr : ∀ r, row = some r → G < r) : IsSrc G K w' := by
  have hl := h.lt
  obtain ⟨a, len, cap, n, seed, h, hn, hs, hB⟩ := h
  exact ⟨a, len, cap, n, seed, by rw [hg.block G hl (fun e => by have := hr G e.symm; omega)]; exact h, hn, hs, hB.keep fun b hb => hg.block b (by omega) (fun e => by have := hr b e.symm; omega)⟩

/-- Drawn numbers. -/
def RetNS (G n : Nat) (w : World) (e : Ending) (w' : World) : Prop :=
  ∃ zs a cap, e = .returned (.slice a n cap) ∧ FList.IsL w' a n cap zs ∧ Keeps G w w'

set_option maxRecDepth 20000 in
set_option maxHeartbeats 3200000 in
theorem drawFloats (G K n : Nat) (w : World) (h : IsSrc G K w) (hK : K ≤ 1000) (hn : n ≤ 1000) : Calls Tryz.prog 45 #[.pointer (some ⟨G, 0, none⟩), .int .i64 (n : Int)] w (RetNS G n w) := by
  obtain ⟨i0, hi, hz0, hz1, hz2⟩ := info_parts FList.I_info
  have hGw := h.lt
  go_enter Tryz.func45, Tryz.ntmps45
  go_wp2_with fail
  refine (one G K 4 _ (h.alloc _) (by omega) (by omega) (by omega)).mono ?_
  rintro e w1 ⟨b, rfl, hs1, hk1⟩
  have ho0 : w1.ownsRow w.heap.size 24 1 (.slice (some ⟨w.heap.size, 0, none⟩) 0 0) 0 [] := own_keeps ⟨rfl, .inr ⟨w.heap.size, 0, #[], rfl, Nat.le_refl _, Cut.new_block w _, Nat.le_refl _, by unfold maxLen; omega, rfl, rfl⟩⟩ hk1 hGw
  have hk0 := ((Keeps.refl G w).alloc h _).trans hk1
  have HO0 := Lib.hid ho0
  have HK0 := Lib.hid hk0
  have HS0 := Lib.hid hs1
  clear ho0 hk0 hs1 hk1
  go_wp2
  go_loopw [5, 1] (fun o i wr => ∃ (k : Nat) (zs : List Nat), k ≤ n ∧ i = .int .i64 ((n : Int) - k) ∧ zs.length = k ∧ (∀ z ∈ zs, FList.okE z) ∧ wr.ownsRow w.heap.size 24 1 o k (zs.map FList.el) ∧ (∃ g cap, o = .slice (some ⟨g, 0, none⟩) k cap) ∧ IsSrc G (K + 2 + 12 * k) wr ∧ Keeps G w wr) (fun _ i _ => (intOf i).toNat)
  case atStart => exact ⟨0, [], Nat.zero_le _, by simp, rfl, (fun z hz => by cases hz), HO0.out, ⟨_, _, rfl⟩, HS0.out, HK0.out⟩
  case round =>
    obtain ⟨k, zs, hk, rfl, hzl, hok, hown, ⟨g0, cap0, rfl⟩, hsrc, hkp⟩ := hrel
    have HZ := Lib.hid hzl
    have hg0 : w.heap.size ≤ g0 := (hown.lt g0 rfl).1
    clear hzl
    by_cases hlt : k < n
    · have i1 : (0 : Int) < (n : Int) - k := by omega
      cases b
      · go_wp2_with fail
        refine (drawPlain G (K + 2 + 12 * k) wr hsrc (by omega)).mono ?_
        rintro e w2 ⟨v, rfl, hv, hs2, hk2⟩
        have hown2 := own_keeps hown hk2 (by omega)
        have hgs2 : w.heap.size ≤ w2.heap.size := Nat.le_trans hkp.1.size hk2.1.size
        have hown1 : ∀ X, (w2.alloc (.cells #[X] 24)).ownsRow w.heap.size 24 1 (.slice (some ⟨g0, 0, none⟩) k cap0) k (zs.map FList.el) := fun X => hown2.alloc _
        have hnews : ∀ (X : Value) j u, [X][j]? = some u → (w2.alloc (.cells #[X] 24)).cell? ((⟨w2.heap.size, 0, none⟩ : Addr).add j) = some u := fun X => Cut.cell_one w2 _ _
        have hone : ∀ u ∈ [FList.el v], u.oneCell' = true := by intro u hu; rw [List.mem_singleton.1 hu]; rfl
        have hgk := Keeps.alloc (hkp.trans hk2) hs2 (.cells #[FList.el v] 24)
        have hsk := hs2.alloc (.cells #[FList.el v] 24)
        have HGK := Lib.hid hgk
        have HSK := Lib.hid hsk
        have HOK := Lib.hid hok
        clear hown hown2 hgk hsk hs2 hk2 hkp hsrc hok
        go_wp2_with (at_builtin; refine wpList_append_own _ rfl (.tmp 20) (.tmp 23) 30 rfl w.heap.size 24 i0 (.float .f32 0) 1 4 Tryz.underlying30 hi hz0 hz1 hz2 rfl (by decide) _ k (zs.map FList.el) rfl (hown1 _) ⟨w2.heap.size, 0, none⟩ 1 1 [FList.el v] rfl rfl (hnews _) hone (by unfold maxLen; omega) (by omega) (Nat.le_trans hgs2 (by simp)) ?_; intro v3 w3 hown3 hgrow3 hnil3; obtain ⟨g3, cap3, rfl⟩ := Joins.ownsRow_form hown3 (by omega))
        go_roundw
        case rel =>
          refine ⟨k + 1, zs ++ [v], by omega, by go_num, by rw [List.length_append, HZ.out]; rfl, fun z hz => ?_, FList.own_els HZ.out hown3, ⟨g3, cap3, rfl⟩, (HSK.out.grown hgrow3 (fun r hr => ?_)).mono (by omega), HGK.out.grown hgrow3 (fun r hr => ?_) hGw⟩
          · rcases List.mem_append.1 hz with h | h
            · exact HOK.out z h
            · rw [List.mem_singleton.1 h]; exact hv
          all_goals (have hr' : some g0 = some r := hr; cases hr'; omega)
        case measure => simp [intOf]; omega
      · go_wp2_with fail
        refine (drawFloat G (K + 2 + 12 * k) wr hsrc (by omega)).mono ?_
        rintro e w2 ⟨v, rfl, hv, hs2, hk2⟩
        have hown2 := own_keeps hown hk2 (by omega)
        have hgs2 : w.heap.size ≤ w2.heap.size := Nat.le_trans hkp.1.size hk2.1.size
        have hown1 : ∀ X, (w2.alloc (.cells #[X] 24)).ownsRow w.heap.size 24 1 (.slice (some ⟨g0, 0, none⟩) k cap0) k (zs.map FList.el) := fun X => hown2.alloc _
        have hnews : ∀ (X : Value) j u, [X][j]? = some u → (w2.alloc (.cells #[X] 24)).cell? ((⟨w2.heap.size, 0, none⟩ : Addr).add j) = some u := fun X => Cut.cell_one w2 _ _
        have hone : ∀ u ∈ [FList.el v], u.oneCell' = true := by intro u hu; rw [List.mem_singleton.1 hu]; rfl
        have hgk := Keeps.alloc (hkp.trans hk2) hs2 (.cells #[FList.el v] 24)
        have hsk := hs2.alloc (.cells #[FList.el v] 24)
        have HGK := Lib.hid hgk
        have HSK := Lib.hid hsk
        have HOK := Lib.hid hok
        clear hown hown2 hgk hsk hs2 hk2 hkp hsrc hok
        go_wp2_with (at_builtin; refine wpList_append_own _ rfl (.tmp 15) (.tmp 18) 30 rfl w.heap.size 24 i0 (.float .f32 0) 1 4 Tryz.underlying30 hi hz0 hz1 hz2 rfl (by decide) _ k (zs.map FList.el) rfl (hown1 _) ⟨w2.heap.size, 0, none⟩ 1 1 [FList.el v] rfl rfl (hnews _) hone (by unfold maxLen; omega) (by omega) (Nat.le_trans hgs2 (by simp)) ?_; intro v3 w3 hown3 hgrow3 hnil3; obtain ⟨g3, cap3, rfl⟩ := Joins.ownsRow_form hown3 (by omega))
        go_roundw
        case rel =>
          refine ⟨k + 1, zs ++ [v], by omega, by go_num, by rw [List.length_append, HZ.out]; rfl, fun z hz => ?_, FList.own_els HZ.out hown3, ⟨g3, cap3, rfl⟩, (HSK.out.grown hgrow3 (fun r hr => ?_)).mono (by omega), HGK.out.grown hgrow3 (fun r hr => ?_) hGw⟩
          · rcases List.mem_append.1 hz with h | h
            · exact HOK.out z h
            · rw [List.mem_singleton.1 h]; exact hv
          all_goals (have hr' : some g0 = some r := hr; cases hr'; omega)
        case measure => simp [intOf]; omega
    · have hkn : k = n := by omega
      subst hkn
      have i1 : ¬ (0 : Int) < (k : Int) - k := by omega
      have hin : FList.IsL wr (some ⟨g0, 0, none⟩) zs.length cap0 zs := FList.els_of_own (by rw [HZ.out]; exact hown) hok
      rw [HZ.out] at hin
      have HIN := Lib.hid hin
      have HKP := Lib.hid hkp
      clear hin hown hkp hsrc hok
      go_wp2
      exact bodyPost_ret (by simp [results, Tryz.results45, go_sem]) rfl ⟨zs, _, _, rfl, HIN.out, HKP.out⟩

/-- A new source. -/
theorem newSrc {w : World} {a : Option Addr} {len cap : Nat} (h : IsB w.heap.size w a len cap) : IsSrc w.heap.size 0 (w.alloc (.cells #[.slice a len cap, .int .i64 0, .int .u64 0] 86)) :=
  ⟨a, len, cap, 0, 0, Cut.new_block w _, Nat.le_refl _, by decide, h.keep fun b hb => ((Below.refl w.heap.size w).alloc (Nat.le_refl _) _).block b hb⟩

theorem Keeps.below {w w' : World} {ob : Obj} (h : Keeps w.heap.size (w.alloc ob) w') : Below w.heap.size w w' :=
  ((Below.refl w.heap.size w).alloc (Nat.le_refl _) _).trans h.1

def RetW (w : World) (e : Ending) (w' : World) : Prop := ∃ r : Nat, e = .returned (.float .f32 r) ∧ r < 4294967296 ∧ Below w.heap.size w w'

def RetWS (n : Nat) (w : World) (e : Ending) (w' : World) : Prop :=
  ∃ zs a cap, e = .returned (.slice a n cap) ∧ FList.IsL w' a n cap zs ∧ Below w.heap.size w w'

def RetP (G : Nat) (w : World) (e : Ending) (w' : World) : Prop := e = .returned (.pointer (some ⟨G, 0, none⟩)) ∧ IsSrc G 0 w' ∧ Below G w w'

set_option maxRecDepth 20000 in
theorem from0 (a : Option Addr) (len cap : Nat) (w : World) (h : IsB w.heap.size w a len cap) : Calls Tryz.prog 38 #[.slice a len cap] w (RetP w.heap.size w) := by
  go_enter Tryz.func38, Tryz.ntmps38
  go_wp2
  exact bodyPost_ret (by simp [results, Tryz.results38, go_sem]) rfl ⟨rfl, newSrc h, (Below.refl _ _).alloc (Nat.le_refl _) _⟩

set_option maxRecDepth 20000 in
set_option maxHeartbeats 3200000 in
theorem number (a : Option Addr) (len cap : Nat) (w : World) (h : IsB w.heap.size w a len cap) : Calls Tryz.prog 6 #[.slice a len cap] w (RetW w) := by
  go_enter Tryz.func6, Tryz.ntmps6
  go_wp2_with fail
  refine (from0 a len cap w h).mono ?_
  rintro e w1 ⟨rfl, hs1, hb1⟩
  go_wp2_with fail
  refine (one w.heap.size 0 2 w1 hs1 (by omega) (by omega) (by omega)).mono ?_
  rintro e w2 ⟨b, rfl, hs2, hk2⟩
  cases b
  · go_wp2_with fail
    refine (drawFloat _ 2 w2 hs2 (by omega)).mono ?_
    rintro e w3 ⟨x, rfl, hx, hs3, hk3⟩
    go_wp2
    exact bodyPost_ret (by simp [results, Tryz.results6, go_sem]) rfl ⟨_, rfl, hx, hb1.trans (hk2.1.trans hk3.1)⟩
  · go_wp2_with fail
    refine (pick _ 2 65536 w2 hs2 (by omega) (by omega) (by omega)).mono ?_
    rintro e w3 ⟨r3, rfl, _, hr3, hs3, hk3⟩
    have i3 : (r3 : Int) < 65536 := by omega
    go_wp2_with fail
    refine (pick _ 4 65536 w3 hs3 (by omega) (by omega) (by omega)).mono ?_
    rintro e w4 ⟨r4, rfl, _, hr4, hs4, hk4⟩
    have i4 : (r4 : Int) < 65536 := by omega
    go_wp2_with fail
    rw [show ((r3 : Int) * 65536 + (r4 : Int)) = ((r3 * 65536 + r4 : Nat) : Int) from by omega]
    refine (from_ _ w4 (by omega)).mono ?_
    rintro e w5 ⟨rfl, rfl⟩
    go_wp2
    exact bodyPost_ret (v := .float .f32 (r3 * 65536 + r4)) (by simp [results, Tryz.results6, go_sem]) rfl ⟨r3 * 65536 + r4, rfl, by omega, hb1.trans (hk2.1.trans (hk3.1.trans hk4.1))⟩

set_option maxRecDepth 20000 in
theorem numbers (a : Option Addr) (len cap n : Nat) (w : World) (h : IsB w.heap.size w a len cap) (hn : n ≤ 1000) : Calls Tryz.prog 10 #[.slice a len cap, .int .i64 (n : Int)] w (RetWS n w) := by
  go_enter Tryz.func10, Tryz.ntmps10
  go_wp2_with fail
  refine (from0 a len cap w h).mono ?_
  rintro e w1 ⟨rfl, hs1, hb1⟩
  go_wp2_with fail
  refine (drawFloats _ 0 n w1 hs1 (by omega) hn).mono ?_
  rintro e w2 ⟨zs, a2, cap2, rfl, hl, hk2⟩
  go_wp2
  exact bodyPost_ret (by simp [results, Tryz.results10, go_sem]) rfl ⟨_, _, _, rfl, hl, hb1.trans hk2.1⟩

end Src
end Go.Proofs.YtpmnjbgfdhhomaaGreatDoor
