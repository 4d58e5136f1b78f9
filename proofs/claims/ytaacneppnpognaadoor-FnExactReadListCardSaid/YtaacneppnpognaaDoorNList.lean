/- Reading a list of integers: the model's and the program's function. -/
import Derived.Test.YtaacneppnpognaaDoorCutW
import Derived.Test.YtaacneppnpognaaDoorInts
import Derived.Test.YtaacneppnpognaaDoorRead
import Derived.Test.YtaacneppnpognaaDoorShelf4
namespace Go.Proofs.YtaacneppnpognaaDoor
set_option linter.unusedSimpArgs false
set_option linter.unusedVariables false
open Go.RowKit
namespace NList
open Cut Ints

theorem parts_le (l : List UInt8) : ∀ p ∈ parts l, p.length ≤ l.length := by
  induction l with
  | nil => intro p hp; rw [List.mem_singleton.1 hp]; exact Nat.le_refl _
  | cons c r ih =>
    intro p hp
    by_cases hc : c = 44
    · subst hc
      rw [parts_mark] at hp
      rcases List.mem_cons.1 hp with rfl | hp
      · exact Nat.zero_le _
      · exact Nat.le_succ_of_le (ih p hp)
    · cases hq : parts r with
      | nil =>
        have := parts_len r
        rw [hq] at this; simp at this
      | cons q qs =>
        rw [parts_other hc hq] at hp
        rw [hq] at ih
        rcases List.mem_cons.1 hp with rfl | hp
        · exact Nat.succ_le_succ (ih q List.mem_cons_self)
        · exact Nat.le_succ_of_le (ih p (List.mem_cons_of_mem _ hp))

def none4 : List UInt8 := [110, 111, 110, 101]

/-- What a text reads as. -/
def LR (l : List UInt8) (zs : List Int) (b : Bool) : Prop :=
  (l = none4 ∧ zs = [] ∧ b = true) ∨
  (l ≠ none4 ∧ (parts l).length ≤ 64 ∧ b = true ∧ zs.length = (parts l).length ∧ ∀ (j : Nat) (p : List UInt8), (parts l)[j]? = some p → Dec.Reads p (zs.getD j 0) true) ∨
  (l ≠ none4 ∧ b = false ∧ zs = [] ∧ (64 < (parts l).length ∨ ((parts l).length ≤ 64 ∧ ∃ (j : Nat) (p : List UInt8), (parts l)[j]? = some p ∧ Dec.Reads p 0 false)))

theorem lr (l : List UInt8) : ∃ zs b, LR l zs b := by
  by_cases h1 : l = none4
  · exact ⟨[], true, .inl ⟨h1, rfl, rfl⟩⟩
  by_cases h2 : 64 < (parts l).length
  · exact ⟨[], false, .inr (.inr ⟨h1, rfl, rfl, .inl h2⟩)⟩
  by_cases h3 : ∃ (j : Nat) (p : List UInt8), (parts l)[j]? = some p ∧ Dec.Reads p 0 false
  · exact ⟨[], false, .inr (.inr ⟨h1, rfl, rfl, .inr ⟨by omega, h3⟩⟩)⟩
  refine ⟨(parts l).map fun p => Dec.val p, true, .inr (.inl ⟨h1, by omega, rfl, by rw [List.length_map], fun j p hp => ?_⟩)⟩
  have e : ((parts l).map fun p => Dec.val p).getD j 0 = Dec.val p := by
    rw [List.getD_eq_getElem?_getD, List.getElem?_map, hp]; rfl
  rw [e]
  obtain ⟨v, b, hr⟩ := Dec.reads p
  rcases hr with ⟨hb, hv, he⟩ | ⟨hb, hv, hn⟩
  · rw [← he, Dec.val_itoa]; exact .inl ⟨rfl, hv, rfl⟩
  · exact absurd ⟨j, p, hp, .inr ⟨rfl, rfl, hn⟩⟩ h3

theorem I_info : (Tryd.prog.info? 2).map (fun i => (i.zero, i.size, i.bytes)) = some (some (.int .i64 0), 1, 8) := by kernel_rfl

/-- Rows of two types lie in two blocks. -/
theorem ne_blocks {w : World} {B B' e e' g g' n n' cap cap' : Nat} {xs xs' : List Value} (h : w.ownsRow B e 1 (.slice (some ⟨g, 0, none⟩) n cap) n xs) (h' : w.ownsRow B' e' 1 (.slice (some ⟨g', 0, none⟩) n' cap') n' xs') (he : e ≠ e') : g ≠ g' := by
  rintro rfl
  obtain ⟨_, h | ⟨a, c, cur, hv, _, hh, _⟩⟩ := h
  · cases h.1
  obtain ⟨_, k | ⟨a', c', cur', hv', _, hh', _⟩⟩ := h'
  · cases k.1
  simp only [Value.slice.injEq, Option.some.injEq, Addr.mk.injEq] at hv hv'
  obtain ⟨⟨rfl, _⟩, _⟩ := hv
  obtain ⟨⟨rfl, _⟩, _⟩ := hv'
  rw [hh] at hh'
  simp only [Option.some.injEq, Obj.cells.injEq] at hh'
  exact he hh'.2.1

theorem reads_wf {p : List UInt8} {v : Int} {b : Bool} (h : Dec.Reads p v b) : (Lit.int .i64 v).wf = true := by
  have : -9223372036854775808 ≤ v ∧ v ≤ 9223372036854775807 := by
    rcases h with ⟨_, h, _⟩ | ⟨_, h, _⟩ <;> omega
  simpa [Lit.wf, IntKind.min, IntKind.max, IntKind.signed, IntKind.bits] using this

/-- A list of these integers that can be read. -/
def RetL (zs : List Int) (b : Bool) (w : World) (e : Ending) (w' : World) : Prop :=
  ∃ a cap, e = .returned (.tuple #[.slice a zs.length cap, .bool b]) ∧ IsInts w' a zs.length cap zs ∧ Below w.heap.size w w'

theorem isInts_nil (w : World) (a : Option Addr) (cap : Nat) (h : cap ≤ maxLen) : IsInts w a 0 cap [] := ⟨rfl, Nat.zero_le _, h, (fun n hn => by cases hn), 0, 0, fun h => absurd h (Nat.lt_irrefl _), fun i hi => absurd hi (Nat.not_lt_zero _)⟩

theorem reads_not {p : List UInt8} {v v' : Int} (h : Dec.Reads p v true) (h' : Dec.Reads p v' false) : False := by
  rcases h with ⟨_, h1, h2⟩ | ⟨h, _⟩
  · rcases h' with ⟨h, _⟩ | ⟨_, _, h3⟩
    · cases h
    · exact h3 v h1 h2
  · cases h

theorem reads_one {p : List UInt8} {v v' : Int} (h : Dec.Reads p v true) (h' : Dec.Reads p v' true) : v = v' := by
  rcases h with ⟨_, _, h2⟩ | ⟨h, _⟩
  · rcases h' with ⟨_, _, h3⟩ | ⟨h, _⟩
    · rw [← Dec.val_itoa v, ← Dec.val_itoa v', h2, h3]
    · cases h
  · cases h

/-- Every part reads as a number: then the answer is these numbers. -/
theorem lr_all {l : List UInt8} {zs0 zs : List Int} {b : Bool} (h : LR l zs0 b) (hno : l ≠ none4) (hn : (parts l).length ≤ 64) (hl : zs.length = (parts l).length) (hr : ∀ (j : Nat) (p : List UInt8), (parts l)[j]? = some p → Dec.Reads p (zs.getD j 0) true) : zs0 = zs ∧ b = true := by
  rcases h with ⟨h, _⟩ | ⟨_, _, hb, hl0, hr0⟩ | ⟨_, _, _, h | ⟨_, j, p, hp, h⟩⟩
  · exact absurd h hno
  · refine ⟨List.ext_getElem (by omega) fun j h1 h2 => ?_, hb⟩
    have hp : (parts l)[j]? = some (parts l)[j] := List.getElem?_eq_getElem (by omega)
    have := reads_one (hr0 j _ hp) (hr j _ hp)
    rw [List.getD_eq_getElem?_getD, List.getD_eq_getElem?_getD, List.getElem?_eq_getElem h1, List.getElem?_eq_getElem h2] at this
    exact this
  · omega
  · exact absurd h (fun h => reads_not (hr j p hp) h)

/-- A part reads as no number. -/
theorem lr_bad {l : List UInt8} {zs0 : List Int} {b : Bool} (h : LR l zs0 b) (hno : l ≠ none4) {j : Nat} {p : List UInt8} {v : Int} (hp : (parts l)[j]? = some p) (hr : Dec.Reads p v false) : zs0 = [] ∧ b = false := by
  rcases h with ⟨h, _⟩ | ⟨_, _, hb, hl0, hr0⟩ | ⟨_, h1, h2, _⟩
  · exact absurd h hno
  · exact absurd (hr0 j p hp) (fun h => reads_not h hr)
  · exact ⟨h2, h1⟩

theorem lr_many {l : List UInt8} {zs0 : List Int} {b : Bool} (h : LR l zs0 b) (hno : l ≠ none4) (hn : 64 < (parts l).length) : zs0 = [] ∧ b = false := by
  rcases h with ⟨h, _⟩ | ⟨_, h, _⟩ | ⟨_, h1, h2, _⟩
  · exact absurd h hno
  · omega
  · exact ⟨h2, h1⟩

theorem part_at {xs : List ByteArray} {l : List UInt8} (hx : xs.map (·.data.toList) = parts l) {j : Nat} (hj : j < xs.length) : (parts l)[j]? = some (xs[j]).data.toList := by
  rw [← hx, List.getElem?_map, List.getElem?_eq_getElem hj]; rfl

theorem own_ints {w : World} {B L : Nat} {e : TypeId} {v : Value} {zs : List Int} {x : Int} (hL : zs.length = L) (h : w.ownsRow B e 1 v (L + 1) (zs.map (Value.int .i64) ++ [Value.int .i64 x])) : w.ownsRow B e 1 v (L + 1) ((zs ++ [x]).map (Value.int .i64)) := by
  rw [List.map_append]
  exact h

theorem ints_of_own {w : World} {B e g cap : Nat} {zs : List Int} (h : w.ownsRow B e 1 (.slice (some ⟨g, 0, none⟩) zs.length cap) zs.length (zs.map (Value.int .i64))) (hwf : ∀ n ∈ zs, (Lit.int .i64 n).wf = true) : IsInts w (some ⟨g, 0, none⟩) zs.length cap zs := by
  have hc := h.cells rfl
  obtain ⟨h1, h | ⟨g', cap', cur, hv, hB, hh, hn, hm, hs, ht⟩⟩ := h
  · cases h.1
  simp only [Value.slice.injEq, Option.some.injEq, Addr.mk.injEq] at hv
  obtain ⟨⟨rfl, _⟩, _, rfl⟩ := hv
  refine ⟨rfl, hn, hm, hwf, g, 0, fun _ => rfl, fun i hi => ?_⟩
  have := hc i (.int .i64 (zs.getD i 0)) (by rw [List.getElem?_map, List.getD_eq_getElem?_getD, List.getElem?_eq_getElem hi]; rfl)
  rw [Addr.add_lit] at this
  exact this

set_option maxRecDepth 20000 in
set_option maxHeartbeats 1600000 in
theorem spec_numbers (s : ByteArray) (zs0 : List Int) (b : Bool) (w : World) (hs : s.size ≤ 1048576) (hr : LR s.data.toList zs0 b) :
    Calls Tryd.prog 27 #[.string s] w (RetL zs0 b w) := by
  obtain ⟨i0, hi, hz0, hz1, hz2⟩ := info_parts I_info
  have hsl : s.data.toList.length = s.size := Array.length_toList
  by_cases hno : s.data.toList = none4
  · obtain ⟨rfl, rfl⟩ : zs0 = [] ∧ b = true := by
      rcases hr with ⟨_, h1, h2⟩ | ⟨h, _⟩ | ⟨h, _⟩
      · exact ⟨h1, h2⟩
      · exact absurd hno h
      · exact absurd hno h
    have t1 : (s.toList == [110, 111, 110, 101]) = true := by rw [Dec.byte_list, hno]; rfl
    obtain rfl : s = ⟨#[110, 111, 110, 101]⟩ := by
      cases s with
      | mk d =>
        have : d = #[110, 111, 110, 101] := by rw [← Array.toArray_toList (xs := d)]; exact congrArg List.toArray hno
        rw [this]
    clear hr hsl hno t1
    go_enter Tryd.func27, Tryd.ntmps27
    go_wp2
    go_ret2
    exact ⟨_, _, rfl, isInts_nil _ _ _ (by unfold maxLen; omega), (Below.refl _ _).alloc (Nat.le_refl _) _⟩
  have t1 : (s.toList == [110, 111, 110, 101]) = false := by rw [Dec.byte_list]; simpa [none4] using hno
  have HR := Lib.hid hr
  have HNO := Lib.hid hno
  have HC := Lib.hid (fun w => spec_cut s w hs)
  clear hr hno
  go_enter Tryd.func27, Tryd.ntmps27
  go_wp2_with fail
  refine (HC.out _).mono ?_
  rintro e w1 ⟨gp, capp, xs, rfl, hpo, hpx, hb1⟩
  have hB1 : Below w.heap.size w w1 := ((Below.refl _ _).alloc (Nat.le_refl _) _).trans (hb1.mono (by simp))
  have hxl : (parts s.data.toList).length = xs.length := by rw [← hpx, List.length_map]
  have HPX := Lib.hid hpx
  clear hpx
  obtain ⟨n, hn⟩ : ∃ n, n = xs.length := ⟨_, rfl⟩
  rw [← hn] at hpo hxl ⊢
  have HN := Lib.hid hn
  clear hn
  by_cases hbig : 64 < n
  · obtain ⟨rfl, rfl⟩ := lr_many HR.out HNO.out (by rw [hxl]; exact hbig)
    clear hpo
    go_wp2
    go_ret2
    exact ⟨_, _, rfl, isInts_nil _ _ _ (by unfold maxLen; omega), hB1⟩
  have hp0 : w1.ownsRow w.heap.size 9 1 (.slice (some ⟨gp, 0, none⟩) n capp) n (xs.map Value.string) := Joins.ownsRow_le hpo (by simp)
  have ho0 : w1.ownsRow w.heap.size 2 1 (.slice (some ⟨w.heap.size, 0, none⟩) 0 0) 0 [] := own_below ⟨rfl, .inr ⟨w.heap.size, 0, #[], rfl, Nat.le_refl _, new_block w _, Nat.le_refl _, by unfold maxLen; omega, rfl, rfl⟩⟩ hb1
  have HP0 := Lib.hid hp0
  have HO0 := Lib.hid ho0
  have HB1 := Lib.hid hB1
  have HXL := Lib.hid hxl
  clear hpo hp0 ho0 hB1 hb1 hxl
  go_wp2
  go_loopw [4, 6, 7, 8] (fun o i u v wr => ∃ (k : Nat) (zs : List Int), k ≤ n ∧ i = .int .i64 k ∧ zs.length = k ∧ wr.ownsRow w.heap.size 2 1 o k (zs.map (Value.int .i64)) ∧ (∃ g cap, o = .slice (some ⟨g, 0, none⟩) k cap) ∧
      wr.ownsRow w.heap.size 9 1 (.slice (some ⟨gp, 0, none⟩) n capp) n (xs.map Value.string) ∧ (∀ (j : Nat) (p : List UInt8), j < k → (parts s.data.toList)[j]? = some p → Dec.Reads p (zs.getD j 0) true) ∧ Below w.heap.size w wr)
    (fun _ i _ _ _ => n - (intOf i).toNat)
  case atStart => exact ⟨0, [], Nat.zero_le _, rfl, rfl, HO0, ⟨_, _, rfl⟩, HP0, fun j p hj => absurd hj (Nat.not_lt_zero _), HB1⟩
  case round =>
    obtain ⟨k, zs, hk, rfl, hzl, hown, ⟨g0, cap0, rfl⟩, hpo, hrd, hbel⟩ := hrel
    have HRD := Lib.hid hrd
    have HZ := Lib.hid hzl
    clear hrd hzl
    by_cases hlt : k < n
    · have hkx : k < xs.length := by rw [← show n = xs.length from HN]; exact hlt
      have hcell : wr.cell? ⟨gp, k, none⟩ = some (.string xs[k]) := by
        have := hpo.cells rfl k (.string xs[k]) (by rw [List.getElem?_map, List.getElem?_eq_getElem hkx]; rfl)
        rw [Addr.add_lit, Nat.zero_add] at this
        exact this
      have HPA := Lib.hid (part_at HPX hkx)
      have hxs : (xs[k]).size ≤ maxLen := by
        have h1 := parts_le _ _ (List.mem_of_getElem? (show (parts s.data.toList)[k]? = some (xs[k]).data.toList from HPA))
        rw [hsl] at h1
        have h2 : (xs[k]).data.toList.length = (xs[k]).size := Array.length_toList
        unfold maxLen
        omega
      generalize xs[k] = x at *
      obtain ⟨v, bv, hv⟩ := Dec.reads x.data.toList
      have HV := Lib.hid hv
      have HC2 := Lib.hid (fun w => Dec.spec_value x v bv w hv hxs)
      have hgs : w.heap.size ≤ wr.heap.size := hbel.size
      have hg0 : w.heap.size ≤ g0 := (hown.lt g0 rfl).1
      have HPO := Lib.hid hpo
      have HOW := Lib.hid hown
      have HBE := Lib.hid hbel
      clear hv hxs hpo hown hbel
      cases bv
      · obtain ⟨rfl, rfl⟩ := lr_bad HR.out HNO.out HPA.out HV.out
        go_wp2_with fail
        refine (HC2.out _).mono ?_
        rintro e w2 ⟨rfl, hb2⟩
        go_wp2
        go_ret2
        exact ⟨_, _, rfl, isInts_nil _ _ _ (by unfold maxLen; omega), HBE.out.trans (hb2.mono hgs)⟩
      · go_wp2_with fail
        refine (HC2.out _).mono ?_
        rintro e w2 ⟨rfl, hb2⟩
        have hgs2 : w.heap.size ≤ w2.heap.size := Nat.le_trans hgs hb2.size
        have hB2 : Below w.heap.size w w2 := HBE.out.trans (hb2.mono hgs)
        have hown2 := own_below HOW.out hb2
        have hpo2 := own_below HPO.out hb2
        obtain ⟨L, hL⟩ : ∃ L, L = k := ⟨_, rfl⟩
        have hown1 : ∀ X, (w2.alloc (.cells #[.int .i64 X] 2)).ownsRow w.heap.size 2 1 (.slice (some ⟨g0, 0, none⟩) k cap0) k (zs.map (Value.int .i64)) := fun X => hown2.alloc _
        have hnews : ∀ X j u, [Value.int .i64 X][j]? = some u → (w2.alloc (.cells #[.int .i64 X] 2)).cell? ((⟨w2.heap.size, 0, none⟩ : Addr).add j) = some u := fun X => cell_one w2 _ _
        have hone : ∀ X, ∀ u ∈ [Value.int .i64 X], u.oneCell' = true := by intro X u hu; rw [List.mem_singleton.1 hu]; rfl
        have hne := ne_blocks (hpo2.alloc (.cells #[.int .i64 v] 2)) (hown1 v) (by decide)
        have HPO2 := Lib.hid hpo2
        have HB2 := Lib.hid hB2
        clear hown2 hpo2 hB2 hL hb2
        go_wp2_with (at_builtin; refine wpList_append_own _ rfl (.tmp 34) (.tmp 36) 27 rfl w.heap.size 2 i0 (.int .i64 0) 1 8 Tryd.underlying27 hi hz0 hz1 hz2 rfl (by decide) _ k (zs.map (Value.int .i64)) rfl (hown1 _) ⟨w2.heap.size, 0, none⟩ 1 1 [.int .i64 _] rfl rfl (hnews _) (hone _) (by unfold maxLen; omega) (by omega) (Nat.le_trans hgs2 (by simp)) ?_; intro v3 w3 hown3 hgrow3 hnil3; obtain ⟨g3, cap3, rfl⟩ := Joins.ownsRow_form hown3 (by omega))
        go_roundw
        case rel =>
          refine ⟨k + 1, zs ++ [v], by omega, by go_num, by rw [List.length_append, HZ.out]; rfl, own_ints HZ.out hown3, ⟨g3, cap3, rfl⟩, ?_, fun j p hj hp => ?_, ?_⟩
          · exact (HPO2.out.alloc _).kept hgrow3 (.inr (fun h => hne (Option.some.inj (show some gp = some g0 from h))))
          · by_cases hjk : j = k
            · subst hjk
              rw [HPA.out] at hp
              obtain rfl := Option.some.inj hp
              rw [List.getD_eq_getElem?_getD, List.getElem?_append_right (by rw [HZ.out]; exact Nat.le_refl _), HZ.out, Nat.sub_self]
              exact HV.out
            · have h1 := HRD.out j p (by omega) hp
              rw [List.getD_eq_getElem?_getD] at h1 ⊢
              rw [List.getElem?_append_left (by rw [HZ.out]; omega)]
              exact h1
          · exact Below.grown (HB2.out.alloc hgs2 _) hgrow3 (Nat.le_trans hgs2 (by simp)) (fun r hr => by have hr' : some g0 = some r := hr; cases hr'; exact hg0)
        case measure => simp [intOf]; omega
    · have hkn : k = n := by omega
      obtain ⟨rfl, rfl⟩ := lr_all HR.out HNO.out (by rw [HXL.out]; omega) (by rw [HZ.out, HXL.out]; exact hkn) (fun j p hp => HRD.out j p (by
        have := (List.getElem?_eq_some_iff.1 hp).1
        rw [HXL.out] at this; omega) hp)
      have hwf : ∀ m ∈ zs0, (Lit.int .i64 m).wf = true := fun m hm => by
        obtain ⟨j, hj, rfl⟩ := List.getElem_of_mem hm
        have hjn : j < (parts s.data.toList).length := by rw [HXL.out, ← hkn, ← HZ.out]; exact hj
        have h1 := HRD.out j _ (by rw [← HZ.out]; exact hj) (List.getElem?_eq_getElem hjn)
        rw [List.getD_eq_getElem?_getD, List.getElem?_eq_getElem hj] at h1
        exact reads_wf h1
      have hin : IsInts wr (some ⟨g0, 0, none⟩) zs0.length cap0 zs0 := ints_of_own (by rw [HZ.out]; exact hown) hwf
      have HIN := Lib.hid hin
      clear hin hown hpo hwf
      go_wp2
      go_ret2
      exact ⟨_, _, by rw [HZ.out]; rfl, HIN.out, hbel⟩
end NList
end Go.Proofs.YtaacneppnpognaaDoor
