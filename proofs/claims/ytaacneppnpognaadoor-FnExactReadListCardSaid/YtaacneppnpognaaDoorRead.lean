/- What a text reads as: the model's and the program's function. -/
import Derived.Test.YtaacneppnpognaaDoorDecC
import Derived.Test.YtaacneppnpognaaDoorShelf2
import Derived.Test.YtaacneppnpognaaDoorNumeral
import Derived.LoopTactic
import Derived.Lib.SmallJoins
import Derived.Lib.AtoiErrMem
namespace Go.Proofs.YtaacneppnpognaaDoor
set_option linter.unusedSimpArgs false
set_option linter.unusedVariables false
open Go.RowKit
namespace Dec

theorem Reads.val {s : List UInt8} {v : Int} {b : Bool} (h : Reads s v b) : (((-1000000000000000 ≤ val s ∧ val s ≤ 1000000000000000) → Lib.itoa (val s) = s → v = val s ∧ b = true) ∧
    ((¬ (-1000000000000000 ≤ val s ∧ val s ≤ 1000000000000000) ∨ ¬ Lib.itoa (val s) = s) → v = 0 ∧ b = false)) := by
  rcases h with ⟨hb, hv, he⟩ | ⟨hb, hv, hn⟩
  · have e : Dec.val s = v := by rw [← he, val_itoa]
    rw [e]
    exact ⟨fun _ _ => ⟨rfl, hb⟩, fun h => h.elim (fun h => absurd hv h) (fun h => absurd he h)⟩
  · exact ⟨fun h1 h2 => absurd h2 (hn _ h1), fun _ => ⟨hv, hb⟩⟩

theorem Reads.short {s : List UInt8} {v : Int} {b : Bool} (h : Reads s v b) (hl : ¬ (1 ≤ s.length ∧ s.length ≤ 17)) : v = 0 ∧ b = false := by
  rcases h with ⟨hb, hv, he⟩ | ⟨hb, hv, hn⟩
  · rw [← he] at hl
    exact absurd (itoa_len hv) hl
  · exact ⟨hv, hb⟩

theorem byte_lt (u : UInt8) : (u.toNat : Int) < 256 := by have := u.toNat_lt; omega

theorem byte_list (s : ByteArray) : s.toList = s.data.toList := ByteArray.toList_eq s

theorem head_at (s : ByteArray) (h : 0 < s.size) : s.data.toList.head? = some s[0] := by
  rw [List.head?_eq_getElem?, List.getElem?_eq_getElem (by rw [Array.length_toList]; exact h)]
  rfl

set_option maxRecDepth 20000 in
theorem spec_value (s : ByteArray) (v : Int) (b : Bool) (w : World) (hr : Reads s.data.toList v b) (hs : s.size ≤ maxLen) :
    Calls Tryd.prog 21 #[.string s] w fun e w' => e = .returned (.tuple #[.int .i64 v, .bool b]) ∧ Below w.heap.size w w' := by
  unfold maxLen at hs
  have HD := Lib.hid dec_loop
  have hsl : s.data.toList.length = s.size := Array.length_toList
  by_cases h1 : s.size < 1
  · obtain ⟨rfl, rfl⟩ := hr.short (by rw [hsl]; omega)
    have HR := Lib.hid hr
    clear hr
    go_enter Tryd.func21, Tryd.ntmps21
    go_wp2
    go_ret2
    exact ⟨rfl, Below.refl _ _⟩
  by_cases h2 : 17 < s.size
  · obtain ⟨rfl, rfl⟩ := hr.short (by rw [hsl]; omega)
    have HR := Lib.hid hr
    clear hr
    go_enter Tryd.func21, Tryd.ntmps21
    go_wp2
    go_ret2
    exact ⟨rfl, Below.refl _ _⟩
  have hRV := hr.val
  have HR := Lib.hid hRV
  have HL := Lib.hid hsl
  clear hr hRV hsl
  go_enter Tryd.func21, Tryd.ntmps21
  go_wp2
  go_loop [4, 5] (fun n i => ∃ k : Nat, k ≤ s.size ∧ i = .int .i64 k ∧ n = .int .i64 (sc s k : Nat)) (fun _ i => s.size - (intOf i).toNat)
  case atStart => exact ⟨0, Nat.zero_le _, rfl, rfl⟩
  case round =>
    obtain ⟨k, hk, rfl, rfl⟩ := hrel
    by_cases hlt : k < s.size
    · have hb := byte_lt s[k]
      have hbd : sc s k < 10 ^ 17 := Nat.lt_of_lt_of_le (sc_lt s k hk) (Nat.pow_le_pow_right (by omega) (by omega))
      have hstep : sc s (k + 1) = stepD (sc s k) s[k] := by rw [sc, dif_pos hlt]
      have HS := Lib.hid hstep; clear hstep
      generalize sc s k = c at *
      by_cases hd : 48 ≤ s[k].toNat ∧ s[k].toNat ≤ 57
      · have hv : stepD c s[k] = 10 * c + (s[k].toNat - 48) := by rw [stepD, if_pos hd]
        have HV := Lib.hid hv; clear hv
        obtain ⟨d1, d2⟩ := hd
        have t1 : decide ((48 : Int) ≤ (s[k].toNat : Int)) = true := by simp; omega
        have t2 : decide ((s[k].toNat : Int) ≤ 57) = true := by simp; omega
        go_wp2
        go_round
        case rel => exact ⟨k + 1, by omega, by go_num, by rw [HS.out, HV.out]; go_num⟩
        case measure => simp [intOf]; omega
      · have hv : stepD c s[k] = c := by rw [stepD, if_neg hd]
        have HV := Lib.hid hv; clear hv
        by_cases d1 : 48 ≤ s[k].toNat
        · have d2 : ¬ s[k].toNat ≤ 57 := fun h => hd ⟨d1, h⟩
          have t1 : decide ((48 : Int) ≤ (s[k].toNat : Int)) = true := by simp; omega
          have t2 : decide ((s[k].toNat : Int) ≤ 57) = false := by simp; omega
          clear hd
          go_wp2
          go_round
          case rel => exact ⟨k + 1, by omega, by go_num, by rw [HS.out, HV.out]⟩
          case measure => simp [intOf]; omega
        · have t1 : decide ((48 : Int) ≤ (s[k].toNat : Int)) = false := by simp; omega
          clear hd
          go_wp2
          go_round
          case rel => exact ⟨k + 1, by omega, by go_num, by rw [HS.out, HV.out]⟩
          case measure => simp [intOf]; omega
    · have hkl : k = s.size := by omega
      have hbd : sc s k < 10 ^ 17 := Nat.lt_of_lt_of_le (sc_lt s k hk) (Nat.pow_le_pow_right (by omega) (by omega))
      obtain ⟨N, hNN⟩ : ∃ N, sc s s.size = N := ⟨_, rfl⟩
      have hkN : sc s k = N := by rw [hkl, hNN]
      rw [hkN] at hbd ⊢
      have HK := Lib.hid hkl
      clear hkl hkN
      have hRV := HR.out
      have h00 : 0 < s.size := by omega
      by_cases h45 : s[0] = 45
      · have hneg : s.data.toList.head? = some 45 := by rw [head_at s h00, h45]
        have t3 : s[0].toNat = 45 := by rw [h45]; rfl
        clear h45
        have hV : val s.data.toList = -(N : Int) := by
          unfold val
          rw [if_pos hneg, ← sc_all, hNN]
        rw [hV] at hRV
        have HRV := Lib.hid hRV
        clear hRV hV
        by_cases hlo : -1000000000000000 ≤ -(N : Int)
        · by_cases hhi : -(N : Int) ≤ 1000000000000000
          · by_cases heq : Lib.itoa (-(N : Int)) = s.data.toList
            · obtain ⟨rfl, rfl⟩ := HRV.out.1 ⟨hlo, hhi⟩ heq
              have hes : (⟨(Lib.itoa (-(N : Int))).toArray⟩ : ByteArray) = s := by rw [heq]
              have hes2 : (Lib.itoa (-(N : Int)) == s.toList) = true := by rw [byte_list, heq]; simp
              go_wp2_with (first | (go_at_call 19; refine (HD.out _ (by omega) (by omega) _).mono ?_; rintro e w' ⟨rfl, hb⟩) | go_in)
              go_ret2
              exact ⟨rfl, by assumption⟩
            · obtain ⟨rfl, rfl⟩ := HRV.out.2 (.inr heq)
              have hes : ¬ (⟨(Lib.itoa (-(N : Int))).toArray⟩ : ByteArray) = s := fun h => heq (by rw [← h])
              have hes2 : (Lib.itoa (-(N : Int)) == s.toList) = false := by rw [byte_list]; simpa using heq
              go_wp2_with (first | (go_at_call 19; refine (HD.out _ (by omega) (by omega) _).mono ?_; rintro e w' ⟨rfl, hb⟩) | go_in)
              go_ret2
              exact ⟨rfl, by assumption⟩
          · exact absurd (by omega) hhi
        · obtain ⟨rfl, rfl⟩ := HRV.out.2 (.inl (fun h => hlo h.1))
          go_wp2_with (first | (go_at_call 19; refine (HD.out _ (by omega) (by omega) _).mono ?_; rintro e w' ⟨rfl, hb⟩) | go_in)
          go_ret2
          exact ⟨rfl, Below.refl _ _⟩
      · have hneg : ¬ s.data.toList.head? = some 45 := by rw [head_at s h00]; simpa using h45
        have t3 : ¬ (s[0].toNat : Int) = 45 := fun h => h45 (by
          have : s[0].toNat = (45 : UInt8).toNat := show s[0].toNat = 45 from by omega
          exact UInt8.toNat_inj.1 this)
        clear h45
        have hV : val s.data.toList = (N : Int) := by
          unfold val
          rw [if_neg hneg, ← sc_all, hNN]
        rw [hV] at hRV
        have HRV := Lib.hid hRV
        clear hRV hV
        by_cases hlo : -1000000000000000 ≤ (N : Int)
        · by_cases hhi : (N : Int) ≤ 1000000000000000
          · by_cases heq : Lib.itoa ((N : Int)) = s.data.toList
            · obtain ⟨rfl, rfl⟩ := HRV.out.1 ⟨hlo, hhi⟩ heq
              have hes : (⟨(Lib.itoa ((N : Int))).toArray⟩ : ByteArray) = s := by rw [heq]
              have hes2 : (Lib.itoa ((N : Int)) == s.toList) = true := by rw [byte_list, heq]; simp
              go_wp2_with (first | (go_at_call 19; refine (HD.out _ (by omega) (by omega) _).mono ?_; rintro e w' ⟨rfl, hb⟩) | go_in)
              go_ret2
              exact ⟨rfl, by assumption⟩
            · obtain ⟨rfl, rfl⟩ := HRV.out.2 (.inr heq)
              have hes : ¬ (⟨(Lib.itoa ((N : Int))).toArray⟩ : ByteArray) = s := fun h => heq (by rw [← h])
              have hes2 : (Lib.itoa ((N : Int)) == s.toList) = false := by rw [byte_list]; simpa using heq
              go_wp2_with (first | (go_at_call 19; refine (HD.out _ (by omega) (by omega) _).mono ?_; rintro e w' ⟨rfl, hb⟩) | go_in)
              go_ret2
              exact ⟨rfl, by assumption⟩
          · obtain ⟨rfl, rfl⟩ := HRV.out.2 (.inl (fun h => hhi h.2))
            go_wp2_with (first | (go_at_call 19; refine (HD.out _ (by omega) (by omega) _).mono ?_; rintro e w' ⟨rfl, hb⟩) | go_in)
            go_ret2
            exact ⟨rfl, Below.refl _ _⟩
        · exact absurd (by omega) hlo

theorem spec_read (s : ByteArray) (v : Int) (b : Bool) (w : World) (hr : Reads s.data.toList v b) (hs : s.size ≤ maxLen) :
    Calls Tryd.prog 9 #[.string s] w fun e w' => e = .returned (.tuple #[.int .i64 v, .bool b]) ∧ Below w.heap.size w w' := by
  have HC := Lib.hid (spec_value s v b w hr hs)
  clear hr hs
  go_enter Tryd.func9, Tryd.ntmps9
  go_wp2_with fail
  refine HC.out.mono ?_
  rintro e w1 ⟨rfl, hb1⟩
  go_wp2
  go_ret2
  exact ⟨rfl, hb1⟩

/-- What the program's reading asks of the memory: a table and two errors, as the program's text lays them. -/
def Tabs (w : World) : Prop := Lib.TabIs Tryd.prog w "internal/strconv.uint64pow10" .u64 Lib.pow10Tab ∧ (∃ te pe, w.cell? ⟨1, 0, none⟩ = some (.iface te pe)) ∧ ∃ te pe, w.cell? ⟨2, 0, none⟩ = some (.iface te pe)

theorem cell_block {w : World} {g : Nat} {v : Value} (h : w.cell? ⟨g, 0, none⟩ = some v) : g < w.heap.size := by
  rcases Nat.lt_or_ge g w.heap.size with h1 | h1
  · exact h1
  · have e : w.heap[g]? = none := Array.getElem?_eq_none h1
    simp [World.cell?, e] at h

theorem Tabs.on {w w' : World} {B : Nat} (h : Tabs w) (hb : Below B w w') (hB : w.heap.size ≤ B) : Tabs w' := by
  obtain ⟨h1, ⟨te, pe, h2⟩, te', pe', h3⟩ := h
  refine ⟨Joins.tab_stays (g := 0) (by kernel_rfl) h1 hb hB, ⟨te, pe, ?_⟩, te', pe', ?_⟩
  · rw [hb.cell (show (⟨1, 0, none⟩ : Addr).block < B from Nat.lt_of_lt_of_le (cell_block h2) hB)]; exact h2
  · rw [hb.cell (show (⟨2, 0, none⟩ : Addr).block < B from Nat.lt_of_lt_of_le (cell_block h3) hB)]; exact h3

/-- strconv.ParseInt as it is called: a number and no error, or an error. -/
theorem parse (s : ByteArray) (w : World) (hs : s.size ≤ 1048576) (ht : Tabs w) :
    Calls Tryd.prog 22 #[.string s, .int .i64 10, .int .i64 64] w fun e w' => Below w.heap.size w w' ∧ ((∃ u, Lib.parseIntB 64 s.data.toList = .ok u ∧ e = .returned (.tuple #[.int .i64 u, .nilIface])) ∨
      ((∀ u, Lib.parseIntB 64 s.data.toList ≠ .ok u) ∧ ∃ u p, e = .returned (.tuple #[.int .i64 u, .iface 63 (.pointer (some p))]))) := by
  obtain ⟨-, ⟨te, pe, h2⟩, te', pe', h3⟩ := ht
  cases h : Lib.parseIntB 64 s.data.toList
  · rename_i u
    refine (Tryd.strconv_ParseInt_10_at64_ok s (by omega) u h w).mono ?_
    rintro e w' ⟨rfl, hw⟩
    refine ⟨?_, .inl ⟨u, rfl, rfl⟩⟩
    rcases hw with rfl | ⟨t, rfl⟩
    · exact Below.refl _ _
    · exact Lib.bytesWorld_below _ _ _
  · refine (Tryd.strconv_ParseInt_10_at64_none s (by omega) h _ w h2 (.inr ⟨_, _, rfl⟩)).mono ?_
    rintro e w' ⟨N, rfl, _, _, hb⟩
    exact ⟨hb, .inr ⟨fun u hu => (nomatch hu), _, _, rfl⟩⟩
  · refine (Tryd.strconv_ParseInt_10_at64_range s (by omega) h _ w h3 (.inr ⟨_, _, rfl⟩)).mono ?_
    rintro e w' ⟨N, rfl, _, _, hb⟩
    exact ⟨hb, .inr ⟨fun u hu => (nomatch hu), _, _, rfl⟩⟩

set_option maxRecDepth 20000 in
theorem impl_read (s : ByteArray) (v : Int) (b : Bool) (w : World) (hr : Reads s.data.toList v b) (hs : s.size ≤ 1048576) (ht : Tabs w) :
    Calls Tryd.prog 10 #[.string s] w fun e w' => e = .returned (.tuple #[.int .i64 v, .bool b]) ∧ Below w.heap.size w w' := by
  have HP := Lib.hid (parse s w hs ht)
  have HT := Lib.hid ht
  have HR := Lib.hid hr
  have HD := Lib.hid impl_decimal
  clear hr hs ht
  go_enter Tryd.func10, Tryd.ntmps10
  go_wp2_with fail
  refine HP.out.mono ?_
  rintro e w1 ⟨hb1, ⟨u, hu, rfl⟩ | ⟨hu, u, p, rfl⟩⟩
  · have HU := Lib.hid hu
    clear hu
    have hz1 := hb1.size
    have HT1 := Lib.hid (HT.out.on hb1 (Nat.le_refl _)).1
    by_cases hlo : -1000000000000000 ≤ u
    · by_cases hhi : u ≤ 1000000000000000
      · by_cases heq : Lib.itoa u = s.data.toList
        · obtain ⟨rfl, rfl⟩ : v = u ∧ b = true := by
            rcases HR.out with ⟨h1, h2, h3⟩ | ⟨h1, h2, h3⟩
            · exact ⟨by rw [← val_itoa v, h3, ← heq, val_itoa], h1⟩
            · exact absurd heq (h3 u ⟨hlo, hhi⟩)
          have hes : (⟨(Lib.itoa v).toArray⟩ : ByteArray) = s := by rw [heq]
          have hes2 : (Lib.itoa v == s.toList) = true := by rw [byte_list, heq]; simp
          clear heq
          go_wp2_with (first | (go_at_call 8; refine (HD.out _ (by omega) (by omega) _ HT1.out).mono ?_; rintro e w' ⟨rfl, hb⟩) | go_in)
          go_ret2
          exact ⟨rfl, hb1.trans (Below.mono (by assumption) hz1)⟩
        · obtain ⟨rfl, rfl⟩ : v = 0 ∧ b = false := by
            rcases HR.out with ⟨h1, h2, h3⟩ | ⟨h1, h2, h3⟩
            · have h4 := HU.out
              rw [← h3, parse_itoa (by omega) (by omega)] at h4
              cases h4
              exact absurd h3 heq
            · exact ⟨h2, h1⟩
          have hes2 : (Lib.itoa u == s.toList) = false := by rw [byte_list]; simpa using heq
          go_wp2_with (first | (go_at_call 8; refine (HD.out _ (by omega) (by omega) _ HT1.out).mono ?_; rintro e w' ⟨rfl, hb⟩) | go_in)
          go_ret2
          exact ⟨rfl, hb1.trans (Below.mono (by assumption) hz1)⟩
      · obtain ⟨rfl, rfl⟩ : v = 0 ∧ b = false := by
          rcases HR.out with ⟨h1, h2, h3⟩ | ⟨h1, h2, h3⟩
          · have h4 := HU.out
            rw [← h3, parse_itoa (by omega) (by omega)] at h4
            cases h4
            exact absurd h2.2 hhi
          · exact ⟨h2, h1⟩
        go_wp2_with go_in
        go_ret2
        exact ⟨rfl, hb1⟩
    · obtain ⟨rfl, rfl⟩ : v = 0 ∧ b = false := by
        rcases HR.out with ⟨h1, h2, h3⟩ | ⟨h1, h2, h3⟩
        · have h4 := HU.out
          rw [← h3, parse_itoa (by omega) (by omega)] at h4
          cases h4
          exact absurd h2.1 hlo
        · exact ⟨h2, h1⟩
      go_wp2_with go_in
      go_ret2
      exact ⟨rfl, hb1⟩
  · obtain ⟨rfl, rfl⟩ : v = 0 ∧ b = false := by
      rcases HR.out with ⟨h1, h2, h3⟩ | ⟨h1, h2, h3⟩
      · exact absurd (by rw [← h3, parse_itoa (by omega) (by omega)]) (hu v)
      · exact ⟨h2, h1⟩
    clear hu
    go_wp2_with go_in
    go_ret2
    exact ⟨rfl, hb1⟩
end Dec
end Go.Proofs.YtaacneppnpognaaDoor
