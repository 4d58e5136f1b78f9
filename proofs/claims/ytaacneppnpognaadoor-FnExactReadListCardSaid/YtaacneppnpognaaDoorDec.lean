/- A number in decimal: the model's function. -/
import Derived.Test.YtaacneppnpognaaDoorRows
import Derived.Test.YtaacneppnpognaaDoorDigits
import Derived.WalkKit
import Derived.WalkLawsBesides
import Derived.OwnWalk
import Derived.Below
import Derived.LoopTactic
import Derived.Laws.BytesString
import Derived.Laws.AppendOwn
import Derived.Lib.Hide
import Derived.Lib.SmallJoins
import Derived.Lib.ItoaLen
import Derived.Laws.IdiomStrings
namespace Go.Proofs.YtaacneppnpognaaDoor
set_option linter.unusedSimpArgs false
set_option linter.unusedVariables false
open Go.RowKit
namespace Dec

def bv (l : List UInt8) : List Value := l.map fun b => Value.int .u8 ((b.toNat : Nat) : Int)
def sliceLen (v : Value) : Nat := match v with
  | .slice _ n _ => n
  | _ => 0
def meas (s i : Value) : Nat := (intOf i).natAbs * 2 + (if sliceLen s = 0 then 1 else 0)

theorem B_info : (Tryd.prog.info? 5).map (fun i => (i.zero, i.size, i.bytes)) = some (some (.int .u8 0), 1, 1) := by kernel_rfl

theorem own_below {w w' : World} {B e size n : Nat} {v : Value} {xs : List Value} (h : w.ownsRow B e size v n xs) (hb : Below w.heap.size w w') : w'.ownsRow B e size v n xs := by
  obtain ⟨h1, h2 | ⟨g, cap, cur, h3, h4, h5, h6⟩⟩ := h
  · exact ⟨h1, .inl h2⟩
  · refine ⟨h1, .inr ⟨g, cap, cur, h3, h4, ?_, h6⟩⟩
    rw [hb.block g (Array.getElem?_eq_some_iff.1 h5).1]
    exact h5

theorem new_block (w : World) (o : Obj) : (w.alloc o).heap[w.heap.size]? = some o := by
  show (w.heap.push o)[w.heap.size]? = some o
  simp

theorem bv_len (l : List UInt8) : (bv l).length = l.length := by simp [bv]
theorem bv_one (l : List UInt8) : ∀ u ∈ bv l, u.oneCell' = true := by
  intro u hu
  obtain ⟨b, _, rfl⟩ := List.mem_map.1 hu
  rfl

theorem conv_own {w : World} {B g k cap : Nat} {xs : List Value} {l : List UInt8} (h : w.ownsRow B 5 1 (.slice (some ⟨g, 0, none⟩) k cap) k xs) (hx : xs = bv l) (hk : k = l.length) : (convert 44 9 (.slice (some ⟨g, 0, none⟩) k cap)).run Tryd.prog w = .ok (.string ⟨l.toArray⟩) w := by
  subst hx; subst hk
  exact run_convert_bytes_back w 44 9 5 ⟨g, 0, none⟩ cap l Tryd.underlying44 Tryd.underlying5 Tryd.underlying9 (fun j hj => World.ownsRow.cells h rfl j _ (by simp [bv, hj]))

theorem tdiv_abs (r : Int) : (r.tdiv 10).natAbs = r.natAbs / 10 := by
  rw [Int.natAbs_tdiv]; rfl
theorem tmod_abs (r : Int) : (r.tmod 10).natAbs = r.natAbs % 10 := by
  rw [Int.natAbs_tmod]; rfl
theorem rest_in {r : Int} {N : Nat} (h : r.natAbs ≤ N) (hN : N ≤ 9223372036854775808) : wrap64 (r.tdiv 10) = r.tdiv 10 := by
  have h1 := tdiv_abs r
  unfold wrap64
  omega
theorem digit_of (d : Nat) (hd : d < 10) : (((UInt8.ofNat (48 + d)).toNat : Nat) : Int) = 48 + (d : Int) := by
  rw [UInt8.toNat_ofNat', Nat.mod_eq_of_lt (by omega)]; omega
theorem digit_pos {r : Int} (h : 0 ≤ r.tmod 10) : wrap64 (48 + r.tmod 10) % 256 = (((UInt8.ofNat (48 + r.natAbs % 10)).toNat : Nat) : Int) := by
  rw [digit_of _ (Nat.mod_lt _ (by omega))]
  have h1 := tmod_abs r
  have h2 : r.natAbs % 10 < 10 := Nat.mod_lt _ (by omega)
  unfold wrap64
  omega
theorem digit_neg {r : Int} (h : r.tmod 10 < 0) : wrap64 (48 + wrap64 (-r.tmod 10)) % 256 = (((UInt8.ofNat (48 + r.natAbs % 10)).toNat : Nat) : Int) := by
  rw [digit_of _ (Nat.mod_lt _ (by omega))]
  have h1 := tmod_abs r
  have h2 : r.natAbs % 10 < 10 := Nat.mod_lt _ (by omega)
  unfold wrap64
  omega

theorem Inv.le {N R : Nat} {acc : List UInt8} (h : Inv N R acc) : R ≤ N :=
  Nat.le_trans (Nat.le_mul_of_pos_right _ (Nat.pow_pos (by omega))) h.1

theorem step_rel {n r X : Int} {w w2 : World} {R L g2 cap2 : Nat} {acc : List UInt8} {v : Value} (hI : Inv n.natAbs R acc) (hgo : acc = [] ∨ R ≠ 0) (hr : r.natAbs = R) (hN : n.natAbs ≤ 9223372036854775808)
    (hX : X = (((UInt8.ofNat (48 + r.natAbs % 10)).toNat : Nat) : Int)) (hL : L = acc.length) (hown : w2.ownsRow w.heap.size 5 1 (.slice (some ⟨g2, 0, none⟩) (1 + L) cap2) (1 + L) ([.int .u8 X] ++ bv acc)) (hb : Below w.heap.size w w2) (hv : sliceLen v = L) :
    (∃ R r_1 acc, Inv n.natAbs R acc ∧ Value.int IntKind.i64 (wrap64 (r.tdiv 10)) = Value.int IntKind.i64 r_1 ∧ r_1.natAbs = R ∧ w2.ownsRow w.heap.size 5 1 (Value.slice (some ⟨g2, 0, none⟩) (1 + L) cap2) acc.length (bv acc) ∧
      (∃ g cap, Value.slice (some ⟨g2, 0, none⟩) (1 + L) cap2 = Value.slice (some ⟨g, 0, none⟩) acc.length cap) ∧ Below w.heap.size w w2) ∧
    meas (Value.slice (some ⟨g2, 0, none⟩) (1 + L) cap2) (Value.int IntKind.i64 (wrap64 (r.tdiv 10))) < meas v (Value.int IntKind.i64 r) := by
  subst hr; subst hX; subst hL
  have e := rest_in hI.le hN
  have ea := tdiv_abs r
  have el : acc.length + 1 = 1 + acc.length := Nat.add_comm _ _
  refine ⟨⟨_, _, _, hI.next hgo, congrArg _ e, ea, ?_, ⟨g2, cap2, ?_⟩, hb⟩, ?_⟩
  · rw [List.length_cons, el]; exact hown
  · rw [List.length_cons, el]
  · rw [e]
    have h1 : ¬ (1 + acc.length = 0) := by omega
    show (r.tdiv 10).natAbs * 2 + (if 1 + acc.length = 0 then 1 else 0) < r.natAbs * 2 + (if sliceLen v = 0 then 1 else 0)
    rw [if_neg h1, ea, hv]
    rcases hgo with rfl | hgo
    · show r.natAbs / 10 * 2 + 0 < r.natAbs * 2 + (if 0 = 0 then 1 else 0)
      rw [if_pos rfl]; omega
    · have : ¬ r.natAbs = 0 := hgo
      split <;> omega

theorem dec_end {n : Int} {R : Nat} {acc : List UInt8} (hI : Inv n.natAbs R acc) (h1 : acc ≠ []) (hR : R = 0) : acc = Lib.decDigits n.natAbs := hI.done h1 hR

set_option maxRecDepth 20000 in
theorem dec_loop (n : Int) (h0 : -9223372036854775808 ≤ n) (h1 : n ≤ 9223372036854775807) (w : World) : Calls Tryd.prog 19 #[.int .i64 n] w fun e w' => e = .returned (.string ⟨(Lib.itoa n).toArray⟩) ∧ Below w.heap.size w w' := by
  obtain ⟨i0, hi, hz0, hz1, hz2⟩ := info_parts B_info
  have HN := Lib.hid (And.intro h0 h1); clear h0 h1
  go_enter Tryd.func19, Tryd.ntmps19
  go_wp2
  go_loopw [3, 4] (fun s i wr => ∃ (R : Nat) (r : Int) (acc : List UInt8), Inv n.natAbs R acc ∧ i = .int .i64 r ∧ r.natAbs = R ∧ wr.ownsRow w.heap.size 5 1 s acc.length (bv acc) ∧ (∃ g cap, s = .slice (some ⟨g, 0, none⟩) acc.length cap) ∧ Below w.heap.size w wr)
    (fun s i _ => meas s i)
  case atStart =>
    refine ⟨n.natAbs, n, [], Inv.start n.natAbs, rfl, rfl, ⟨rfl, .inr ⟨w.heap.size, 0, #[], rfl, by omega, new_block _ _, Nat.le_refl _, by unfold maxLen; omega, rfl, rfl⟩⟩, ⟨_, _, rfl⟩, ?_⟩
    exact (Below.refl _ _).alloc (Nat.le_refl _) _
  case round =>
    obtain ⟨R, r, acc, hinv, rfl, hrR, hown, ⟨g0, cap0, rfl⟩, hbel⟩ := hrel
    have hgs : w.heap.size ≤ wr.heap.size := hbel.size
    have hown1 : ∀ X, (wr.alloc (.cells #[.int .u8 X] 5)).ownsRow w.heap.size 5 1 (.slice (some ⟨wr.heap.size, 0, none⟩) 1 1) 1 [.int .u8 X] := fun X => World.ownsRow_lit wr #[.int .u8 X] 1 hgs (by unfold maxLen; omega) rfl
    have hnews : ∀ X j u, (bv acc)[j]? = some u → (wr.alloc (.cells #[.int .u8 X] 5)).cell? ((⟨g0, 0, none⟩ : Addr).add j) = some u := fun X => (hown.alloc _).cells rfl
    have HO := Lib.hid hown; clear hown
    have HI := Lib.hid hinv; clear hinv
    have HR := Lib.hid hrR; clear hrR
    have hlen : (bv acc).length = acc.length * 1 := by rw [bv_len, Nat.mul_one]
    have hone := bv_one acc
    obtain ⟨L, hL⟩ : ∃ L, L = acc.length := ⟨_, rfl⟩
    rw [← hL] at HO hlen ⊢
    have HL := Lib.hid hL; clear hL
    have hconv := conv_own HO rfl HL
    have HN1 : -9223372036854775808 ≤ n ∧ n ≤ 9223372036854775807 := HN
    have HN2 : n.natAbs ≤ 9223372036854775808 := by omega
    by_cases h0 : L = 0
    · subst h0
      go_wp2_with fail
      all_goals
        have ha : acc = [] := List.length_eq_zero_iff.1 (show acc.length = 0 from Eq.symm (show 0 = acc.length from HL))
        subst ha
      · exact step_rel HI (.inl rfl) HR HN2 (digit_neg (by assumption)) rfl (hown1 _) (hbel.alloc hgs _) rfl
      · exact step_rel HI (.inl rfl) HR HN2 (digit_pos (by assumption)) rfl (hown1 _) (hbel.alloc hgs _) rfl
    · have hd : ((L : Int) == 0) = false := by simp; omega
      have HR1 : r.natAbs = R := HR
      have hne : acc ≠ [] := fun h => h0 (by rw [show L = acc.length from HL, h]; rfl)
      by_cases hR : r = 0
      · subst hR
        by_cases hn : n < 0
        · have hnd : decide (n < 0) = true := decide_eq_true hn
          have hL18 : L ≤ 21 := by
            have h5 := Lib.itoa_length_le n HN1.1 HN1.2
            rw [Lib.itoa, if_pos hn, List.length_cons, ← dec_end HI hne (Eq.symm HR1)] at h5
            rw [show L = acc.length from HL]
            omega
          go_wp2_with (at_builtin; refine wpList_append_own _ rfl (.tmp 31) (.tmp 32) 44 rfl w.heap.size 5 i0 (.int .u8 0) 1 1 Tryd.underlying44 hi hz0 hz1 hz2 rfl (by decide) _ 1 _ rfl (hown1 _) ⟨g0, 0, none⟩ L cap0 (bv acc) rfl hlen (hnews _) hone (by unfold maxLen; omega) (by omega) (Nat.le_trans hgs (by simp)) ?_; intro v2 w2 hown2 hgrow2 hnil2; obtain ⟨g2, cap2, rfl⟩ := Joins.ownsRow_form hown2 (by omega); have hconv2 := conv_own (l := 45 :: acc) hown2 rfl (by rw [List.length_cons, ← show L = acc.length from HL]; omega))
          have hs : (45 :: acc) = Lib.itoa n := by rw [dec_end HI hne (Eq.symm HR1), Lib.itoa, if_pos hn]
          go_ret
          refine ⟨by rw [hs]; rfl, (Below.grown (hbel.alloc hgs _) hgrow2 (Nat.le_trans hgs (by simp)) (fun k hk => by have hk' : some wr.heap.size = some k := hk; cases hk'; exact hgs))⟩
        · have hnd : decide (n < 0) = false := decide_eq_false hn
          go_wp2_with fail
          have hs : acc = Lib.itoa n := by rw [dec_end HI hne (Eq.symm HR1), Lib.itoa, if_neg (by omega), show n.natAbs = n.toNat from by omega]
          go_ret
          exact ⟨by rw [hs]; rfl, hbel⟩
      · have hr : (r != 0) = true := by simp; omega
        have hR0 : R ≠ 0 := fun h => hR (Int.natAbs_eq_zero.1 (Eq.trans HR1 h))
        have hL18 : L ≤ 19 := by rw [show L = acc.length from HL]; exact Nat.le_trans (Inv.short HI HN2 (.inr hR0)) (by omega)
        by_cases hm : r.tmod 10 < 0
        · have hmd : decide (r.tmod 10 < 0) = true := decide_eq_true hm
          go_wp2_with (at_builtin; refine wpList_append_own _ rfl (.tmp 24) (.tmp 25) 44 rfl w.heap.size 5 i0 (.int .u8 0) 1 1 Tryd.underlying44 hi hz0 hz1 hz2 rfl (by decide) _ 1 _ rfl (hown1 _) ⟨g0, 0, none⟩ L cap0 (bv acc) rfl hlen (hnews _) hone (by unfold maxLen; omega) (by omega) (Nat.le_trans hgs (by simp)) ?_; intro v2 w2 hown2 hgrow2 hnil2; obtain ⟨g2, cap2, rfl⟩ := Joins.ownsRow_form hown2 (by omega))
          exact step_rel HI (.inr hR0) HR HN2 (digit_neg hm) HL hown2 (Below.grown (hbel.alloc hgs _) hgrow2 (Nat.le_trans hgs (by simp)) (fun k hk => by have hk' : some wr.heap.size = some k := hk; cases hk'; exact hgs)) rfl
        · have hmd : decide (r.tmod 10 < 0) = false := decide_eq_false hm
          go_wp2_with (at_builtin; refine wpList_append_own _ rfl (.tmp 24) (.tmp 25) 44 rfl w.heap.size 5 i0 (.int .u8 0) 1 1 Tryd.underlying44 hi hz0 hz1 hz2 rfl (by decide) _ 1 _ rfl (hown1 _) ⟨g0, 0, none⟩ L cap0 (bv acc) rfl hlen (hnews _) hone (by unfold maxLen; omega) (by omega) (Nat.le_trans hgs (by simp)) ?_; intro v2 w2 hown2 hgrow2 hnil2; obtain ⟨g2, cap2, rfl⟩ := Joins.ownsRow_form hown2 (by omega))
          exact step_rel HI (.inr hR0) HR HN2 (digit_pos (by omega)) HL hown2 (Below.grown (hbel.alloc hgs _) hgrow2 (Nat.le_trans hgs (by simp)) (fun k hk => by have hk' : some wr.heap.size = some k := hk; cases hk'; exact hgs)) rfl
end Dec
end Go.Proofs.YtaacneppnpognaaDoor
