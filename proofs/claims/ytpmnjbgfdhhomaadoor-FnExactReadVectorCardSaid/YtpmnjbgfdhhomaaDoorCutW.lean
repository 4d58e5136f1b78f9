/- The model's cutting of a text at commas. -/
import Derived.Test.YtpmnjbgfdhhomaaDoorRows
import Derived.Test.YtpmnjbgfdhhomaaDoorCut
import Derived.WalkKit
import Derived.WalkLawsBesides
import Derived.OwnWalk
import Derived.Below
import Derived.LoopTactic
import Derived.Laws.AppendOwn
import Derived.Lib.Hide
import Derived.Lib.SmallJoins
import Derived.Lib.Strings
namespace Go.Proofs.YtpmnjbgfdhhomaaDoor
set_option linter.unusedSimpArgs false
set_option linter.unusedVariables false
open Go.RowKit
namespace Cut

theorem S_info : (Tryd.prog.info? 9).map (fun i => (i.zero, i.size, i.bytes)) = some (some (.string ⟨#[]⟩), 1, 16) := by kernel_rfl

theorem own_below {w w' : World} {B e size n : Nat} {v : Value} {xs : List Value} (h : w.ownsRow B e size v n xs) (hb : Below w.heap.size w w') : w'.ownsRow B e size v n xs := by
  obtain ⟨h1, h2 | ⟨g, cap, cur, h3, h4, h5, h6⟩⟩ := h
  · exact ⟨h1, .inl h2⟩
  · refine ⟨h1, .inr ⟨g, cap, cur, h3, h4, ?_, h6⟩⟩
    rw [hb.block g (Array.getElem?_eq_some_iff.1 h5).1]
    exact h5

theorem new_block (w : World) (o : Obj) : (w.alloc o).heap[w.heap.size]? = some o := by
  show (w.heap.push o)[w.heap.size]? = some o
  simp

theorem cell_one (w : World) (x : Value) (t : TypeId) : ∀ j u, [x][j]? = some u → (w.alloc (.cells #[x] t)).cell? ((⟨w.heap.size, 0, none⟩ : Addr).add j) = some u := by
  intro j u hj
  match j, hj with
  | 0, hj => simp at hj; subst hj; simp [Addr.add]

/-- No comma from f on up to i. -/
def Free (l : List UInt8) (f i : Nat) : Prop := ∀ c ∈ (l.drop f).take (i - f), c ≠ 44

theorem Free.start (l : List UInt8) (f : Nat) : Free l f f := by
  intro c hc
  rw [Nat.sub_self, List.take_zero] at hc
  cases hc

theorem Free.next {l : List UInt8} {f i : Nat} (h : Free l f i) (hf : f ≤ i) (hi : i < l.length) (hc : l[i] ≠ 44) : Free l f (i + 1) := by
  intro c hm
  rw [show i + 1 - f = (i - f) + 1 by omega, List.take_add_one, List.getElem?_drop, show f + (i - f) = i by omega, List.getElem?_eq_getElem hi] at hm
  rcases List.mem_append.1 hm with hm | hm
  · exact h c hm
  · rw [List.mem_singleton.1 hm]; exact hc

theorem at_mark {l : List UInt8} {f i : Nat} (h : Free l f i) (hf : f ≤ i) (hi : i < l.length) (hc : l[i] = 44) : parts (l.drop f) = (l.drop f).take (i - f) :: parts (l.drop (i + 1)) := by
  have e : l.drop f = (l.drop f).take (i - f) ++ 44 :: l.drop (i + 1) := by
    conv => lhs; rw [← List.take_append_drop (i - f) (l.drop f)]
    rw [List.drop_drop, show f + (i - f) = i by omega, List.drop_eq_getElem_cons hi, hc]
  conv => lhs; rw [e]
  exact parts_cut _ _ h

theorem at_end {l : List UInt8} {f : Nat} (h : Free l f l.length) (hf : f ≤ l.length) : parts (l.drop f) = [(l.drop f).take (l.length - f)] := by
  have e : (l.drop f).take (l.length - f) = l.drop f := List.take_of_length_le (by rw [List.length_drop]; exact Nat.le_refl _)
  unfold Free at h
  rw [e] at h ⊢
  exact parts_one _ h

/-- Where the cutting stands. -/
def Stands (l : List UInt8) (f i : Nat) (xs : List ByteArray) : Prop :=
  (i ≤ l.length ∧ f ≤ i ∧ Free l f i ∧ xs.map (·.data.toList) ++ parts (l.drop f) = parts l) ∨ (i = l.length + 1 ∧ xs.map (·.data.toList) = parts l)

theorem piece (s : ByteArray) (f i : Nat) : (s.extract f i).data.toList = (s.data.toList.drop f).take (i - f) := Lib.extract_data s f i

theorem stands_mark {s : ByteArray} {F I : Nat} {xs : List ByteArray} (h : Stands s.data.toList F I xs) (hI : I < s.data.toList.length) (hc : s.data.toList[I] = 44) : Stands s.data.toList (I + 1) (I + 1) (xs ++ [s.extract F I]) := by
  rcases h with ⟨_, hf, hfree, he⟩ | ⟨h, _⟩
  · refine .inl ⟨hI, Nat.le_refl _, Free.start _ _, ?_⟩
    rw [List.map_append, List.map_cons, List.map_nil, piece, List.append_assoc, List.singleton_append, ← at_mark hfree hf hI hc]
    exact he
  · omega

theorem stands_end {s : ByteArray} {F I : Nat} {xs : List ByteArray} (h : Stands s.data.toList F I xs) (hI : I = s.data.toList.length) : Stands s.data.toList (I + 1) (I + 1) (xs ++ [s.extract F I]) := by
  rcases h with ⟨_, hf, hfree, he⟩ | ⟨h, _⟩
  · refine .inr ⟨by omega, ?_⟩
    rw [hI] at hfree hf
    rw [List.map_append, List.map_cons, List.map_nil, piece, hI, ← at_end hfree hf]
    exact he
  · omega

theorem stands_other {s : ByteArray} {F I : Nat} {xs : List ByteArray} (h : Stands s.data.toList F I xs) (hI : I < s.data.toList.length) (hc : s.data.toList[I] ≠ 44) : Stands s.data.toList F (I + 1) xs := by
  rcases h with ⟨_, hf, hfree, he⟩ | ⟨h, _⟩
  · exact .inl ⟨hI, by omega, hfree.next hf hI hc, he⟩
  · omega

theorem own_app {w : World} {B L : Nat} {e : TypeId} {v : Value} {xs : List ByteArray} {x : ByteArray} (hL : L = xs.length) (h : w.ownsRow B e 1 v (L + 1) (xs.map Value.string ++ [Value.string x])) : w.ownsRow B e 1 v (xs ++ [x]).length ((xs ++ [x]).map Value.string) := by
  rw [List.length_append, List.map_append, ← hL]
  exact h

set_option maxRecDepth 20000 in
set_option maxHeartbeats 1600000 in
theorem spec_cut (s : ByteArray) (w : World) (hs : s.size ≤ 1048576) :
    Calls Tryd.prog 46 #[.string s, .int .u8 44] w fun e w' => ∃ (g cap : Nat) (xs : List ByteArray), e = .returned (.slice (some ⟨g, 0, none⟩) xs.length cap) ∧ w'.ownsRow w.heap.size 9 1 (.slice (some ⟨g, 0, none⟩) xs.length cap) xs.length (xs.map Value.string) ∧
      xs.map (·.data.toList) = parts s.data.toList ∧ Below w.heap.size w w' := by
  obtain ⟨i0, hi, hz0, hz1, hz2⟩ := info_parts S_info
  have hsl : s.data.toList.length = s.size := Array.length_toList
  have HSL := Lib.hid hsl
  clear hsl
  go_enter Tryd.func46, Tryd.ntmps46
  go_wp2
  go_loopw [5, 6, 7] (fun o f i wr => ∃ (F I : Nat) (xs : List ByteArray), f = .int .i64 F ∧ i = .int .i64 I ∧ wr.ownsRow w.heap.size 9 1 o xs.length (xs.map Value.string) ∧ (∃ g cap, o = .slice (some ⟨g, 0, none⟩) xs.length cap) ∧ xs.length ≤ I ∧ F ≤ I ∧ I ≤ s.size + 1 ∧ Stands s.data.toList F I xs ∧ Below w.heap.size w wr)
    (fun _ _ i _ => s.size + 1 - (intOf i).toNat)
  case atStart =>
    refine ⟨0, 0, [], rfl, rfl, ⟨rfl, .inr ⟨w.heap.size, 0, #[], rfl, by omega, new_block _ _, Nat.le_refl _, by unfold maxLen; omega, rfl, rfl⟩⟩, ⟨_, _, rfl⟩, Nat.le_refl _, Nat.le_refl _, by omega, .inl ⟨Nat.zero_le _, Nat.le_refl _, Free.start _ _, rfl⟩, ?_⟩
    exact (Below.refl _ _).alloc (Nat.le_refl _) _
  case round =>
    obtain ⟨F, I, xs, rfl, rfl, hown, ⟨g0, cap0, rfl⟩, hxl, hFI, hIs, hst, hbel⟩ := hrel
    have hgs : w.heap.size ≤ wr.heap.size := hbel.size
    have hg0 : w.heap.size ≤ g0 := (hown.lt g0 rfl).1
    obtain ⟨L, hL⟩ : ∃ L, L = xs.length := ⟨_, rfl⟩
    rw [← hL] at hown hxl ⊢
    have hown1 : ∀ X, (wr.alloc (.cells #[.string X] 9)).ownsRow w.heap.size 9 1 (.slice (some ⟨g0, 0, none⟩) L cap0) L (xs.map Value.string) := fun X => hown.alloc _
    have hnews : ∀ X j u, [Value.string X][j]? = some u → (wr.alloc (.cells #[.string X] 9)).cell? ((⟨wr.heap.size, 0, none⟩ : Addr).add j) = some u := fun X => cell_one wr _ _
    have hone : ∀ X, ∀ u ∈ [Value.string X], u.oneCell' = true := by intro X u hu; rw [List.mem_singleton.1 hu]; rfl
    have HO := Lib.hid hown; clear hown
    have HL := Lib.hid hL; clear hL
    have HST := Lib.hid hst; clear hst
    by_cases hIl : I ≤ s.size
    · by_cases hIe : I = s.size
      · subst hIe
        go_wp2_with (at_builtin; refine wpList_append_own _ rfl (.tmp 26) (.tmp 31) 59 rfl w.heap.size 9 i0 (.string ⟨#[]⟩) 1 16 Tryd.underlying59 hi hz0 hz1 hz2 rfl (by decide) _ L (xs.map Value.string) rfl (hown1 _) ⟨wr.heap.size, 0, none⟩ 1 1 [.string _] rfl rfl (hnews _) (hone _) (by unfold maxLen; omega) (by omega) (Nat.le_trans hgs (by simp)) ?_; intro v2 w2 hown2 hgrow2 hnil2; obtain ⟨g2, cap2, rfl⟩ := Joins.ownsRow_form hown2 (by omega))
        go_roundw
        case rel =>
          refine ⟨s.size + 1, s.size + 1, xs ++ [s.extract F s.size], by go_num, by go_num, own_app HL hown2, ⟨g2, cap2, by rw [List.length_append, ← show L = xs.length from HL]; rfl⟩, by rw [List.length_append, ← show L = xs.length from HL]; exact Nat.succ_le_succ hxl, Nat.le_refl _, Nat.le_refl _, stands_end HST HSL.out.symm, (Below.grown (hbel.alloc hgs _) hgrow2 (Nat.le_trans hgs (by simp)) (fun k hk => by have hk' : some g0 = some k := hk; cases hk'; exact hg0))⟩
        case measure => simp [intOf]
      · have t1 : ((I : Int) == (s.size : Int)) = false := by simp; omega
        have hlt : I < s.size := by omega
        by_cases h44 : s[I] = 44
        · have t2 : s[I].toNat = 44 := by rw [h44]; rfl
          have H44 := Lib.hid h44; clear h44
          go_wp2_with (at_builtin; refine wpList_append_own _ rfl (.tmp 26) (.tmp 31) 59 rfl w.heap.size 9 i0 (.string ⟨#[]⟩) 1 16 Tryd.underlying59 hi hz0 hz1 hz2 rfl (by decide) _ L (xs.map Value.string) rfl (hown1 _) ⟨wr.heap.size, 0, none⟩ 1 1 [.string _] rfl rfl (hnews _) (hone _) (by unfold maxLen; omega) (by omega) (Nat.le_trans hgs (by simp)) ?_; intro v2 w2 hown2 hgrow2 hnil2; obtain ⟨g2, cap2, rfl⟩ := Joins.ownsRow_form hown2 (by omega))
          go_roundw
          case rel =>
            refine ⟨I + 1, I + 1, xs ++ [s.extract F I], by go_num, by go_num, own_app HL hown2, ⟨g2, cap2, by rw [List.length_append, ← show L = xs.length from HL]; rfl⟩, by rw [List.length_append, ← show L = xs.length from HL]; exact Nat.succ_le_succ hxl, Nat.le_refl _, by omega, stands_mark HST (by rw [HSL.out]; exact hlt) H44.out, (Below.grown (hbel.alloc hgs _) hgrow2 (Nat.le_trans hgs (by simp)) (fun k hk => by have hk' : some g0 = some k := hk; cases hk'; exact hg0))⟩
          case measure => simp [intOf]; omega
        · have t2 : ¬ (s[I].toNat : Int) = 44 := fun h => h44 (by
            have : s[I].toNat = (44 : UInt8).toNat := show s[I].toNat = 44 from by omega
            exact UInt8.toNat_inj.1 this)
          have H44 := Lib.hid h44; clear h44
          go_wp2_with fail
          go_roundw
          case rel =>
            refine ⟨F, I + 1, xs, rfl, by go_num, by rw [← show L = xs.length from HL]; exact HO, ⟨g0, cap0, by rw [← show L = xs.length from HL]⟩, by rw [← show L = xs.length from HL]; omega, by omega, by omega, stands_other HST (by rw [HSL.out]; exact hlt) H44.out, hbel⟩
          case measure => simp [intOf]; omega
    · go_wp2_with fail
      go_ret
      refine ⟨g0, cap0, xs, by rw [← show L = xs.length from HL]; rfl, by rw [← show L = xs.length from HL]; exact HO, ?_, hbel⟩
      have hst := HST.out
      rcases hst with ⟨h, _⟩ | ⟨_, h⟩
      · rw [HSL.out] at h; omega
      · exact h
end Cut
end Go.Proofs.YtpmnjbgfdhhomaaDoor
