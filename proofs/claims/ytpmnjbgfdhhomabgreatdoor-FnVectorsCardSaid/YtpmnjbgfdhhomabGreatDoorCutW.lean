/- The model's cutting of a text at commas. -/
import Derived.Test.YtpmnjbgfdhhomabGreatDoorRows
import Derived.Test.YtpmnjbgfdhhomabGreatDoorCut
import Derived.WalkKit
import Derived.WalkLawsBesides
import Derived.OwnWalk
import Derived.Below
import Derived.LoopTactic
import Derived.Laws.AppendOwn
import Derived.Lib.Hide
import Derived.Lib.SmallJoins
import Derived.Lib.Strings
namespace Go.Proofs.YtpmnjbgfdhhomabGreatDoor
set_option linter.unusedSimpArgs false
set_option linter.unusedVariables false
open Go.RowKit
namespace Cut

theorem S_info : (Tryz.prog.info? 9).map (fun i => (i.zero, i.size, i.bytes)) = some (some (.string ⟨#[]⟩), 1, 16) := by kernel_rfl

theorem own_below {w w' : World} {B e size n : Nat} {v : Value} {xs : List Value} (h : w.ownsRow B e size v n xs) (hb : Below w.heap.size w w') : w'.ownsRow B e size v n xs := by
  obtain ⟨h1, h2 | ⟨g, cap, cur, h3, h4, h5, h6⟩⟩ := h
  · exact ⟨h1, .inl h2⟩
  · refine ⟨h1, .inr ⟨g, cap, cur, h3, h4, ?_, h6⟩⟩
    rw [hb.block g (Array.getElem?_eq_some_iff.1 h5).1]
    exact h5

theorem new_block (w : World) (o : Obj) : (w.alloc o).heap[w.heap.size]? = some o := by
  show (w.heap.push o)[w.heap.size]? = some o
  simp

theorem cell_one (w : World) (x : Value) (t : TypeId) : ∀ j u, [x][j]? = some u → (w.alloc (.cells #[x] t)).cell? ((⟨w.heap.size, 0, none⟩ : Addr).add j) = some u := by
  intro j u hj
  match j, hj with
  | 0, hj => simp at hj; subst hj; simp [Addr.add]

/-- No comma from f on up to i. -/
def Free (l : List UInt8) (f i : Nat) : Prop := ∀ c ∈ (l.drop f).take (i - f), c ≠ 44

theorem Free.start (l : List UInt8) (f : Nat) : Free l f f := by
  intro c hc
  rw [Nat.sub_self, List.take_zero] at hc
  cases hc

theorem Free.next {l : List UInt8} {f i : Nat} (h : Free l f i) (hf : f ≤ i) (hi : i < l.length) (hc : l[i] ≠ 44) : Free l f (i + 1) := by
  intro c hm
  rw [show i + 1 - f = (i - f) + 1 by omega, List.take_add_one, List.getElem?_drop, show f + (i - f) = i by omega, List.getElem?_eq_getElem hi] at hm
  rcases List.mem_append.1 hm with hm | hm
  · exact h c hm
  · rw [List.mem_singleton.1 hm]; exact hc

theorem at_mark {l : List UInt8} {f i : Nat} (h : Free l f i) (hf : f ≤ i) (hi : i < l.length) (hc : l[i] = 44) : parts (l.drop f) = (l.drop f).take (i - f) :: parts (l.drop (i + 1)) := by
  have e : l.drop f = (l.drop f).take (i - f) ++ 44 :: l.drop (i + 1) := by
    conv => lhs; rw [← List.take_append_drop (i - f) (l.drop f)]
    rw [List.drop_drop, show f + (i - f) = i by omega, List.drop_eq_getElem_cons hi, hc]
  conv => lhs; rw [e]
  exact parts_cut _ _ h

theorem at_end {l : List UInt8} {f : Nat} (h : Free l f l.length) (hf : f ≤ l.length) : parts (l.drop f) = [(l.drop f).take (l.length - f)] := by
  have e : (l.drop f).take (l.length - f) = l.drop f := List.take_of_length_le (by rw [List.length_drop]; exact Nat.le_refl _)
  unfold Free at h
  rw [e] at h ⊢
  exact parts_one _ h

/-- Where the cutting stands. -/
def Stands (l : List UInt8) (f i : Nat) (xs : List ByteArray) : Prop :=
  (i ≤ l.length ∧ f ≤ i ∧ Free l f i ∧ xs.map (·.data.toList) ++ parts (l.drop f) = parts l) ∨ (i = l.length + 1 ∧ xs.map (·.data.toList) = parts l)

theorem piece (s : ByteArray) (f i : Nat) : (s.extract f i).data.toList = (s.data.toList.drop f).take (i - f) := Lib.extract_data s f i

theorem stands_mark {s : ByteArray} {F I : Nat} {xs : List ByteArray} (h : Stands s.data.toList F I xs) (hI : I < s.data.toList.length) (hc : s.data.toList[I] = 44) : Stands s.data.toList (I + 1) (I + 1) (xs ++ [s.extract F I]) := by
  rcases h with ⟨_, hf, hfree, he⟩ | ⟨h, _⟩
  · refine .inl ⟨hI, Nat.le_refl _, Free.start _ _, ?_⟩
    rw [List.map_append, List.map_cons, List.map_nil, piece, List.append_assoc, List.singleton_append, ← at_mark hfree hf hI hc]
    exact he
  · omega

theorem stands_end {s : ByteArray} {F I : Nat} {xs : List ByteArray} (h : Stands s.data.toList F I xs) (hI : I = s.data.toList.length) : Stands s.data.toList (I + 1) (I + 1) (xs ++ [s.extract F I]) := by
  rcases h with ⟨_, hf, hfree, he⟩ | ⟨h, _⟩
  · refine .inr ⟨by omega, ?_⟩
    rw [hI] at hfree hf
    rw [List.map_append, List.map_cons, List.map_nil, piece, hI, ← at_end hfree hf]
    exact he
  · omega

theorem stands_other {s : ByteArray} {F I : Nat} {xs : List ByteArray} (h : Stands s.data.toList F I xs) (hI : I < s.data.toList.length) (hc : s.data.toList[I] ≠ 44) : Stands s.data.toList F (I + 1) xs := by
  rcases h with ⟨_, hf, hfree, he⟩ | ⟨h, _⟩
  · exact .inl ⟨hI, by omega, hfree.next hf hI hc, he⟩
  · omega

theorem own_app {w : World} {B L : Nat} {e : TypeId} {v : Value} {xs : List ByteArray} {x : ByteArray} (hL : L = xs.length) (h : w.ownsRow B e 1 v (L + 1) (xs.map Value.string ++ [Value.string x])) : w.ownsRow B e 1 v (xs ++ [x]).length ((xs ++ [x]).map Value.string) := by
  rw [List.length_append, List.map_append, ← hL]
  exact h