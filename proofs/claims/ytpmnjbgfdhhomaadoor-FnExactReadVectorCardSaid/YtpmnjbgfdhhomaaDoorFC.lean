/- Reading a list of numbers, whole. -/
import Derived.Test.YtpmnjbgfdhhomaaDoorFSpec
import Derived.Test.YtpmnjbgfdhhomaaDoorFImpl
import Derived.Test.YtpmnjbgfdhhomaaDoorNums
import Derived.Test.YtpmnjbgfdhhomaaDoorShaped
import Derived.Test.YtpmnjbgfdhhomaaDoorSent
namespace Go.Proofs.YtpmnjbgfdhhomaaDoor
set_option linter.unusedSimpArgs false
set_option linter.unusedVariables false
open Go.RowKit
namespace FList
open Fl _root_.Go.Proofs.YtpmnjbgfdhhomaaDoor.Frame

theorem spec_readlist (s : ByteArray) (zs : List Nat) (b : Bool) (w : World) (hs : s.size ≤ 1048576) (hr : LR s.data.toList zs b) :
    Calls Tryd.prog 12 #[.string s] w (RetL zs b w) := by
  have HC := Lib.hid (spec_numbers s zs b w hs hr)
  clear hr hs
  go_enter Tryd.func12, Tryd.ntmps12
  go_wp2_with fail
  refine HC.out.mono ?_
  rintro e w1 ⟨a, cap, rfl, h1, h2⟩
  go_wp2
  go_ret2
  exact ⟨_, _, rfl, h1, h2⟩

theorem impl_readlist (s : ByteArray) (zs : List Nat) (b : Bool) (w : World) (hs : s.size ≤ 1048576) (hr : LR s.data.toList zs b) (ht : Hex.Tabs w) :
    Calls Tryd.prog 13 #[.string s] w (RetO zs b w) := by
  have HC := Lib.hid (impl_items s zs b w hs hr ht)
  clear hr hs ht
  go_enter Tryd.func13, Tryd.ntmps13
  go_wp2_with fail
  refine HC.out.mono ?_
  rintro e w1 ⟨a, cap, rfl, h1, h2⟩
  go_wp2
  go_ret2
  exact ⟨_, _, rfl, h1, h2⟩

theorem IsL.nums {w : World} {a : Option Addr} {len cap : Nat} {zs : List Nat} (h : IsL w a len cap zs) : IsNums .f32 w a len cap zs := by
  obtain ⟨h1, h2, h3, h4, b, off, h5, h6⟩ := h
  exact ⟨h1, h2, h3, fun n hn => wf_of_lt .f32 n (h4 n hn), b, off, h5, h6⟩

/-- The comparison of a row that the call owns with a row that came before. -/
theorem eq_two {n : Nat} {a a' : Option Addr} {cap cap' : Nat} {zs : List Nat} {w : World} (ho : IsL w a n cap zs) (hi : IsL w a' n cap' zs) :
    Calls Tryd.prog 11 #[.slice a n cap, .slice a' n cap'] w (RetD (.bool true) w) :=
  Nums.eq_floats _ _ _ _ _ _ _ _ ho.nums hi.nums (fun _ _ => rfl)

/-- Marks on a block of the call's own. -/
theorem mark_own (B : Nat) (a : Option Addr) (n cap : Nat) (zs : List Nat) (w : World) (hn : n = zs.length) (ho : OwnL B w a cap zs) :
    Calls Tryd.prog 14 #[.slice a n cap, .int .i64 1] w fun e w' => e = .returned (.int .i64 (1 + (n : Int))) ∧ Mk B w' a n cap 1 ∧ Below B w w' := by
  obtain ⟨h1, h2, h3, h4, g, cur, h5, h6⟩ := ho
  subst hn
  by_cases h0 : 0 < zs.length
  · refine (mark B a zs.length cap 1 (by omega) w h1 h2 h3 g cur h5 ?_).mono fun e w' ⟨x, y, z, _⟩ => ⟨x, y, z⟩
    have := (Array.getElem?_eq_some_iff.1 (h6 (zs.length - 1) (by omega))).1
    omega
  · exact (mark B a zs.length cap 1 (by omega) w h1 h2 h3 g cur h5 (by omega)).mono fun e w' ⟨x, y, z, _⟩ => ⟨x, y, z⟩
end FList
end Go.Proofs.YtpmnjbgfdhhomaaDoor
