/- Reading a list of numbers, whole. -/
import Derived.Test.YtpmnjbgfdhhomabGreatDoorFSpec
import Derived.Test.YtpmnjbgfdhhomabGreatDoorFImpl
import Derived.Test.YtpmnjbgfdhhomabGreatDoorNums
import Derived.Test.YtpmnjbgfdhhomabGreatDoorShaped
import Derived.Test.YtpmnjbgfdhhomabGreatDoorSent
namespace Go.Proofs.YtpmnjbgfdhhomabGreatDoor
set_option linter.unusedSimpArgs false
set_option linter.unusedVariables false
open Go.RowKit
namespace FList
open Fl _root_.Go.Proofs.YtpmnjbgfdhhomabGreatDoor.Frame

theorem impl_readlist (s : ByteArray) (zs : List Nat) (b : Bool) (w : World) (hs : s.size ≤ 1048576) (hr : LR s.data.toList zs b) (ht : Hex.Tabs w) :
    Calls Tryz.prog 29 #[.string s] w (RetO zs b w) := by
  have HC := Lib.hid (impl_items s zs b w hs hr ht)
  clear hr hs ht
  go_enter Tryz.func29, Tryz.ntmps29
  go_wp2_with fail
  refine HC.out.mono ?_
  rintro e w1 ⟨a, cap, rfl, h1, h2⟩
  go_wp2
  go_ret2
  exact ⟨_, _, rfl, h1, h2⟩

theorem IsL.nums {w : World} {a : Option Addr} {len cap : Nat} {zs : List Nat} (h : IsL w a len cap zs) : IsNums .f32 w a len cap zs := by
  obtain ⟨h1, h2, h3, h4, b, off, h5, h6⟩ := h
  exact ⟨h1, h2, h3, fun n hn => wf_of_lt .f32 n (h4 n hn), b, off, h5, h6⟩