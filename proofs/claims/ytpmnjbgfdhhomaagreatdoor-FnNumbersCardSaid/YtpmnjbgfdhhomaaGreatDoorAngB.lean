/- The angle of a point: both sides answer one class. -/
import Derived.Test.YtpmnjbgfdhhomaaGreatDoorAngI
import Derived.Test.YtpmnjbgfdhhomaaGreatDoorFin
namespace Go.Proofs.YtpmnjbgfdhhomaaGreatDoor
set_option linter.unusedSimpArgs false
set_option linter.unusedVariables false
open Go.RowKit
namespace Flat
open Fl

theorem nonfin_sub {y : Nat} (h : fin .f32 y = false) : op2 .sub .f64 (convC .f32 .f64 (cl .f32 y)) (convC .f32 .f64 (cl .f32 y)) = none := by
  rcases decode_inf h with ⟨s, hd⟩ | ⟨s, u, hd⟩
  · have hc : cl .f32 y = some y := cl_some_iff.2 (by rw [hd]; rfl)
    have e : convC .f32 .f64 (some y) = some (FloatKind.f64.encode (.infinity s)) := by
      unfold convC
      rw [if_neg (by decide)]
      show floatToFloatBits .f32 y .f64 = _
      unfold floatToFloatBits
      rw [if_neg (by decide), hd]
    rw [hc, e]
    cases s <;> decide +kernel
  · have hc : cl .f32 y = none := cl_none_iff.2 (by rw [hd]; rfl)
    rw [hc]; rfl

theorem fin_of_num {k : FloatKind} {b : Nat} {s : Bool} {m : Nat} {p : Int} (h : k.decode b = .number s m p) : fin k b = true := by
  cases hf : fin k b
  · rcases decode_inf hf with ⟨s', hd⟩ | ⟨s', u, hd⟩ <;> rw [hd] at h <;> cases h
  · rfl

theorem fin_sub {b : Nat} {s : Bool} {m : Nat} {p : Int} (h : FloatKind.f64.decode b = .number s m p) : op2 .sub .f64 (some b) (some b) = some 0 := by
  have hc : cl .f64 b = some b := cl_some_iff.2 (by rw [h]; rfl)
  have := sub_self .f64 b
  rw [hc, fin_of_num h] at this
  simpa using this

theorem zord_iff {s : Bool} {m m' : Nat} (h : m' = 0 ↔ m = 0) : zord s m' = zord s m := by
  unfold zord
  by_cases h0 : m = 0
  · rw [if_pos h0, if_pos (h.2 h0)]
  · rw [if_neg h0, if_neg (fun e => h0 (h.1 e))]