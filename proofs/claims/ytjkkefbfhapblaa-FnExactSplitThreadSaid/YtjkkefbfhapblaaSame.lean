/- The comparison of two numbers that the exact laws use: words of one class are the same number. -/
import Derived.Test.YtjkkefbfhapblaaRows
import Derived.Test.YtjkkefbfhapblaaFlWalk
import Derived.Test.YtjkkefbfhapblaaBits
namespace Go.Proofs.Ytjkkefbfhapblaa
set_option linter.unusedSimpArgs false
set_option linter.unusedVariables false
open Go.RowKit
namespace Same
open Fl

theorem ord_self {k : FloatKind} {x r : Nat} (h : Fr k r (some x)) : ord k (some x) (some x) = some .eq := by
  obtain rfl := eq_of_some h
  rw [← order_self k h.1, order_cl, h.1]

set_option maxHeartbeats 400000 in
theorem same_true (a b : Nat) (c : Option Nat) (w : World) (fa : Fr .f64 a c) (fb : Fr .f64 b c) :
    Calls Try.prog 27 #[.float .f64 a, .float .f64 b] w fun e w' => ∃ n, e = .returned (.bool true) ∧ w' = w.drewN n := by
  have f1 : Fr .f64 4607182418800017408 (some 4607182418800017408) := Fr.const (by decide +kernel) (by decide)
  have f0 : Fr .f64 0 (some 0) := Fr.const (by decide +kernel) (by decide)
  cases c with
  | none =>
    have e1 : cmpC .neq (ord .f64 none none) = true := rfl
    go_enter Try.func27, Try.ntmps27
    go_wp2_with (refine wpList_cmp rfl rfl rfl rfl rfl (by assumption) (by assumption) ?_)
    go_ret
    exact ⟨0, rfl, rfl⟩
  | some x =>
    have ex := ord_self fa
    have e1 : cmpC .neq (ord .f64 (some x) (some x)) = false := by rw [ex]; rfl
    have e2 : cmpC .eql (ord .f64 (some x) (some x)) = true := by rw [ex]; rfl
    clear ex
    cases e3 : cmpC .eql (ord .f64 (some x) (some 0)) with
    | true =>
      go_enter Try.func27, Try.ntmps27
      go_wp2_with (first | (refine wpList_cmp rfl rfl rfl rfl rfl (by assumption) (by assumption) ?_) | (refine wpList_fl rfl rfl rfl rfl rfl (by assumption) (by assumption) ?_; intro r n hr))
      go_ret
      exact ⟨_, by simp, rfl⟩
    | false =>
      go_enter Try.func27, Try.ntmps27
      go_wp2_with (first | (refine wpList_cmp rfl rfl rfl rfl rfl (by assumption) (by assumption) ?_) | (refine wpList_fl rfl rfl rfl rfl rfl (by assumption) (by assumption) ?_; intro r n hr))
      go_ret
      exact ⟨0, rfl, rfl⟩
end Same
end Go.Proofs.Ytjkkefbfhapblaa
