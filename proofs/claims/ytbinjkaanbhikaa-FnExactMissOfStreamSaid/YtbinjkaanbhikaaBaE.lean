/- Whether two basins are the same. -/
import Derived.Test.YtbinjkaanbhikaaBaV
import Derived.Test.YtbinjkaanbhikaaBits
namespace Go.Proofs.Ytbinjkaanbhikaa
set_option linter.unusedSimpArgs false
set_option linter.unusedVariables false
open Go.RowKit
set_option maxRecDepth 20000
namespace Ba
open Fl Rate

/-- Whether two numbers are the same. -/
def sameN (c d : Option Nat) : Bool := decide (bitsC c = bitsC d)

def allS (c d : Nat → Option Nat) : Nat → Bool
  | 0 => true
  | k + 1 => allS c d k && sameN (c k) (d k)

theorem allS_le {c d : Nat → Option Nat} {k n : Nat} (h : allS c d k = false) (hk : k ≤ n) : allS c d n = false := by
  induction n with
  | zero => obtain rfl : k = 0 := by omega
            exact h
  | succ n ih =>
    by_cases e : k = n + 1
    · rw [← e]; exact h
    · show (allS c d n && _) = false
      rw [ih (by omega)]; rfl

/-- Whether two basins are the same. -/
def sameB (W H W' H' : Int) (n n' : Nat) (c d : Nat → Option Nat) : Bool := decide (W = W') && (decide (H = H') && (decide (n = n') && allS c d n))

/-- A value that is told; the world but for draws. -/
def RetQ (v : Value) (w : World) (e : Ending) (w' : World) : Prop := e = .returned v ∧ ∃ m, w' = w.drewN m

theorem quiet_q {P : Program} {f : FuncId} {args : Array Value} {w : World} {n : Nat} {v : Value} (h : Calls P f args (w.drewN n) (RetQ v (w.drewN n))) : Calls P f args (w.drewN n) fun e w'' => e = .returned v ∧ ∃ m, w'' = w.drewN m := Calls.quiet_of h

theorem later_q {w : World} {n : Nat} {a : Option Addr} {len cap : Nat} {c : Nat → Option Nat} (h : IsY w a len cap c) : IsY (w.drewN n) a len cap c := h.later (below_drewN (Below.refl _ _) n)

end Ba
end Go.Proofs.Ytbinjkaanbhikaa
