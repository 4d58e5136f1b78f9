/- Regions that draw their order, whose operations need not give one value each: of each operation a SET of values is named in advance (the words of a class, say), and a class of worlds that every operation keeps. One walk in the order of the text serves every order. Behind the first n operations, which are all apart or ordered, the last ones are walked as usual. -/
import Derived.WalkKit
import Derived.StillTail
import Derived.Deep.Draws
import Derived.Lib.Hide
namespace Go.Proofs.Ytjkkefbfhapblaa
set_option linter.unusedSimpArgs false
set_option linter.unusedVariables false
open Go.RowKit
namespace Loose

section
variable {P : Program} {ops : Array Oper} {md : Region.Mode} {C : Act → World → Prop} {S : Nat → Value → Prop}

/-- The operation's outcome is a value of V, and frame and world stay in the class. -/
def Upon (P : Program) (C : Act → World → Prop) (o : Oper) (a : Act) (V : Value → Prop) : Result Next → Prop
  | .ok (.value u) w' => V u ∧ C (a.put o.dst u) w'
  | .ok .skip w' => V undef ∧ C (a.put o.dst undef) w'
  | .ok (.enter f args) w' => Calls P f args w' (fun e w'' => ∃ v, e = .returned v ∧ V v ∧ C (a.put o.dst v) w'')
  | _ => False

/-- .. in every frame in which it does the same, in every world of the class. -/
def At (P : Program) (C : Act → World → Prop) (o : Oper) (a : Act) (V : Value → Prop) : Prop := ∀ a' w, execOp a'.eval o = execOp a.eval o → C a' w → Upon P C o a' V ((execOp a.eval o).run P w)

def eff (ops : Array Oper) (V : Value → Prop) (o : Oper) (a : Act) (v : Value) : Prop := if Region.wanted o (yielded ops a.tmps) then V v else v = undef

def fine (P : Program) (ops : Array Oper) (C : Act → World → Prop) (V : Value → Prop) (o : Oper) (a : Act) : Prop :=
  (Region.wanted o (yielded ops a.tmps) = true → (∃ v, V v) ∧ At P C o a V) ∧ (Region.wanted o (yielded ops a.tmps) = false → ∀ a' w, C a' w → C (a'.put o.dst undef) w)

def turn (P : Program) (ops : Array Oper) (C : Act → World → Prop) (V : Value → Prop) (o : Oper) (K : Act → Prop) (a : Act) : Prop :=
  fine P ops C V o a ∧ ∀ v, eff ops V o a v → K (a.put o.dst v)

/-- The walk in the order of the text. -/
def walk (P : Program) (ops : Array Oper) (C : Act → World → Prop) (Q : Act → Prop) : List Oper → List (Value → Prop) → Act → Prop
  | [], _, a => Q a
  | o :: rest, [], a => False
  | o :: rest, V :: Vs, a => turn P ops C V o (walk P ops C Q rest Vs) a

def qOp (P : Program) (ops : Array Oper) (C : Act → World → Prop) (S : Nat → Value → Prop) (i : Nat) (K : Act → Prop) (a : Act) : Prop :=
  match ops[i]? with
  | none => K a
  | some o => turn P ops C (S i) o K a

theorem qOp_mono {i : Nat} {a : Act} {K K' : Act → Prop} (h : ∀ a, K a → K' a) (hh : qOp P ops C S i K a) : qOp P ops C S i K' a := by
  unfold qOp at *
  cases ho : ops[i]? with
  | none => rw [ho] at hh; exact h _ hh
  | some o => rw [ho] at hh; exact ⟨hh.1, fun v hv => h _ (hh.2 v hv)⟩

theorem wpOp_of_qOp {i : Nat} {a : Act} {K : Act → Prop} {K' : Act → World → Prop} {Q' : Exit → Act → World → Prop} {w : World} (hw : C a w) (h : ∀ a w', C a w' → K a → K' a w') (hh : qOp P ops C S i K a) : wpOp P ops Q' i K' a w := by
  unfold qOp at hh
  unfold wpOp
  cases ho : ops[i]? with
  | none => rw [ho] at hh; exact h _ _ hw hh
  | some o =>
    rw [ho] at hh
    obtain ⟨hf, hk⟩ := hh
    unfold eff at hk
    dsimp only
    split
    · rename_i hwant
      have h3 := (hf.1 hwant).2 a w rfl hw
      simp only [hwant, if_true] at hk
      refine .inl ?_
      unfold Oper.wp
      generalize (execOp a.eval o).run P w = r at *
      cases r with
      | halt x w' => simp only [Upon] at h3
      | ok n w' =>
        cases n <;> simp only [Upon] at h3 <;> simp only [Oper.upon]
        case value u => exact h _ _ h3.2 (hk u h3.1)
        case skip => exact h _ _ h3.2 (hk undef h3.1)
        case enter f args =>
          exact h3.mono fun e w'' ⟨v, he, hv, hc⟩ => by subst he; exact h _ _ hc (hk v hv)
    · rename_i hwant
      have hwant' : Region.wanted o (yielded ops a.tmps) = false := by simpa using hwant
      simp only [hwant', Bool.false_eq_true, if_false] at hk
      exact h _ _ (hf.2 hwant' a w hw) (hk undef rfl)

/-- Some value comes of it. -/
theorem eff_some {V : Value → Prop} {o : Oper} {a : Act} (hf : fine P ops C V o a) : ∃ v, eff ops V o a v := by
  unfold eff
  by_cases hwant : Region.wanted o (yielded ops a.tmps) = true
  · simp only [hwant, if_true]
    exact (hf.1 hwant).1
  · have hwant' : Region.wanted o (yielded ops a.tmps) = false := by simpa using hwant
    simp only [hwant', Bool.false_eq_true, if_false]
    exact ⟨undef, rfl⟩

theorem same_fine {V : Value → Prop} {o : Oper} {a a' : Act} (he : execOp a'.eval o = execOp a.eval o) (hw : Region.wanted o (yielded ops a'.tmps) = Region.wanted o (yielded ops a.tmps)) (h : fine P ops C V o a) : fine P ops C V o a' := by
  unfold fine At at *
  rw [he, hw]; exact h

theorem same_eff {V : Value → Prop} {o : Oper} {a a' : Act} {v : Value} (hw : Region.wanted o (yielded ops a'.tmps) = Region.wanted o (yielded ops a.tmps)) : eff ops V o a' v ↔ eff ops V o a v := by
  unfold eff; rw [hw]

/-- Two operations that are apart change places. -/
theorem swap {j : Nat} {V : Value → Prop} {oi oj : Oper} (hj : ops[j]? = some oj) (hap : oi.apart ops oj = true) (hsi : ∀ cs b, oi.op ≠ .select cs b) (hsj : ∀ cs b, oj.op ≠ .select cs b)
    {K : Act → Prop} {a : Act} (hf : fine P ops C V oi a) (H : ∀ v, eff ops V oi a v → qOp P ops C S j K (a.put oi.dst v)) :
    qOp P ops C S j (fun a' => fine P ops C V oi a' ∧ ∀ v, eff ops V oi a' v → K (a'.put oi.dst v)) a := by
  obtain ⟨h1, h2, h3⟩ := Oper.apart_spec hap
  unfold qOp at *
  simp only [hj] at *
  obtain ⟨v0, hv0⟩ := eff_some hf
  have e1 : ∀ v, execOp (a.put oi.dst v).eval oj = execOp a.eval oj := fun v => execOp_put oj hsj a oi.dst v h1
  have w1 : ∀ v, Region.wanted oj (yielded ops (a.put oi.dst v).tmps) = Region.wanted oj (yielded ops a.tmps) := fun v => wanted_put oj a oi.dst v h1
  have e2 : ∀ u, execOp (a.put oj.dst u).eval oi = execOp a.eval oi := fun u => execOp_put oi hsi a oj.dst u h3
  have w2 : ∀ u, Region.wanted oi (yielded ops (a.put oj.dst u).tmps) = Region.wanted oi (yielded ops a.tmps) := fun u => wanted_put oi a oj.dst u h3
  refine ⟨same_fine (e1 v0).symm (w1 v0).symm (H v0 hv0).1, fun u hu => ⟨same_fine (e2 u) (w2 u) hf, fun v hv => ?_⟩⟩
  rw [← Act.put_comm a v u h2]
  exact (H v ((same_eff (w2 u)).1 hv)).2 u ((same_eff (w1 v)).2 hu)

/-- Whatever order is picked for the first n. -/
def anyH (P : Program) (md : Region.Mode) (ops : Array Oper) (C : Act → World → Prop) (S : Nat → Value → Prop) (n : Nat) (L : Array Bool → Act → Prop) : Nat → Array Bool → Act → Prop
  | 0, listed, a => L listed a
  | f + 1, listed, a => Region.ready md ops listed ≠ [] ∧ ∀ i ∈ Region.ready md ops listed, i < n ∧ qOp P ops C S i (anyH P md ops C S n L f (listed.setIfInBounds i true)) a

theorem wpAny_of_head {n g : Nat} {L : Array Bool → Act → Prop} {Q' : Exit → Act → World → Prop} (hL : ∀ listed a w, C a w → L listed a → wpAny P md ops Q' g listed a w) :
    ∀ (f : Nat) (listed : Array Bool) (a : Act) (w : World), C a w → anyH P md ops C S n L f listed a → wpAny P md ops Q' (f + g) listed a w
  | 0, listed, a, w, hw, h => by rw [Nat.zero_add]; exact hL _ _ _ hw h
  | f + 1, listed, a, w, hw, h => by
    rw [show f + 1 + g = (f + g) + 1 by omega]
    exact ⟨fun h0 => absurd h0 h.1, fun i hi => wpOp_of_qOp hw (fun a' w' hw' h' => wpAny_of_head hL f _ a' w' hw' h') (h.2 i hi).2⟩

theorem anyH_first {n i : Nat} {oi : Oper} {L : Array Bool → Act → Prop} (hi : ops[i]? = some oi) (hsel : ∀ (j : Nat) (o : Oper) cs b, ops[j]? = some o → o.op ≠ .select cs b)
    (hs : Region.sinkB md ops n = true) (hc : Region.chainB md ops n = true) (hn : n < ops.size) (hin : i < n)
    (hdone : ∀ listed a, L listed a → ∀ j ∈ Region.ready md ops listed, n ≤ j) :
    ∀ (f : Nat) (listed : Array Bool) (a : Act), HeadInv md ops n listed →
      (∀ j oj, ops[j]? = some oj → j ≠ i → listed.getD j true = false → (∀ e ∈ oj.after, Region.binds md e = true → e.on ≠ i) → oi.apart ops oj = true) →
      i ∈ Region.ready md ops listed → fine P ops C (S i) oi a →
      (∀ v, eff ops (S i) oi a v → anyH P md ops C S n L f (listed.setIfInBounds i true) (a.put oi.dst v)) → anyH P md ops C S n L (f + 1) listed a := by
  intro f
  induction f with
  | zero =>
    intro listed a inv _ hr hf H
    have hun := (mem_ready.1 hr).1
    refine ⟨fun h => (by rw [h] at hr; cases hr), fun j hj => ?_⟩
    have hjn : j < n := by
      rcases Nat.lt_or_ge j n with h | h
      · exact h
      · exact absurd hj (tail_waits hs hc hn inv _ i rfl hin hun j h)
    refine ⟨hjn, ?_⟩
    by_cases hji : j = i
    · subst hji; unfold qOp; simp only [hi]; exact ⟨hf, H⟩
    · obtain ⟨v0, hv0⟩ := eff_some hf
      have := hdone _ _ (H v0 hv0) j (ready_mono hj hji)
      omega
  | succ f ih =>
    intro listed a inv hfree hr hf H
    have hun := (mem_ready.1 hr).1
    refine ⟨fun h => (by rw [h] at hr; cases hr), fun j hj => ?_⟩
    have hjn : j < n := by
      rcases Nat.lt_or_ge j n with h | h
      · exact h
      · exact absurd hj (tail_waits hs hc hn inv _ i rfl hin hun j h)
    refine ⟨hjn, ?_⟩
    by_cases hji : j = i
    · subst hji; unfold qOp; simp only [hi]; exact ⟨hf, H⟩
    · obtain ⟨hjun, oj, hoj, hall⟩ := mem_ready.1 hj
      have hnot : ∀ e ∈ oj.after, Region.binds md e = true → e.on ≠ i := fun e he hb heq => by
        have h1 := hall e he hb
        rw [heq, getD_both hun] at h1
        cases h1
      have h2 := swap (K := anyH P md ops C S n L f ((listed.setIfInBounds i true).setIfInBounds j true)) hoj (hfree j oj hoj hji hjun hnot) (fun cs b => hsel i oi cs b hi) (fun cs b => hsel j oj cs b hoj) hf
        (fun v hv => ((H v hv).2 j (ready_mono hj hji)).2)
      have hfree' : ∀ k ok, ops[k]? = some ok → k ≠ i → (listed.setIfInBounds j true).getD k true = false →
          (∀ e ∈ ok.after, Region.binds md e = true → e.on ≠ i) → oi.apart ops ok = true := fun k ok hk hki hun' hno => by
        refine hfree k ok hk hki ?_ hno
        by_cases hjk : j = k
        · subst hjk; exact hjun
        · rw [getD_set_ne true hjk] at hun'; exact hun'
      refine qOp_mono (fun a' h3 => ih (listed.setIfInBounds j true) a' (inv.set hj hjn) hfree' (ready_mono hr (Ne.symm hji)) h3.1 ?_) h2
      rw [Array.setIfInBounds_comm _ _ hji]
      exact h3.2

theorem anyH_lex {n g : Nat} {Lq : Act → Prop} (hsel : Region.noSelect ops = true) (hs : Region.sinkB md ops n = true) (hc : Region.chainB md ops n = true) (hn : n < ops.size) (Vs : List (Value → Prop)) (hS : ∀ i V, Vs[i]? = some V → S i = V) :
    ∀ (l : List Oper) (k : Nat) (listed : Array Bool) (a : Act), (∀ j, j < l.length → l[j]? = ops[k + j]?) → k + l.length = n → HeadInv md ops n listed →
    Region.lexHead md ops g l.length k listed = true → walk P ops C Lq l (Vs.drop k) a →
    anyH P md ops C S n (fun listed' a' => Region.seqB md ops g n listed' = true ∧ Lq a') l.length listed a
  | [], k, listed, a, _, hk, _, hB, h => by
    have : k = n := by simpa using hk
    subst this
    exact ⟨by simpa [Region.lexHead] using hB, h⟩
  | o :: l, k, listed, a, hl, hk, inv, hB, h => by
    have h0 : ops[k]? = some o := by simpa using (hl 0 (by simp)).symm
    simp only [List.length_cons, Region.lexHead, Bool.and_eq_true] at hB
    obtain ⟨⟨hr, hf⟩, hB'⟩ := hB
    have hkn : k < n := by simp only [List.length_cons] at hk; omega
    have hr' : k ∈ Region.ready md ops listed := by simpa using hr
    cases hV : Vs.drop k with
    | nil => rw [hV] at h; exact h.elim
    | cons V Vr =>
      rw [hV] at h
      have hVk : Vs[k]? = some V := by
        have := congrArg (fun l => l[0]?) hV
        simpa [List.getElem?_drop] using this
      have hSk : S k = V := hS k V hVk
      have hVr : Vs.drop (k + 1) = Vr := by
        have := congrArg (fun l => l.drop 1) hV
        simpa [List.drop_drop] using this
      obtain ⟨hfin, hK⟩ := h
      refine anyH_first h0 (Region.noSelect_spec hsel) hs hc hn hkn (fun listed' a' hL => seqB_ready hL.1) l.length listed a inv (Region.free_spec h0 hf) hr' (by rw [hSk]; exact hfin) ?_
      intro v hv
      rw [hSk] at hv
      exact anyH_lex hsel hs hc hn Vs hS l (k + 1) _ _ (fun j hj => by have := hl (j + 1) (by simp; omega); simpa [Nat.add_assoc, Nat.add_comm 1 j] using this) (by simp only [List.length_cons] at hk; omega) (inv.set hr' hkn) hB' (by rw [hVr]; exact hK v hv)

theorem wp_region_loose {id : Nat} {Q : Exit → Act → World → Prop} {a : Act} {w : World} {l : List Oper} (n : Nat) (hm : P.follows .mixedOrders = true) (hB : Region.lexTailB .any l.toArray n = true)
    (C : Act → World → Prop) (hC : C a w.drew) (Vs : List (Value → Prop))
    (h : walk P l.toArray C (fun a' => ∀ w', C a' w' → wpList P l.toArray Q (l.drop n) a' w') (l.take n) Vs a) : (Code.region id l.toArray true).wp P Q a w := by
  simp only [Region.lexTailB, Bool.and_eq_true, decide_eq_true_eq] at hB
  obtain ⟨⟨⟨⟨hsel, hn⟩, hs⟩, hc⟩, hlex⟩ := hB
  have hn' : n < l.length := by simpa using hn
  have htl : (l.take n).length = n := by simp; omega
  have hdl : (l.drop n).length = l.toArray.size - n := by simp
  have inv0 : HeadInv .any l.toArray n (Array.replicate l.toArray.size false) :=
    ⟨by simp, fun j oj _ hl => (by rw [getD_replicate_false] at hl; cases hl), fun t _ ht => getD_in (by simpa using ht) (getD_replicate_false _ _)⟩
  have H := anyH_lex (md := .any) (g := l.toArray.size - n) (S := fun i v => ∃ V, Vs[i]? = some V ∧ V v) hsel hs hc hn Vs (fun i V hi => by funext v; simp [hi]) (l.take n) 0 _ a (fun j hj => by
    have hj' : j < n := by rw [htl] at hj; exact hj
    simp [hj']) (by simpa using htl) inv0 (by rw [htl]; exact hlex) h
  refine wp_region_any hm ?_
  have := wpAny_of_head (Q' := Q) (g := l.toArray.size - n) (fun listed a' w' hw' hL => by
    have := wpAny_of_seq (md := .any) (Q' := Q) (l.drop n) n listed a' w' (fun j => by simp [List.getElem?_drop]) (by rw [hdl]; exact hL.1) (hL.2 w' hw')
    rwa [hdl] at this) _ _ _ _ hC H
  rw [htl, show n + (l.toArray.size - n) = l.toArray.size by omega] at this
  exact this
end
end Loose
end Go.Proofs.Ytjkkefbfhapblaa
