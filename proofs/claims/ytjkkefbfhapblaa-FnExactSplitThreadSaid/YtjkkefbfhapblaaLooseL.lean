/- Regions that draw their order, in which one operation with the index s (a store, say) changes what the class of worlds says: the class takes a mark that tells whether s is done. -/
import Derived.Test.YtjkkefbfhapblaaLooseP
namespace Go.Proofs.Ytjkkefbfhapblaa
set_option linter.unusedSimpArgs false
set_option linter.unusedVariables false
open Go.RowKit
namespace LooseL
open Loose

/-- How the mark of s goes on; what s waits for (pre) is never behind it. -/
def Step (pre : Nat → Bool) (s i : Nat) (b b' : Bool) : Prop := (i = s ∧ b = false ∧ b' = true) ∨ (i ≠ s ∧ b' = b ∧ (pre i = true → b = false))

def bit (s : Nat) (listed : Array Bool) : Bool := listed.getD s false

theorem bit_set {pre : Nat → Bool} {s i : Nat} {listed : Array Bool} (h : listed.getD i true = false) (hp : pre i = true → bit s listed = false) : Step pre s i (bit s listed) (bit s (listed.setIfInBounds i true)) := by
  by_cases e : i = s
  · subst e
    refine .inl ⟨rfl, getD_both h, ?_⟩
    have hin : i < listed.size := by
      rcases Nat.lt_or_ge i listed.size with h' | h'
      · exact h'
      · simp [Array.getElem?_eq_none h'] at h
    simp [bit, hin]
  · exact .inr ⟨e, getD_set_ne false e, hp⟩

/-- Both frames tell the operation the same. -/
def Like (o : Oper) (a' a : Act) : Prop := execOp a'.eval o = execOp a.eval o ∧ ∀ x ∈ o.op.operands, a'.eval x = a.eval x

theorem like_put {ops : Array Oper} (o : Oper) (hs : ∀ cs b, o.op ≠ .select cs b) (a : Act) (dst : Option Tmp) (v : Value) (h : ∀ d, dst = some d → d ∉ o.looksAt ops) : Like o (a.put dst v) a :=
  ⟨execOp_put o hs a dst v h, fun x hx => Act.eval_put fun d hd hxd => h d hd (by
    subst hxd
    exact List.mem_append_left _ (List.mem_filterMap.2 ⟨.tmp d, by simpa using hx, rfl⟩))⟩

theorem Like.symm {o : Oper} {a' a : Act} (h : Like o a' a) : Like o a a' := ⟨h.1.symm, fun x hx => (h.2 x hx).symm⟩
theorem Like.trans {o : Oper} {a'' a' a : Act} (h : Like o a'' a') (h' : Like o a' a) : Like o a'' a := ⟨h.1.trans h'.1, fun x hx => (h.2 x hx).trans (h'.2 x hx)⟩
theorem Like.refl (o : Oper) (a : Act) : Like o a a := ⟨rfl, fun _ _ => rfl⟩

/-- Each operation of pre is waited for by s, or by a later one of pre. -/
def preB (md : Region.Mode) (ops : Array Oper) (pre : Nat → Bool) (s n : Nat) : Bool :=
  (List.range n).all fun i => !pre i || (List.range n).any fun j => decide (i < j) && (decide (j = s) || pre j) && Region.waitsFor md ops j i

section
variable {P : Program} {ops : Array Oper} {md : Region.Mode} {pre : Nat → Bool} {s : Nat} {C : Bool → Act → World → Prop} {S : Nat → Value → Prop}

theorem pre_before {n : Nat} {listed : Array Bool} (hp : preB md ops pre s n = true) (hsz : n ≤ ops.size) (inv : HeadInv md ops n listed) (hs : bit s listed = true) :
    ∀ (d i : Nat), n - i = d → i < n → pre i = true → listed.getD i false = true := by
  intro d
  induction d using Nat.strongRecOn with
  | _ d ih =>
    intro i hd hi hpi
    have h1 := List.all_eq_true.1 hp i (List.mem_range.2 hi)
    simp only [hpi, Bool.not_true, Bool.false_or] at h1
    obtain ⟨j, hj, hj2⟩ := List.any_eq_true.1 h1
    simp only [Bool.and_eq_true, decide_eq_true_eq, Bool.or_eq_true] at hj2
    obtain ⟨⟨hij, hjs⟩, hw⟩ := hj2
    have hjn := List.mem_range.1 hj
    have hlj : listed.getD j false = true := by
      rcases hjs with rfl | hjp
      · exact hs
      · exact ih (n - j) (by omega) j rfl hjn hjp
    obtain ⟨oj, hoj, e, he, hb, hon⟩ := Region.waitsFor_spec hw
    have := inv.closed j oj hoj hlj e he hb
    rwa [hon] at this

def fine (P : Program) (ops : Array Oper) (pre : Nat → Bool) (s : Nat) (C : Bool → Act → World → Prop) (i : Nat) (V : Value → Prop) (o : Oper) (a : Act) : Prop :=
  (Region.wanted o (yielded ops a.tmps) = true → (∃ v, V v) ∧ ∀ b b' a' w, Step pre s i b b' → Like o a' a → C b a' w → Upon P (C b') o a' V ((execOp a.eval o).run P w)) ∧
  (Region.wanted o (yielded ops a.tmps) = false → ∀ b b' a' w, Step pre s i b b' → C b a' w → C b' (a'.put o.dst undef) w)

def turn (P : Program) (ops : Array Oper) (pre : Nat → Bool) (s : Nat) (C : Bool → Act → World → Prop) (i : Nat) (V : Value → Prop) (o : Oper) (K : Act → Prop) (a : Act) : Prop :=
  fine P ops pre s C i V o a ∧ ∀ v, eff ops V o a v → K (a.put o.dst v)

/-- The walk in the order of the text, from the operation k on. -/
def walk (P : Program) (ops : Array Oper) (pre : Nat → Bool) (s : Nat) (C : Bool → Act → World → Prop) (Q : Act → Prop) : Nat → List Oper → List (Value → Prop) → Act → Prop
  | _, [], _, a => Q a
  | _, _ :: _, [], _ => False
  | k, o :: rest, V :: Vs, a => turn P ops pre s C k V o (walk P ops pre s C Q (k + 1) rest Vs) a

def qOp (P : Program) (ops : Array Oper) (pre : Nat → Bool) (s : Nat) (C : Bool → Act → World → Prop) (S : Nat → Value → Prop) (i : Nat) (K : Act → Prop) (a : Act) : Prop :=
  match ops[i]? with
  | none => K a
  | some o => turn P ops pre s C i (S i) o K a

theorem qOp_mono {i : Nat} {a : Act} {K K' : Act → Prop} (h : ∀ a, K a → K' a) (hh : qOp P ops pre s C S i K a) : qOp P ops pre s C S i K' a := by
  unfold qOp at *
  cases ho : ops[i]? with
  | none => rw [ho] at hh; exact h _ hh
  | some o => rw [ho] at hh; exact ⟨hh.1, fun v hv => h _ (hh.2 v hv)⟩

theorem wpOp_of_qOp {i : Nat} {a : Act} {b b' : Bool} {K : Act → Prop} {K' : Act → World → Prop} {Q' : Exit → Act → World → Prop} {w : World} (hi : (ops[i]?).isSome = true) (hst : Step pre s i b b') (hw : C b a w) (h : ∀ a w', C b' a w' → K a → K' a w') (hh : qOp P ops pre s C S i K a) : wpOp P ops Q' i K' a w := by
  unfold qOp at hh
  unfold wpOp
  cases ho : ops[i]? with
  | none => rw [ho] at hi; cases hi
  | some o =>
    rw [ho] at hh
    obtain ⟨hf, hk⟩ := hh
    unfold eff at hk
    dsimp only
    split
    · rename_i hwant
      have h3 := (hf.1 hwant).2 b b' a w hst (Like.refl _ _) hw
      simp only [hwant, if_true] at hk
      refine .inl ?_
      unfold Oper.wp
      generalize (execOp a.eval o).run P w = r at *
      cases r with
      | halt x w' => simp only [Upon] at h3
      | ok n w' =>
        cases n <;> simp only [Upon] at h3 <;> simp only [Oper.upon]
        case value u => exact h _ _ h3.2 (hk u h3.1)
        case skip => exact h _ _ h3.2 (hk undef h3.1)
        case enter f args =>
          exact h3.mono fun e w'' ⟨v, he, hv, hc⟩ => by subst he; exact h _ _ hc (hk v hv)
    · rename_i hwant
      have hwant' : Region.wanted o (yielded ops a.tmps) = false := by simpa using hwant
      simp only [hwant', Bool.false_eq_true, if_false] at hk
      exact h _ _ (hf.2 hwant' b b' a w hst hw) (hk undef rfl)

theorem eff_some {i : Nat} {V : Value → Prop} {o : Oper} {a : Act} (hf : fine P ops pre s C i V o a) : ∃ v, eff ops V o a v := by
  unfold eff
  by_cases hwant : Region.wanted o (yielded ops a.tmps) = true
  · simp only [hwant, if_true]
    exact (hf.1 hwant).1
  · have hwant' : Region.wanted o (yielded ops a.tmps) = false := by simpa using hwant
    simp only [hwant', Bool.false_eq_true, if_false]
    exact ⟨undef, rfl⟩

theorem same_fine {i : Nat} {V : Value → Prop} {o : Oper} {a a' : Act} (he : Like o a' a) (hw : Region.wanted o (yielded ops a'.tmps) = Region.wanted o (yielded ops a.tmps)) (h : fine P ops pre s C i V o a) : fine P ops pre s C i V o a' := by
  unfold fine at *
  rw [he.1, hw]
  exact ⟨fun hwant => ⟨(h.1 hwant).1, fun b b' a'' w hst h2 hc => (h.1 hwant).2 b b' a'' w hst (h2.trans he) hc⟩, h.2⟩

/-- Two operations that are apart change places. -/
theorem swap {i j : Nat} {V : Value → Prop} {oi oj : Oper} (hj : ops[j]? = some oj) (hap : oi.apart ops oj = true) (hsi : ∀ cs b, oi.op ≠ .select cs b) (hsj : ∀ cs b, oj.op ≠ .select cs b)
    {K : Act → Prop} {a : Act} (hf : fine P ops pre s C i V oi a) (H : ∀ v, eff ops V oi a v → qOp P ops pre s C S j K (a.put oi.dst v)) :
    qOp P ops pre s C S j (fun a' => fine P ops pre s C i V oi a' ∧ ∀ v, eff ops V oi a' v → K (a'.put oi.dst v)) a := by
  obtain ⟨h1, h2, h3⟩ := Oper.apart_spec hap
  unfold qOp at *
  simp only [hj] at *
  obtain ⟨v0, hv0⟩ := eff_some hf
  have e1 : ∀ v, Like oj (a.put oi.dst v) a := fun v => like_put oj hsj a oi.dst v h1
  have w1 : ∀ v, Region.wanted oj (yielded ops (a.put oi.dst v).tmps) = Region.wanted oj (yielded ops a.tmps) := fun v => wanted_put oj a oi.dst v h1
  have e2 : ∀ u, Like oi (a.put oj.dst u) a := fun u => like_put oi hsi a oj.dst u h3
  have w2 : ∀ u, Region.wanted oi (yielded ops (a.put oj.dst u).tmps) = Region.wanted oi (yielded ops a.tmps) := fun u => wanted_put oi a oj.dst u h3
  refine ⟨same_fine (e1 v0).symm (w1 v0).symm (H v0 hv0).1, fun u hu => ⟨same_fine (e2 u) (w2 u) hf, fun v hv => ?_⟩⟩
  rw [← Act.put_comm a v u h2]
  exact (H v ((same_eff (w2 u)).1 hv)).2 u ((same_eff (w1 v)).2 hu)

/-- Whatever order is picked for the first n. -/
def anyH (P : Program) (md : Region.Mode) (ops : Array Oper) (pre : Nat → Bool) (s : Nat) (C : Bool → Act → World → Prop) (S : Nat → Value → Prop) (n : Nat) (L : Array Bool → Act → Prop) : Nat → Array Bool → Act → Prop
  | 0, listed, a => L listed a
  | f + 1, listed, a => Region.ready md ops listed ≠ [] ∧ ∀ i ∈ Region.ready md ops listed, i < n ∧ qOp P ops pre s C S i (anyH P md ops pre s C S n L f (listed.setIfInBounds i true)) a

theorem wpAny_of_head {n g : Nat} {L : Array Bool → Act → Prop} {Q' : Exit → Act → World → Prop} (hp : preB md ops pre s n = true) (hpn : ∀ i, n ≤ i → pre i = false) (hsz : n ≤ ops.size) (hL : ∀ listed a w, C (bit s listed) a w → L listed a → wpAny P md ops Q' g listed a w) :
    ∀ (f : Nat) (listed : Array Bool) (a : Act) (w : World), HeadInv md ops n listed → C (bit s listed) a w → anyH P md ops pre s C S n L f listed a → wpAny P md ops Q' (f + g) listed a w
  | 0, listed, a, w, _, hw, h => by rw [Nat.zero_add]; exact hL _ _ _ hw h
  | f + 1, listed, a, w, inv, hw, h => by
    rw [show f + 1 + g = (f + g) + 1 by omega]
    refine ⟨fun h0 => absurd h0 h.1, fun i hi => ?_⟩
    obtain ⟨hun, oi, hoi, _⟩ := mem_ready.1 hi
    have hin := (h.2 i hi).1
    refine wpOp_of_qOp (pre := pre) (by rw [hoi]; rfl) (bit_set hun (fun hpi => ?_)) hw (fun a' w' hw' h' => wpAny_of_head hp hpn hsz hL f _ a' w' (inv.set hi hin) hw' h') (h.2 i hi).2
    cases hb : bit s listed with
    | false => rfl
    | true =>
      have := pre_before hp hsz inv hb _ i rfl hin hpi
      rw [getD_both hun] at this
      cases this

theorem anyH_first {n i : Nat} {oi : Oper} {L : Array Bool → Act → Prop} (hi : ops[i]? = some oi) (hsel : ∀ (j : Nat) (o : Oper) cs b, ops[j]? = some o → o.op ≠ .select cs b)
    (hs : Region.sinkB md ops n = true) (hc : Region.chainB md ops n = true) (hn : n < ops.size) (hin : i < n)
    (hdone : ∀ listed a, L listed a → ∀ j ∈ Region.ready md ops listed, n ≤ j) :
    ∀ (f : Nat) (listed : Array Bool) (a : Act), HeadInv md ops n listed →
      (∀ j oj, ops[j]? = some oj → j ≠ i → listed.getD j true = false → (∀ e ∈ oj.after, Region.binds md e = true → e.on ≠ i) → oi.apart ops oj = true) →
      i ∈ Region.ready md ops listed → fine P ops pre s C i (S i) oi a →
      (∀ v, eff ops (S i) oi a v → anyH P md ops pre s C S n L f (listed.setIfInBounds i true) (a.put oi.dst v)) → anyH P md ops pre s C S n L (f + 1) listed a := by
  intro f
  induction f with
  | zero =>
    intro listed a inv _ hr hf H
    have hun := (mem_ready.1 hr).1
    refine ⟨fun h => (by rw [h] at hr; cases hr), fun j hj => ?_⟩
    have hjn : j < n := by
      rcases Nat.lt_or_ge j n with h | h
      · exact h
      · exact absurd hj (tail_waits hs hc hn inv _ i rfl hin hun j h)
    refine ⟨hjn, ?_⟩
    by_cases hji : j = i
    · subst hji; unfold qOp; simp only [hi]; exact ⟨hf, H⟩
    · obtain ⟨v0, hv0⟩ := eff_some hf
      have := hdone _ _ (H v0 hv0) j (ready_mono hj hji)
      omega
  | succ f ih =>
    intro listed a inv hfree hr hf H
    have hun := (mem_ready.1 hr).1
    refine ⟨fun h => (by rw [h] at hr; cases hr), fun j hj => ?_⟩
    have hjn : j < n := by
      rcases Nat.lt_or_ge j n with h | h
      · exact h
      · exact absurd hj (tail_waits hs hc hn inv _ i rfl hin hun j h)
    refine ⟨hjn, ?_⟩
    by_cases hji : j = i
    · subst hji; unfold qOp; simp only [hi]; exact ⟨hf, H⟩
    · obtain ⟨hjun, oj, hoj, hall⟩ := mem_ready.1 hj
      have hnot : ∀ e ∈ oj.after, Region.binds md e = true → e.on ≠ i := fun e he hb heq => by
        have h1 := hall e he hb
        rw [heq, getD_both hun] at h1
        cases h1
      have h2 := swap (S := S) (K := anyH P md ops pre s C S n L f ((listed.setIfInBounds i true).setIfInBounds j true)) hoj (hfree j oj hoj hji hjun hnot) (fun cs b => hsel i oi cs b hi) (fun cs b => hsel j oj cs b hoj) hf
        (fun v hv => ((H v hv).2 j (ready_mono hj hji)).2)
      have hfree' : ∀ k ok, ops[k]? = some ok → k ≠ i → (listed.setIfInBounds j true).getD k true = false →
          (∀ e ∈ ok.after, Region.binds md e = true → e.on ≠ i) → oi.apart ops ok = true := fun k ok hk hki hun' hno => by
        refine hfree k ok hk hki ?_ hno
        by_cases hjk : j = k
        · subst hjk; exact hjun
        · rw [getD_set_ne true hjk] at hun'; exact hun'
      refine qOp_mono (fun a' h3 => ih (listed.setIfInBounds j true) a' (inv.set hj hjn) hfree' (ready_mono hr (Ne.symm hji)) h3.1 ?_) h2
      rw [Array.setIfInBounds_comm _ _ hji]
      exact h3.2

theorem anyH_lex {n g : Nat} {Lq : Act → Prop} (hsel : Region.noSelect ops = true) (hs : Region.sinkB md ops n = true) (hc : Region.chainB md ops n = true) (hn : n < ops.size) (Vs : List (Value → Prop)) (hS : ∀ i V, Vs[i]? = some V → S i = V) (hsn : s < n) :
    ∀ (l : List Oper) (k : Nat) (listed : Array Bool) (a : Act), (∀ j, j < l.length → l[j]? = ops[k + j]?) → k + l.length = n → HeadInv md ops n listed → (s < k → bit s listed = true) →
    Region.lexHead md ops g l.length k listed = true → walk P ops pre s C Lq k l (Vs.drop k) a →
    anyH P md ops pre s C S n (fun listed' a' => Region.seqB md ops g n listed' = true ∧ bit s listed' = true ∧ Lq a') l.length listed a
  | [], k, listed, a, _, hk, _, hbit, hB, h => by
    have : k = n := by simpa using hk
    subst this
    exact ⟨by simpa [Region.lexHead] using hB, hbit hsn, h⟩
  | o :: l, k, listed, a, hl, hk, inv, hbit, hB, h => by
    have h0 : ops[k]? = some o := by simpa using (hl 0 (by simp)).symm
    simp only [List.length_cons, Region.lexHead, Bool.and_eq_true] at hB
    obtain ⟨⟨hr, hf⟩, hB'⟩ := hB
    have hkn : k < n := by simp only [List.length_cons] at hk; omega
    have hr' : k ∈ Region.ready md ops listed := by simpa using hr
    cases hV : Vs.drop k with
    | nil => rw [hV] at h; exact h.elim
    | cons V Vr =>
      rw [hV] at h
      have hVk : Vs[k]? = some V := by
        have := congrArg (fun l => l[0]?) hV
        simpa [List.getElem?_drop] using this
      have hSk : S k = V := hS k V hVk
      have hVr : Vs.drop (k + 1) = Vr := by
        have := congrArg (fun l => l.drop 1) hV
        simpa [List.drop_drop] using this
      obtain ⟨hfin, hK⟩ := h
      have hun := (mem_ready.1 hr').1
      have hbit' : s < k + 1 → bit s (listed.setIfInBounds k true) = true := fun hsk => by
        rcases bit_set (pre := fun _ => false) (s := s) hun (fun h => by cases h) with ⟨_, _, h3⟩ | ⟨h2, h3, _⟩
        · exact h3
        · rw [h3]; exact hbit (by omega)
      refine anyH_first h0 (Region.noSelect_spec hsel) hs hc hn hkn (fun listed' a' hL => seqB_ready hL.1) l.length listed a inv (Region.free_spec h0 hf) hr' (by rw [hSk]; exact hfin) ?_
      intro v hv
      rw [hSk] at hv
      exact anyH_lex hsel hs hc hn Vs hS hsn l (k + 1) _ _ (fun j hj => by have := hl (j + 1) (by simp; omega); simpa [Nat.add_assoc, Nat.add_comm 1 j] using this) (by simp only [List.length_cons] at hk; omega) (inv.set hr' hkn) hbit' hB' (by rw [hVr]; exact hK v hv)

theorem wp_region_loose {id : Nat} {Q : Exit → Act → World → Prop} {a : Act} {w : World} {l : List Oper} (n s : Nat) (pre : Nat → Bool) (hsn : s < n) (hpn : ∀ i, n ≤ i → pre i = false) (hp : preB .any l.toArray pre s n = true) (hm : P.follows .mixedOrders = true) (hB : Region.lexTailB .any l.toArray n = true)
    (C : Bool → Act → World → Prop) (hC : C false a w.drew) (Vs : List (Value → Prop))
    (h : walk P l.toArray pre s C (fun a' => ∀ w', C true a' w' → wpList P l.toArray Q (l.drop n) a' w') 0 (l.take n) Vs a) : (Code.region id l.toArray true).wp P Q a w := by
  simp only [Region.lexTailB, Bool.and_eq_true, decide_eq_true_eq] at hB
  obtain ⟨⟨⟨⟨hsel, hn⟩, hs⟩, hc⟩, hlex⟩ := hB
  have hn' : n < l.length := by simpa using hn
  have htl : (l.take n).length = n := by simp; omega
  have hdl : (l.drop n).length = l.toArray.size - n := by simp
  have inv0 : HeadInv .any l.toArray n (Array.replicate l.toArray.size false) :=
    ⟨by simp, fun j oj _ hl => (by rw [getD_replicate_false] at hl; cases hl), fun t _ ht => getD_in (by simpa using ht) (getD_replicate_false _ _)⟩
  have H := anyH_lex (md := .any) (g := l.toArray.size - n) (pre := pre) (s := s) (C := C) (S := fun i v => ∃ V, Vs[i]? = some V ∧ V v) hsel hs hc hn Vs (fun i V hi => by funext v; simp [hi]) hsn (l.take n) 0 _ a (fun j hj => by
    have hj' : j < n := by rw [htl] at hj; exact hj
    simp [hj']) (by simpa using htl) inv0 (fun h0 => absurd h0 (Nat.not_lt_zero _)) (by rw [htl]; exact hlex) h
  refine wp_region_any hm ?_
  have := wpAny_of_head (pre := pre) (s := s) (C := C) (Q' := Q) (g := l.toArray.size - n) hp hpn (Nat.le_of_lt hn) (fun listed a' w' hw' hL => by
    rw [hL.2.1] at hw'
    have := wpAny_of_seq (md := .any) (Q' := Q) (l.drop n) n listed a' w' (fun j => by simp [List.getElem?_drop]) (by rw [hdl]; exact hL.1) (hL.2.2 w' hw')
    rwa [hdl] at this) _ _ _ _ inv0 (by rw [show bit s (Array.replicate l.toArray.size false) = false from getD_replicate_false _ _]; exact hC) H
  rw [htl, show n + (l.toArray.size - n) = l.toArray.size by omega] at this
  exact this

/-- An operation that is not s: what holds of it before and behind s. -/
theorem turn_other {i : Nat} {V : Value → Prop} {o : Oper} {K : Act → Prop} {a : Act} (hi : i ≠ s) (h0 : Loose.fine P ops (C false) V o a) (h1 : Loose.fine P ops (C true) V o a) (hk : ∀ v, eff ops V o a v → K (a.put o.dst v)) : turn P ops pre s C i V o K a := by
  refine ⟨⟨fun hwant => ⟨(h0.1 hwant).1, fun b b' a' w hst he hc => ?_⟩, fun hwant b b' a' w hst hc => ?_⟩, hk⟩
  · rcases hst with ⟨h, _⟩ | ⟨_, rfl, _⟩
    · exact absurd h hi
    · cases b'
      · exact (h0.1 hwant).2 a' w he.1 hc
      · exact (h1.1 hwant).2 a' w he.1 hc
  · rcases hst with ⟨h, _⟩ | ⟨_, rfl, _⟩
    · exact absurd h hi
    · cases b'
      · exact h0.2 hwant a' w hc
      · exact h1.2 hwant a' w hc

/-- An operation for which s waits. -/
theorem turn_pre {i : Nat} {V : Value → Prop} {o : Oper} {K : Act → Prop} {a : Act} (hi : i ≠ s) (hp : pre i = true) (h : Loose.turn P ops (C false) V o K a) : turn P ops pre s C i V o K a := by
  refine ⟨⟨fun hwant => ⟨(h.1.1 hwant).1, fun b b' a' w hst he hc => ?_⟩, fun hwant b b' a' w hst hc => ?_⟩, h.2⟩
  · rcases hst with ⟨h', _⟩ | ⟨_, rfl, h'⟩
    · exact absurd h' hi
    · obtain rfl := h' hp
      exact (h.1.1 hwant).2 a' w he.1 hc
  · rcases hst with ⟨h', _⟩ | ⟨_, rfl, h'⟩
    · exact absurd h' hi
    · obtain rfl := h' hp
      exact h.1.2 hwant a' w hc

/-- The operation s itself, which is wanted. -/
theorem turn_mark {V : Value → Prop} {o : Oper} {K : Act → Prop} {a : Act} (hwant : Region.wanted o (yielded ops a.tmps) = true) (hV : ∃ v, V v)
    (hrun : ∀ a' w, Like o a' a → C false a' w → Upon P (C true) o a' V ((execOp a.eval o).run P w)) (hk : ∀ v, V v → K (a.put o.dst v)) : turn P ops pre s C s V o K a := by
  refine ⟨⟨fun _ => ⟨hV, fun b b' a' w hst he hc => ?_⟩, fun h => (by rw [hwant] at h; cases h)⟩, fun v hv => hk v ?_⟩
  · rcases hst with ⟨_, rfl, rfl⟩ | ⟨h, _⟩
    · exact hrun a' w he hc
    · exact absurd rfl h
  · unfold eff at hv; rw [hwant] at hv; simpa using hv

variable {Q : Act → Prop} {k : Nat} {o : Oper} {rest : List Oper} {V : Value → Prop} {Vs : List (Value → Prop)} {a : Act}
theorem walk_pre (hk : k ≠ s) (hp : pre k = true) (h : ∀ K : Act → Prop, (∀ a, walk P ops pre s C Q (k + 1) rest Vs a → K a) → Loose.turn P ops (C false) V o K a) : walk P ops pre s C Q k (o :: rest) (V :: Vs) a :=
  turn_pre hk hp (h _ (fun _ h => h))
theorem walk_step (h : ∀ K : Act → Prop, (∀ a, walk P ops pre s C Q (k + 1) rest Vs a → K a) → turn P ops pre s C k V o K a) : walk P ops pre s C Q k (o :: rest) (V :: Vs) a := h _ (fun _ h => h)
theorem walk_nil (h : Q a) : walk P ops pre s C Q k [] [] a := h
end

/-- One class before s, another one behind it. -/
def two (C0 C1 : Act → World → Prop) : Bool → Act → World → Prop
  | false => C0
  | true => C1

section
open LooseP
variable {P : Program} {ops : Array Oper} {pre : Nat → Bool} {s k : Nat} {Q : Act → Prop} {o : Oper} {rest : List Oper} {V : Value → Prop} {Vs : List (Value → Prop)} {a : Act} {B : Nat} {w0 : World} {ds ds' : List (Nat × (Value → World → Prop))} {C0 C1 : Act → World → Prop}

theorem wp_region {id : Nat} {Q : Exit → Act → World → Prop} {a : Act} {w : World} {l : List Oper} (n s : Nat) (pre : Nat → Bool) (ds ds' : List (Nat × (Value → World → Prop))) (hsn : s < n) (hpn : ∀ i, n ≤ i → pre i = false) (hp : preB .any l.toArray pre s n = true)
    (hm : P.follows .mixedOrders = true) (hB : Region.lexTailB .any l.toArray n = true)
    (h0 : ∀ p ∈ ds, ∀ v, a.tmps[p.1]? = some v → v = undef)
    (h : ∃ Vs, walk P l.toArray pre s (two (Cls w.heap.size w ds) (Cls w.heap.size w ds')) (fun a' => ∀ w', Cls w.heap.size w ds' a' w' → wpList P l.toArray Q (l.drop n) a' w') 0 (l.take n) Vs a) : (Code.region id l.toArray true).wp P Q a w := by
  obtain ⟨Vs, h⟩ := h
  exact wp_region_loose n s pre hsn hpn hp hm hB (two (Cls w.heap.size w ds) (Cls w.heap.size w ds')) ⟨(Below.refl _ _).drew, fun p hp v hv hn => absurd (h0 p hp v hv) hn⟩ Vs h

theorem walk_before (hk : k ≠ s) (hp : pre k = true) (h : ∀ K : Act → Prop, (∀ a, walk P ops pre s (two C0 C1) Q (k + 1) rest Vs a → K a) → Loose.turn P ops C0 V o K a) : walk P ops pre s (two C0 C1) Q k (o :: rest) (V :: Vs) a :=
  walk_pre (C := two C0 C1) hk hp h

theorem walk_value {v : Value} (hk : k ≠ s) (hwant : Region.wanted o (yielded ops a.tmps) = true) (hd : off o.dst ds = true) (hd' : off o.dst ds' = true) (hrun : ∀ w', Below B w0 w' → (execOp a.eval o).run P w' = .ok (.value v) w')
    (h : ∀ K : Act → Prop, (∀ a, walk P ops pre s (two (Cls B w0 ds) (Cls B w0 ds')) Q (k + 1) rest Vs a → K a) → K (a.put o.dst v)) : walk P ops pre s (two (Cls B w0 ds) (Cls B w0 ds')) Q k (o :: rest) ((fun u => u = v) :: Vs) a := by
  refine turn_other (C := two (Cls B w0 ds) (Cls B w0 ds')) hk (LooseP.turn_value (K := fun _ => True) hwant hd hrun trivial).1 (LooseP.turn_value (K := fun _ => True) hwant hd' hrun trivial).1 (fun u hu => ?_)
  unfold eff at hu; rw [hwant] at hu
  obtain rfl : u = v := by simpa using hu
  exact h _ (fun _ h => h)

theorem walk_mark (hks : k = s) (hwant : Region.wanted o (yielded ops a.tmps) = true) (hdst : o.dst = none)
    (hrun : ∀ a' w, Like o a' a → C0 a' w → ∃ w1, (execOp a.eval o).run P w = .ok .skip w1 ∧ C1 a' w1)
    (h : walk P ops pre s (two C0 C1) Q (k + 1) rest Vs a) : walk P ops pre s (two C0 C1) Q k (o :: rest) ((fun _ => True) :: Vs) a := by
  subst hks
  refine turn_mark (C := two C0 C1) hwant ⟨undef, trivial⟩ (fun a' w hl hc => ?_) (fun v _ => ?_)
  · obtain ⟨w1, h1, h2⟩ := hrun a' w hl hc
    rw [h1]
    refine ⟨trivial, ?_⟩
    rw [hdst]
    exact h2
  · rw [hdst]; exact h
end
end LooseL
end Go.Proofs.Ytjkkefbfhapblaa
