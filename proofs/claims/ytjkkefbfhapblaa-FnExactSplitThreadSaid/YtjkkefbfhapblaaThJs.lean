/- Two threads joined: the model's function. -/
import Derived.Test.YtjkkefbfhapblaaThJo
import Derived.Test.YtjkkefbfhapblaaThX
import Derived.Test.YtjkkefbfhapblaaThE
namespace Go.Proofs.Ytjkkefbfhapblaa
set_option linter.unusedSimpArgs false
set_option linter.unusedVariables false
open Go.RowKit
set_option maxRecDepth 20000
namespace LooseL
open Loose LooseP
section
variable {P : Program} {ops : Array Oper} {pre : Nat → Bool} {s k : Nat} {Q : Act → Prop} {o : Oper} {rest : List Oper} {V : Value → Prop} {Vs : List (Value → Prop)} {a : Act} {B : Nat} {w0 : World} {ds ds' : List (Nat × (Value → World → Prop))} {C0 C1 : Act → World → Prop}

/-- The operation with the mark answers a value. -/
theorem walk_put {d : Nat} (hks : k = s) (hwant : Region.wanted o (yielded ops a.tmps) = true) (hdst : o.dst = some d) (hV : ∃ v, V v)
    (hrun : ∀ a' w, Like o a' a → C0 a' w → ∃ u w1, (execOp a.eval o).run P w = .ok (.value u) w1 ∧ V u ∧ C1 (a'.put (some d) u) w1)
    (h : ∀ v, V v → walk P ops pre s (two C0 C1) Q (k + 1) rest Vs (a.put (some d) v)) : walk P ops pre s (two C0 C1) Q k (o :: rest) (V :: Vs) a := by
  subst hks
  refine turn_mark (C := two C0 C1) hwant hV (fun a' w hl hc => ?_) (fun v hv => ?_)
  · obtain ⟨u, w1, h1, h2, h3⟩ := hrun a' w hl hc
    rw [h1]
    refine ⟨h2, ?_⟩
    rw [hdst]
    exact h3
  · rw [hdst]; exact h v hv

theorem walk_pure {v : Value} (hk : k ≠ s) (hwant : Region.wanted o (yielded ops a.tmps) = true) (hrun : ∀ w', (execOp a.eval o).run P w' = .ok (.value v) w') (h0 : ∀ a' w' v, C0 a' w' → C0 (a'.put o.dst v) w') (h1 : ∀ a' w' v, C1 a' w' → C1 (a'.put o.dst v) w')
    (h : ∀ K : Act → Prop, (∀ a, walk P ops pre s (two C0 C1) Q (k + 1) rest Vs a → K a) → K (a.put o.dst v)) : walk P ops pre s (two C0 C1) Q k (o :: rest) ((fun u => u = v) :: Vs) a := by
  refine turn_other (C := two C0 C1) hk (Loose.turn_set (P := P) (V := fun u => u = v) (C := C0) (K := fun _ => True) hwant ⟨v, rfl⟩ (fun a' w _ hw => ?_) (fun _ _ => trivial)).1 (Loose.turn_set (P := P) (V := fun u => u = v) (C := C1) (K := fun _ => True) hwant ⟨v, rfl⟩ (fun a' w _ hw => ?_) (fun _ _ => trivial)).1 (fun u hu => ?_)
  · rw [hrun w]; exact ⟨rfl, h0 _ _ _ hw⟩
  · rw [hrun w]; exact ⟨rfl, h1 _ _ _ hw⟩
  · unfold eff at hu; rw [hwant] at hu
    obtain rfl : u = v := by simpa using hu
    exact h _ (fun _ h => h)

/-- A new box, ahead of the mark or behind it. -/
theorem walk_box {φ : Value → World → Prop} {d : Nat} {ob : Obj} (hk : k ≠ s) (hst : ∀ p ∈ ds, Stable p.2) (hst' : ∀ p ∈ ds', Stable p.2) (hB : B ≤ w0.heap.size) (hwant : Region.wanted o (yielded ops a.tmps) = true) (hdst : o.dst = some d) (huni : ∀ p ∈ ds, p.1 = d → p.2 = φ) (huni' : ∀ p ∈ ds', p.1 = d → p.2 = φ)
    (hrun : ∀ w', (execOp a.eval o).run P w' = .ok (.value (.pointer (some ⟨w'.heap.size, 0, none⟩))) (w'.alloc ob)) (hφ : ∀ w' : World, B ≤ w'.heap.size → φ (.pointer (some ⟨w'.heap.size, 0, none⟩)) (w'.alloc ob))
    (h : ∀ K : Act → Prop, (∀ a, walk P ops pre s (two (Cls B w0 ds) (Cls B w0 ds')) Q (k + 1) rest Vs a → K a) → ∀ b, B ≤ b → K (a.put (some d) (.pointer (some ⟨b, 0, none⟩)))) :
    walk P ops pre s (two (Cls B w0 ds) (Cls B w0 ds')) Q k (o :: rest) ((fun u => ∃ b, B ≤ b ∧ u = .pointer (some ⟨b, 0, none⟩)) :: Vs) a := by
  refine turn_other (C := two (Cls B w0 ds) (Cls B w0 ds')) hk (LooseP.turn_allocP (K := fun _ => True) hst hB hwant hdst huni hrun hφ (fun _ _ => trivial)).1 (LooseP.turn_allocP (K := fun _ => True) hst' hB hwant hdst huni' hrun hφ (fun _ _ => trivial)).1 (fun u hu => ?_)
  unfold eff at hu; rw [hwant] at hu
  obtain ⟨b, hb, rfl⟩ : ∃ b, B ≤ b ∧ u = .pointer (some ⟨b, 0, none⟩) := by simpa using hu
  rw [hdst]
  exact h _ (fun _ h => h) b hb

theorem wp_regionC {id : Nat} {Q : Exit → Act → World → Prop} {a : Act} {w : World} {l : List Oper} (n s : Nat) (pre : Nat → Bool) (C0 C1 : Act → World → Prop) (hsn : s < n) (hpn : ∀ i, n ≤ i → pre i = false) (hp : preB .any l.toArray pre s n = true)
    (hm : P.follows .mixedOrders = true) (hB : Region.lexTailB .any l.toArray n = true) (h0 : C0 a w.drew)
    (h : ∃ Vs, walk P l.toArray pre s (two C0 C1) (fun a' => ∀ w', C1 a' w' → wpList P l.toArray Q (l.drop n) a' w') 0 (l.take n) Vs a) : (Code.region id l.toArray true).wp P Q a w := by
  obtain ⟨Vs, h⟩ := h
  exact wp_region_loose n s pre hsn hpn hp hm hB (two C0 C1) h0 Vs h

theorem cls_turn {w : World} {d : Nat} {φ : Value → World → Prop} (h : Cls B w0 ds a w) (hsub : ∀ p ∈ ds', p.1 ≠ d → p ∈ ds) (huni : ∀ p ∈ ds', p.1 = d → p.2 = φ) (u : Value) (hφ : φ u w) : Cls B w0 ds' (a.put (some d) u) w := by
  refine ⟨h.1, fun p hp v hv hn => ?_⟩
  by_cases e : p.1 = d
  · rw [huni p hp e]
    simp only [Act.put, e] at hv
    have hin : d < a.tmps.size := by
      have := (Array.getElem?_eq_some_iff.1 hv).1; simpa using this
    rw [Array.getElem?_setIfInBounds_self_of_lt hin] at hv
    cases hv
    exact hφ
  · exact h.2 p (hsub p hp e) v (by rwa [put_other (by intro h'; exact e (Option.some.inj h').symm)] at hv) hn
end

theorem run_app {P : Program} {a : Act} {o : Oper} {w w' : World} {s x : Operand} {t : TypeId} {v xv v' : Value} (ho : o.op = .call { callee := .builtin .append, args := #[s, x], argTypes := #[t, t] }) (hs : a.eval s = v) (hx : a.eval x = xv) (hr : (Builtin.append_ #[t, t] o.type #[v, xv]).run P w = .ok v' w') :
    (execOp a.eval o).run P w = .ok (.value v') w' := by
  unfold execOp
  simp only [ho, resolve, invoke, builtin, Sem.run_bind, Sem.run_pure, Result.andThen_ok, List.map_toArray, List.map_cons, List.map_nil, hs, hx, hr]
end LooseL
namespace Th
open Fl Rate

theorem duo_stableW {d d' : Nat} {φ ψ : Value → World → Prop} (h : LooseP.Stable φ) (h' : LooseP.Stable ψ) : ∀ p ∈ [(d, φ), (d', ψ)], LooseP.Stable p.2 := by
  intro p hp
  rcases List.mem_cons.1 hp with rfl | hp
  · exact h
  · rw [List.mem_singleton.1 hp]; exact h'

theorem duo_firstW {d d' : Nat} {φ ψ : Value → World → Prop} (h : d' ≠ d) : ∀ p ∈ [(d, φ), (d', ψ)], p.1 = d → p.2 = φ := by
  intro p hp e
  rcases List.mem_cons.1 hp with rfl | hp
  · rfl
  · rw [List.mem_singleton.1 hp] at e; exact absurd e h

theorem duo_secondW {d d' : Nat} {φ ψ : Value → World → Prop} (h : d ≠ d') : ∀ p ∈ [(d, φ), (d', ψ)], p.1 = d' → p.2 = ψ := by
  intro p hp e
  rcases List.mem_cons.1 hp with rfl | hp
  · exact absurd e h
  · rw [List.mem_singleton.1 hp]

theorem joinB_eq (n n' : Nat) (i k : Int) (cs cs' : Option Nat) (c c' : Nat → Option Nat) : joinB n n' i k cs cs' c c' = ((((okT n cs c && ptB n i) && (okT n' cs' c' && ptB n' k)) && !(cmpC .neq (ord .f32 cs cs'))) && okT (n + n') cs (joinF n n' i k c c')) := by
  unfold joinB
  generalize okT (n + n') cs _ = Z
  cases okT n cs c <;> cases okT n' cs' c' <;> cases ptB n i <;> cases ptB n' k <;> rfl

theorem rot_nx {n j : Nat} (c : Nat → Option Nat) (hj : j < n) : rotC n (nx n j) c = rotC n (j + 1) c := by
  funext q
  unfold rotC nx
  by_cases h : j + 1 < n
  · rw [if_pos h]
  · rw [if_neg h, show (j + 1) * 3 = n * 3 by omega, Nat.add_mod_right, Nat.zero_mul, Nat.add_zero]

theorem nx_int {n j : Nat} (hj : j < n) : ((nx n j : Nat) : Int) = ((j : Int) + 1).tmod (n : Int) := by
  unfold nx
  by_cases h : j + 1 < n
  · rw [if_pos h, Int.tmod_eq_of_lt (by omega) (by omega)]; omega
  · rw [if_neg h, show (j : Int) + 1 = n by omega, Int.tmod_self]; rfl

/-- A row that a region has made. -/
def phiW (B n : Nat) (f : Nat → Option Nat) (v : Value) (w : World) : Prop := ∃ g cap xs, v = .slice (some ⟨g, 0, none⟩) n cap ∧ w.ownsRow B 28 3 (.slice (some ⟨g, 0, none⟩) n cap) n xs ∧ FP (n * 3) f xs

theorem phiW_stable (B n : Nat) (f : Nat → Option Nat) : LooseP.Stable (phiW B n f) := by
  rintro v w w' ⟨g, cap, xs, h1, h2, h3⟩ hb
  exact ⟨g, cap, xs, h1, own_below h2 hb, h3⟩

/-- A thread of such a row. -/
def phiWT (B n s : Nat) (f : Nat → Option Nat) (v : Value) (w : World) : Prop := ∃ g cap xs, v = .agg #[.slice (some ⟨g, 0, none⟩) n cap, .float .f32 s] ∧ w.ownsRow B 28 3 (.slice (some ⟨g, 0, none⟩) n cap) n xs ∧ FP (n * 3) f xs

theorem phiWT_stable (B n s : Nat) (f : Nat → Option Nat) : LooseP.Stable (phiWT B n s f) := by
  rintro v w w' ⟨g, cap, xs, h1, h2, h3⟩ hb
  exact ⟨g, cap, xs, h1, own_below h2 hb, h3⟩

theorem own_wider {w : World} {B B' e size n : Nat} {v : Value} {xs : List Value} (h : w.ownsRow B e size v n xs) (hB : B' ≤ B) : w.ownsRow B' e size v n xs := by
  obtain ⟨h1, h2 | ⟨g, cap, cur, rfl, h4, h5⟩⟩ := h
  · exact ⟨h1, .inl h2⟩
  · exact ⟨h1, .inr ⟨g, cap, cur, rfl, Nat.le_trans hB h4, h5⟩⟩

theorem app_run {o : Oper} {a a' : Act} {w4 w' : World} {B S gw n capw gq n' capq s : Nat} {D D' F : Nat → Option Nat} {xs : List Value} (ho : o.op = .call { callee := .builtin .append, args := #[.tmp 38, .tmp 45], argTypes := #[31, 31] }) (h38 : a.eval (.tmp 38) = .slice (some ⟨gw, 0, none⟩) n capw) (h45 : a.eval (.tmp 45) = .slice (some ⟨gq, 0, none⟩) n' capq) (h45' : a'.eval (.tmp 45) = a.eval (.tmp 45))
    (hc : LooseP.Cls w4.heap.size w4 [((45 : Nat), phiW w4.heap.size n' D')] a' w') (hO : w4.ownsRow B 28 3 (.slice (some ⟨gw, 0, none⟩) n capw) n xs) (hF : FP (n * 3) D xs) (hq : w4.heap[S]? = some (.cells #[.slice (some ⟨gw, 0, none⟩) n capw, .float .f32 s] 33)) (hB : B ≤ w4.heap.size) (hn0 : 0 < n) (hn : n ≤ 32) (hn' : n' ≤ 32)
    (HFP : ∀ xs ys, FP (n * 3) D xs → FP (n' * 3) D' ys → FP ((n + n') * 3) F (xs ++ ys)) :
    ∃ u w1, (execOp a.eval o).run Try.prog w' = .ok (.value u) w1 ∧ (∃ g cap, u = .slice (some ⟨g, 0, none⟩) (n + n') cap) ∧ (LooseP.Cls B w4 [((46 : Nat), phiW B (n + n') F)] (a'.put (some 46) u) w1 ∧ w1.heap[S]? = some (.cells #[.slice (some ⟨gw, 0, none⟩) n capw, .float .f32 s] 33)) := by
  obtain ⟨g9, cap9, ys, k1, k2, k3⟩ := hc.at (List.mem_cons_self ..) (h45'.trans h45) (by simp [undef])
  obtain ⟨rfl, rfl⟩ : gq = g9 ∧ capq = cap9 := by simpa using k1
  obtain ⟨i0, hI, hI0, hI1, hI2⟩ := info_v
  have hO' := own_below hO hc.1
  have hq' := keep_block hc.1 hq
  obtain ⟨v', w1, hr, hown, hgrow, _⟩ := run_append_own (P := Try.prog) w' B 31 o.type 28 i0 (.agg #[.float .f32 0, .float .f32 0, .float .f32 0]) 3 12 Try.underlying31 hI hI0 hI1 hI2 rfl (by decide) _ n xs hO' ⟨gq, 0, none⟩ n' capq ys k3.1 (k2.cells rfl) k3.cell (by unfold maxLen; omega) (by omega) (Nat.le_trans hB hc.1.size)
  obtain ⟨g1, cap1, rfl⟩ := Joins.ownsRow_form hown (by omega)
  have hcl : LooseP.Cls B w4 [] a' w1 := And.intro (Below.grown (hc.1.mono hB) hgrow (Nat.le_trans hB hc.1.size) (own_ge hO' (Nat.le_refl _))) (fun p hp => by cases hp)
  refine ⟨_, w1, LooseL.run_app ho h38 h45 hr, ⟨g1, cap1, rfl⟩, LooseL.cls_turn (φ := phiW B (n + n') F) hcl (by intro p hp hd; rw [List.mem_singleton.1 hp] at hd; exact absurd rfl hd) (by intro p hp _; rw [List.mem_singleton.1 hp]) _ ⟨g1, cap1, _, rfl, hown, HFP _ _ hF k3⟩, ?_⟩
  rw [hgrow.block S (block_lt hq') (own_off hO' hq' (by decide))]; exact hq'

set_option maxHeartbeats 12800000 in
theorem spec_JoinT (a a' : Option Addr) (n n' cap cap' s s' : Nat) (cs cs' : Option Nat) (c c' : Nat → Option Nat) (w : World) (h : IsV w a n cap c) (h' : IsV w a' n' cap' c') (fs : Fr .f32 s cs) (fs' : Fr .f32 s' cs') (i k : Int) (R : Bool) (hR : joinB n n' i k cs cs' c c' = R) :
    Calls Try.prog 35 #[tV a n cap s, tV a' n' cap' s', .int .i64 i, .int .i64 k] w (RetG R s (n + n') (joinF n n' i k c c') w) := by
  rw [joinB_eq] at hR
  have HA := Lib.hid (fun G w' (hb : Below w.heap.size w w') e0 e1 => spec_point G a n cap s cs c i w' e0 e1 (h.later hb) fs)
  have HA' := Lib.hid (fun G w' (hb : Below w.heap.size w w') e0 e1 => spec_point G a' n' cap' s' cs' c' k w' e0 e1 (h'.later hb) fs')
  cases hQ : (okT n cs c && ptB n i)
  · obtain rfl : R = false := by rw [← hR]; rw [hQ]; rfl
    rw [hQ] at HA
    clear hR h h' hQ
    go_enter Try.func35, Try.ntmps35
    go_wp2_with fail
    obtain ⟨wc, hwc⟩ : ∃ u, u = ((w.alloc (.cells #[.slice a n cap, .float .f32 s] 33)).alloc (.cells #[.slice a' n' cap', .float .f32 s'] 33)).alloc (.cells #[.slice none 0 0, .float .f32 0] 33) := ⟨_, rfl⟩
    rw [← hwc]
    have HK := Lib.hid (show Box3 w.heap.size wc (.cells #[.slice a n cap, .float .f32 s] 33) (.cells #[.slice a' n' cap', .float .f32 s'] 33) (.cells #[.slice none 0 0, .float .f32 0] 33) from by rw [hwc]; exact three_boxes _ _ _ _)
    have HBW := Lib.hid (show Below w.heap.size w wc from by rw [hwc]; exact three_below _ _ _ _)
    clear hwc
    have e0 := (cells_of (i := 0) HK.out.1).trans (show _ = some (.slice a n cap) from rfl)
    have e1 := (cells_of (i := 1) HK.out.1).trans (show _ = some (.float .f32 s) from rfl)
    have u0 := (cells_of (i := 0) HK.out.2.1).trans (show _ = some (.slice a' n' cap') from rfl)
    have u1 := (cells_of (i := 1) HK.out.2.1).trans (show _ = some (.float .f32 s') from rfl)
    have z0 := (cells_of (i := 0) HK.out.2.2).trans (show _ = some (Value.slice none 0 0) from rfl)
    have z1 := (cells_of (i := 1) HK.out.2.2).trans (show _ = some (Value.float .f32 0) from rfl)
    have y0 := free_of HK.out.2.2 0
    have y1 := free_of HK.out.2.2 1
    have l2 := block_lt HK.out.2.2
    have l1 : w.heap.size + 1 < wc.heap.size := by omega
    have l0 : w.heap.size < wc.heap.size := by omega
    refine (HA.out _ _ HBW.out e0 e1).mono ?_
    rintro e w1 ⟨rfl, hbw1⟩
    have hkw1 := HK.out.later hbw1
    have hbww1 : Below w.heap.size w w1 := HBW.out.trans (hbw1.mono HBW.out.size)
    clear e0 e1 u0 u1 z0 z1 y0 y1 l0 l1 l2 HK HBW
    have HK := Lib.hid hkw1
    have HBW := Lib.hid hbww1
    clear hkw1 hbww1 hbw1
    have e0 := (cells_of (i := 0) HK.out.1).trans (show _ = some (.slice a n cap) from rfl)
    have e1 := (cells_of (i := 1) HK.out.1).trans (show _ = some (.float .f32 s) from rfl)
    have u0 := (cells_of (i := 0) HK.out.2.1).trans (show _ = some (.slice a' n' cap') from rfl)
    have u1 := (cells_of (i := 1) HK.out.2.1).trans (show _ = some (.float .f32 s') from rfl)
    have z0 := (cells_of (i := 0) HK.out.2.2).trans (show _ = some (Value.slice none 0 0) from rfl)
    have z1 := (cells_of (i := 1) HK.out.2.2).trans (show _ = some (Value.float .f32 0) from rfl)
    have y0 := free_of HK.out.2.2 0
    have y1 := free_of HK.out.2.2 1
    have l2 := block_lt HK.out.2.2
    have l1 : w.heap.size + 1 < w1.heap.size := by omega
    have l0 : w.heap.size < w1.heap.size := by omega
    go_wp2
    refine bodyPost_ret ?ohr rfl (retG_no ?obel)
    case ohr => simp [results, Try.results35, go_sem, *]
    case obel => exact Below.setCell (Below.setCell HBW.out (by show w.heap.size ≤ w.heap.size + 2; omega) _) (by show w.heap.size ≤ w.heap.size + 2; omega) _
  cases hQ' : (okT n' cs' c' && ptB n' k)
  · obtain rfl : R = false := by rw [← hR]; rw [hQ, hQ']; rfl
    rw [hQ] at HA
    rw [hQ'] at HA'
    clear hR h h' hQ hQ'
    go_enter Try.func35, Try.ntmps35
    go_wp2_with fail
    obtain ⟨wc, hwc⟩ : ∃ u, u = ((w.alloc (.cells #[.slice a n cap, .float .f32 s] 33)).alloc (.cells #[.slice a' n' cap', .float .f32 s'] 33)).alloc (.cells #[.slice none 0 0, .float .f32 0] 33) := ⟨_, rfl⟩
    rw [← hwc]
    have HK := Lib.hid (show Box3 w.heap.size wc (.cells #[.slice a n cap, .float .f32 s] 33) (.cells #[.slice a' n' cap', .float .f32 s'] 33) (.cells #[.slice none 0 0, .float .f32 0] 33) from by rw [hwc]; exact three_boxes _ _ _ _)
    have HBW := Lib.hid (show Below w.heap.size w wc from by rw [hwc]; exact three_below _ _ _ _)
    clear hwc
    have e0 := (cells_of (i := 0) HK.out.1).trans (show _ = some (.slice a n cap) from rfl)
    have e1 := (cells_of (i := 1) HK.out.1).trans (show _ = some (.float .f32 s) from rfl)
    have u0 := (cells_of (i := 0) HK.out.2.1).trans (show _ = some (.slice a' n' cap') from rfl)
    have u1 := (cells_of (i := 1) HK.out.2.1).trans (show _ = some (.float .f32 s') from rfl)
    have z0 := (cells_of (i := 0) HK.out.2.2).trans (show _ = some (Value.slice none 0 0) from rfl)
    have z1 := (cells_of (i := 1) HK.out.2.2).trans (show _ = some (Value.float .f32 0) from rfl)
    have y0 := free_of HK.out.2.2 0
    have y1 := free_of HK.out.2.2 1
    have l2 := block_lt HK.out.2.2
    have l1 : w.heap.size + 1 < wc.heap.size := by omega
    have l0 : w.heap.size < wc.heap.size := by omega
    refine (HA.out _ _ HBW.out e0 e1).mono ?_
    rintro e w1 ⟨rfl, hbw1⟩
    have hkw1 := HK.out.later hbw1
    have hbww1 : Below w.heap.size w w1 := HBW.out.trans (hbw1.mono HBW.out.size)
    clear e0 e1 u0 u1 z0 z1 y0 y1 l0 l1 l2 HK HBW
    have HK := Lib.hid hkw1
    have HBW := Lib.hid hbww1
    clear hkw1 hbww1 hbw1
    have e0 := (cells_of (i := 0) HK.out.1).trans (show _ = some (.slice a n cap) from rfl)
    have e1 := (cells_of (i := 1) HK.out.1).trans (show _ = some (.float .f32 s) from rfl)
    have u0 := (cells_of (i := 0) HK.out.2.1).trans (show _ = some (.slice a' n' cap') from rfl)
    have u1 := (cells_of (i := 1) HK.out.2.1).trans (show _ = some (.float .f32 s') from rfl)
    have z0 := (cells_of (i := 0) HK.out.2.2).trans (show _ = some (Value.slice none 0 0) from rfl)
    have z1 := (cells_of (i := 1) HK.out.2.2).trans (show _ = some (Value.float .f32 0) from rfl)
    have y0 := free_of HK.out.2.2 0
    have y1 := free_of HK.out.2.2 1
    have l2 := block_lt HK.out.2.2
    have l1 : w.heap.size + 1 < w1.heap.size := by omega
    have l0 : w.heap.size < w1.heap.size := by omega
    go_wp2_with fail
    refine (HA'.out _ _ HBW.out u0 u1).mono ?_
    rintro e w2 ⟨rfl, hbw2⟩
    have hkw2 := HK.out.later hbw2
    have hbww2 : Below w.heap.size w w2 := HBW.out.trans (hbw2.mono HBW.out.size)
    clear e0 e1 u0 u1 z0 z1 y0 y1 l0 l1 l2 HK HBW
    have HK := Lib.hid hkw2
    have HBW := Lib.hid hbww2
    clear hkw2 hbww2 hbw2
    have e0 := (cells_of (i := 0) HK.out.1).trans (show _ = some (.slice a n cap) from rfl)
    have e1 := (cells_of (i := 1) HK.out.1).trans (show _ = some (.float .f32 s) from rfl)
    have u0 := (cells_of (i := 0) HK.out.2.1).trans (show _ = some (.slice a' n' cap') from rfl)
    have u1 := (cells_of (i := 1) HK.out.2.1).trans (show _ = some (.float .f32 s') from rfl)
    have z0 := (cells_of (i := 0) HK.out.2.2).trans (show _ = some (Value.slice none 0 0) from rfl)
    have z1 := (cells_of (i := 1) HK.out.2.2).trans (show _ = some (Value.float .f32 0) from rfl)
    have y0 := free_of HK.out.2.2 0
    have y1 := free_of HK.out.2.2 1
    have l2 := block_lt HK.out.2.2
    have l1 : w.heap.size + 1 < w2.heap.size := by omega
    have l0 : w.heap.size < w2.heap.size := by omega
    go_wp2
    refine bodyPost_ret ?ohr rfl (retG_no ?obel)
    case ohr => simp [results, Try.results35, go_sem, *]
    case obel => exact Below.setCell (Below.setCell HBW.out (by show w.heap.size ≤ w.heap.size + 2; omega) _) (by show w.heap.size ≤ w.heap.size + 2; omega) _
  rw [hQ] at HA
  rw [hQ'] at HA'
  cases hE : cmpC .neq (ord .f32 cs cs')
  case true =>
    obtain rfl : R = false := by rw [← hR]; rw [hQ, hQ', hE]; rfl
    clear hR h h' hQ hQ'
    go_enter Try.func35, Try.ntmps35
    go_wp2_with fail
    obtain ⟨wc, hwc⟩ : ∃ u, u = ((w.alloc (.cells #[.slice a n cap, .float .f32 s] 33)).alloc (.cells #[.slice a' n' cap', .float .f32 s'] 33)).alloc (.cells #[.slice none 0 0, .float .f32 0] 33) := ⟨_, rfl⟩
    rw [← hwc]
    have HK := Lib.hid (show Box3 w.heap.size wc (.cells #[.slice a n cap, .float .f32 s] 33) (.cells #[.slice a' n' cap', .float .f32 s'] 33) (.cells #[.slice none 0 0, .float .f32 0] 33) from by rw [hwc]; exact three_boxes _ _ _ _)
    have HBW := Lib.hid (show Below w.heap.size w wc from by rw [hwc]; exact three_below _ _ _ _)
    clear hwc
    have e0 := (cells_of (i := 0) HK.out.1).trans (show _ = some (.slice a n cap) from rfl)
    have e1 := (cells_of (i := 1) HK.out.1).trans (show _ = some (.float .f32 s) from rfl)
    have u0 := (cells_of (i := 0) HK.out.2.1).trans (show _ = some (.slice a' n' cap') from rfl)
    have u1 := (cells_of (i := 1) HK.out.2.1).trans (show _ = some (.float .f32 s') from rfl)
    have z0 := (cells_of (i := 0) HK.out.2.2).trans (show _ = some (Value.slice none 0 0) from rfl)
    have z1 := (cells_of (i := 1) HK.out.2.2).trans (show _ = some (Value.float .f32 0) from rfl)
    have y0 := free_of HK.out.2.2 0
    have y1 := free_of HK.out.2.2 1
    have l2 := block_lt HK.out.2.2
    have l1 : w.heap.size + 1 < wc.heap.size := by omega
    have l0 : w.heap.size < wc.heap.size := by omega
    refine (HA.out _ _ HBW.out e0 e1).mono ?_
    rintro e w1 ⟨rfl, hbw1⟩
    have hkw1 := HK.out.later hbw1
    have hbww1 : Below w.heap.size w w1 := HBW.out.trans (hbw1.mono HBW.out.size)
    clear e0 e1 u0 u1 z0 z1 y0 y1 l0 l1 l2 HK HBW
    have HK := Lib.hid hkw1
    have HBW := Lib.hid hbww1
    clear hkw1 hbww1 hbw1
    have e0 := (cells_of (i := 0) HK.out.1).trans (show _ = some (.slice a n cap) from rfl)
    have e1 := (cells_of (i := 1) HK.out.1).trans (show _ = some (.float .f32 s) from rfl)
    have u0 := (cells_of (i := 0) HK.out.2.1).trans (show _ = some (.slice a' n' cap') from rfl)
    have u1 := (cells_of (i := 1) HK.out.2.1).trans (show _ = some (.float .f32 s') from rfl)
    have z0 := (cells_of (i := 0) HK.out.2.2).trans (show _ = some (Value.slice none 0 0) from rfl)
    have z1 := (cells_of (i := 1) HK.out.2.2).trans (show _ = some (Value.float .f32 0) from rfl)
    have y0 := free_of HK.out.2.2 0
    have y1 := free_of HK.out.2.2 1
    have l2 := block_lt HK.out.2.2
    have l1 : w.heap.size + 1 < w1.heap.size := by omega
    have l0 : w.heap.size < w1.heap.size := by omega
    go_wp2_with fail
    refine (HA'.out _ _ HBW.out u0 u1).mono ?_
    rintro e w2 ⟨rfl, hbw2⟩
    have hkw2 := HK.out.later hbw2
    have hbww2 : Below w.heap.size w w2 := HBW.out.trans (hbw2.mono HBW.out.size)
    clear e0 e1 u0 u1 z0 z1 y0 y1 l0 l1 l2 HK HBW
    have HK := Lib.hid hkw2
    have HBW := Lib.hid hbww2
    clear hkw2 hbww2 hbw2
    have e0 := (cells_of (i := 0) HK.out.1).trans (show _ = some (.slice a n cap) from rfl)
    have e1 := (cells_of (i := 1) HK.out.1).trans (show _ = some (.float .f32 s) from rfl)
    have u0 := (cells_of (i := 0) HK.out.2.1).trans (show _ = some (.slice a' n' cap') from rfl)
    have u1 := (cells_of (i := 1) HK.out.2.1).trans (show _ = some (.float .f32 s') from rfl)
    have z0 := (cells_of (i := 0) HK.out.2.2).trans (show _ = some (Value.slice none 0 0) from rfl)
    have z1 := (cells_of (i := 1) HK.out.2.2).trans (show _ = some (Value.float .f32 0) from rfl)
    have y0 := free_of HK.out.2.2 0
    have y1 := free_of HK.out.2.2 1
    have l2 := block_lt HK.out.2.2
    have l1 : w.heap.size + 1 < w2.heap.size := by omega
    have l0 : w.heap.size < w2.heap.size := by omega
    go_wp2_with (first | (refine Fl.wpList_cmp rfl rfl rfl rfl rfl fs fs' ?_; try simp only [hE]))
    refine bodyPost_ret ?ohr rfl (retG_no ?obel)
    case ohr => simp [results, Try.results35, go_sem, *]
    case obel => exact Below.setCell (Below.setCell HBW.out (by show w.heap.size ≤ w.heap.size + 2; omega) _) (by show w.heap.size ≤ w.heap.size + 2; omega) _
  have hok : okT (n + n') cs (joinF n n' i k c c') = R := by rw [← hR]; rw [hQ, hQ', hE]; rfl
  simp only [Bool.and_eq_true] at hQ hQ'
  obtain ⟨hA, hB⟩ := hQ
  obtain ⟨hA', hB'⟩ := hQ'
  obtain ⟨hn3, hn32, hsf, _⟩ := okT_of hA
  obtain ⟨hn3', hn32', hsf', _⟩ := okT_of hA'
  unfold ptB at hB hB'
  simp only [Bool.and_eq_true, decide_eq_true_eq] at hB hB'
  obtain ⟨j, rfl⟩ : ∃ j : Nat, i = (j : Int) := ⟨i.toNat, by omega⟩
  obtain ⟨m, rfl⟩ : ∃ m : Nat, k = (m : Int) := ⟨k.toNat, by omega⟩
  have hj : j < n := by omega
  have hm : m < n' := by omega
  have HFP := Lib.hid (fun xs ys (h : FP (n * 3) (rotC n (j + 1) c) xs) (h' : FP (n' * 3) (rotC n' (m + 1) c') ys) => (show FP ((n + n') * 3) (joinF n n' j m c c') (xs ++ ys) from by unfold joinF; rw [show ((j : Int) + 1).toNat = j + 1 by omega, show ((m : Int) + 1).toNat = m + 1 by omega]; exact FP.append h h'))
  have HPF := Lib.hid (fun G w' (e0 : w'.cell? ⟨G, 0, none⟩ = some (.slice a n cap)) (hb : Below w.heap.size w w') => (show Calls Try.prog 78 #[.pointer (some ⟨G, 0, none⟩), .int .i64 (((j : Int) + 1).tmod (n : Int))] w' (RetO n (rotC n (j + 1) c) w') from by have := from_own G a n cap (nx n j) c w' e0 (h.later hb) ⟨hn3, hn32⟩ (nx_lt hj); rwa [nx_int hj, rot_nx _ hj] at this))
  have HPF' := Lib.hid (fun G w' (e0 : w'.cell? ⟨G, 0, none⟩ = some (.slice a' n' cap')) (hb : Below w.heap.size w w') => (show Calls Try.prog 78 #[.pointer (some ⟨G, 0, none⟩), .int .i64 (((m : Int) + 1).tmod (n' : Int))] w' (RetO n' (rotC n' (m + 1) c') w') from by have := from_own G a' n' cap' (nx n' m) c' w' e0 (h'.later hb) ⟨hn3', hn32'⟩ (nx_lt hm); rwa [nx_int hm, rot_nx _ hm] at this))
  generalize rotC n (j + 1) c = D at *
  generalize rotC n' (m + 1) c' = D' at *
  have hw1 : IntKind.i64.wrap ((j : Int) + 1) = (j : Int) + 1 := IntWalk.i64_in _ (by omega)
  have hw2 : IntKind.i64.wrap ((m : Int) + 1) = (m : Int) + 1 := IntWalk.i64_in _ (by omega)
  have hn0 : ¬ (n : Int) = 0 := by omega
  have hn0' : ¬ (n' : Int) = 0 := by omega
  generalize joinF n n' j m c c' = F at *
  have HCH := Lib.hid (fun a cap w (h : IsV w a (n + n') cap F) => spec_give a (n + n') cap s cs _ w h fs R hok)
  obtain ⟨sR, hsR⟩ : ∃ x, (if R then s else 0) = x := ⟨_, rfl⟩
  obtain ⟨nR, hnR⟩ : ∃ x, (if R then n + n' else 0) = x := ⟨_, rfl⟩
  show Calls _ _ _ w (RetB R _ _ _ w)
  rw [hsR, hnR]
  have HR := Lib.hid (And.intro hsR hnR)
  obtain ⟨i0, hI, hI0, hI1, hI2⟩ := info_v
  clear hA hA' hB hB' hR hok hsR hnR h h'
  go_enter Try.func35, Try.ntmps35
  go_wp2_with fail
  obtain ⟨wc, hwc⟩ : ∃ u, u = ((w.alloc (.cells #[.slice a n cap, .float .f32 s] 33)).alloc (.cells #[.slice a' n' cap', .float .f32 s'] 33)).alloc (.cells #[.slice none 0 0, .float .f32 0] 33) := ⟨_, rfl⟩
  rw [← hwc]
  have HK := Lib.hid (show Box3 w.heap.size wc (.cells #[.slice a n cap, .float .f32 s] 33) (.cells #[.slice a' n' cap', .float .f32 s'] 33) (.cells #[.slice none 0 0, .float .f32 0] 33) from by rw [hwc]; exact three_boxes _ _ _ _)
  have HBW := Lib.hid (show Below w.heap.size w wc from by rw [hwc]; exact three_below _ _ _ _)
  clear hwc
  have e0 := (cells_of (i := 0) HK.out.1).trans (show _ = some (.slice a n cap) from rfl)
  have e1 := (cells_of (i := 1) HK.out.1).trans (show _ = some (.float .f32 s) from rfl)
  have u0 := (cells_of (i := 0) HK.out.2.1).trans (show _ = some (.slice a' n' cap') from rfl)
  have u1 := (cells_of (i := 1) HK.out.2.1).trans (show _ = some (.float .f32 s') from rfl)
  have z0 := (cells_of (i := 0) HK.out.2.2).trans (show _ = some (Value.slice none 0 0) from rfl)
  have z1 := (cells_of (i := 1) HK.out.2.2).trans (show _ = some (Value.float .f32 0) from rfl)
  have y0 := free_of HK.out.2.2 0
  have y1 := free_of HK.out.2.2 1
  have l2 := block_lt HK.out.2.2
  have l1 : w.heap.size + 1 < wc.heap.size := by omega
  have l0 : w.heap.size < wc.heap.size := by omega
  refine (HA.out _ _ HBW.out e0 e1).mono ?_
  rintro e w1 ⟨rfl, hbw1⟩
  have hkw1 := HK.out.later hbw1
  have hbww1 : Below w.heap.size w w1 := HBW.out.trans (hbw1.mono HBW.out.size)
  clear e0 e1 u0 u1 z0 z1 y0 y1 l0 l1 l2 HK HBW
  have HK := Lib.hid hkw1
  have HBW := Lib.hid hbww1
  clear hkw1 hbww1 hbw1
  have e0 := (cells_of (i := 0) HK.out.1).trans (show _ = some (.slice a n cap) from rfl)
  have e1 := (cells_of (i := 1) HK.out.1).trans (show _ = some (.float .f32 s) from rfl)
  have u0 := (cells_of (i := 0) HK.out.2.1).trans (show _ = some (.slice a' n' cap') from rfl)
  have u1 := (cells_of (i := 1) HK.out.2.1).trans (show _ = some (.float .f32 s') from rfl)
  have z0 := (cells_of (i := 0) HK.out.2.2).trans (show _ = some (Value.slice none 0 0) from rfl)
  have z1 := (cells_of (i := 1) HK.out.2.2).trans (show _ = some (Value.float .f32 0) from rfl)
  have y0 := free_of HK.out.2.2 0
  have y1 := free_of HK.out.2.2 1
  have l2 := block_lt HK.out.2.2
  have l1 : w.heap.size + 1 < w1.heap.size := by omega
  have l0 : w.heap.size < w1.heap.size := by omega
  go_wp2_with fail
  refine (HA'.out _ _ HBW.out u0 u1).mono ?_
  rintro e w2 ⟨rfl, hbw2⟩
  have hkw2 := HK.out.later hbw2
  have hbww2 : Below w.heap.size w w2 := HBW.out.trans (hbw2.mono HBW.out.size)
  clear e0 e1 u0 u1 z0 z1 y0 y1 l0 l1 l2 HK HBW
  have HK := Lib.hid hkw2
  have HBW := Lib.hid hbww2
  clear hkw2 hbww2 hbw2
  have e0 := (cells_of (i := 0) HK.out.1).trans (show _ = some (.slice a n cap) from rfl)
  have e1 := (cells_of (i := 1) HK.out.1).trans (show _ = some (.float .f32 s) from rfl)
  have u0 := (cells_of (i := 0) HK.out.2.1).trans (show _ = some (.slice a' n' cap') from rfl)
  have u1 := (cells_of (i := 1) HK.out.2.1).trans (show _ = some (.float .f32 s') from rfl)
  have z0 := (cells_of (i := 0) HK.out.2.2).trans (show _ = some (Value.slice none 0 0) from rfl)
  have z1 := (cells_of (i := 1) HK.out.2.2).trans (show _ = some (Value.float .f32 0) from rfl)
  have y0 := free_of HK.out.2.2 0
  have y1 := free_of HK.out.2.2 1
  have l2 := block_lt HK.out.2.2
  have l1 : w.heap.size + 1 < w2.heap.size := by omega
  have l0 : w.heap.size < w2.heap.size := by omega
  go_wp2_with (first | (refine Fl.wpList_cmp rfl rfl rfl rfl rfl fs fs' ?_; try simp only [hE]))
  have HE := Lib.hid e0
  have HBQ := Lib.hid HBW.out
  have hl22 := l2
  have hst : ∀ p ∈ [((33 : Nat), phiW w2.heap.size n D), ((10 : Nat), phiB w2.heap.size)], LooseP.Stable p.2 := duo_stableW (phiW_stable _ _ _) (phiB_stable _)
  have hst' : ∀ p ∈ [((36 : Nat), phiWT w2.heap.size n s D), ((10 : Nat), phiB w2.heap.size)], LooseP.Stable p.2 := duo_stableW (phiWT_stable _ _ _ _) (phiB_stable _)
  have huc : ∀ p ∈ [((33 : Nat), phiW w2.heap.size n D), ((10 : Nat), phiB w2.heap.size)], p.1 = 33 → p.2 = phiW w2.heap.size n D := duo_firstW (by decide)
  have hub : ∀ p ∈ [((33 : Nat), phiW w2.heap.size n D), ((10 : Nat), phiB w2.heap.size)], p.1 = 10 → p.2 = phiB w2.heap.size := duo_secondW (by decide)
  have hub' : ∀ p ∈ [((36 : Nat), phiWT w2.heap.size n s D), ((10 : Nat), phiB w2.heap.size)], p.1 = 10 → p.2 = phiB w2.heap.size := duo_secondW (by decide)
  refine LooseL.wp_region 11 9 (fun i => decide (i < 9)) [((33 : Nat), phiW w2.heap.size n D), ((10 : Nat), phiB w2.heap.size)] [((36 : Nat), phiWT w2.heap.size n s D), ((10 : Nat), phiB w2.heap.size)] (by decide) (fun i hi => by simp; omega) (by kernel_rfl) (by kernel_rfl) (by kernel_rfl) (by simp [undef]) ?_
  apply Exists.intro
  simp only [List.take_succ_cons, List.take_zero, List.drop_succ_cons, List.drop_zero]
  repeat (first | (apply LooseL.walk_before (by decide) rfl; intro K hK; apply LooseP.turn_value (v := .int .i64 (((j : Int) + 1).tmod (n : Int))) (hwant := rfl) (hd := rfl); (focus (intro w' hw'; go_simp; first | done | rfl | omega)); go_simp; refine hK _ ?_; clear hK K) | (apply LooseL.walk_before (by decide) rfl; intro K hK; apply LooseP.turn_value (hwant := rfl) (hd := rfl); (focus (intro w' hw'; obtain ⟨hc, hf⟩ := Fl.bcell hw'; go_simp; first | done | rfl | exact ⟨rfl, rfl⟩)); go_simp; refine hK _ ?_; clear hK K) | (apply LooseL.walk_before (by decide) rfl; intro K hK; refine LooseP.turn_callP (f := 78) (args := fun a => #[a.eval (.tmp 4), a.eval (.tmp 32)]) (V := fun v => ∃ g cap, v = .slice (some ⟨g, 0, none⟩) n cap) (φ := phiW w2.heap.size n D) (d := 33) hst (Nat.le_refl _) rfl rfl huc (by intro a' w'; go_simp; first | done | rfl | exact ⟨rfl, rfl⟩) ⟨_, 0, 0, rfl⟩ ?_ ?_; (focus (intro a' w' _ hcl; go_simp; exact (HPF.out _ w' ((hcl.1.cell (p := ⟨w.heap.size, 0, none⟩) l0).trans HE.out) (HBQ.out.trans (hcl.1.mono HBQ.out.size))).mono fun e w'' ⟨g, cap, xs, h1, h2, h3, h4⟩ => ⟨_, h1, ⟨g, cap, rfl⟩, ⟨g, cap, xs, rfl, own_wider h2 hcl.1.size, h3⟩, h4⟩)); (intro v hv; obtain ⟨gq, capq, rfl⟩ := hv; go_simp; refine hK _ ?_; clear hK K)) | (apply LooseL.walk_put (d := 36) (V := fun v => ∃ g cap, v = .agg #[.slice (some ⟨g, 0, none⟩) n cap, .float .f32 s]) (hks := rfl) (hwant := rfl) (hdst := rfl) (hV := ⟨_, 0, 0, rfl⟩); (focus (intro a' w' hl hc; obtain ⟨g9, cap9, xs9, k1, k2, k3⟩ := hc.at (List.mem_cons_self ..) (hl.2 (.tmp 33) (by simp [Op.operands])) (by simp [Act.eval, undef]); refine ⟨.agg #[.slice (some ⟨gq, 0, none⟩) n capq, .float .f32 s], w', (by go_simp; first | done | rfl | exact ⟨rfl, rfl⟩), ⟨gq, capq, rfl⟩, LooseL.cls_turn hc (by intro p hp hd; simp at hp; rcases hp with rfl | rfl <;> (first | exact absurd rfl hd | simp)) (duo_firstW (by decide)) _ ?_⟩; obtain ⟨rfl, rfl⟩ : gq = g9 ∧ capq = cap9 := (by simpa [Act.eval] using k1); exact ⟨_, _, _, rfl, k2, k3⟩)); (intro v hv; obtain ⟨gw, capw, rfl⟩ := hv; go_simp)) | (apply LooseL.walk_box (d := 10) (φ := phiB w2.heap.size) (ob := .cells #[.slice none 0 0, .float .f32 0] 33) (hk := by decide) (hst := hst) (hst' := hst') (hB := Nat.le_refl _) (hwant := rfl) (hdst := rfl) (huni := hub) (huni' := hub') (hrun := by intro w'; go_simp; first | done | rfl | exact ⟨rfl, rfl⟩) (hφ := fun w' hw' => ⟨_, rfl, hw', new_block _ _⟩); (intro K hK S hS; go_simp; refine hK _ ?_; clear hK K)))
  refine LooseL.walk_nil ?_
  intro w3 hcls3
  have hb3 := hcls3.1
  obtain ⟨g8, c8, xs3, e8, own3, fp3⟩ := hcls3.at (List.mem_cons_self ..) (v := .agg #[.slice (some ⟨gw, 0, none⟩) n capw, .float .f32 s]) rfl (by simp [undef])
  obtain ⟨rfl, rfl⟩ : gw = g8 ∧ capw = c8 := by simpa using e8
  obtain ⟨S8, hS8, hSB, hqS⟩ := hcls3.at (List.mem_cons_of_mem _ (List.mem_cons_self ..)) (v := .pointer (some ⟨S, 0, none⟩)) rfl (by simp [undef])
  obtain rfl : S = S8 := by simpa using hS8
  have hz3 := hb3.size
  have hS2 : w.heap.size + 2 < S := by omega
  have hkS := HK.out.later hb3
  have hbS := HBW.out.trans (hb3.mono HBW.out.size)
  have s0 := (cells_of (i := 0) hqS).trans (show _ = some (Value.slice none 0 0) from rfl)
  have s1 := (cells_of (i := 1) hqS).trans (show _ = some (Value.float .f32 0) from rfl)
  have t0 := free_of hqS 0
  have t1 := free_of hqS 1
  have lS3 := block_lt hqS
  have HQ3 := Lib.hid hqS
  have HO3 := Lib.hid own3
  have HF3 := Lib.hid fp3
  clear e0 e1 u0 u1 z0 z1 y0 y1 l0 l1 l2 HK HBW
  have HKS := Lib.hid hkS
  have HBS := Lib.hid hbS
  have HB3 := Lib.hid hb3
  clear hcls3 hst hst' huc hub hub' e8 hS8 hqS own3 fp3 hb3 hkS hbS HE
  go_wp2_with fail
  obtain ⟨w4, hw4⟩ : ∃ u, u = (w3.setCell ⟨S, 0, none⟩ (.slice (some ⟨gw, 0, none⟩) n capw)).setCell ⟨S, 1, none⟩ (.float .f32 s) := ⟨_, rfl⟩
  rw [← hw4]
  have hz4 : w4.heap.size = w3.heap.size := by rw [hw4]; simp
  have hq4 : w4.heap[S]? = some (.cells #[.slice (some ⟨gw, 0, none⟩) n capw, .float .f32 s] 33) := by rw [hw4]; simpa using setCell_block (setCell_block HQ3.out 0 (.slice (some ⟨gw, 0, none⟩) n capw)) 1 (.float .f32 s)
  have hk4 : Box3 w.heap.size w4 (.cells #[.slice a n cap, .float .f32 s] 33) (.cells #[.slice a' n' cap', .float .f32 s'] 33) (.cells #[.slice none 0 0, .float .f32 0] 33) := by
    rw [hw4]
    exact ⟨by rw [set_keep _ _ _ (by omega), set_keep _ _ _ (by omega)]; exact HKS.out.1, by rw [set_keep _ _ _ (by omega), set_keep _ _ _ (by omega)]; exact HKS.out.2.1, by rw [set_keep _ _ _ (by omega), set_keep _ _ _ (by omega)]; exact HKS.out.2.2⟩
  have hb4 : Below w2.heap.size w2 w4 := by rw [hw4]; exact Below.setCell (Below.setCell HB3.out hSB (p := ⟨S, 0, none⟩) _) hSB (p := ⟨S, 1, none⟩) _
  have hO4 : w4.ownsRow w2.heap.size 28 3 (.slice (some ⟨gw, 0, none⟩) n capw) n xs3 := by rw [hw4]; exact own_set (own_set HO3.out HQ3.out (by decide)) (setCell_block HQ3.out 0 _) (by decide)
  have HK := Lib.hid hk4
  have HBW := Lib.hid (show Below w.heap.size w w4 from HBQ.out.trans (hb4.mono HBQ.out.size))
  have HB4 := Lib.hid hb4
  have HO4 := Lib.hid hO4
  have HQ4 := Lib.hid hq4
  have b0 := (cells_of (i := 0) hq4).trans (show _ = some (Value.slice (some ⟨gw, 0, none⟩) n capw) from rfl)
  have b1 := (cells_of (i := 1) hq4).trans (show _ = some (Value.float .f32 s) from rfl)
  have v0 := free_of hq4 0
  have v1 := free_of hq4 1
  have lS4 := block_lt hq4
  clear hw4 hk4 hb4 hO4 hq4 s0 s1 t0 t1 HKS HBS
  have e0 := (cells_of (i := 0) HK.out.1).trans (show _ = some (.slice a n cap) from rfl)
  have e1 := (cells_of (i := 1) HK.out.1).trans (show _ = some (.float .f32 s) from rfl)
  have u0 := (cells_of (i := 0) HK.out.2.1).trans (show _ = some (.slice a' n' cap') from rfl)
  have u1 := (cells_of (i := 1) HK.out.2.1).trans (show _ = some (.float .f32 s') from rfl)
  have z0 := (cells_of (i := 0) HK.out.2.2).trans (show _ = some (Value.slice none 0 0) from rfl)
  have z1 := (cells_of (i := 1) HK.out.2.2).trans (show _ = some (Value.float .f32 0) from rfl)
  have y0 := free_of HK.out.2.2 0
  have y1 := free_of HK.out.2.2 1
  have l2 := block_lt HK.out.2.2
  have l1 : w.heap.size + 1 < w4.heap.size := by omega
  have l0 : w.heap.size < w4.heap.size := by omega
  have HE := Lib.hid u0
  clear hz4
  clear HBQ
  have HBQ := Lib.hid HBW.out
  have hl24 : w2.heap.size ≤ w4.heap.size := HB4.out.size
  have hn0b : 0 < n := by omega
  have hst : ∀ p ∈ [((45 : Nat), phiW w4.heap.size n' D')], LooseP.Stable p.2 := by intro p hp; rw [List.mem_singleton.1 hp]; exact phiW_stable _ _ _
  have huc : ∀ p ∈ [((45 : Nat), phiW w4.heap.size n' D')], p.1 = 45 → p.2 = phiW w4.heap.size n' D' := by intro p hp _; rw [List.mem_singleton.1 hp]
  refine LooseL.wp_regionC 11 9 (fun i => decide (i < 9)) (LooseP.Cls w4.heap.size w4 [((45 : Nat), phiW w4.heap.size n' D')]) (fun (a1 : Act) (w1 : World) => LooseP.Cls w2.heap.size w4 [((46 : Nat), phiW w2.heap.size (n + n') F)] a1 w1 ∧ w1.heap[S]? = some (.cells #[.slice (some ⟨gw, 0, none⟩) n capw, .float .f32 s] 33)) (by decide) (fun i hi => by simp; omega) (by kernel_rfl) (by kernel_rfl) (by kernel_rfl) ⟨(Below.refl _ _).drew, fun p hp v hv hn => absurd (show v = undef from by rw [List.mem_singleton.1 hp] at hv; simpa using hv.symm) hn⟩ ?_
  apply Exists.intro
  simp only [List.take_succ_cons, List.take_zero, List.drop_succ_cons, List.drop_zero]
  repeat (first | (apply LooseL.walk_before (by decide) rfl; intro K hK; apply LooseP.turn_value (v := .int .i64 (((m : Int) + 1).tmod (n' : Int))) (hwant := rfl) (hd := rfl); (focus (intro w' hw'; go_simp; first | done | rfl | omega)); go_simp; refine hK _ ?_; clear hK K) | (apply LooseL.walk_before (by decide) rfl; intro K hK; apply LooseP.turn_value (hwant := rfl) (hd := rfl); (focus (intro w' hw'; obtain ⟨hc, hf⟩ := Fl.bcell hw'; go_simp; first | done | rfl | exact ⟨rfl, rfl⟩)); go_simp; refine hK _ ?_; clear hK K) | (apply LooseL.walk_before (by decide) rfl; intro K hK; refine LooseP.turn_callP (f := 78) (args := fun a => #[a.eval (.tmp 5), a.eval (.tmp 44)]) (V := fun v => ∃ g cap, v = .slice (some ⟨g, 0, none⟩) n' cap) (φ := phiW w4.heap.size n' D') (d := 45) hst (Nat.le_refl _) rfl rfl huc (by intro a' w'; go_simp; first | done | rfl | exact ⟨rfl, rfl⟩) ⟨_, 0, 0, rfl⟩ ?_ ?_; (focus (intro a' w' _ hcl; go_simp; exact (HPF'.out _ w' ((hcl.1.cell (p := ⟨w.heap.size + 1, 0, none⟩) l1).trans HE.out) (HBQ.out.trans (hcl.1.mono HBQ.out.size))).mono fun e w'' ⟨g, cap, xs, h1, h2, h3, h4⟩ => ⟨_, h1, ⟨g, cap, rfl⟩, ⟨g, cap, xs, rfl, own_wider h2 hcl.1.size, h3⟩, h4⟩)); (intro v hv; obtain ⟨gq, capq, rfl⟩ := hv; go_simp; refine hK _ ?_; clear hK K)) | (apply LooseL.walk_put (d := 46) (V := fun v => ∃ g cap, v = .slice (some ⟨g, 0, none⟩) (n + n') cap) (hks := rfl) (hwant := rfl) (hdst := rfl) (hV := ⟨_, 0, 0, rfl⟩); (focus (intro a' w' hl hc; exact app_run rfl rfl rfl (hl.2 (.tmp 45) (by simp [Op.operands, Call.operands])) hc HO4.out HF3.out HQ4.out hl24 hn0b hn32 hn32' HFP.out)); (intro v hv; obtain ⟨gj, capj, rfl⟩ := hv; go_simp)) | (apply LooseL.walk_pure (hk := by decide) (hwant := rfl) (hrun := by intro w'; go_simp; first | done | rfl | exact ⟨rfl, rfl⟩) (h0 := by intro a' w' v h; exact h.put rfl v) (h1 := by intro a' w' v h; exact ⟨h.1.put rfl v, h.2⟩); (intro K hK; go_simp; refine hK _ ?_; clear hK K)))
  refine LooseL.walk_nil ?_
  intro w5 hcl5 hq5
  obtain ⟨g8, c8, xs5, e8, own5, fp5⟩ := hcl5.at (List.mem_singleton.2 rfl) (v := .slice (some ⟨gj, 0, none⟩) (n + n') capj) rfl (by simp [undef])
  obtain ⟨rfl, rfl⟩ : gj = g8 ∧ capj = c8 := by simpa using e8
  have hb5 := hcl5.1
  have hz5 := hb5.size
  have hk5 := HK.out.low hb5 hl22
  have hbw5 := HBW.out.trans (hb5.mono (show w.heap.size ≤ w2.heap.size by omega))
  have d0 := (cells_of (i := 0) hq5).trans (show _ = some (Value.slice (some ⟨gw, 0, none⟩) n capw) from rfl)
  have d1 := (cells_of (i := 1) hq5).trans (show _ = some (Value.float .f32 s) from rfl)
  have x0 := free_of hq5 0
  have lS5 := block_lt hq5
  have HQ5 := Lib.hid hq5
  have HO5 := Lib.hid own5
  have HF5 := Lib.hid fp5
  clear e0 e1 u0 u1 z0 z1 y0 y1 l0 l1 l2 HK HBW
  have HKS := Lib.hid hk5
  have HBS := Lib.hid hbw5
  clear hcl5 hst huc e8 hq5 own5 fp5 hb5 hk5 hbw5 HE HBQ b0 b1 v0 v1
  go_wp2_with fail
  obtain ⟨w6, hw6⟩ : ∃ u, u = w5.setCell ⟨S, 0, none⟩ (.slice (some ⟨gj, 0, none⟩) (n + n') capj) := ⟨_, rfl⟩
  rw [← hw6]
  have hz6 : w6.heap.size = w5.heap.size := by rw [hw6]; simp
  have hk6 : Box3 w.heap.size w6 (.cells #[.slice a n cap, .float .f32 s] 33) (.cells #[.slice a' n' cap', .float .f32 s'] 33) (.cells #[.slice none 0 0, .float .f32 0] 33) := by
    rw [hw6]
    exact ⟨by rw [set_keep _ _ _ (by omega)]; exact HKS.out.1, by rw [set_keep _ _ _ (by omega)]; exact HKS.out.2.1, by rw [set_keep _ _ _ (by omega)]; exact HKS.out.2.2⟩
  have hb6 : Below w.heap.size w w6 := by rw [hw6]; exact Below.setCell HBS.out (show w.heap.size ≤ S by omega) (p := ⟨S, 0, none⟩) _
  have hO6 : w6.ownsRow w2.heap.size 28 3 (.slice (some ⟨gj, 0, none⟩) (n + n') capj) (n + n') xs5 := by rw [hw6]; exact own_set HO5.out HQ5.out (by decide)
  obtain ⟨a9, cap9, e9, hio⟩ := isR_own hO6 HF5.out (by omega)
  obtain ⟨rfl, rfl⟩ : (some ⟨gj, 0, none⟩ : Option Addr) = a9 ∧ capj = cap9 := by simpa using e9
  have HIO := Lib.hid hio
  have HK := Lib.hid hk6
  have HBW := Lib.hid hb6
  clear hw6 hk6 hb6 hO6 e9 hio d0 d1 x0 HKS HBS
  have e0 := (cells_of (i := 0) HK.out.1).trans (show _ = some (.slice a n cap) from rfl)
  have e1 := (cells_of (i := 1) HK.out.1).trans (show _ = some (.float .f32 s) from rfl)
  have u0 := (cells_of (i := 0) HK.out.2.1).trans (show _ = some (.slice a' n' cap') from rfl)
  have u1 := (cells_of (i := 1) HK.out.2.1).trans (show _ = some (.float .f32 s') from rfl)
  have z0 := (cells_of (i := 0) HK.out.2.2).trans (show _ = some (Value.slice none 0 0) from rfl)
  have z1 := (cells_of (i := 1) HK.out.2.2).trans (show _ = some (Value.float .f32 0) from rfl)
  have y0 := free_of HK.out.2.2 0
  have y1 := free_of HK.out.2.2 1
  have l2 := block_lt HK.out.2.2
  have l1 : w.heap.size + 1 < w6.heap.size := by omega
  have l0 : w.heap.size < w6.heap.size := by omega
  clear hz6
  refine (HCH.out _ _ _ HIO.out.v).mono ?_
  rintro e w9 ⟨rfl, hb9⟩
  have HIO9 := Lib.hid (HIO.out.later hb9)
  have hz9 := hb9.size
  have hkw9 := HK.out.later hb9
  have hbww9 : Below w.heap.size w w9 := HBW.out.trans (hb9.mono HBW.out.size)
  clear e0 e1 u0 u1 z0 z1 y0 y1 l0 l1 l2 HK HBW
  have HK := Lib.hid hkw9
  have HBW := Lib.hid hbww9
  clear hkw9 hbww9
  have e0 := (cells_of (i := 0) HK.out.1).trans (show _ = some (.slice a n cap) from rfl)
  have e1 := (cells_of (i := 1) HK.out.1).trans (show _ = some (.float .f32 s) from rfl)
  have u0 := (cells_of (i := 0) HK.out.2.1).trans (show _ = some (.slice a' n' cap') from rfl)
  have u1 := (cells_of (i := 1) HK.out.2.1).trans (show _ = some (.float .f32 s') from rfl)
  have z0 := (cells_of (i := 0) HK.out.2.2).trans (show _ = some (Value.slice none 0 0) from rfl)
  have z1 := (cells_of (i := 1) HK.out.2.2).trans (show _ = some (Value.float .f32 0) from rfl)
  have y0 := free_of HK.out.2.2 0
  have y1 := free_of HK.out.2.2 1
  have l2 := block_lt HK.out.2.2
  have l1 : w.heap.size + 1 < w9.heap.size := by omega
  have l0 : w.heap.size < w9.heap.size := by omega
  clear hb9
  cases R
  all_goals
    go_wp2
    have hR := HR.out
    simp only [Bool.false_eq_true, if_false, if_true] at hR
    obtain ⟨rfl, rfl⟩ := hR
  · refine bodyPost_ret ?ohr rfl ⟨none, 0, rfl, isR_nil _ _ _ _, ?obel⟩
    case ohr => simp [results, Try.results35, go_sem, *]
    case obel => exact Below.setCell (Below.setCell HBW.out (by show w.heap.size ≤ w.heap.size + 2; omega) _) (by show w.heap.size ≤ w.heap.size + 2; omega) _
  · refine bodyPost_ret ?ohr rfl ⟨some ⟨gj, 0, none⟩, capj, rfl, ?oio, ?obel⟩
    case ohr => simp [results, Try.results35, go_sem, *]
    case oio =>
      refine (HIO9.out.keep fun g hg _ _ => ?_).wider (by omega) (by simp; omega)
      rw [set_keep _ _ _ (by show g ≠ w.heap.size + 2; omega), set_keep _ _ _ (by show g ≠ w.heap.size + 2; omega)]
    case obel => exact Below.setCell (Below.setCell HBW.out (by show w.heap.size ≤ w.heap.size + 2; omega) _) (by show w.heap.size ≤ w.heap.size + 2; omega) _

end Th
end Go.Proofs.Ytjkkefbfhapblaa
