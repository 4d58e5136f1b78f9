/- 'FnExactRingSheet' returns true at every input, and every argument reads afterwards as before. No conditions. -/
import Derived.Test.YtpmnjbgfdhhomaaRows
import Derived.WalkKit
import Derived.WalkLawsBesides
import Derived.ProofKit
import Derived.OpenShut
import Derived.ShutString
import Derived.ChangeOld
import Derived.Below
import Derived.Test.YtpmnjbgfdhhomaaFrame
import Derived.Test.YtpmnjbgfdhhomaaSheetC
namespace Go.Proofs.Ytpmnjbgfdhhomaa.fnExactRingSheet
open Go.ChangeShapes Go.WideShapes Go.ChangeAt Go.RowKit
open Go.ChangeMaps (open_string shut_string)
set_option linter.unusedVariables false
set_option linter.unusedSimpArgs false

theorem own : ownKnob Try.prog.godebug = none := by kernel_rfl
theorem laidOut : laidOutB Try.prog = true := by kernel_rfl

set_option maxRecDepth 20000 in
set_option maxHeartbeats 6400000 in
theorem walk (a0 : Int) (a1 : Nat) (a2 : Nat) (w : World) (w0 : (Lit.int .i64 a0).wf = true) (w1 : (Lit.float .f32 a1).wf = true) (w2 : (Lit.float .f32 a2).wf = true) :
    Calls Try.prog 4 #[.int .i64 a0, .float .f32 a1, .float .f32 a2] w fun e w' => e = .returned (.bool true) ∧ Below w.heap.size w w' := by
  obtain ⟨A, n0, cx, cy, hn0, hs, hi⟩ := Sh.both_ring a0 a1 a2 w1 w2
  have HS := Lib.hid (fun w => (hs w).mono fun e w' h => h.gen hn0 w2)
  have HI := Lib.hid (fun w => (hi w).mono fun e w' h => h.gen hn0 w2)
  clear hs hi w0 w1 w2
  obtain ⟨n, hn⟩ : ∃ n, n = (if A then n0 else 0) := ⟨_, rfl⟩
  obtain ⟨b, hb⟩ : ∃ b, b = (A && true) := ⟨_, rfl⟩
  have hn48 : n ≤ 48 := by rw [hn]; split <;> omega
  simp only [← hn, ← hb] at HS HI
  clear hn hb hn0
  obtain ⟨q, hq⟩ : ∃ q : Int, q = 1 + (n : Int) + (n : Int) := ⟨_, rfl⟩
  have hq0 : 0 ≤ q := by omega
  have HQ := Lib.hid hq
  clear hq
  cases A
  all_goals
    go_enter Try.func4, Try.ntmps4
    go_wp2_with fail
    refine (HS.out _).mono ?_
    rintro e w1 ⟨ap1, aq1, cp1, cs1, rfl, hok1, hb1⟩
    have hz1 := hb1.size
    have O1 := Lib.hid hok1
    have HB1 := Lib.hid hb1
    clear hok1 hb1
    go_wp2_with fail
    refine (HI.out _).mono ?_
    rintro e w2 ⟨ap2, aq2, cp2, cs2, rfl, hok2, hb2⟩
    have hz2 := hb2.size
    simp only [World.size_alloc, World.size_setCell] at hz2
    have hk7 : w2.heap[w1.heap.size]? = some (.cells #[.slice ap1 n cp1, .slice aq1 n cs1, .bool b] 26) := by rw [hb2.block _ (by simp)]; exact Sh.new_block _ _
    have O2 := Lib.hid hok2
    have HB2 := Lib.hid hb2
    have e70 := (Loose.cells_of (i := 0) hk7).trans (show _ = some (Value.slice ap1 n cp1) from rfl)
    have e71 := (Loose.cells_of (i := 1) hk7).trans (show _ = some (Value.slice aq1 n cs1) from rfl)
    have e72 := (Loose.cells_of (i := 2) hk7).trans (show _ = some (Value.bool b) from rfl)
    have HK7 := Lib.hid hk7
    clear hok2 hb2 hk7
    have hl7 : w1.heap.size < w2.heap.size := by omega
    go_wp2_with fail
    refine (Sh.eq_sheet _ _ _ _ ap2 aq2 ap1 aq1 n cp2 cs2 cp1 cs1 a2 b cx cy _ (O2.out.later ?_) ((O1.out.later (?_ : Below _ _ (w1.alloc (.cells #[.slice ap1 n cp1, .slice aq1 n cs1, .bool b] 26)))).later ?_)).mono ?_
    · exact (Below.refl _ _).alloc (Nat.le_refl _) _
    · exact (Below.refl _ _).alloc (Nat.le_refl _) _
    · exact HB2.out.alloc (by simp; omega) _
    rintro e w3 ⟨rfl, hb3⟩
    have hz3 := hb3.size
    simp only [World.size_alloc, World.size_setCell] at hz3
    have hk9 : w3.heap[w2.heap.size]? = some (.cells #[.slice ap2 n cp2, .slice aq2 n cs2, .bool b] 26) := by rw [hb3.block _ (by simp)]; exact Sh.new_block _ _
    have hk7 : w3.heap[w1.heap.size]? = some (.cells #[.slice ap1 n cp1, .slice aq1 n cs1, .bool b] 26) := by rw [hb3.block _ (by simp; omega), Below.heap_alloc _ _ _ hl7]; exact HK7.out
    have e90 := (Loose.cells_of (i := 0) hk9).trans (show _ = some (Value.slice ap2 n cp2) from rfl)
    have e91 := (Loose.cells_of (i := 1) hk9).trans (show _ = some (Value.slice aq2 n cs2) from rfl)
    have e92 := (Loose.cells_of (i := 2) hk9).trans (show _ = some (Value.bool b) from rfl)
    have O3 := Lib.hid ((O2.out.later ((Below.refl _ _).alloc (Nat.le_refl _) (.cells #[.slice ap2 n cp2, .slice aq2 n cs2, .bool b] 26))).later hb3)
    have HB3 := Lib.hid hb3
    have HK37 := Lib.hid hk7
    have HK39 := Lib.hid hk9
    clear hb3 hk7 hk9 e70 e71 e72
    go_wp2_with fail
    refine (Sh.mark_sheet _ _ ap2 aq2 n cp2 cs2 a2 b cx cy _ O3.out (by omega) (by simp; omega)).mono ?_
    rintro e w4 ⟨rfl, hm4, hb4, hk4⟩
    have hz4 := hb4.size
    rw [show (1 + (n : Int) + (n : Int)) = q from HQ.out.symm]
    have hk9 : w4.heap[w2.heap.size]? = some (.cells #[.slice ap2 n cp2, .slice aq2 n cs2, .bool b] 26) := by rw [hk4 _ (by omega) (.inr (Nat.le_refl _))]; exact HK39.out
    have hk7 : w4.heap[w1.heap.size]? = some (.cells #[.slice ap1 n cp1, .slice aq1 n cs1, .bool b] 26) := by rw [hk4 _ (by omega) (.inl (by simp))]; exact HK37.out
    clear e90 e91 e92
    have e90 := (Loose.cells_of (i := 0) hk9).trans (show _ = some (Value.slice ap2 n cp2) from rfl)
    have e91 := (Loose.cells_of (i := 1) hk9).trans (show _ = some (Value.slice aq2 n cs2) from rfl)
    have e92 := (Loose.cells_of (i := 2) hk9).trans (show _ = some (Value.bool b) from rfl)
    have M4 := Lib.hid hm4
    have HB4 := Lib.hid hb4
    have HK47 := Lib.hid hk7
    have HK49 := Lib.hid hk9
    clear hm4 hb4 hk4 hk7 hk9
    go_wp2_with fail
    refine (Sh.held_sheet _ ap2 aq2 n cp2 cs2 b _ M4.out hn48).mono ?_
    rintro e w5 ⟨rfl, hb5⟩
    have hz5 := hb5.size
    rw [show (1 + (n : Int) + (n : Int)) = q from HQ.out.symm]
    have hk9 : w5.heap[w2.heap.size]? = some (.cells #[.slice ap2 n cp2, .slice aq2 n cs2, .bool b] 26) := by rw [hb5.block _ (by omega)]; exact HK49.out
    have hk7 : w5.heap[w1.heap.size]? = some (.cells #[.slice ap1 n cp1, .slice aq1 n cs1, .bool b] 26) := by rw [hb5.block _ (by omega)]; exact HK47.out
    have M5 := Lib.hid (M4.out.on hb5)
    have HB5 := Lib.hid hb5
    have HK57 := Lib.hid hk7
    have HK59 := Lib.hid hk9
    clear hb5 hk7 hk9 e90 e91 e92
    go_wp2_with fail
    refine (HI.out _).mono ?_
    rintro e w6 ⟨ap6, aq6, cp6, cs6, rfl, hok6, hb6⟩
    have hz6 := hb6.size
    have hk9 : w6.heap[w2.heap.size]? = some (.cells #[.slice ap2 n cp2, .slice aq2 n cs2, .bool b] 26) := by rw [hb6.block _ (by omega)]; exact HK59.out
    have hk7 : w6.heap[w1.heap.size]? = some (.cells #[.slice ap1 n cp1, .slice aq1 n cs1, .bool b] 26) := by rw [hb6.block _ (by omega)]; exact HK57.out
    have e70 := (Loose.cells_of (i := 0) hk7).trans (show _ = some (Value.slice ap1 n cp1) from rfl)
    have e71 := (Loose.cells_of (i := 1) hk7).trans (show _ = some (Value.slice aq1 n cs1) from rfl)
    have e72 := (Loose.cells_of (i := 2) hk7).trans (show _ = some (Value.bool b) from rfl)
    have O6 := Lib.hid hok6
    have M6 := Lib.hid (M5.out.on hb6)
    have HB6 := Lib.hid hb6
    have HK67 := Lib.hid hk7
    have HK69 := Lib.hid hk9
    clear hok6 hb6 hk7 hk9
    have hl76 : w1.heap.size < w6.heap.size := by omega
    have hl1 : w1.heap.size ≤ w1.heap.size + 1 := by omega
    have B16 : Below (w1.alloc (.cells #[.slice ap1 n cp1, .slice aq1 n cs1, .bool b] 26)).heap.size (w1.alloc (.cells #[.slice ap1 n cp1, .slice aq1 n cs1, .bool b] 26)) w6 := Below.trans (HB2.out.alloc (by simp; omega) (.cells #[.slice ap2 n cp2, .slice aq2 n cs2, .bool b] 26)) (Below.trans (HB3.out.mono (by simp; omega)) (Below.trans (HB4.out) (Below.trans (HB5.out.mono (by simp; omega)) (HB6.out.mono (by simp; omega)))))
    have O16 := Lib.hid ((O1.out.later ((Below.refl _ _).alloc (Nat.le_refl _) (.cells #[.slice ap1 n cp1, .slice aq1 n cs1, .bool b] 26))).later B16)
    have HB16 := Lib.hid B16
    clear B16
    go_wp2_with fail
    refine (Sh.eq_sheet _ _ _ _ ap6 aq6 ap1 aq1 n cp6 cs6 cp1 cs1 a2 b cx cy _ (O6.out.later ?_) (O16.out.later ?_)).mono ?_
    · exact (Below.refl _ _).alloc (Nat.le_refl _) _
    · exact (Below.refl _ _).alloc (Nat.le_refl _) _
    rintro e w7 ⟨rfl, hb7⟩
    have hz7 := hb7.size
    simp only [World.size_alloc, World.size_setCell] at hz7
    have hk9 : w7.heap[w2.heap.size]? = some (.cells #[.slice ap2 n cp2, .slice aq2 n cs2, .bool b] 26) := by rw [hb7.block _ (by simp; omega), Below.heap_alloc _ _ _ (by omega)]; exact HK69.out
    have e90 := (Loose.cells_of (i := 0) hk9).trans (show _ = some (Value.slice ap2 n cp2) from rfl)
    have e91 := (Loose.cells_of (i := 1) hk9).trans (show _ = some (Value.slice aq2 n cs2) from rfl)
    have e92 := (Loose.cells_of (i := 2) hk9).trans (show _ = some (Value.bool b) from rfl)
    have M7 := Lib.hid ((M6.out.on ((Below.refl _ _).alloc (Nat.le_refl _) (.cells #[.slice ap6 n cp6, .slice aq6 n cs6, .bool b] 26))).on hb7)
    have HB7 := Lib.hid hb7
    clear hb7 hk9 e70 e71 e72
    go_wp2_with fail
    refine (Sh.held_sheet _ ap2 aq2 n cp2 cs2 b _ M7.out hn48).mono ?_
    rintro e w8 ⟨rfl, hb8⟩
    rw [show (1 + (n : Int) + (n : Int)) = q from HQ.out.symm]
    have HB8 := Lib.hid hb8
    clear hb8
    go_wp2
    go_ret
    exact ⟨rfl, (HB1.out.alloc hz1 _).trans ((HB16.out.trans (((((Below.refl _ _).alloc (Nat.le_refl _) _).trans (HB7.out.mono (by simp))).trans (HB8.out.mono (by omega))).mono (by simp; omega))).mono (by simp; omega))⟩

set_option maxRecDepth 100000 in
theorem lifted (os : Os) (started : os.Started) (H : Type) (enc : TypeId × Value → H) :
    ReturnsInHanded {} Try.checked os 4 .any (Rows.fnExactRingSheetSpec.pre6 enc Try.prog Try.f4 Rows.fnExactRingSheetRow.domain false) (Rows.fnExactRingSheetSpec.post enc Try.prog Try.f4 false true false false) := by
  refine returnsInHanded_of_change (C := Try.checked) own started (by kernel_rfl) Try.func4
    (ChangeSpec.witness6 (enc := enc) (C := Try.checked) false ⟨#[], #[.int .i64 0, .float .f32 0, .float .f32 0], []⟩ 8 (by kernel_rfl) (by kernel_rfl) (by kernel_rfl) (by kernel_rfl)) ?_
  intro W base args ds gs before hval0 hW hcnd _
  have hval : ∀ (j : Nat) t v, Try.f4.params[j]? = some t → args[j]? = some v → Value.okWide Try.prog W .any base t v := hval0
  have hW' := hW
  obtain ⟨p, q, hA0, hV, rfl, hfz, hnd⟩ := hW
  have hA : DataW.TrodAll enc Try.prog W 0 (fun _ => true) true Try.f4.params.toList args.toList ds p := hA0
  rw [Try.params4] at hA hval
  obtain ⟨v0, vs0, d0, ds0, p0, q0, hargs, rfl, rfl, h0, r0⟩ := trodAll_cons hA
  obtain ⟨v1, vs1, d1, ds1, p1, q1, rfl, rfl, rfl, h1, r1⟩ := trodAll_cons r0
  obtain ⟨v2, vs2, d2, ds2, p2, q2, rfl, rfl, rfl, h2, r2⟩ := trodAll_cons r1
  obtain ⟨rfl, rfl, rfl⟩ := trodAll_nil r2
  obtain rfl : args = #[v0, v1, v2] := by cases args; simp_all
  obtain ⟨rfl, rfl⟩ := trodVars_none hV
  have k0 := h0
  have lt0 : ∀ x ∈ p0, x.block < W.heap.size := by obtain ⟨m, hm⟩ := k0; exact DataW.trod_lt m _ _ _ hm
  obtain ⟨a0, rfl, e0, _, w0⟩ := open_int Try.underlying2 (hval 0 2 v0 rfl rfl) h0
  have k1 := h1
  have lt1 : ∀ x ∈ p1, x.block < W.heap.size := by obtain ⟨m, hm⟩ := k1; exact DataW.trod_lt m _ _ _ hm
  obtain ⟨a1, rfl, e1, _, w1⟩ := open_float Try.underlying22 (hval 1 22 v1 rfl rfl) h1
  have k2 := h2
  have lt2 : ∀ x ∈ p2, x.block < W.heap.size := by obtain ⟨m, hm⟩ := k2; exact DataW.trod_lt m _ _ _ hm
  obtain ⟨a2, rfl, e2, _, w2⟩ := open_float Try.underlying22 (hval 2 22 v2 rfl rfl) h2
  clear hA0 hval0
  refine (walk a0 a1 a2 W w0 w1 w2).mono fun e W' ⟨he, bel⟩ => ?_
  subst he
  exact ⟨_, rfl, _, _, _, [], _, [], hW', trodAll_mk1 (shut_bool Try.underlying4 _), (trodAll_cons_mk (Below.trod laidOut (by kernel_rfl) (of_decide_eq_true (by kernel_rfl)) k0 bel lt0) (trodAll_cons_mk (Below.trod laidOut (by kernel_rfl) (of_decide_eq_true (by kernel_rfl)) k1 bel lt1) (trodAll_cons_mk (Below.trod laidOut (by kernel_rfl) (of_decide_eq_true (by kernel_rfl)) k2 bel lt2) trodAll_mk0))), rfl, bel.frame _, fun h => by cases h⟩

theorem over : Rows.fnExactRingSheetRow.holds Try.pinned (OpenSpec.ofChange Rows.fnExactRingSheetSpec) :=
  OpenClaim.holds_of_wide 4 Try.f4 rfl rfl rfl rfl rfl rfl rfl ⟨rfl, rfl, rfl, rfl, rfl⟩ rfl rfl rfl rfl rfl (by kernel_rfl) Try.func4 (by kernel_rfl)
    (of_decide_eq_true (by kernel_rfl)) (by unfold Func.isWrapper; first | (rw [if_pos (by decide +kernel)]; kernel_rfl) | (rw [if_neg (by decide +kernel)]; exact ⟨rfl, rfl⟩))
    (fun os started H enc _ => lifted os started H enc)

/-- The statement. -/
theorem proved : Rows.FnExactRingSheetSaid := over
#print axioms proved
end Go.Proofs.Ytpmnjbgfdhhomaa.fnExactRingSheet
