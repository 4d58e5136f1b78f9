/- 'FnExactPolygonOfWhirls' returns true at every input, and every argument reads afterwards as before. No conditions. -/
import Derived.Test.YtpmnjbgfdhhomaaRows
import Derived.WalkKit
import Derived.WalkLawsBesides
import Derived.ProofKit
import Derived.OpenShut
import Derived.ShutString
import Derived.ChangeOld
import Derived.Below
import Derived.Test.YtpmnjbgfdhhomaaFrame
import Derived.Test.YtpmnjbgfdhhomaaPoly
namespace Go.Proofs.Ytpmnjbgfdhhomaa.fnExactPolygonOfWhirls
open Go.ChangeShapes Go.WideShapes Go.ChangeAt Go.RowKit
open Go.ChangeMaps (open_string shut_string)
set_option linter.unusedVariables false
set_option linter.unusedSimpArgs false

theorem own : ownKnob Try.prog.godebug = none := by kernel_rfl
theorem laidOut : laidOutB Try.prog = true := by kernel_rfl

set_option maxHeartbeats 1600000 in
theorem walk (a0 : Int) (a1 : Nat) (a2 : Nat) (w : World) (w0 : (Lit.int .i64 a0).wf = true) (w1 : (Lit.float .f32 a1).wf = true) (w2 : (Lit.float .f32 a2).wf = true) :
    Calls Try.prog 5 #[.int .i64 a0, .float .f32 a1, .float .f32 a2] w fun e w' => e = .returned (.bool true) ∧ Below w.heap.size w w' := by
  obtain ⟨A, n, cx, cy, cs, hn, hs, hi⟩ := Ws.both_polygon a0 a1 a2 w1 w2
  have HS := Lib.hid hs
  have HI := Lib.hid hi
  clear hs hi w0 w1 w2
  cases A
  · go_enter Try.func5, Try.ntmps5
    go_wp2_with fail
    refine (HS.out _).mono ?_
    rintro e w101 (⟨h, _⟩ | ⟨_, rfl, hB101⟩)
    · cases h
    have hz101 := hB101.size
    go_wp2_with fail
    refine (HI.out _).mono ?_
    rintro e w102 (⟨h, _⟩ | ⟨_, rfl, hB102⟩)
    · cases h
    have hz102 := hB102.size
    go_wp2_with fail
    refine (Ws.eq_none _).mono ?_
    rintro e w103 ⟨rfl, hB103⟩
    have hz103 := hB103.size
    go_wp2_with fail
    refine (Ws.mark_none _).mono ?_
    rintro e w104 ⟨rfl, hB104⟩
    have hz104 := hB104.size
    go_wp2_with fail
    refine (Ws.held_none _).mono ?_
    rintro e w105 ⟨rfl, hB105⟩
    have hz105 := hB105.size
    go_wp2_with fail
    refine (HI.out _).mono ?_
    rintro e w106 (⟨h, _⟩ | ⟨_, rfl, hB106⟩)
    · cases h
    have hz106 := hB106.size
    go_wp2_with fail
    refine (Ws.eq_none _).mono ?_
    rintro e w107 ⟨rfl, hB107⟩
    have hz107 := hB107.size
    go_wp2_with fail
    refine (Ws.held_none _).mono ?_
    rintro e w108 ⟨rfl, hB108⟩
    have hz108 := hB108.size
    go_wp2
    go_ret
    exact ⟨rfl, (((((((hB101.trans (hB102.mono (by omega))).trans (hB103.mono (by omega))).trans (hB104.mono (by omega))).trans (hB105.mono (by omega))).trans (hB106.mono (by omega))).trans (hB107.mono (by omega))).trans (hB108.mono (by omega)))⟩
  · go_enter Try.func5, Try.ntmps5
    go_wp2_with fail
    refine (HS.out _).mono ?_
    rintro e w101 (⟨_, g101, cap101, rfl, hg101, hW101, hB101⟩ | ⟨h, _⟩)
    rotate_left
    · cases h
    have hz101 := hB101.size
    go_wp2_with fail
    refine (HI.out _).mono ?_
    rintro e w102 (⟨_, g102, cap102, rfl, hg102, hW102, hB102⟩ | ⟨h, _⟩)
    rotate_left
    · cases h
    have hz102 := hB102.size
    go_wp2_with fail
    refine (Ws.eq_whirls _ _ _ _ _ _ _ _ _ hW102 (hW101.later hB102) hn).mono ?_
    rintro e w103 ⟨rfl, hB103⟩
    have hz103 := hB103.size
    go_wp2_with fail
    refine (Ws.mark_whirls _ _ _ _ _ _ _ (hW102.later hB103) hn).mono ?_
    rintro e w104 ⟨rfl, hM, hK⟩
    have hB104 := hK.1
    have hz104 := hB104.size
    have hne : g101 ≠ g102 := by have := hW101.lt; omega
    have hW4 := ((hW101.later hB102).later hB103)
    have hW5 := Ws.Keep.isW hW4 hK hne
    have hq1 : ¬ (1 + 2 * (n : Int) < 0) := by omega
    go_wp2_with fail
    refine (Ws.held_whirls _ _ _ _ hM hn).mono ?_
    rintro e w105 ⟨rfl, hB105⟩
    have hz105 := hB105.size
    go_wp2_with fail
    refine (HI.out _).mono ?_
    rintro e w106 (⟨_, g106, cap106, rfl, hg106, hW106, hB106⟩ | ⟨h, _⟩)
    rotate_left
    · cases h
    have hz106 := hB106.size
    go_wp2_with fail
    refine (Ws.eq_whirls _ _ _ _ _ _ _ _ _ hW106 ((hW5.later hB105).later hB106) hn).mono ?_
    rintro e w107 ⟨rfl, hB107⟩
    have hz107 := hB107.size
    go_wp2_with fail
    refine (Ws.held_whirls _ _ _ _ (((hM.later hB105).later hB106).later hB107) hn).mono ?_
    rintro e w108 ⟨rfl, hB108⟩
    have hz108 := hB108.size
    go_wp2
    go_ret
    exact ⟨rfl, (((((((hB101.trans (hB102.mono (by omega))).trans (hB103.mono (by omega))).trans (hB104.mono (by omega))).trans (hB105.mono (by omega))).trans (hB106.mono (by omega))).trans (hB107.mono (by omega))).trans (hB108.mono (by omega)))⟩

set_option maxRecDepth 100000 in
theorem lifted (os : Os) (started : os.Started) (H : Type) (enc : TypeId × Value → H) :
    ReturnsInHanded {} Try.checked os 5 .any (Rows.fnExactPolygonOfWhirlsSpec.pre6 enc Try.prog Try.f5 Rows.fnExactPolygonOfWhirlsRow.domain false) (Rows.fnExactPolygonOfWhirlsSpec.post enc Try.prog Try.f5 false true false false) := by
  refine returnsInHanded_of_change (C := Try.checked) own started (by kernel_rfl) Try.func5
    (ChangeSpec.witness6 (enc := enc) (C := Try.checked) false ⟨#[], #[.int .i64 0, .float .f32 0, .float .f32 0], []⟩ 8 (by kernel_rfl) (by kernel_rfl) (by kernel_rfl) (by kernel_rfl)) ?_
  intro W base args ds gs before hval0 hW hcnd _
  have hval : ∀ (j : Nat) t v, Try.f5.params[j]? = some t → args[j]? = some v → Value.okWide Try.prog W .any base t v := hval0
  have hW' := hW
  obtain ⟨p, q, hA0, hV, rfl, hfz, hnd⟩ := hW
  have hA : DataW.TrodAll enc Try.prog W 0 (fun _ => true) true Try.f5.params.toList args.toList ds p := hA0
  rw [Try.params5] at hA hval
  obtain ⟨v0, vs0, d0, ds0, p0, q0, hargs, rfl, rfl, h0, r0⟩ := trodAll_cons hA
  obtain ⟨v1, vs1, d1, ds1, p1, q1, rfl, rfl, rfl, h1, r1⟩ := trodAll_cons r0
  obtain ⟨v2, vs2, d2, ds2, p2, q2, rfl, rfl, rfl, h2, r2⟩ := trodAll_cons r1
  obtain ⟨rfl, rfl, rfl⟩ := trodAll_nil r2
  obtain rfl : args = #[v0, v1, v2] := by cases args; simp_all
  obtain ⟨rfl, rfl⟩ := trodVars_none hV
  have k0 := h0
  have lt0 : ∀ x ∈ p0, x.block < W.heap.size := by obtain ⟨m, hm⟩ := k0; exact DataW.trod_lt m _ _ _ hm
  obtain ⟨a0, rfl, e0, _, w0⟩ := open_int Try.underlying2 (hval 0 2 v0 rfl rfl) h0
  have k1 := h1
  have lt1 : ∀ x ∈ p1, x.block < W.heap.size := by obtain ⟨m, hm⟩ := k1; exact DataW.trod_lt m _ _ _ hm
  obtain ⟨a1, rfl, e1, _, w1⟩ := open_float Try.underlying22 (hval 1 22 v1 rfl rfl) h1
  have k2 := h2
  have lt2 : ∀ x ∈ p2, x.block < W.heap.size := by obtain ⟨m, hm⟩ := k2; exact DataW.trod_lt m _ _ _ hm
  obtain ⟨a2, rfl, e2, _, w2⟩ := open_float Try.underlying22 (hval 2 22 v2 rfl rfl) h2
  clear hA0 hval0
  refine (walk a0 a1 a2 W w0 w1 w2).mono fun e W' ⟨he, bel⟩ => ?_
  subst he
  exact ⟨_, rfl, _, _, _, [], _, [], hW', trodAll_mk1 (shut_bool Try.underlying4 _), (trodAll_cons_mk (Below.trod laidOut (by kernel_rfl) (of_decide_eq_true (by kernel_rfl)) k0 bel lt0) (trodAll_cons_mk (Below.trod laidOut (by kernel_rfl) (of_decide_eq_true (by kernel_rfl)) k1 bel lt1) (trodAll_cons_mk (Below.trod laidOut (by kernel_rfl) (of_decide_eq_true (by kernel_rfl)) k2 bel lt2) trodAll_mk0))), rfl, bel.frame _, fun h => by cases h⟩

theorem over : Rows.fnExactPolygonOfWhirlsRow.holds Try.pinned (OpenSpec.ofChange Rows.fnExactPolygonOfWhirlsSpec) :=
  OpenClaim.holds_of_wide 5 Try.f5 rfl rfl rfl rfl rfl rfl rfl ⟨rfl, rfl, rfl, rfl, rfl⟩ rfl rfl rfl rfl rfl (by kernel_rfl) Try.func5 (by kernel_rfl)
    (of_decide_eq_true (by kernel_rfl)) (by unfold Func.isWrapper; first | (rw [if_pos (by decide +kernel)]; kernel_rfl) | (rw [if_neg (by decide +kernel)]; exact ⟨rfl, rfl⟩))
    (fun os started H enc _ => lifted os started H enc)

/-- The statement. -/
theorem proved : Rows.FnExactPolygonOfWhirlsSaid := over
#print axioms proved
end Go.Proofs.Ytpmnjbgfdhhomaa.fnExactPolygonOfWhirls
