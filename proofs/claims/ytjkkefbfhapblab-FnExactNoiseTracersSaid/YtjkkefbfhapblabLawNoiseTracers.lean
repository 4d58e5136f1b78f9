/- 'FnExactNoiseTracers' returns true at every input, and every argument reads afterwards as before. No conditions. -/
import Derived.Test.YtjkkefbfhapblabRows
import Derived.WalkKit
import Derived.WalkLawsBesides
import Derived.ProofKit
import Derived.OpenShut
import Derived.ShutString
import Derived.ChangeOld
import Derived.Below
import Derived.Test.YtjkkefbfhapblabFrame
import Derived.Test.YtjkkefbfhapblabNi
namespace Go.Proofs.Ytjkkefbfhapblab.fnExactNoiseTracers
open Go.ChangeShapes Go.WideShapes Go.ChangeAt Go.RowKit
open Go.ChangeMaps (open_string shut_string)
set_option linter.unusedVariables false
set_option linter.unusedSimpArgs false

theorem own : ownKnob Try.prog.godebug = none := by kernel_rfl
theorem laidOut : laidOutB Try.prog = true := by kernel_rfl

set_option maxHeartbeats 6400000 in
theorem walk (a0 : Int) (a1 : Nat) (a2 : Int) (w : World) (w0 : (Lit.int .i64 a0).wf = true) (w1 : (Lit.float .f32 a1).wf = true) (w2 : (Lit.int .i64 a2).wf = true) :
    Calls Try.prog 3 #[.int .i64 a0, .float .f32 a1, .int .i64 a2] w fun e w' => e = .returned (.bool true) ∧ Below w.heap.size w w' := by
  have HS := Lib.hid (fun w => Nt.spec_Noise a0 a1 a2 w w1)
  have HI := Lib.hid (fun w => Nt.impl_Noise a0 a1 a2 w w1)
  unfold Nt.RetTG at HS HI
  have hn : (if Nt.okN a0 a1 a2 then a0.toNat else 0) ≤ 64 := by
    cases h : Nt.okN a0 a1 a2
    · simp
    · have h' := h
      unfold Nt.okN at h'
      simp only [Bool.and_eq_true] at h'
      have := Nt.in_yes h'.1.1
      simp only [if_true]
      omega
  generalize (if Nt.okN a0 a1 a2 then a0.toNat else 0) = n at *
  generalize (if Nt.okN a0 a1 a2 then Nt.seedN a2 (2 * a0.toNat) else 0) = X at *
  generalize Nt.okN a0 a1 a2 = F at *
  generalize Nt.xN (Fl.cl .f32 a1) a2 = cx at *
  generalize Nt.yN (Fl.cl .f32 a1) a2 = cy at *
  obtain ⟨q, hq⟩ : ∃ q : Int, q = 1 + (n : Int) := ⟨_, rfl⟩
  have hq0 : ¬ q < 0 := by omega
  have HQ := Lib.hid hq
  clear hq w0 w1 w2
  go_enter Try.func3, Try.ntmps3
  go_wp2_with fail
  refine (HS.out _).mono ?_
  rintro e w1 ⟨a3, cap3, rfl, ho1, hb1⟩
  have hz1 := hb1.size
  go_wp2_with fail
  refine (HI.out _).mono ?_
  rintro e w2 ⟨a4, cap4, rfl, ho2, hb2⟩
  have hz2 := hb2.size
  have RS := Lib.hid (ho1.later hb2)
  have RG := Lib.hid ho2
  have HB2 := Lib.hid (hb1.trans (hb2.mono hz1))
  clear ho1 ho2 hb1 hb2
  go_wp2_with fail
  refine (CEq.eq_complexes _ _ _ _ _ cx cy _ RG.out.x RS.out.x).mono ?_
  rintro e w3 ⟨rfl, hb3⟩
  have hz3 := hb3.size
  have RS3 := Lib.hid (RS.out.later hb3)
  have HB3 := Lib.hid (HB2.out.trans (hb3.mono HB2.out.size))
  obtain ⟨k2, k3, g, cur, k5, k6, k7⟩ := RG.out.later hb3
  clear hb3
  go_wp2_with fail
  refine (CMk.mark w1.heap.size a4 n cap4 1 (by omega) _ k2 k3 (by omega) g cur (fun h0 => ⟨(k5 h0).1, (k5 h0).2.1, (k5 h0).2.2.2⟩) k6).mono ?_
  rintro e w4 ⟨rfl, hm4, hb4, hk4⟩
  rw [show (1 + (n : Int)) = q from HQ.out.symm]
  have hz4 := hb4.size
  have RS4 := Lib.hid (RS3.out.keep fun b hb hl _ => hb4.block b hl)
  have MG4 := Lib.hid hm4
  have HB4 := Lib.hid (HB3.out.trans (hb4.mono (by omega)))
  clear hm4 hb4 hk4 k5 k6 k7
  go_wp2_with fail
  refine (CMk.held _ a4 n cap4 1 (by omega) _ MG4.out).mono ?_
  rintro e w5 ⟨rfl, hb5⟩
  rw [show (1 + (n : Int)) = q from HQ.out.symm]
  have hz5 := hb5.size
  have RS5 := Lib.hid (RS4.out.later hb5)
  have MG5 := Lib.hid (MG4.out.on hb5)
  have HB5 := Lib.hid (HB4.out.trans (hb5.mono HB4.out.size))
  clear hb5
  go_wp2_with fail
  refine (HI.out _).mono ?_
  rintro e w6 ⟨a6, cap6, rfl, ho6, hb6⟩
  have hz6 := hb6.size
  have RS6 := Lib.hid (RS5.out.later hb6)
  have MG6 := Lib.hid (MG5.out.on hb6)
  have RH6 := Lib.hid ho6
  have HB6 := Lib.hid (HB5.out.trans (hb6.mono HB5.out.size))
  clear ho6 hb6
  go_wp2_with fail
  refine (CEq.eq_complexes _ _ _ _ _ cx cy _ RH6.out.x RS6.out.x).mono ?_
  rintro e w7 ⟨rfl, hb7⟩
  have MG7 := Lib.hid (MG6.out.on hb7)
  have HB7 := Lib.hid (HB6.out.trans (hb7.mono HB6.out.size))
  clear hb7
  go_wp2_with fail
  refine (CMk.held _ a4 n cap4 1 (by omega) _ MG7.out).mono ?_
  rintro e w8 ⟨rfl, hb8⟩
  rw [show (1 + (n : Int)) = q from HQ.out.symm]
  have HB8 := Lib.hid (HB7.out.trans (hb8.mono HB7.out.size))
  clear hb8
  go_wp2
  go_ret
  exact ⟨rfl, HB8.out⟩

set_option maxRecDepth 100000 in
theorem lifted (os : Os) (started : os.Started) (H : Type) (enc : TypeId × Value → H) :
    ReturnsInHanded {} Try.checked os 3 .any (Rows.fnExactNoiseTracersSpec.pre6 enc Try.prog Try.f3 Rows.fnExactNoiseTracersRow.domain false) (Rows.fnExactNoiseTracersSpec.post enc Try.prog Try.f3 false true false false) := by
  refine returnsInHanded_of_change (C := Try.checked) own started (by kernel_rfl) Try.func3
    (ChangeSpec.witness6 (enc := enc) (C := Try.checked) false ⟨#[], #[.int .i64 0, .float .f32 0, .int .i64 0], []⟩ 8 (by kernel_rfl) (by kernel_rfl) (by kernel_rfl) (by kernel_rfl)) ?_
  intro W base args ds gs before hval0 hW hcnd _
  have hval : ∀ (j : Nat) t v, Try.f3.params[j]? = some t → args[j]? = some v → Value.okWide Try.prog W .any base t v := hval0
  have hW' := hW
  obtain ⟨p, q, hA0, hV, rfl, hfz, hnd⟩ := hW
  have hA : DataW.TrodAll enc Try.prog W 0 (fun _ => true) true Try.f3.params.toList args.toList ds p := hA0
  rw [Try.params3] at hA hval
  obtain ⟨v0, vs0, d0, ds0, p0, q0, hargs, rfl, rfl, h0, r0⟩ := trodAll_cons hA
  obtain ⟨v1, vs1, d1, ds1, p1, q1, rfl, rfl, rfl, h1, r1⟩ := trodAll_cons r0
  obtain ⟨v2, vs2, d2, ds2, p2, q2, rfl, rfl, rfl, h2, r2⟩ := trodAll_cons r1
  obtain ⟨rfl, rfl, rfl⟩ := trodAll_nil r2
  obtain rfl : args = #[v0, v1, v2] := by cases args; simp_all
  obtain ⟨rfl, rfl⟩ := trodVars_none hV
  have k0 := h0
  have lt0 : ∀ x ∈ p0, x.block < W.heap.size := by obtain ⟨m, hm⟩ := k0; exact DataW.trod_lt m _ _ _ hm
  obtain ⟨a0, rfl, e0, _, w0⟩ := open_int Try.underlying2 (hval 0 2 v0 rfl rfl) h0
  have k1 := h1
  have lt1 : ∀ x ∈ p1, x.block < W.heap.size := by obtain ⟨m, hm⟩ := k1; exact DataW.trod_lt m _ _ _ hm
  obtain ⟨a1, rfl, e1, _, w1⟩ := open_float Try.underlying22 (hval 1 22 v1 rfl rfl) h1
  have k2 := h2
  have lt2 : ∀ x ∈ p2, x.block < W.heap.size := by obtain ⟨m, hm⟩ := k2; exact DataW.trod_lt m _ _ _ hm
  obtain ⟨a2, rfl, e2, _, w2⟩ := open_int Try.underlying2 (hval 2 2 v2 rfl rfl) h2
  clear hA0 hval0
  refine (walk a0 a1 a2 W w0 w1 w2).mono fun e W' ⟨he, bel⟩ => ?_
  subst he
  exact ⟨_, rfl, _, _, _, [], _, [], hW', trodAll_mk1 (shut_bool Try.underlying4 _), (trodAll_cons_mk (Below.trod laidOut (by kernel_rfl) (of_decide_eq_true (by kernel_rfl)) k0 bel lt0) (trodAll_cons_mk (Below.trod laidOut (by kernel_rfl) (of_decide_eq_true (by kernel_rfl)) k1 bel lt1) (trodAll_cons_mk (Below.trod laidOut (by kernel_rfl) (of_decide_eq_true (by kernel_rfl)) k2 bel lt2) trodAll_mk0))), rfl, bel.frame _, fun h => by cases h⟩

theorem over : Rows.fnExactNoiseTracersRow.holds Try.pinned (OpenSpec.ofChange Rows.fnExactNoiseTracersSpec) :=
  OpenClaim.holds_of_wide 3 Try.f3 rfl rfl rfl rfl rfl rfl rfl ⟨rfl, rfl, rfl, rfl, rfl⟩ rfl rfl rfl rfl rfl (by kernel_rfl) Try.func3 (by kernel_rfl)
    (of_decide_eq_true (by kernel_rfl)) (by unfold Func.isWrapper; first | (rw [if_pos (by decide +kernel)]; kernel_rfl) | (rw [if_neg (by decide +kernel)]; exact ⟨rfl, rfl⟩))
    (fun os started H enc _ => lifted os started H enc)

/-- The statement. -/
theorem proved : Rows.FnExactNoiseTracersSaid := over
#print axioms proved
end Go.Proofs.Ytjkkefbfhapblab.fnExactNoiseTracers
