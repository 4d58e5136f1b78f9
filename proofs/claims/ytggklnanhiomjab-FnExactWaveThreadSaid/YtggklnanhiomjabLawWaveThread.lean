/- 'FnExactWaveThread' returns true at every input, and every argument reads afterwards as before. No conditions. -/
import Derived.Test.YtggklnanhiomjabRows
import Derived.WalkKit
import Derived.WalkLawsBesides
import Derived.ProofKit
import Derived.OpenShut
import Derived.ShutString
import Derived.ChangeOld
import Derived.Below
import Derived.Test.YtggklnanhiomjabFrame
import Derived.Test.YtggklnanhiomjabThL
import Derived.Test.YtggklnanhiomjabThO
namespace Go.Proofs.Ytggklnanhiomjab.fnExactWaveThread
open Go.ChangeShapes Go.WideShapes Go.ChangeAt Go.RowKit
open Go.ChangeMaps (open_string shut_string)
set_option linter.unusedVariables false
set_option linter.unusedSimpArgs false

theorem own : ownKnob Try.prog.godebug = none := by kernel_rfl
theorem laidOut : laidOutB Try.prog = true := by kernel_rfl

set_option maxHeartbeats 12800000 in
theorem walk (a0 : Int) (a1 : Int) (a2 : Nat) (a3 : Nat) (a4 : Nat) (w : World) (w0 : (Lit.int .i64 a0).wf = true) (w1 : (Lit.int .i64 a1).wf = true) (w2 : (Lit.float .f32 a2).wf = true) (w3 : (Lit.float .f32 a3).wf = true) (w4 : (Lit.float .f32 a4).wf = true) :
    Calls Try.prog 4 #[.int .i64 a0, .int .i64 a1, .float .f32 a2, .float .f32 a3, .float .f32 a4] w fun e w' => e = .returned (.bool true) ∧ Below w.heap.size w w' := by
  have f3s : Fl.Fr .f32 a4 (Fl.cl .f32 a4) := ⟨rfl, Fl.lt32 w4⟩
  have HS := Lib.hid (fun w => Th.spec_WaveT a0 a1 a2 a3 a4 _ w w2 (Fl.lt32 w3) f3s _ rfl)
  have HI := Lib.hid (fun w => Th.impl_WaveT a0 a1 a2 a3 a4 _ w (Fl.lt32 w2) (Fl.lt32 w3) f3s _ rfl)
  clear f3s
  obtain ⟨A3, hA3⟩ : ∃ A3, (((Th.cntB a0 && Th.wavB a1) && (Rs.isLen a2 && Rate.finC (Fl.cl .f32 a3))) && Th.okT a0.toNat (Fl.cl .f32 a4) (Th.ringC a0.toNat (Fl.cl .f32 a2) (Th.waveC (Fl.cl .f32 a3) a1.toNat a0.toNat))) = A3 := ⟨_, rfl⟩
  rw [hA3] at HS HI
  unfold Th.RetG at HS HI
  have hn3 : (if A3 then a0.toNat else 0) ≤ 32 := by
    cases A3
    · simp
    · simp only [Bool.and_eq_true] at hA3
      simp only [if_true]
      exact (Th.okT_of hA3.2).2.1
  have h3s : Fl.Fr .f32 (if A3 then a4 else 0) (Fl.cl .f32 (if A3 then a4 else 0)) := ⟨rfl, by
    cases A3
    · exact (by decide : 0 < 2 ^ FloatKind.f32.format.width)
    · exact Fl.lt32 w4⟩
  generalize (if A3 then a0.toNat else 0) = n3 at *
  generalize (if A3 then a4 else 0) = s3 at *
  obtain ⟨f3, hf3⟩ : ∃ f3, Th.ringC a0.toNat (Fl.cl .f32 a2) (Th.waveC (Fl.cl .f32 a3) a1.toNat a0.toNat) = f3 := ⟨_, rfl⟩
  rw [hf3] at HS HI
  clear hA3 hf3
  obtain ⟨q, hq⟩ : ∃ q : Int, q = 1 + (n3 : Int) * 3 := ⟨_, rfl⟩
  have hq0 : 0 ≤ q := by omega
  have HQ := Lib.hid hq
  clear hq
  go_enter Try.func4, Try.ntmps4
  go_wp2_with fail
  refine (HS.out _).mono ?_
  rintro e w1 ⟨a1, cap1, rfl, ho1, hb1⟩
  have hz1 := hb1.size
  try simp only [World.size_alloc] at hz1
  have hbw : Below w.heap.size w w1 := Below.trans (Below.refl _ _) (hb1.mono (by first | omega | (simp; omega) | simp))
  clear hb1
  have HBW := Lib.hid hbw
  clear hbw
  have RS := Lib.hid ho1
  clear ho1
  go_wp2_with fail
  refine (HI.out _ ).mono ?_
  rintro e w2 ⟨a2, cap2, rfl, ho2, hb2⟩
  have hz2 := hb2.size
  try simp only [World.size_alloc] at hz2
  have qs : w2.heap[w1.heap.size]? = some (.cells #[.slice a1 n3 cap1, .float .f32 s3] 25) := Th.keep_block hb2 (Th.new_block _ _)
  have yS := ((RS.out.alloc _)).later hb2
  have hbw : Below w.heap.size w w2 := Below.trans (Below.alloc HBW.out (by first | exact Nat.le_refl _ | omega | (simp; omega) | simp) _) (hb2.mono (by first | omega | (simp; omega) | simp))
  clear RS HBW
  clear hb2
  have Qs := Lib.hid qs
  have ls := Th.block_lt qs
  have es0 := (Th.cells_of (i := 0) qs).trans (show _ = some (.slice a1 n3 cap1) from rfl)
  have es1 := (Th.cells_of (i := 1) qs).trans (show _ = some (.float .f32 s3) from rfl)
  clear qs
  have RS := Lib.hid yS
  clear yS
  have HBW := Lib.hid hbw
  clear hbw
  have RG := Lib.hid (ho2.wider (show w1.heap.size + 1 ≤ _ by simp) (Nat.le_refl _))
  clear ho2
  go_wp2_with fail
  refine (Th.eq_thread a2 a1 _ cap2 cap1 _ _ _ f3 _ ((RG.out.alloc _)).v ((RS.out.alloc _)).v h3s h3s).mono ?_
  rintro e w3 ⟨rfl, hb3⟩
  have hz3 := hb3.size
  try simp only [World.size_alloc] at hz3
  have qs := Th.keep_block hb3 (Th.alloc_block Qs.out)
  have qg : w3.heap[w2.heap.size]? = some (.cells #[.slice a2 n3 cap2, .float .f32 s3] 25) := Th.keep_block hb3 (Th.new_block _ _)
  have yS := ((RS.out.alloc _)).later hb3
  have yG := ((RG.out.alloc _)).later hb3
  have hbw : Below w.heap.size w w3 := Below.trans (Below.alloc HBW.out (by first | exact Nat.le_refl _ | omega | (simp; omega) | simp) _) (hb3.mono (by first | omega | (simp; omega) | simp))
  clear Qs ls es0 es1 RS RG HBW
  clear hb3
  have Qs := Lib.hid qs
  have ls := Th.block_lt qs
  have es0 := (Th.cells_of (i := 0) qs).trans (show _ = some (.slice a1 n3 cap1) from rfl)
  have es1 := (Th.cells_of (i := 1) qs).trans (show _ = some (.float .f32 s3) from rfl)
  have Qg := Lib.hid qg
  have lg := Th.block_lt qg
  have eg0 := (Th.cells_of (i := 0) qg).trans (show _ = some (.slice a2 n3 cap2) from rfl)
  have eg1 := (Th.cells_of (i := 1) qg).trans (show _ = some (.float .f32 s3) from rfl)
  clear qs qg
  have RS := Lib.hid yS
  have RG := Lib.hid yG
  clear yS yG
  have HBW := Lib.hid hbw
  clear hbw
  go_wp2_with fail
  refine (Th.mark_thread (w1.heap.size + 1) (w2.heap.size) a2 _ cap2 _ f3 1 (by omega) _ RG.out (by omega) (by omega) (by omega)).mono ?_
  rintro e w4 ⟨rfl, hm4, hb4, hk4⟩
  rw [show (1 + (n3 : Int) * 3) = q from HQ.out.symm]
  have hz4 := hb4.size
  try simp only [World.size_alloc] at hz4
  have qs := (hk4 _ (by omega) ls).trans Qs.out
  have qg := (hk4 _ (by omega) lg).trans Qg.out
  have yS := RS.out.keep (fun g hg hgl hgs => hk4 g (by omega) hgs)
  have hbw : Below w.heap.size w w4 := HBW.out.trans (hb4.mono (by omega))
  clear Qs Qg ls lg es0 es1 eg0 eg1 RS RG HBW
  clear hb4 hk4
  have mG := hm4
  clear hm4
  have Qs := Lib.hid qs
  have ls := Th.block_lt qs
  have es0 := (Th.cells_of (i := 0) qs).trans (show _ = some (.slice a1 n3 cap1) from rfl)
  have es1 := (Th.cells_of (i := 1) qs).trans (show _ = some (.float .f32 s3) from rfl)
  have Qg := Lib.hid qg
  have lg := Th.block_lt qg
  have eg0 := (Th.cells_of (i := 0) qg).trans (show _ = some (.slice a2 n3 cap2) from rfl)
  have eg1 := (Th.cells_of (i := 1) qg).trans (show _ = some (.float .f32 s3) from rfl)
  clear qs qg
  have RS := Lib.hid yS
  have MG := Lib.hid mG
  clear yS mG
  have HBW := Lib.hid hbw
  clear hbw
  go_wp2_with fail
  refine (Th.held_thread _ _ a2 _ cap2 _ 1 (by omega) _ MG.out).mono ?_
  rintro e w5 ⟨rfl, hb5⟩
  rw [show (1 + (n3 : Int) * 3) = q from HQ.out.symm]
  have hz5 := hb5.size
  try simp only [World.size_alloc] at hz5
  have qs := Th.keep_block hb5 Qs.out
  have qg := Th.keep_block hb5 Qg.out
  have yS := (RS.out).later hb5
  have mG := (MG.out).on hb5
  have hbw : Below w.heap.size w w5 := Below.trans HBW.out (hb5.mono (by first | omega | (simp; omega) | simp))
  clear Qs Qg ls lg es0 es1 eg0 eg1 RS MG HBW
  clear hb5
  have Qs := Lib.hid qs
  have ls := Th.block_lt qs
  have es0 := (Th.cells_of (i := 0) qs).trans (show _ = some (.slice a1 n3 cap1) from rfl)
  have es1 := (Th.cells_of (i := 1) qs).trans (show _ = some (.float .f32 s3) from rfl)
  have Qg := Lib.hid qg
  have lg := Th.block_lt qg
  have eg0 := (Th.cells_of (i := 0) qg).trans (show _ = some (.slice a2 n3 cap2) from rfl)
  have eg1 := (Th.cells_of (i := 1) qg).trans (show _ = some (.float .f32 s3) from rfl)
  clear qs qg
  have RS := Lib.hid yS
  have MG := Lib.hid mG
  clear yS mG
  have HBW := Lib.hid hbw
  clear hbw
  go_wp2_with fail
  refine (HI.out _).mono ?_
  rintro e w6 ⟨a6, cap6, rfl, ho6, hb6⟩
  have hz6 := hb6.size
  try simp only [World.size_alloc] at hz6
  have qs := Th.keep_block hb6 Qs.out
  have qg := Th.keep_block hb6 Qg.out
  have yS := (RS.out).later hb6
  have mG := (MG.out).on hb6
  have hbw : Below w.heap.size w w6 := Below.trans HBW.out (hb6.mono (by first | omega | (simp; omega) | simp))
  clear Qs Qg ls lg es0 es1 eg0 eg1 RS MG HBW
  clear hb6
  have Qs := Lib.hid qs
  have ls := Th.block_lt qs
  have es0 := (Th.cells_of (i := 0) qs).trans (show _ = some (.slice a1 n3 cap1) from rfl)
  have es1 := (Th.cells_of (i := 1) qs).trans (show _ = some (.float .f32 s3) from rfl)
  have Qg := Lib.hid qg
  have lg := Th.block_lt qg
  have eg0 := (Th.cells_of (i := 0) qg).trans (show _ = some (.slice a2 n3 cap2) from rfl)
  have eg1 := (Th.cells_of (i := 1) qg).trans (show _ = some (.float .f32 s3) from rfl)
  clear qs qg
  have RS := Lib.hid yS
  have MG := Lib.hid mG
  clear yS mG
  have HBW := Lib.hid hbw
  clear hbw
  have RH := Lib.hid ho6
  clear ho6
  go_wp2_with fail
  refine (Th.eq_thread a6 a1 _ cap6 cap1 _ _ _ f3 _ ((RH.out.alloc _)).v ((RS.out.alloc _)).v h3s h3s).mono ?_
  rintro e w7 ⟨rfl, hb7⟩
  have hz7 := hb7.size
  try simp only [World.size_alloc] at hz7
  have qs := Th.keep_block hb7 (Th.alloc_block Qs.out)
  have qg := Th.keep_block hb7 (Th.alloc_block Qg.out)
  have qh : w7.heap[w6.heap.size]? = some (.cells #[.slice a6 n3 cap6, .float .f32 s3] 25) := Th.keep_block hb7 (Th.new_block _ _)
  have yS := ((RS.out.alloc _)).later hb7
  have yH := ((RH.out.alloc _)).later hb7
  have mG := ((MG.out.alloc _)).on hb7
  have hbw : Below w.heap.size w w7 := Below.trans (Below.alloc HBW.out (by first | exact Nat.le_refl _ | omega | (simp; omega) | simp) _) (hb7.mono (by first | omega | (simp; omega) | simp))
  clear Qs Qg ls lg es0 es1 eg0 eg1 RS RH MG HBW
  clear hb7
  have Qs := Lib.hid qs
  have ls := Th.block_lt qs
  have es0 := (Th.cells_of (i := 0) qs).trans (show _ = some (.slice a1 n3 cap1) from rfl)
  have es1 := (Th.cells_of (i := 1) qs).trans (show _ = some (.float .f32 s3) from rfl)
  have Qg := Lib.hid qg
  have lg := Th.block_lt qg
  have eg0 := (Th.cells_of (i := 0) qg).trans (show _ = some (.slice a2 n3 cap2) from rfl)
  have eg1 := (Th.cells_of (i := 1) qg).trans (show _ = some (.float .f32 s3) from rfl)
  have Qh := Lib.hid qh
  have lh := Th.block_lt qh
  have eh0 := (Th.cells_of (i := 0) qh).trans (show _ = some (.slice a6 n3 cap6) from rfl)
  have eh1 := (Th.cells_of (i := 1) qh).trans (show _ = some (.float .f32 s3) from rfl)
  clear qs qg qh
  have RS := Lib.hid yS
  have RH := Lib.hid yH
  have MG := Lib.hid mG
  clear yS yH mG
  have HBW := Lib.hid hbw
  clear hbw
  go_wp2_with fail
  refine (Th.held_thread _ _ a2 _ cap2 _ 1 (by omega) _ MG.out).mono ?_
  rintro e w8 ⟨rfl, hb8⟩
  rw [show (1 + (n3 : Int) * 3) = q from HQ.out.symm]
  have hz8 := hb8.size
  try simp only [World.size_alloc] at hz8
  have qs := Th.keep_block hb8 Qs.out
  have qg := Th.keep_block hb8 Qg.out
  have qh := Th.keep_block hb8 Qh.out
  have yS := (RS.out).later hb8
  have yH := (RH.out).later hb8
  have mG := (MG.out).on hb8
  have hbw : Below w.heap.size w w8 := Below.trans HBW.out (hb8.mono (by first | omega | (simp; omega) | simp))
  clear Qs Qg Qh ls lg lh es0 es1 eg0 eg1 eh0 eh1 RS RH MG HBW
  clear hb8
  have Qs := Lib.hid qs
  have ls := Th.block_lt qs
  have es0 := (Th.cells_of (i := 0) qs).trans (show _ = some (.slice a1 n3 cap1) from rfl)
  have es1 := (Th.cells_of (i := 1) qs).trans (show _ = some (.float .f32 s3) from rfl)
  have Qg := Lib.hid qg
  have lg := Th.block_lt qg
  have eg0 := (Th.cells_of (i := 0) qg).trans (show _ = some (.slice a2 n3 cap2) from rfl)
  have eg1 := (Th.cells_of (i := 1) qg).trans (show _ = some (.float .f32 s3) from rfl)
  have Qh := Lib.hid qh
  have lh := Th.block_lt qh
  have eh0 := (Th.cells_of (i := 0) qh).trans (show _ = some (.slice a6 n3 cap6) from rfl)
  have eh1 := (Th.cells_of (i := 1) qh).trans (show _ = some (.float .f32 s3) from rfl)
  clear qs qg qh
  have RS := Lib.hid yS
  have RH := Lib.hid yH
  have MG := Lib.hid mG
  clear yS yH mG
  have HBW := Lib.hid hbw
  clear hbw
  go_wp2
  go_ret
  exact ⟨rfl, HBW.out⟩

set_option maxRecDepth 100000 in
theorem lifted (os : Os) (started : os.Started) (H : Type) (enc : TypeId × Value → H) :
    ReturnsInHanded {} Try.checked os 4 .any (Rows.fnExactWaveThreadSpec.pre6 enc Try.prog Try.f4 Rows.fnExactWaveThreadRow.domain false) (Rows.fnExactWaveThreadSpec.post enc Try.prog Try.f4 false true false false) := by
  refine returnsInHanded_of_change (C := Try.checked) own started (by kernel_rfl) Try.func4
    (ChangeSpec.witness6 (enc := enc) (C := Try.checked) false ⟨#[], #[.int .i64 0, .int .i64 0, .float .f32 0, .float .f32 0, .float .f32 0], []⟩ 8 (by kernel_rfl) (by kernel_rfl) (by kernel_rfl) (by kernel_rfl)) ?_
  intro W base args ds gs before hval0 hW hcnd _
  have hval : ∀ (j : Nat) t v, Try.f4.params[j]? = some t → args[j]? = some v → Value.okWide Try.prog W .any base t v := hval0
  have hW' := hW
  obtain ⟨p, q, hA0, hV, rfl, hfz, hnd⟩ := hW
  have hA : DataW.TrodAll enc Try.prog W 0 (fun _ => true) true Try.f4.params.toList args.toList ds p := hA0
  rw [Try.params4] at hA hval
  obtain ⟨v0, vs0, d0, ds0, p0, q0, hargs, rfl, rfl, h0, r0⟩ := trodAll_cons hA
  obtain ⟨v1, vs1, d1, ds1, p1, q1, rfl, rfl, rfl, h1, r1⟩ := trodAll_cons r0
  obtain ⟨v2, vs2, d2, ds2, p2, q2, rfl, rfl, rfl, h2, r2⟩ := trodAll_cons r1
  obtain ⟨v3, vs3, d3, ds3, p3, q3, rfl, rfl, rfl, h3, r3⟩ := trodAll_cons r2
  obtain ⟨v4, vs4, d4, ds4, p4, q4, rfl, rfl, rfl, h4, r4⟩ := trodAll_cons r3
  obtain ⟨rfl, rfl, rfl⟩ := trodAll_nil r4
  obtain rfl : args = #[v0, v1, v2, v3, v4] := by cases args; simp_all
  obtain ⟨rfl, rfl⟩ := trodVars_none hV
  have k0 := h0
  have lt0 : ∀ x ∈ p0, x.block < W.heap.size := by obtain ⟨m, hm⟩ := k0; exact DataW.trod_lt m _ _ _ hm
  obtain ⟨a0, rfl, e0, _, w0⟩ := open_int Try.underlying2 (hval 0 2 v0 rfl rfl) h0
  have k1 := h1
  have lt1 : ∀ x ∈ p1, x.block < W.heap.size := by obtain ⟨m, hm⟩ := k1; exact DataW.trod_lt m _ _ _ hm
  obtain ⟨a1, rfl, e1, _, w1⟩ := open_int Try.underlying2 (hval 1 2 v1 rfl rfl) h1
  have k2 := h2
  have lt2 : ∀ x ∈ p2, x.block < W.heap.size := by obtain ⟨m, hm⟩ := k2; exact DataW.trod_lt m _ _ _ hm
  obtain ⟨a2, rfl, e2, _, w2⟩ := open_float Try.underlying22 (hval 2 22 v2 rfl rfl) h2
  have k3 := h3
  have lt3 : ∀ x ∈ p3, x.block < W.heap.size := by obtain ⟨m, hm⟩ := k3; exact DataW.trod_lt m _ _ _ hm
  obtain ⟨a3, rfl, e3, _, w3⟩ := open_float Try.underlying22 (hval 3 22 v3 rfl rfl) h3
  have k4 := h4
  have lt4 : ∀ x ∈ p4, x.block < W.heap.size := by obtain ⟨m, hm⟩ := k4; exact DataW.trod_lt m _ _ _ hm
  obtain ⟨a4, rfl, e4, _, w4⟩ := open_float Try.underlying22 (hval 4 22 v4 rfl rfl) h4
  clear hA0 hval0
  refine (walk a0 a1 a2 a3 a4 W w0 w1 w2 w3 w4).mono fun e W' ⟨he, bel⟩ => ?_
  subst he
  exact ⟨_, rfl, _, _, _, [], _, [], hW', trodAll_mk1 (shut_bool Try.underlying4 _), (trodAll_cons_mk (Below.trod laidOut (by kernel_rfl) (of_decide_eq_true (by kernel_rfl)) k0 bel lt0) (trodAll_cons_mk (Below.trod laidOut (by kernel_rfl) (of_decide_eq_true (by kernel_rfl)) k1 bel lt1) (trodAll_cons_mk (Below.trod laidOut (by kernel_rfl) (of_decide_eq_true (by kernel_rfl)) k2 bel lt2) (trodAll_cons_mk (Below.trod laidOut (by kernel_rfl) (of_decide_eq_true (by kernel_rfl)) k3 bel lt3) (trodAll_cons_mk (Below.trod laidOut (by kernel_rfl) (of_decide_eq_true (by kernel_rfl)) k4 bel lt4) trodAll_mk0))))), rfl, bel.frame _, fun h => by cases h⟩

theorem over : Rows.fnExactWaveThreadRow.holds Try.pinned (OpenSpec.ofChange Rows.fnExactWaveThreadSpec) :=
  OpenClaim.holds_of_wide 4 Try.f4 rfl rfl rfl rfl rfl rfl rfl ⟨rfl, rfl, rfl, rfl, rfl⟩ rfl rfl rfl rfl rfl (by kernel_rfl) Try.func4 (by kernel_rfl)
    (of_decide_eq_true (by kernel_rfl)) (by unfold Func.isWrapper; first | (rw [if_pos (by decide +kernel)]; kernel_rfl) | (rw [if_neg (by decide +kernel)]; exact ⟨rfl, rfl⟩))
    (fun os started H enc _ => lifted os started H enc)

/-- The statement. -/
theorem proved : Rows.FnExactWaveThreadSaid := over
#print axioms proved
end Go.Proofs.Ytggklnanhiomjab.fnExactWaveThread
