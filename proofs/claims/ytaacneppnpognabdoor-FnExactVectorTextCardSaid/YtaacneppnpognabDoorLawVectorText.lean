/- 'FnExactVectorText' returns true at every input, and every argument reads afterwards as before; the table that it reads is laid by the program's text (the card ties it). No other conditions. -/
import Derived.Test.YtaacneppnpognabDoorRows
import Derived.Test.YtaacneppnpognabDoorCards
import Derived.Test.YtaacneppnpognabDoorTie
import Derived.WalkKit
import Derived.WalkLawsBesides
import Derived.ProofKit
import Derived.OpenShut
import Derived.ShutString
import Derived.ChangeOld
import Derived.Below
import Derived.LaidMore
import Derived.Lay
import Derived.SevenTiedAt
import Derived.Stop.Joined
import Derived.Test.YtaacneppnpognabDoorVText
namespace Go.Proofs.YtaacneppnpognabDoor.fnExactVectorText
open Go.ChangeShapes Go.WideShapes Go.ChangeAt Go.RowKit
open Go.ChangeMaps (open_string shut_string)
set_option linter.unusedVariables false
set_option linter.unusedSimpArgs false

theorem own : ownKnob Tryd.prog.godebug = none := by kernel_rfl
theorem laidOut : laidOutB Tryd.prog = true := by kernel_rfl

set_option maxRecDepth 20000 in
set_option maxHeartbeats 1600000 in
theorem walk (a0x a0y a0z : Nat) (w : World) (w0x : (Lit.float .f32 a0x).wf = true) (w0y : (Lit.float .f32 a0y).wf = true) (w0z : (Lit.float .f32 a0z).wf = true) (h64 : w.cell? ⟨6, 15, none⟩ = some (.int .u8 4)) :
    Calls Tryd.prog 5 #[.agg #[.float .f32 a0x, .float .f32 a0y, .float .f32 a0z]] w fun e w' => e = .returned (.bool true) ∧ Below w.heap.size w w' := by
  have fx0x := Fl.Fr.wf w0x
  have fx0y := Fl.Fr.wf w0y
  have fx0z := Fl.Fr.wf w0z
  have HT := Lib.hid (fun w' (hb : Below w.heap.size w w') => show w'.cell? ⟨6, 15, none⟩ = some (.int .u8 4) by rw [hb.cell (block_lt_of_cell h64)]; exact h64)
  have FX := Lib.hid fx0x
  have FY := Lib.hid fx0y
  have FZ := Lib.hid fx0z
  obtain ⟨T, hT⟩ : ∃ T, NTL.txt [a0x, a0y, a0z] = T := ⟨_, rfl⟩
  have HTX := Lib.hid hT
  clear w0x w0y w0z h64 fx0x fx0y fx0z hT
  go_enter Tryd.func5, Tryd.ntmps5
  go_wp2_with fail
  refine (Vec.to_vector _ _ _ _ _ _ _ FX.out FY.out FZ.out).mono ?_
  rintro e w1 ⟨x1, y1, z1, rfl, hx1, hy1, hv1, hb1⟩
  have hz1 := hb1.size
  try simp only [World.size_alloc, World.size_setCell, World.heap_drewN, World.size_drew] at hz1
  obtain ⟨hc1, hf1⟩ := Fl.bcell hb1
  try (have g1_0 : w.heap.size < w1.heap.size := by omega)
  try (have l1_0 : w.heap.size ≤ w1.heap.size := by omega)
  have e1 : NTL.txt [x1, y1, z1] = T := (NTL.txt_cl (hx1.1.trans FX.out.1.symm) (hy1.1.trans FY.out.1.symm) (hv1.1.trans FZ.out.1.symm)).trans HTX.out
  have q1 := hx1.2
  have E1 := Lib.hid e1
  clear e1
  go_wp2_with fail
  refine (NTL.spec_vectortext _ _ _ (NTL.wf_of hx1) (NTL.wf_of hy1) (NTL.wf_of hv1) _).mono ?_
  rintro e w2 ⟨rfl, hb2⟩
  rw [E1.out]
  have hz2 := hb2.size
  try simp only [World.size_alloc, World.size_setCell, World.heap_drewN, World.size_drew] at hz2
  obtain ⟨hc2, hf2⟩ := Fl.bcell hb2
  try (have g2_0 : w.heap.size < w2.heap.size := by omega)
  try (have g2_1 : w1.heap.size ≤ w2.heap.size := by omega)
  go_wp2_with fail
  refine (Vec.to_vector _ _ _ _ _ _ _ FX.out FY.out FZ.out).mono ?_
  rintro e w3 ⟨x3, y3, z3, rfl, hx3, hy3, hv3, hb3⟩
  have hz3 := hb3.size
  try simp only [World.size_alloc, World.size_setCell, World.heap_drewN, World.size_drew] at hz3
  obtain ⟨hc3, hf3⟩ := Fl.bcell hb3
  have e3 : NTL.txt [x3, y3, z3] = T := (NTL.txt_cl (hx3.1.trans FX.out.1.symm) (hy3.1.trans FY.out.1.symm) (hv3.1.trans FZ.out.1.symm)).trans HTX.out
  have E3 := Lib.hid e3
  clear e3
  go_wp2_with fail
  refine (NTL.impl_vectortext _ _ _ (NTL.wf_of hx3) (NTL.wf_of hy3) (NTL.wf_of hv3) _ (HT.out _ (by (repeat' first | exact Below.refl _ _ | (refine Below.setCell ?_ (by first | omega | (simp; omega) | simp) _) | (refine below_drewN ?_ _) | (refine Below.alloc ?_ (by first | omega | (simp; omega) | simp) _) | (refine Below.trans ?_ (Below.mono (by assumption) (by first | omega | (simp; omega) | simp))))))).mono ?_
  rintro e w4 ⟨rfl, hb4⟩
  rw [E3.out]
  have hz4 := hb4.size
  try simp only [World.size_alloc, World.size_setCell, World.heap_drewN, World.size_drew] at hz4
  go_wp2
  go_ret
  exact ⟨rfl, by (repeat' first | exact Below.refl _ _ | (refine Below.setCell ?_ (by first | omega | (simp; omega) | simp) _) | (refine below_drewN ?_ _) | (refine Below.alloc ?_ (by first | omega | (simp; omega) | simp) _) | (refine Below.trans ?_ (Below.mono (by assumption) (by first | omega | (simp; omega) | simp))))⟩

set_option maxRecDepth 100000 in
theorem lifted (os : Os) (started : os.Started) (H : Type) (enc : TypeId × Value → H) :
    ReturnsInHanded {} Tryd.checked os 5 .any (fun w args => (Rows.fnExactVectorTextSpec.pre enc Tryd.prog Tryd.f5 Rows.fnExactVectorTextRow.domain false w args ∧ laidMetH Tryd.prog Rows.fnExactVectorTextRow.laid w) ∧ sizedMet enc Tryd.prog Tryd.f5 (OpenSpec.ofChange Rows.fnExactVectorTextSpec) false w args)
      (Rows.fnExactVectorTextSpec.post enc Tryd.prog Tryd.f5 false true false false) := by
  refine returnsInHanded_of_change_and (C := Tryd.checked) (X := fun w _ => laidMetH Tryd.prog Rows.fnExactVectorTextRow.laid w) (fun _ _ _ hh h => h.of_heap hh) own started (by kernel_rfl) Tryd.func5
    (ChangeSpec.witness_shaped (enc := enc) (C := Tryd.checked) (os := os) (X := fun w _ => laidMetH Tryd.prog Rows.fnExactVectorTextRow.laid w) false (World.laidAll Tryd.prog os Rows.fnExactVectorTextRow.laid) #[.agg #[.float .f32 0, .float .f32 0, .float .f32 0]] 8 (World.laidAll_os _ _ _)
      (World.shaped_of_ZipB (by kernel_rfl) (by kernel_rfl)) (by kernel_rfl) (by kernel_rfl) (by kernel_rfl)
      (by rw [MakeChecks.laidMetH_plain _ _ _ (by kernel_rfl)]; exact laidMet_laidAll _ (by kernel_rfl) (by kernel_rfl))) ?_
  intro W base args ds gs before hval0 hW _ _ hL _
  have hval : ∀ (j : Nat) t v, Tryd.f5.params[j]? = some t → args[j]? = some v → Value.okWide Tryd.prog W .any base t v := hval0
  have hW' := hW
  obtain ⟨p, q, hA0, hV, rfl, hfz, hnd⟩ := hW
  have hA : DataW.TrodAll enc Tryd.prog W 0 (fun _ => true) true Tryd.f5.params.toList args.toList ds p := hA0
  rw [Tryd.params5] at hA hval
  obtain ⟨v0, vs0, d0, ds0, p0, q0, hargs, rfl, rfl, h0, r0⟩ := trodAll_cons hA
  obtain ⟨rfl, rfl, rfl⟩ := trodAll_nil r0
  obtain rfl : args = #[v0] := by cases args; simp_all
  obtain ⟨rfl, rfl⟩ := trodVars_none hV
  have k0 := h0
  have lt0 : ∀ x ∈ p0, x.block < W.heap.size := by obtain ⟨m, hm⟩ := k0; exact DataW.trod_lt m _ _ _ hm
  obtain ⟨a0x, a0y, a0z, rfl, w0x, w0y, w0z⟩ := _root_.Go.Proofs.YtaacneppnpognabDoor.Frame.open_vec Tryd.underlying34 (by kernel_rfl) (by kernel_rfl) rfl rfl rfl Tryd.underlying32 (hval 0 34 v0 rfl rfl) h0
  rw [MakeChecks.laidMetH_plain _ _ _ (by kernel_rfl)] at hL
  clear hA0 hval0
  refine (walk a0x a0y a0z W w0x w0y w0z (NTL.cell64 (pre := [("math/bits.deBruijn32tab", Rows.laid_math_bits_deBruijn32tab)]) hL)).mono fun e W' ⟨he, bel⟩ => ?_
  subst he
  exact ⟨_, rfl, _, _, _, [], _, [], hW', trodAll_mk1 (shut_bool Tryd.underlying4 _), (trodAll_cons_mk (Below.trod laidOut (by kernel_rfl) (of_decide_eq_true (by kernel_rfl)) k0 bel lt0) trodAll_mk0), rfl, bel.frame _, fun h => by cases h⟩

theorem over : Rows.fnExactVectorTextRow.holds Tryd.pinned (OpenSpec.ofChange Rows.fnExactVectorTextSpec) :=
  OpenClaim.holds_of_wide 5 Tryd.f5 rfl rfl rfl rfl rfl rfl rfl ⟨rfl, rfl, rfl, rfl, rfl⟩ rfl rfl rfl rfl rfl (by kernel_rfl) Tryd.func5 (by kernel_rfl)
    (of_decide_eq_true (by kernel_rfl)) (by unfold Func.isWrapper; first | (rw [if_pos (by decide +kernel)]; kernel_rfl) | (rw [if_neg (by decide +kernel)]; exact ⟨rfl, rfl⟩))
    (fun os started H enc _ => lifted os started H enc)

/-- The statement: the card. -/
theorem proved : Rows.FnExactVectorTextCardSaid :=
  Claim7.holds_tied_plain_at .later [] [.data, .data, .data] true (Rows.fnExactVectorTextCard.stood.harness) (Rows.fnExactVectorTextCard.stood.looks) over (fun _ h => by cases h) (by kernel_rfl) (fun _ h => by cases h) fnExactVectorText_row_tie rfl ⟨rfl, rfl⟩ (by kernel_rfl) rfl
    (fun f fn hf hfn => by
      obtain rfl : f = 5 := Option.some.inj ((show Tryd.prog.funcNamed "loop.example/g01266/laws.FnExactVectorText" = some 5 by kernel_rfl).symm.trans hf) |>.symm
      obtain rfl : fn = Tryd.f5 := (Option.some.inj (Tryd.func5.symm.trans hfn)).symm
      exact ⟨by kernel_rfl, fun j t ht => by
        rw [Tryd.params5] at ht
        have hm : t ∈ [34] := by simpa using Array.mem_of_getElem? ht
        have hall : ([34].all fun u => !Tryd.prog.wantsStandIn u) = true := by kernel_rfl
        exact (show Tryd.prog.wantsStandIn t = false by simpa using List.all_eq_true.1 hall t hm)⟩)
    (by kernel_rfl)
#print axioms proved
end Go.Proofs.YtaacneppnpognabDoor.fnExactVectorText
