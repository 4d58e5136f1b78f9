/- 'FnExactNumbersText' returns true at every input, and every argument reads afterwards as before; the table that it reads is laid by the program's text (the card ties it). No other conditions. -/
import Derived.Test.YtaacneppnpognabDoorRows
import Derived.Test.YtaacneppnpognabDoorCards
import Derived.Test.YtaacneppnpognabDoorTie
import Derived.WalkKit
import Derived.WalkLawsBesides
import Derived.ProofKit
import Derived.OpenShut
import Derived.ShutString
import Derived.ChangeOld
import Derived.Below
import Derived.LaidMore
import Derived.Lay
import Derived.SevenTiedAt
import Derived.Stop.Joined
import Derived.Test.YtaacneppnpognabDoorNTC
namespace Go.Proofs.YtaacneppnpognabDoor.fnExactNumbersText
open Go.ChangeShapes Go.WideShapes Go.ChangeAt Go.RowKit
open Go.ChangeMaps (open_string shut_string)
set_option linter.unusedVariables false
set_option linter.unusedSimpArgs false

theorem own : ownKnob Tryd.prog.godebug = none := by kernel_rfl
theorem laidOut : laidOutB Tryd.prog = true := by kernel_rfl

set_option maxRecDepth 20000 in
set_option maxHeartbeats 1600000 in
theorem walk (a0 : Option Addr) (len0 cap0 : Nat) (z0 : List Nat) (w : World) (w0 : _root_.Go.Proofs.YtaacneppnpognabDoor.Frame.IsNums .f32 w a0 len0 cap0 z0) (h64 : w.cell? ⟨6, 15, none⟩ = some (.int .u8 4)) :
    Calls Tryd.prog 3 #[.slice a0 len0 cap0] w fun e w' => e = .returned (.bool true) ∧ Below w.heap.size w w' := by
  have hmx : len0 ≤ 9223372036854775807 := by have h2 := w0.2.1; have h3 := w0.2.2.1; unfold maxLen at h3; omega
  have hzl := w0.1
  have W0 := Lib.hid w0
  have HZ := Lib.hid hzl
  have HT := Lib.hid h64
  clear w0 hzl h64
  by_cases hbig : len0 ≤ 1048576
  · have hb1 : ¬ (1048576 : Int) < (len0 : Int) := by omega
    obtain ⟨b, hb⟩ : ∃ b, decide (len0 ≤ 256) = b := ⟨_, rfl⟩
    obtain ⟨S, hS⟩ : ∃ S, NTL.ans z0 b = S := ⟨_, rfl⟩
    have HB := Lib.hid hb
    have HS := Lib.hid hS
    clear hb hS
    go_enter Tryd.func3, Tryd.ntmps3
    go_wp2_with fail
    refine (Nums.to_floats _ _ _ _ _ W0.out hbig).mono ?_
    rintro e w1 ⟨a1, cap1, rfl, hn1, hx1⟩
    rw [HZ.out] at hn1 ⊢
    have hz1 := hx1.size
    go_wp2_with fail
    refine (NTL.spec_numberstext _ _ _ _ _ hn1).mono ?_
    rintro e w2 ⟨rfl, hx2⟩
    rw [HB.out, HS.out]
    have hx12 := hx1.trans (hx2.mono hz1)
    have hz2 := hx12.size
    have N2 := Lib.hid (W0.out.later hx12)
    clear hn1
    go_wp2_with fail
    refine (Nums.to_floats _ _ _ _ _ N2.out hbig).mono ?_
    rintro e w3 ⟨a3, cap3, rfl, hn3, hx3⟩
    rw [HZ.out] at hn3 ⊢
    have hx13 := hx12.trans (hx3.mono hz2)
    have hz3 := hx13.size
    have N3 := Lib.hid hn3
    clear hn3
    go_wp2_with fail
    refine (NTL.impl_numberstext _ _ _ _ _ N3.out (by rw [hx13.cell (block_lt_of_cell HT.out)]; exact HT.out)).mono ?_
    rintro e w4 ⟨rfl, hx4⟩
    rw [HB.out, HS.out]
    have hx14 := hx13.trans (hx4.mono hz3)
    have hz4 := hx14.size
    have N4 := Lib.hid (W0.out.later hx14)
    have M4 := Lib.hid (N3.out.later hx4)
    go_wp2_with fail
    refine (Nums.to_floats _ _ _ _ _ N4.out hbig).mono ?_
    rintro e w5 ⟨a5, cap5, rfl, hn5, hx5⟩
    rw [HZ.out] at hn5 ⊢
    have hx15 := hx14.trans (hx5.mono hz4)
    have hz5 := hx15.size
    have N5 := Lib.hid hn5
    clear hn5
    go_wp2_with fail
    refine (Nums.eq_floats _ _ _ _ _ _ _ _ (M4.out.later hx5) N5.out (fun _ _ => rfl)).mono ?_
    rintro e w6 ⟨rfl, hx6⟩
    go_wp2
    go_ret
    exact ⟨rfl, hx15.trans (hx6.mono hz5)⟩
  · have hb1 : (1048576 : Int) < (len0 : Int) := by omega
    go_enter Tryd.func3, Tryd.ntmps3
    go_wp2
    go_ret
    exact ⟨rfl, Below.refl _ _⟩

set_option maxRecDepth 100000 in
theorem lifted (os : Os) (started : os.Started) (H : Type) (enc : TypeId × Value → H) :
    ReturnsInHanded {} Tryd.checked os 3 .any (fun w args => (Rows.fnExactNumbersTextSpec.pre enc Tryd.prog Tryd.f3 Rows.fnExactNumbersTextRow.domain false w args ∧ laidMetH Tryd.prog Rows.fnExactNumbersTextRow.laid w) ∧ sizedMet enc Tryd.prog Tryd.f3 (OpenSpec.ofChange Rows.fnExactNumbersTextSpec) false w args)
      (Rows.fnExactNumbersTextSpec.post enc Tryd.prog Tryd.f3 false true false false) := by
  refine returnsInHanded_of_change_and (C := Tryd.checked) (X := fun w _ => laidMetH Tryd.prog Rows.fnExactNumbersTextRow.laid w) (fun _ _ _ hh h => h.of_heap hh) own started (by kernel_rfl) Tryd.func3
    (ChangeSpec.witness_shaped (enc := enc) (C := Tryd.checked) (os := os) (X := fun w _ => laidMetH Tryd.prog Rows.fnExactNumbersTextRow.laid w) false (World.laidAll Tryd.prog os Rows.fnExactNumbersTextRow.laid) #[.slice none 0 0] 8 (World.laidAll_os _ _ _)
      (World.shaped_of_ZipB (by kernel_rfl) (by kernel_rfl)) (by kernel_rfl) (by kernel_rfl) (by kernel_rfl)
      (by rw [MakeChecks.laidMetH_plain _ _ _ (by kernel_rfl)]; exact laidMet_laidAll _ (by kernel_rfl) (by kernel_rfl))) ?_
  intro W base args ds gs before hval0 hW _ _ hL _
  have hval : ∀ (j : Nat) t v, Tryd.f3.params[j]? = some t → args[j]? = some v → Value.okWide Tryd.prog W .any base t v := hval0
  have hW' := hW
  obtain ⟨p, q, hA0, hV, rfl, hfz, hnd⟩ := hW
  have hA : DataW.TrodAll enc Tryd.prog W 0 (fun _ => true) true Tryd.f3.params.toList args.toList ds p := hA0
  rw [Tryd.params3] at hA hval
  obtain ⟨v0, vs0, d0, ds0, p0, q0, hargs, rfl, rfl, h0, r0⟩ := trodAll_cons hA
  obtain ⟨rfl, rfl, rfl⟩ := trodAll_nil r0
  obtain rfl : args = #[v0] := by cases args; simp_all
  obtain ⟨rfl, rfl⟩ := trodVars_none hV
  have k0 := h0
  have lt0 : ∀ x ∈ p0, x.block < W.heap.size := by obtain ⟨m, hm⟩ := k0; exact DataW.trod_lt m _ _ _ hm
  obtain ⟨a0, len0, cap0, rfl⟩ := okWide_slice Tryd.underlying22 (hval 0 22 v0 rfl rfl)
  obtain ⟨z0, w0⟩ := _root_.Go.Proofs.YtaacneppnpognabDoor.Frame.open_nums Tryd.underlying22 Tryd.underlying32 (by kernel_rfl) h0
  rw [MakeChecks.laidMetH_plain _ _ _ (by kernel_rfl)] at hL
  clear hA0 hval0
  refine (walk a0 len0 cap0 z0 W w0 (NTL.cell64 (pre := [("math/bits.deBruijn32tab", Rows.laid_math_bits_deBruijn32tab)]) hL)).mono fun e W' ⟨he, bel⟩ => ?_
  subst he
  exact ⟨_, rfl, _, _, _, [], _, [], hW', trodAll_mk1 (shut_bool Tryd.underlying4 _), (trodAll_cons_mk (Below.trod laidOut (by kernel_rfl) (of_decide_eq_true (by kernel_rfl)) k0 bel lt0) trodAll_mk0), rfl, bel.frame _, fun h => by cases h⟩

theorem over : Rows.fnExactNumbersTextRow.holds Tryd.pinned (OpenSpec.ofChange Rows.fnExactNumbersTextSpec) :=
  OpenClaim.holds_of_wide 3 Tryd.f3 rfl rfl rfl rfl rfl rfl rfl ⟨rfl, rfl, rfl, rfl, rfl⟩ rfl rfl rfl rfl rfl (by kernel_rfl) Tryd.func3 (by kernel_rfl)
    (of_decide_eq_true (by kernel_rfl)) (by unfold Func.isWrapper; first | (rw [if_pos (by decide +kernel)]; kernel_rfl) | (rw [if_neg (by decide +kernel)]; exact ⟨rfl, rfl⟩))
    (fun os started H enc _ => lifted os started H enc)

/-- The statement: the card. -/
theorem proved : Rows.FnExactNumbersTextCardSaid :=
  Claim7.holds_tied_plain_at .later [] [.data, .data, .data] true (Rows.fnExactNumbersTextCard.stood.harness) (Rows.fnExactNumbersTextCard.stood.looks) over (fun _ h => by cases h) (by kernel_rfl) (fun _ h => by cases h) fnExactNumbersText_row_tie rfl ⟨rfl, rfl⟩ (by kernel_rfl) rfl
    (fun f fn hf hfn => by
      obtain rfl : f = 3 := Option.some.inj ((show Tryd.prog.funcNamed "loop.example/g01266/laws.FnExactNumbersText" = some 3 by kernel_rfl).symm.trans hf) |>.symm
      obtain rfl : fn = Tryd.f3 := (Option.some.inj (Tryd.func3.symm.trans hfn)).symm
      exact ⟨by kernel_rfl, fun j t ht => by
        rw [Tryd.params3] at ht
        have hm : t ∈ [22] := by simpa using Array.mem_of_getElem? ht
        have hall : ([22].all fun u => !Tryd.prog.wantsStandIn u) = true := by kernel_rfl
        exact (show Tryd.prog.wantsStandIn t = false by simpa using List.all_eq_true.1 hall t hm)⟩)
    (by kernel_rfl)
#print axioms proved
end Go.Proofs.YtaacneppnpognabDoor.fnExactNumbersText
