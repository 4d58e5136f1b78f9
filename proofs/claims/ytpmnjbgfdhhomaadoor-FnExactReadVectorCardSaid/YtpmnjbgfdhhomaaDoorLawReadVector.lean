/- 'FnExactReadVector' returns true at every input, and every argument reads afterwards as before; the table that it reads is laid by the program's text (the card ties it). No other conditions. -/
import Derived.Test.YtpmnjbgfdhhomaaDoorRows
import Derived.Test.YtpmnjbgfdhhomaaDoorCards
import Derived.Test.YtpmnjbgfdhhomaaDoorTie
import Derived.WalkKit
import Derived.WalkLawsBesides
import Derived.ProofKit
import Derived.OpenShut
import Derived.ShutString
import Derived.ChangeOld
import Derived.Below
import Derived.LaidMore
import Derived.Lay
import Derived.SevenTiedAt
import Derived.Stop.Joined
import Derived.Test.YtpmnjbgfdhhomaaDoorReadV
import Derived.Test.YtpmnjbgfdhhomaaDoorNTC
namespace Go.Proofs.YtpmnjbgfdhhomaaDoor.fnExactReadVector
open Go.ChangeShapes Go.WideShapes Go.ChangeAt Go.RowKit
open Go.ChangeMaps (open_string shut_string)
set_option linter.unusedVariables false
set_option linter.unusedSimpArgs false

theorem own : ownKnob Tryd.prog.godebug = none := by kernel_rfl
theorem laidOut : laidOutB Tryd.prog = true := by kernel_rfl

set_option maxRecDepth 20000 in
set_option maxHeartbeats 1600000 in
theorem walk (a0 : ByteArray) (w : World) (hs : a0.size ≤ maxLen) (ht : Hex.Tabs w) :
    Calls Tryd.prog 6 #[.string a0] w fun e w' => e = .returned (.bool true) ∧ Below w.heap.size w w' := by
  have hss := hs
  unfold maxLen at hss
  by_cases hbig : (1048576 : Int) < (a0.size : Int)
  · have HT := Lib.hid ht
    have HS := Lib.hid hs
    clear ht hs
    go_enter Tryd.func6, Tryd.ntmps6
    go_wp2
    go_ret
    exact ⟨rfl, Below.refl _ _⟩
  · obtain ⟨zs, b, hr⟩ := FList.lr a0.data.toList
    have h20 : a0.size ≤ 1048576 := by omega
    obtain ⟨x, y, z, c, hv⟩ := FList.vof zs b
    have hok : x < 4294967296 ∧ y < 4294967296 ∧ z < 4294967296 := FList.vof_ok hr hv
    have fx := Fl.Fr.of_lt32 hok.1
    have fy := Fl.Fr.of_lt32 hok.2.1
    have fz := Fl.Fr.of_lt32 hok.2.2
    have HV := Lib.hid hv
    have HR := Lib.hid hr
    have HT := Lib.hid ht
    clear ht hs hr hv
    go_enter Tryd.func6, Tryd.ntmps6
    go_wp2_with fail
    refine (FList.spec_readvector a0 zs b _ h20 HR.out x y z c HV.out).mono ?_
    rintro e w1 ⟨rfl, hx1⟩
    have hz1 := hx1.size
    try simp only [World.size_alloc, World.size_setCell, World.heap_drewN, World.size_drew] at hz1
    obtain ⟨hc1, hf1⟩ := Fl.bcell hx1
    try (have g1_0 : w.heap.size < w1.heap.size := by omega)
    try (have l1_0 : w.heap.size ≤ w1.heap.size := by omega)
    go_wp2_with fail
    refine (FList.impl_vread a0 zs b _ h20 HR.out (HT.out.on (by (repeat' first | exact Below.refl _ _ | (refine Below.setCell ?_ (by first | omega | (simp; omega) | simp) _) | (refine below_drewN ?_ _) | (refine Below.alloc ?_ (by first | omega | (simp; omega) | simp) _) | (refine Below.trans ?_ (Below.mono (by assumption) (by first | omega | (simp; omega) | simp)))))) x y z c HV.out).mono ?_
    rintro e w2 ⟨rfl, hx2⟩
    have hz2 := hx2.size
    try simp only [World.size_alloc, World.size_setCell, World.heap_drewN, World.size_drew] at hz2
    obtain ⟨hc2, hf2⟩ := Fl.bcell hx2
    try (have g2_0 : w.heap.size < w2.heap.size := by omega)
    try (have g2_1 : w1.heap.size < w2.heap.size := by omega)
    try (have l2_1 : w1.heap.size ≤ w2.heap.size := by omega)
    go_wp2_with (first | (go_at_call 21; refine (Vec.eq_vector _ _ _ _ _ _ _ _ _ _ fx fy fz fx fy fz).mono ?_; rintro e w' ⟨rfl, hb⟩; have hz := hb.size; try simp only [World.size_alloc, World.size_setCell, World.heap_drewN, World.size_drew] at hz; obtain ⟨hc, hf⟩ := Fl.bcell hb; try (have g : w.heap.size < w'.heap.size := by omega); try (have g : w.heap.size ≤ w'.heap.size := by omega)))
    go_ret
    exact ⟨rfl, by (repeat' first | exact Below.refl _ _ | (refine Below.setCell ?_ (by first | omega | (simp; omega) | simp) _) | (refine below_drewN ?_ _) | (refine Below.alloc ?_ (by first | omega | (simp; omega) | simp) _) | (refine Below.trans ?_ (Below.mono (by assumption) (by first | omega | (simp; omega) | simp))))⟩

set_option maxRecDepth 100000 in
theorem lifted (os : Os) (started : os.Started) (H : Type) (enc : TypeId × Value → H) :
    ReturnsInHanded {} Tryd.checked os 6 .any (fun w args => (Rows.fnExactReadVectorSpec.pre enc Tryd.prog Tryd.f6 Rows.fnExactReadVectorRow.domain false w args ∧ laidMetH Tryd.prog Rows.fnExactReadVectorRow.laid w) ∧ sizedMet enc Tryd.prog Tryd.f6 (OpenSpec.ofChange Rows.fnExactReadVectorSpec) false w args)
      (Rows.fnExactReadVectorSpec.post enc Tryd.prog Tryd.f6 false true false false) := by
  refine YtpmnjbgfdhhomaaDoor_and_shaped (C := Tryd.checked) (X := fun w _ => laidMetH Tryd.prog Rows.fnExactReadVectorRow.laid w) (fun _ _ _ hh h => h.of_heap hh) own started (by kernel_rfl) Tryd.func6
    (ChangeSpec.witness_shaped (enc := enc) (C := Tryd.checked) (os := os) (X := fun w _ => laidMetH Tryd.prog Rows.fnExactReadVectorRow.laid w) false (World.laidAll Tryd.prog os Rows.fnExactReadVectorRow.laid) #[.string ByteArray.empty] 8 (World.laidAll_os _ _ _)
      (World.shaped_of_ZipB (by kernel_rfl) (by kernel_rfl)) (by kernel_rfl) (by kernel_rfl) (by kernel_rfl)
      (by rw [MakeChecks.laidMetH_plain _ _ _ (by kernel_rfl)]; exact laidMet_laidAll _ (by kernel_rfl) (by kernel_rfl))) ?_
  intro W base args ds gs before hval0 hW hL hsh
  have hval : ∀ (j : Nat) t v, Tryd.f6.params[j]? = some t → args[j]? = some v → Value.okWide Tryd.prog W .any base t v := hval0
  have hW' := hW
  obtain ⟨p, q, hA0, hV, rfl, hfz, hnd⟩ := hW
  have hA : DataW.TrodAll enc Tryd.prog W 0 (fun _ => true) true Tryd.f6.params.toList args.toList ds p := hA0
  rw [Tryd.params6] at hA hval
  obtain ⟨v0, vs0, d0, ds0, p0, q0, hargs, rfl, rfl, h0, r0⟩ := trodAll_cons hA
  obtain ⟨rfl, rfl, rfl⟩ := trodAll_nil r0
  obtain rfl : args = #[v0] := by cases args; simp_all
  obtain ⟨rfl, rfl⟩ := trodVars_none hV
  have k0 := h0
  have lt0 : ∀ x ∈ p0, x.block < W.heap.size := by obtain ⟨m, hm⟩ := k0; exact DataW.trod_lt m _ _ _ hm
  obtain ⟨a0, rfl, e0, _, w0⟩ := open_string Tryd.underlying9 (hval 0 9 v0 rfl rfl) h0
  rw [MakeChecks.laidMetH_plain _ _ _ (by kernel_rfl)] at hL
  clear hA0 hval0
  refine (walk a0 W w0 ⟨(Dec.errs_of (pre := [("math/bits.deBruijn32tab", Rows.laid_math_bits_deBruijn32tab), ("math/bits.deBruijn64tab", Rows.laid_math_bits_deBruijn64tab), ("internal/strconv.uint64pow10", Rows.laid_internal_strconv_uint64pow10), ("unicode/utf8.acceptRanges", Rows.laid_unicode_utf8_acceptRanges)]) hL).1, NTL.cell64 (pre := [("math/bits.deBruijn32tab", Rows.laid_math_bits_deBruijn32tab)]) hL, Tryd.maxlen W hsh⟩).mono fun e W' ⟨he, bel⟩ => ?_
  subst he
  exact ⟨_, rfl, _, _, _, [], _, [], hW', trodAll_mk1 (shut_bool Tryd.underlying4 _), (trodAll_cons_mk (Below.trod laidOut (by kernel_rfl) (of_decide_eq_true (by kernel_rfl)) k0 bel lt0) trodAll_mk0), rfl, bel.frame _, fun h => by cases h⟩

theorem over : Rows.fnExactReadVectorRow.holds Tryd.pinned (OpenSpec.ofChange Rows.fnExactReadVectorSpec) :=
  OpenClaim.holds_of_wide 6 Tryd.f6 rfl rfl rfl rfl rfl rfl rfl ⟨rfl, rfl, rfl, rfl, rfl⟩ rfl rfl rfl rfl rfl (by kernel_rfl) Tryd.func6 (by kernel_rfl)
    (of_decide_eq_true (by kernel_rfl)) (by unfold Func.isWrapper; first | (rw [if_pos (by decide +kernel)]; kernel_rfl) | (rw [if_neg (by decide +kernel)]; exact ⟨rfl, rfl⟩))
    (fun os started H enc _ => lifted os started H enc)

/-- The statement: the card. -/
theorem proved : Rows.FnExactReadVectorCardSaid :=
  Claim7.holds_tied_plain_at .later [] [.data, .data, .data, .data, .sentinel, .sentinel, .pinned] true (Rows.fnExactReadVectorCard.stood.harness) (Rows.fnExactReadVectorCard.stood.looks) over (fun _ h => by cases h) (by kernel_rfl) (fun _ h => by cases h) fnExactReadVector_row_tie rfl ⟨rfl, rfl⟩ (by kernel_rfl) rfl
    (fun f fn hf hfn => by
      obtain rfl : f = 6 := Option.some.inj ((show Tryd.prog.funcNamed "loop.example/g01266/laws.FnExactReadVector" = some 6 by kernel_rfl).symm.trans hf) |>.symm
      obtain rfl : fn = Tryd.f6 := (Option.some.inj (Tryd.func6.symm.trans hfn)).symm
      exact ⟨by kernel_rfl, fun j t ht => by
        rw [Tryd.params6] at ht
        have hm : t ∈ [9] := by simpa using Array.mem_of_getElem? ht
        have hall : ([9].all fun u => !Tryd.prog.wantsStandIn u) = true := by kernel_rfl
        exact (show Tryd.prog.wantsStandIn t = false by simpa using List.all_eq_true.1 hall t hm)⟩)
    (by kernel_rfl)
#print axioms proved
end Go.Proofs.YtpmnjbgfdhhomaaDoor.fnExactReadVector
