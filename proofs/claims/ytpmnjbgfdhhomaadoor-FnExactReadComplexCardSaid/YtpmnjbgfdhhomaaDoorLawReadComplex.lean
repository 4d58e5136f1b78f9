/- 'FnExactReadComplex' returns true at every input, and every argument reads afterwards as before; the table that it reads is laid by the program's text (the card ties it). No other conditions. -/
import Derived.Test.YtpmnjbgfdhhomaaDoorRows
import Derived.Test.YtpmnjbgfdhhomaaDoorCards
import Derived.Test.YtpmnjbgfdhhomaaDoorTie
import Derived.WalkKit
import Derived.WalkLawsBesides
import Derived.ProofKit
import Derived.OpenShut
import Derived.ShutString
import Derived.ChangeOld
import Derived.Below
import Derived.LaidMore
import Derived.Lay
import Derived.SevenTiedAt
import Derived.Stop.Joined
import Derived.Test.YtpmnjbgfdhhomaaDoorCC
import Derived.Test.YtpmnjbgfdhhomaaDoorNTC
namespace Go.Proofs.YtpmnjbgfdhhomaaDoor.fnExactReadComplex
open Go.ChangeShapes Go.WideShapes Go.ChangeAt Go.RowKit
open Go.ChangeMaps (open_string shut_string)
set_option linter.unusedVariables false
set_option linter.unusedSimpArgs false

theorem own : ownKnob Tryd.prog.godebug = none := by kernel_rfl
theorem laidOut : laidOutB Tryd.prog = true := by kernel_rfl

set_option maxRecDepth 20000 in
set_option maxHeartbeats 1600000 in
theorem walk (a0 : ByteArray) (w : World) (hs : a0.size ≤ maxLen) (ht : Hex.Tabs w) :
    Calls Tryd.prog 7 #[.string a0] w fun e w' => e = .returned (.bool true) ∧ Below w.heap.size w w' := by
  have hss := hs
  unfold maxLen at hss
  by_cases hbig : (1048576 : Int) < (a0.size : Int)
  · have HT := Lib.hid ht
    have HS := Lib.hid hs
    clear ht hs
    go_enter Tryd.func7, Tryd.ntmps7
    go_wp2
    go_ret
    exact ⟨rfl, Below.refl _ _⟩
  · obtain ⟨zs, b, hr⟩ := CList.lr a0.data.toList
    have h20 : a0.size ≤ 1048576 := by omega
    obtain ⟨n, hn⟩ : ∃ n, n = zs.length := ⟨_, rfl⟩
    have HN := Lib.hid hn
    have HR := Lib.hid hr
    have HT := Lib.hid ht
    clear ht hs hr hn
    go_enter Tryd.func7, Tryd.ntmps7
    go_wp2_with fail
    refine (CList.spec_readlist a0 zs b _ h20 HR.out).mono ?_
    rintro e w1 ⟨a1, cap1, rfl, hn1, hx1⟩
    rw [← show n = zs.length from HN] at hn1 ⊢
    have N1 := Lib.hid hn1
    have hz1 := hx1.size
    clear hn1
    go_wp2_with fail
    refine (CList.impl_readlist a0 zs b _ h20 HR.out (HT.out.on hx1)).mono ?_
    rintro e w2 ⟨a2, cap2, rfl, ho2, hx2⟩
    rw [← show n = zs.length from HN]
    have O2 := Lib.hid ho2
    have L2 := Lib.hid (show CList.IsL w2 a2 n cap2 zs by rw [show n = zs.length from HN]; exact ho2.isL)
    have hz2 := hx2.size
    clear ho2
    go_wp2_with fail
    refine (CList.eq_two L2.out (N1.out.later hx2)).mono ?_
    rintro e w3 ⟨rfl, hx3⟩
    have hz3 := hx3.size
    have hx13 : Below w1.heap.size w1 w3 := hx2.trans (hx3.mono hz2)
    have O3 := Lib.hid (O2.out.on hx3)
    go_wp2_with fail
    refine (CList.mark_own w1.heap.size a2 n cap2 zs w3 HN.out O3.out).mono ?_
    rintro e w4 ⟨rfl, ho4, hx4⟩
    have hx14 : Below w1.heap.size w1 w4 := hx13.trans hx4
    have hz4 := hx14.size
    have O4 := Lib.hid ho4
    clear ho4
    obtain ⟨q, hq⟩ : ∃ q : Int, q = 1 + (n : Int) := ⟨_, rfl⟩
    have hq0 : 0 ≤ q := by omega
    rw [← hq]
    have HQ := Lib.hid hq
    clear hq
    go_wp2_with fail
    refine (CList.held w1.heap.size a2 n cap2 1 (by omega) _ O4.out).mono ?_
    rintro e w5 ⟨rfl, hx5⟩
    rw [← show q = 1 + (n : Int) from HQ]
    have hx15 : Below w1.heap.size w1 w5 := hx14.trans (hx5.mono hz4)
    have hz5 := hx15.size
    have O5 := Lib.hid (O4.out.on hx5)
    go_wp2_with fail
    refine (CList.impl_readlist a0 zs b _ h20 HR.out ((HT.out.on hx1).on hx15)).mono ?_
    rintro e w6 ⟨a6, cap6, rfl, ho6, hx6⟩
    rw [← show n = zs.length from HN]
    have L6 := Lib.hid (show CList.IsL w6 a6 n cap6 zs by rw [show n = zs.length from HN]; exact ho6.isL)
    clear ho6
    have hx16 : Below w1.heap.size w1 w6 := hx15.trans (hx6.mono hz5)
    have hz6 := hx16.size
    go_wp2_with fail
    refine (CList.eq_two L6.out (N1.out.later hx16)).mono ?_
    rintro e w7 ⟨rfl, hx7⟩
    have O7 := Lib.hid ((O5.out.on hx6).on hx7)
    have hx17 : Below w1.heap.size w1 w7 := hx16.trans (hx7.mono hz6)
    have hz7 := hx17.size
    go_wp2_with fail
    refine (CList.held w1.heap.size a2 n cap2 1 (by omega) _ O7.out).mono ?_
    rintro e w8 ⟨rfl, hx8⟩
    rw [← show q = 1 + (n : Int) from HQ]
    go_wp2
    go_ret
    exact ⟨rfl, hx1.trans ((hx17.trans (hx8.mono hz7)).mono hz1)⟩

set_option maxRecDepth 100000 in
theorem lifted (os : Os) (started : os.Started) (H : Type) (enc : TypeId × Value → H) :
    ReturnsInHanded {} Tryd.checked os 7 .any (fun w args => (Rows.fnExactReadComplexSpec.pre enc Tryd.prog Tryd.f7 Rows.fnExactReadComplexRow.domain false w args ∧ laidMetH Tryd.prog Rows.fnExactReadComplexRow.laid w) ∧ sizedMet enc Tryd.prog Tryd.f7 (OpenSpec.ofChange Rows.fnExactReadComplexSpec) false w args)
      (Rows.fnExactReadComplexSpec.post enc Tryd.prog Tryd.f7 false true false false) := by
  refine YtpmnjbgfdhhomaaDoor_and_shaped (C := Tryd.checked) (X := fun w _ => laidMetH Tryd.prog Rows.fnExactReadComplexRow.laid w) (fun _ _ _ hh h => h.of_heap hh) own started (by kernel_rfl) Tryd.func7
    (ChangeSpec.witness_shaped (enc := enc) (C := Tryd.checked) (os := os) (X := fun w _ => laidMetH Tryd.prog Rows.fnExactReadComplexRow.laid w) false (World.laidAll Tryd.prog os Rows.fnExactReadComplexRow.laid) #[.string ByteArray.empty] 8 (World.laidAll_os _ _ _)
      (World.shaped_of_ZipB (by kernel_rfl) (by kernel_rfl)) (by kernel_rfl) (by kernel_rfl) (by kernel_rfl)
      (by rw [MakeChecks.laidMetH_plain _ _ _ (by kernel_rfl)]; exact laidMet_laidAll _ (by kernel_rfl) (by kernel_rfl))) ?_
  intro W base args ds gs before hval0 hW hL hsh
  have hval : ∀ (j : Nat) t v, Tryd.f7.params[j]? = some t → args[j]? = some v → Value.okWide Tryd.prog W .any base t v := hval0
  have hW' := hW
  obtain ⟨p, q, hA0, hV, rfl, hfz, hnd⟩ := hW
  have hA : DataW.TrodAll enc Tryd.prog W 0 (fun _ => true) true Tryd.f7.params.toList args.toList ds p := hA0
  rw [Tryd.params7] at hA hval
  obtain ⟨v0, vs0, d0, ds0, p0, q0, hargs, rfl, rfl, h0, r0⟩ := trodAll_cons hA
  obtain ⟨rfl, rfl, rfl⟩ := trodAll_nil r0
  obtain rfl : args = #[v0] := by cases args; simp_all
  obtain ⟨rfl, rfl⟩ := trodVars_none hV
  have k0 := h0
  have lt0 : ∀ x ∈ p0, x.block < W.heap.size := by obtain ⟨m, hm⟩ := k0; exact DataW.trod_lt m _ _ _ hm
  obtain ⟨a0, rfl, e0, _, w0⟩ := open_string Tryd.underlying9 (hval 0 9 v0 rfl rfl) h0
  rw [MakeChecks.laidMetH_plain _ _ _ (by kernel_rfl)] at hL
  clear hA0 hval0
  refine (walk a0 W w0 ⟨(Dec.errs_of (pre := [("math/bits.deBruijn32tab", Rows.laid_math_bits_deBruijn32tab), ("math/bits.deBruijn64tab", Rows.laid_math_bits_deBruijn64tab), ("internal/strconv.uint64pow10", Rows.laid_internal_strconv_uint64pow10), ("unicode/utf8.acceptRanges", Rows.laid_unicode_utf8_acceptRanges)]) hL).1, NTL.cell64 (pre := [("math/bits.deBruijn32tab", Rows.laid_math_bits_deBruijn32tab)]) hL, Tryd.maxlen W hsh⟩).mono fun e W' ⟨he, bel⟩ => ?_
  subst he
  exact ⟨_, rfl, _, _, _, [], _, [], hW', trodAll_mk1 (shut_bool Tryd.underlying4 _), (trodAll_cons_mk (Below.trod laidOut (by kernel_rfl) (of_decide_eq_true (by kernel_rfl)) k0 bel lt0) trodAll_mk0), rfl, bel.frame _, fun h => by cases h⟩

theorem over : Rows.fnExactReadComplexRow.holds Tryd.pinned (OpenSpec.ofChange Rows.fnExactReadComplexSpec) :=
  OpenClaim.holds_of_wide 7 Tryd.f7 rfl rfl rfl rfl rfl rfl rfl ⟨rfl, rfl, rfl, rfl, rfl⟩ rfl rfl rfl rfl rfl (by kernel_rfl) Tryd.func7 (by kernel_rfl)
    (of_decide_eq_true (by kernel_rfl)) (by unfold Func.isWrapper; first | (rw [if_pos (by decide +kernel)]; kernel_rfl) | (rw [if_neg (by decide +kernel)]; exact ⟨rfl, rfl⟩))
    (fun os started H enc _ => lifted os started H enc)

/-- The statement: the card. -/
theorem proved : Rows.FnExactReadComplexCardSaid :=
  Claim7.holds_tied_plain_at .later [] [.data, .data, .data, .data, .sentinel, .sentinel, .pinned] true (Rows.fnExactReadComplexCard.stood.harness) (Rows.fnExactReadComplexCard.stood.looks) over (fun _ h => by cases h) (by kernel_rfl) (fun _ h => by cases h) fnExactReadComplex_row_tie rfl ⟨rfl, rfl⟩ (by kernel_rfl) rfl
    (fun f fn hf hfn => by
      obtain rfl : f = 7 := Option.some.inj ((show Tryd.prog.funcNamed "loop.example/g01266/laws.FnExactReadComplex" = some 7 by kernel_rfl).symm.trans hf) |>.symm
      obtain rfl : fn = Tryd.f7 := (Option.some.inj (Tryd.func7.symm.trans hfn)).symm
      exact ⟨by kernel_rfl, fun j t ht => by
        rw [Tryd.params7] at ht
        have hm : t ∈ [9] := by simpa using Array.mem_of_getElem? ht
        have hall : ([9].all fun u => !Tryd.prog.wantsStandIn u) = true := by kernel_rfl
        exact (show Tryd.prog.wantsStandIn t = false by simpa using List.all_eq_true.1 hall t hm)⟩)
    (by kernel_rfl)
#print axioms proved
end Go.Proofs.YtpmnjbgfdhhomaaDoor.fnExactReadComplex
