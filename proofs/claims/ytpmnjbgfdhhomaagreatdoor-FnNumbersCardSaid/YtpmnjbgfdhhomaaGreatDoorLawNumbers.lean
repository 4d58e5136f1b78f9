/- 'FnNumbers' returns true at every input, and every argument reads afterwards as before; the table that it reads is laid by the program's text (the card ties it). No other conditions. -/
import Derived.Test.YtpmnjbgfdhhomaaGreatDoorRows
import Derived.Test.YtpmnjbgfdhhomaaGreatDoorCards
import Derived.Test.YtpmnjbgfdhhomaaGreatDoorTie
import Derived.WalkKit
import Derived.WalkLawsBesides
import Derived.ProofKit
import Derived.OpenShut
import Derived.ShutString
import Derived.ChangeOld
import Derived.Below
import Derived.LaidMore
import Derived.Lay
import Derived.SevenTiedAt
import Derived.Stop.Joined
import Derived.Test.YtpmnjbgfdhhomaaGreatDoorNumC
import Derived.Test.YtpmnjbgfdhhomaaGreatDoorShaped
import Derived.Test.YtpmnjbgfdhhomaaGreatDoorSent
import Derived.Deep.QuietTactic
import Derived.BigQuiet
import Derived.LoopTactic
import Derived.Test.YtpmnjbgfdhhomaaGreatDoorNTC
namespace Go.Proofs.YtpmnjbgfdhhomaaGreatDoor.fnNumbers
open Go.ChangeShapes Go.WideShapes Go.ChangeAt Go.RowKit
open Go.ChangeMaps (open_string shut_string)
set_option linter.unusedVariables false
set_option linter.unusedSimpArgs false

theorem own : ownKnob Tryz.prog.godebug = none := by kernel_rfl
theorem laidOut : laidOutB Tryz.prog = true := by kernel_rfl

set_option maxRecDepth 20000 in
set_option maxHeartbeats 3200000 in
theorem walk (a0 a1 : Option Addr) (len0 cap0 len1 cap1 : Nat) (w : World) (h0 : NumC.IsY w a0 len0) (h1 : NumC.IsY w a1 len1) (ht : Hex.Tabs w) :
    Calls Tryz.prog 3 #[.slice a0 len0 cap0, .slice a1 len1 cap1] w fun e w' => e = .returned (.bool true) ∧ Below w.heap.size w w' := by
  by_cases hbig : 1048576 < len0 ∨ 1048576 < len1
  · have hd : (decide ((1048576 : Int) < (len0 : Int)) || decide ((1048576 : Int) < (len1 : Int))) = true := by
      rcases hbig with h | h
      · rw [decide_eq_true (show (1048576 : Int) < (len0 : Int) by omega)]; rfl
      · rw [decide_eq_true (show (1048576 : Int) < (len1 : Int) by omega), Bool.or_true]
    have HD := Lib.hid hd
    clear hd h0 h1 ht
    go_enter Tryz.func3, Tryz.ntmps3
    go_wp2_with fail
    refine (NumC.long _ _ _ _ _ _ _).mono ?_
    rintro e w1 ⟨rfl, rfl⟩
    rw [HD.out]
    go_wp2
    go_ret
    exact ⟨rfl, Below.refl _ _⟩
  · have hd : (decide ((1048576 : Int) < (len0 : Int)) || decide ((1048576 : Int) < (len1 : Int))) = false := by
      rw [decide_eq_false (show ¬ (1048576 : Int) < (len0 : Int) by omega), decide_eq_false (show ¬ (1048576 : Int) < (len1 : Int) by omega)]; rfl
    have b0 : Src.IsB w.heap.size w a0 len0 cap0 := h0.isB (by omega)
    have b1 : Src.IsB w.heap.size w a1 len1 cap1 := h1.isB (by omega)
    have HD := Lib.hid hd
    have HB0 := Lib.hid b0
    have HB1 := Lib.hid b1
    have HT := Lib.hid ht
    clear hd h0 h1 b0 b1 ht hbig
    go_enter Tryz.func3, Tryz.ntmps3
    go_wp2_with fail
    refine (NumC.long _ _ _ _ _ _ _).mono ?_
    rintro e w1 ⟨rfl, rfl⟩
    rw [HD.out]
    go_wp2_with fail
    refine (Src.number _ _ _ _ HB0.out).mono ?_
    rintro e w1 ⟨x, rfl, hx, hx1⟩
    have hz1 := hx1.size
    go_wp2_with fail
    refine (Src.number _ _ _ _ (HB1.out.later hx1)).mono ?_
    rintro e w2 ⟨y, rfl, hy, hx2⟩
    have hx12 := hx1.trans (hx2.mono hz1)
    have hz2 := hx12.size
    go_wp2_with fail
    refine (Bits.impl_bits x _ hx).mono ?_
    rintro e w3 ⟨rfl, rfl⟩
    rw [NTL.nb_is]
    have hnx := NTL.nb_lt x hx
    go_wp2_with fail
    refine (NumC.fromBits _ _ hnx).mono ?_
    rintro e w3 ⟨rfl, rfl⟩
    go_wp2_with fail
    refine (Sub.impl_flush x _ hx).mono ?_
    rintro e w3 ⟨rfl, hx3⟩
    have hx13 := hx12.trans (hx3.mono hz2)
    have hz3 := hx13.size
    have hfx := NumC.flushed_lt hx
    go_wp2_with fail
    refine (NumC.at_ _ _ _ 0 12 _ (HB0.out.later hx13) (by omega) (by omega) (by omega)).mono ?_
    rintro e w4 ⟨n, rfl, hn, rfl⟩
    go_wp2_with fail
    refine (Src.numbers _ _ _ n _ (HB1.out.later hx13) (by omega)).mono ?_
    rintro e w4 ⟨zs, a4, cap4, rfl, hl4, hx4⟩
    have hx14 := hx13.trans (hx4.mono hz3)
    have hz4 := hx14.size
    have hzl := hl4.1
    have hok := hl4.2.2.2.1
    have hn4 := NumC.isNums hl4
    obtain ⟨b4, off4, h54, h64⟩ := hl4.2.2.2.2
    have N4 := Lib.hid hn4
    have L4 := Lib.hid hl4
    have HZ := Lib.hid hzl
    have HOK := Lib.hid hok
    have H5 := Lib.hid h54
    have H6 := Lib.hid h64
    have HX14 := Lib.hid hx14
    have HX1 := Lib.hid hx1
    clear hn4 hl4 hzl hok h54 h64 hx1 hx2 hx12 hx3 hx13 hx4 hx14
    go_wp2
    go_loopw [11, 41, 12] (fun s i u wr => ∃ k r : Nat, k ≤ n ∧ i = .int .i64 k ∧ s = .float .f32 r ∧ Fl.Fr .f32 r (Nums.accC (Nums.numC zs) k) ∧ Below w4.heap.size w4 wr) (fun _ i _ _ => n - (intOf i).toNat)
    case atStart => exact ⟨0, 0, Nat.zero_le _, rfl, rfl, Fl.Fr.const (by decide +kernel) (by decide), Below.refl _ _⟩
    case round =>
      obtain ⟨k, r, hk, rfl, rfl, fr, hbel⟩ := hrel
      by_cases hlt : k < n
      · obtain rfl := H5.out (by omega)
        have hsrc := Nums.at_index H6.out hlt hbel
        have fx : Fl.Fr .f32 (zs.getD k 0) (Nums.numC zs k) := Nums.fr_at N4.out.2.2.2.1 (k := k) (by rw [HZ.out]; exact hlt)
        generalize zs.getD k 0 = v at *
        have HB := Lib.hid hbel; clear hbel
        go_wp2_with (refine Fl.wpList_fl rfl rfl rfl rfl rfl (by assumption) (by assumption) ?_; intro r' n' hr')
        go_roundw
        case rel => exact ⟨k + 1, r', by omega, by go_num, rfl, hr', by exact below_drewN HB.out _⟩
        case measure => simp [intOf]; omega
      · have hkl : k = n := by omega
        subst hkl
        have hk256 : k ≤ 256 := by omega
        have hbz := hbel.size
        have HBR := Lib.hid hbel
        clear hbel
        go_wp2_with fail
        refine (NumC.sum _ _ _ zs _ (N4.out.later HBR.out) hk256).mono ?_
        rintro e w5 ⟨r5, rfl, hr5, hb5⟩
        have hx45 := HBR.out.trans (hb5.mono hbz)
        have hx15 := HX14.out.trans (hx45.mono hz4)
        have hz5 := hx15.size
        have hz45 := hx45.size
        have HX45 := Lib.hid hx45
        have HX15 := Lib.hid hx15
        clear hb5 hx45 hx15
        go_wp2_with fail
        have hnt := NTL.impl_numberstext _ _ _ zs _ (N4.out.later HX45.out) (HT.out.on HX15.out).2.1
        rw [decide_eq_true hk256] at hnt
        refine hnt.mono ?_
        clear hnt
        rintro e w6 ⟨rfl, hb6⟩
        have hx46 := HX45.out.trans (hb6.mono hz45)
        have hx16 := HX15.out.trans (hb6.mono hz5)
        have hz6 := hx16.size
        have hz46 := hx46.size
        have HX46 := Lib.hid hx46
        have HX16 := Lib.hid hx16
        clear hb6 hx46 hx16
        go_wp2_with fail
        refine (FList.impl_readlist (NTL.ans zs true) (zs.map NTL.nb) true _ (NumC.text_size (by rw [HZ.out]; exact hk256)) (NumC.text_reads zs HOK.out (by rw [HZ.out]; exact hk256)) (HT.out.on HX16.out)).mono ?_
        rintro e w7 ⟨a7, cap7, rfl, ho7, hb7⟩
        have hl7 := ho7.isL
        rw [List.length_map, HZ.out] at hl7 ⊢
        obtain ⟨b7, off7, h57, h67⟩ := hl7.2.2.2.2
        have hx47 := HX46.out.trans (hb7.mono hz46)
        have hx17 := HX16.out.trans (hb7.mono hz6)
        have hz7 := hx17.size
        have hz47 := hx47.size
        have HX47 := Lib.hid hx47
        have HX17 := Lib.hid hx17
        have H57 := Lib.hid h57
        have H67 := Lib.hid h67
        clear ho7 hl7 hb7 hx47 hx17 h57 h67
        have e1 : decide (Fl.cl .f32 (NTL.nb x) = Fl.cl .f32 x) = true := decide_eq_true (NumC.nb_cl x)
        have e3 : decide (Fl.cl .f32 r5 = Fl.cl .f32 r) = true := decide_eq_true (by rw [hr5.1, fr.1])
        have s1 := NumC.flushed_sub hx
        have hl5 : r5 < 4294967296 := hr5.2
        have hlr : r < 4294967296 := fr.2
        cases s2 : (decide (0 < x % 2147483648) && decide (x % 2147483648 < 8388608))
        all_goals
          have e2 := NumC.same_flush hx s2
          simp only [Bool.not_false, Bool.not_true] at e2
          go_wp2_with (first | (go_at_call 15; refine (NumC.same _ _ _ (by assumption) (by assumption)).mono ?_; rintro e w' ⟨rfl, rfl⟩; try simp only [e1, e2, e3]) | (go_at_call 16; refine (Sub.impl_sub _ _ (by assumption)).mono ?_; rintro e w' ⟨rfl, hb⟩; try simp only [s1, s2]))
          rename_i wA hbA KK aa
          have hx78 := hbA.trans (hb.mono hbA.size)
          have hx48 := HX47.out.trans (hx78.mono hz47)
          have hx18 := HX17.out.trans (hx78.mono hz7)
          have hz78 := hx78.size
          have hz48 := hx48.size
          have hz18 := hx18.size
          have HX78 := Lib.hid hx78
          have HX48 := Lib.hid hx48
          have HX18 := Lib.hid hx18
          clear hbA hb hx78 hx48 hx18 e1 e2 e3 s1 s2
          go_loopw [113, 19] (fun i u wr => ∃ j : Nat, j ≤ k ∧ i = .int .i64 j ∧ Below w'.heap.size w' wr) (fun i _ _ => k - (intOf i).toNat)
          case atStart => exact ⟨0, Nat.zero_le _, rfl, Below.refl _ _⟩
          case round =>
            obtain ⟨j, hj, rfl, hbel⟩ := hrel
            have hbz2 := hbel.size
            by_cases hlt2 : j < k
            · obtain rfl := H5.out (by omega)
              obtain rfl := H57.out (by omega)
              have hc7 := NumC.at_same H67.out hlt2 (HX78.out.trans (hbel.mono hz78))
              have hc4 := NumC.at_same H6.out hlt2 (HX48.out.trans (hbel.mono hz48))
              have hjz : j < zs.length := by rw [HZ.out]; exact hlt2
              have em : (zs.map NTL.nb).getD j 0 = NTL.nb (zs.getD j 0) := by
                rw [List.getD_eq_getElem?_getD, List.getD_eq_getElem?_getD, List.getElem?_map, List.getElem?_eq_getElem hjz]; rfl
              rw [em] at hc7
              have hv : zs.getD j 0 < 4294967296 := HOK.out _ (Nums.getD_lt hjz)
              have hij : (j : Int) < (k : Int) := by omega
              generalize zs.getD j 0 = v at *
              have hsame : ∀ w, Calls Tryz.prog 15 #[.float .f32 (NTL.nb v), .float .f32 v] w fun e w' => e = .returned (.bool true) ∧ w' = w := fun w => by
                have h := NumC.same (NTL.nb v) v w (NTL.nb_lt v hv) hv
                rw [decide_eq_true (NumC.nb_cl v)] at h
                exact h.mono fun e w' h => ⟨h.1, h.2.symm⟩
              have HS := Lib.hid hsame
              have HBL := Lib.hid hbel
              clear hsame hbel em hjz
              generalize NTL.nb v = v' at *
              go_wp2
              go_quiet (first | (go_at_call 15; exact Calls.quiet_of_same (HS.out _)))
              go_wp2
              go_roundw
              case rel => exact ⟨j + 1, by omega, by go_num, below_drewN HBL.out _⟩
              case measure => simp [intOf]; omega
            · have hjk : j = k := by omega
              obtain ⟨R, hR⟩ := NumC.angle y x hy hx
              have HR := Lib.hid hR
              have hx1r := HX18.out.trans (hbel.mono hz18)
              have HX1R := Lib.hid hx1r
              clear hR hbel hx1r
              subst hjk
              have fx : Fl.Fr .f32 x (Fl.cl .f32 x) := ⟨rfl, hx⟩
              have c1 : Fl.Fr .f32 1065353216 (some 1065353216) := Fl.Fr.const (by decide +kernel) (by decide)
              have e8 : Fl.cmpC .eql (Fl.ord .f32 (some 1065353216) (some 1065353216)) = true := by decide +kernel
              go_wp2_with fail
              refine (HR.out _).mono ?_
              rintro e wA ⟨ra, rfl, hra, hbA⟩
              go_wp2_with fail
              refine (NumC.angleOf y x R _ HR.out).mono ?_
              rintro e wB ⟨rb, rfl, hrb, hbB⟩
              go_wp2_with fail
              refine (NumC.same ra rb _ hra.2 hrb.2).mono ?_
              rintro e wC ⟨rfl, rfl⟩
              rw [decide_eq_true (show Fl.cl .f32 ra = Fl.cl .f32 rb by rw [hra.1, hrb.1])]
              go_wp2_with (refine Fl.wpList_conv rfl rfl rfl (by kernel_rfl) Tryz.underlying44 (by assumption) (Fl.fits_wide _) ?_; intro r n hr)
              refine (NumC.narrowed x _ _ hx (by assumption)).mono ?_
              rintro e wD ⟨rn, rfl, hrn, hbD⟩
              go_wp2_with fail
              refine (NumC.same rn x _ hrn.2 hx).mono ?_
              rintro e wE ⟨rfl, rfl⟩
              rw [decide_eq_true hrn.1]
              go_wp2_with fail
              refine (NumS.sine _).mono ?_
              rintro e wF ⟨rs, rfl, hrs, hbF⟩
              obtain rfl := Fl.eq_of_some hrs
              go_wp2_with ((refine Fl.wpList_cmp rfl rfl rfl rfl rfl (by assumption) (by assumption) ?_); try simp only [e8])
              go_ret
              have q1 := HX1R.out.trans (hbA.mono HX1R.out.size)
              have q2 := q1.trans (hbB.mono q1.size)
              have q3 := below_drewN q2 n
              have q4 := q3.trans (hbD.mono q3.size)
              exact ⟨rfl, q4.trans (hbF.mono q4.size)⟩

set_option maxRecDepth 100000 in
theorem lifted (os : Os) (started : os.Started) (H : Type) (enc : TypeId × Value → H) :
    ReturnsInHanded {} Tryz.checked os 3 .any (fun w args => (Rows.fnNumbersSpec.pre enc Tryz.prog Tryz.f3 Rows.fnNumbersRow.domain false w args ∧ laidMetH Tryz.prog Rows.fnNumbersRow.laid w) ∧ sizedMet enc Tryz.prog Tryz.f3 (OpenSpec.ofChange Rows.fnNumbersSpec) false w args)
      (Rows.fnNumbersSpec.post enc Tryz.prog Tryz.f3 false true false false) := by
  refine YtpmnjbgfdhhomaaGreatDoor_and_shaped (C := Tryz.checked) (X := fun w _ => laidMetH Tryz.prog Rows.fnNumbersRow.laid w) (fun _ _ _ hh h => h.of_heap hh) own started (by kernel_rfl) Tryz.func3
    (ChangeSpec.witness_shaped (enc := enc) (C := Tryz.checked) (os := os) (X := fun w _ => laidMetH Tryz.prog Rows.fnNumbersRow.laid w) false (World.laidAll Tryz.prog os Rows.fnNumbersRow.laid) #[.slice none 0 0, .slice none 0 0] 8 (World.laidAll_os _ _ _)
      (World.shaped_of_ZipB (by kernel_rfl) (by kernel_rfl)) (by kernel_rfl) (by kernel_rfl) (by kernel_rfl)
      (by rw [MakeChecks.laidMetH_plain _ _ _ (by kernel_rfl)]; exact laidMet_laidAll _ (by kernel_rfl) (by kernel_rfl))) ?_
  intro W base args ds gs before hval0 hW hL hsh
  have hval : ∀ (j : Nat) t v, Tryz.f3.params[j]? = some t → args[j]? = some v → Value.okWide Tryz.prog W .any base t v := hval0
  have hW' := hW
  obtain ⟨p, q, hA0, hV, rfl, hfz, hnd⟩ := hW
  have hA : DataW.TrodAll enc Tryz.prog W 0 (fun _ => true) true Tryz.f3.params.toList args.toList ds p := hA0
  rw [Tryz.params3] at hA hval
  obtain ⟨v0, vs0, d0, ds0, p0, q0, hargs, rfl, rfl, h0, r0⟩ := trodAll_cons hA
  obtain ⟨v1, vs1, d1, ds1, p1, q1, rfl, rfl, rfl, h1, r1⟩ := trodAll_cons r0
  obtain ⟨rfl, rfl, rfl⟩ := trodAll_nil r1
  obtain rfl : args = #[v0, v1] := by cases args; simp_all
  obtain ⟨rfl, rfl⟩ := trodVars_none hV
  have k0 := h0
  have lt0 : ∀ x ∈ p0, x.block < W.heap.size := by obtain ⟨m, hm⟩ := k0; exact DataW.trod_lt m _ _ _ hm
  have k1 := h1
  have lt1 : ∀ x ∈ p1, x.block < W.heap.size := by obtain ⟨m, hm⟩ := k1; exact DataW.trod_lt m _ _ _ hm
  obtain ⟨a0, len0, cap0, rfl⟩ := okWide_slice Tryz.underlying22 (hval 0 22 v0 rfl rfl)
  obtain ⟨a1, len1, cap1, rfl⟩ := okWide_slice Tryz.underlying22 (hval 1 22 v1 rfl rfl)
  have w0 := NumC.open_bytes Tryz.underlying22 Tryz.underlying5 (by kernel_rfl) h0
  have w1 := NumC.open_bytes Tryz.underlying22 Tryz.underlying5 (by kernel_rfl) h1
  rw [MakeChecks.laidMetH_plain _ _ _ (by kernel_rfl)] at hL
  clear hA0 hval0
  refine (walk a0 a1 len0 cap0 len1 cap1 W w0 w1 ⟨(Dec.errs_of (pre := [("math/bits.deBruijn32tab", Rows.laid_math_bits_deBruijn32tab), ("math/bits.deBruijn64tab", Rows.laid_math_bits_deBruijn64tab), ("internal/strconv.uint64pow10", Rows.laid_internal_strconv_uint64pow10), ("unicode/utf8.acceptRanges", Rows.laid_unicode_utf8_acceptRanges)]) hL).1, NTL.cell64 (pre := [("math/bits.deBruijn32tab", Rows.laid_math_bits_deBruijn32tab)]) hL, Tryz.maxlen W hsh⟩).mono fun e W' ⟨he, bel⟩ => ?_
  subst he
  exact ⟨_, rfl, _, _, _, [], _, [], hW', trodAll_mk1 (shut_bool Tryz.underlying4 _), (trodAll_cons_mk (Below.trod laidOut (by kernel_rfl) (of_decide_eq_true (by kernel_rfl)) k0 bel lt0) (trodAll_cons_mk (Below.trod laidOut (by kernel_rfl) (of_decide_eq_true (by kernel_rfl)) k1 bel lt1) trodAll_mk0)), rfl, bel.frame _, fun h => by cases h⟩

theorem over : Rows.fnNumbersRow.holds Tryz.pinned (OpenSpec.ofChange Rows.fnNumbersSpec) :=
  OpenClaim.holds_of_wide 3 Tryz.f3 rfl rfl rfl rfl rfl rfl rfl ⟨rfl, rfl, rfl, rfl, rfl⟩ rfl rfl rfl rfl rfl (by kernel_rfl) Tryz.func3 (by kernel_rfl)
    (of_decide_eq_true (by kernel_rfl)) (by unfold Func.isWrapper; first | (rw [if_pos (by decide +kernel)]; kernel_rfl) | (rw [if_neg (by decide +kernel)]; exact ⟨rfl, rfl⟩))
    (fun os started H enc _ => lifted os started H enc)

/-- The statement: the card. -/
theorem proved : Rows.FnNumbersCardSaid :=
  Claim7.holds_tied_plain_at .later [] [.data, .data, .data, .data, .sentinel, .sentinel, .pinned] true (Rows.fnNumbersCard.stood.harness) (Rows.fnNumbersCard.stood.looks) over (fun _ h => by cases h) (by kernel_rfl) (fun _ h => by cases h) fnNumbers_row_tie rfl ⟨rfl, rfl⟩ (by kernel_rfl) rfl
    (fun f fn hf hfn => by
      obtain rfl : f = 3 := Option.some.inj ((show Tryz.prog.funcNamed "loop.example/g01266/laws.FnNumbers" = some 3 by kernel_rfl).symm.trans hf) |>.symm
      obtain rfl : fn = Tryz.f3 := (Option.some.inj (Tryz.func3.symm.trans hfn)).symm
      exact ⟨by kernel_rfl, fun j t ht => by
        rw [Tryz.params3] at ht
        have hm : t ∈ [22, 22] := by simpa using Array.mem_of_getElem? ht
        have hall : ([22, 22].all fun u => !Tryz.prog.wantsStandIn u) = true := by kernel_rfl
        exact (show Tryz.prog.wantsStandIn t = false by simpa using List.all_eq_true.1 hall t hm)⟩)
    (by kernel_rfl)
#print axioms proved
end Go.Proofs.YtpmnjbgfdhhomaaGreatDoor.fnNumbers
