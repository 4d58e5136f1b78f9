/- 'FnExactSplitThread' returns true at every input, and every argument reads afterwards as before. No conditions. -/
import Derived.Test.YtjkkefbfhapblaaRows
import Derived.WalkKit
import Derived.WalkLawsBesides
import Derived.ProofKit
import Derived.OpenShut
import Derived.ShutString
import Derived.ChangeOld
import Derived.Below
import Derived.Test.YtjkkefbfhapblaaFrame
import Derived.Test.YtjkkefbfhapblaaThL
import Derived.Test.YtjkkefbfhapblaaThSe
namespace Go.Proofs.Ytjkkefbfhapblaa.fnExactSplitThread
open Go.ChangeShapes Go.WideShapes Go.ChangeAt Go.RowKit
open Go.ChangeMaps (open_string shut_string)
set_option linter.unusedVariables false
set_option linter.unusedSimpArgs false

theorem own : ownKnob Try.prog.godebug = none := by kernel_rfl
theorem laidOut : laidOutB Try.prog = true := by kernel_rfl

set_option maxHeartbeats 25600000 in
theorem walk (a0S : Nat) (a0 : Option Addr) (len0 cap0 : Nat) (c0 : Nat → Option Nat) (a1 : Int) (a2 : Int) (w : World) (w0 : Th.IsV w a0 len0 cap0 c0) (w0S : (Lit.float .f32 a0S).wf = true) (w1 : (Lit.int .i64 a1).wf = true) (w2 : (Lit.int .i64 a2).wf = true) :
    Calls Try.prog 10 #[.agg #[.slice a0 len0 cap0, .float .f32 a0S], .int .i64 a1, .int .i64 a2] w fun e w' => e = .returned (.bool true) ∧ Below w.heap.size w w' := by
  have hY0 := w0
  have HY0 := Lib.hid hY0
  have hmx0 : len0 ≤ maxLen := by have h1 := w0.1; have h2 := w0.2.1; omega
  have hmi0 : len0 ≤ 9223372036854775807 := by unfold maxLen at hmx0; omega
  have HF0 := Lib.hid (show Fl.Fr .f32 a0S (Fl.cl .f32 a0S) from ⟨rfl, Fl.lt32 w0S⟩)
  clear hY0 w0 w0S
  by_cases hbig0 : len0 ≤ 1048576
  · obtain ⟨K0, hK0⟩ : ∃ K : Int, K = if (len0 : Int) ≤ 1048576 then 1048576 - (len0 : Int) else -1 := ⟨_, rfl⟩
    have hk0 : ¬ K0 < 0 := by rw [hK0, if_pos (by omega)]; omega
    have HK0 := Lib.hid hK0; clear hK0
    have HT0 := Lib.hid (fun w' (hb : Below w.heap.size w w') => Th.to_thread a0 len0 cap0 a0S c0 w' (HY0.out.later hb) hbig0)
    have HS := Lib.hid (fun a cap w (h : Th.IsV w a len0 cap c0) => Th.spec_SplitT a len0 cap a0S _ c0 w h HF0.out a1 a2 _ rfl)
    have HI := Lib.hid (fun a cap w (h : Th.IsV w a len0 cap c0) => Th.impl_SplitT a len0 cap a0S _ c0 w h HF0.out a1 a2 _ rfl)
    obtain ⟨A3, hA3⟩ : ∃ A3, Th.splitB len0 a1 a2 (Fl.cl .f32 a0S) c0 = A3 := ⟨_, rfl⟩
    rw [hA3] at HS HI
    unfold Th.RetSW at HS
    unfold Th.RetS at HI
    have hn3 : (if A3 then a2.toNat - a1.toNat else 0) ≤ 32 ∧ (if A3 then len0 - a2.toNat + a1.toNat else 0) ≤ 32 := by
      cases A3
      · simp
      · unfold Th.splitB at hA3
        simp only [Bool.and_eq_true] at hA3
        simp only [if_true]
        exact ⟨(Th.okT_of hA3.1.2).2.1, (Th.okT_of hA3.2).2.1⟩
    have h3s : Fl.Fr .f32 (if A3 then a0S else 0) (Fl.cl .f32 (if A3 then a0S else 0)) := ⟨rfl, by
      cases A3
      · exact (by decide : 0 < 2 ^ FloatKind.f32.format.width)
      · exact HF0.out.2⟩
    generalize (if A3 then a2.toNat - a1.toNat else 0) = n3 at *
    generalize (if A3 then len0 - a2.toNat + a1.toNat else 0) = m3 at *
    generalize (if A3 then a0S else 0) = s3 at *
    generalize Th.cutA a1.toNat c0 = f3 at *
    generalize Th.cutB len0 a2.toNat c0 = g3 at *
    obtain ⟨hn3, hm3⟩ := hn3
    clear hA3
    obtain ⟨p0, hp0⟩ : ∃ p : Int, p = 1 + (len0 : Int) * 3 := ⟨_, rfl⟩
    have hp00 : 0 ≤ p0 := by omega
    have hp0b : p0 ≤ 8388608 := by omega
    have HP0 := Lib.hid hp0
    clear hp0
    obtain ⟨q, hq⟩ : ∃ q : Int, q = 1 + (n3 : Int) * 3 := ⟨_, rfl⟩
    have hq0 : 0 ≤ q := by omega
    have hqb : q ≤ 1024 := by omega
    have HQ := Lib.hid hq
    obtain ⟨q1, hq1⟩ : ∃ q1 : Int, q1 = q + (m3 : Int) * 3 := ⟨_, rfl⟩
    have hq10 : 0 ≤ q1 := by omega
    have HQ1 := Lib.hid hq1
    clear hq hq1
    go_enter Try.func10, Try.ntmps10
    go_wp2_with fail
    refine (Th.sz_thread _ _ _ _ 1048576 _ hmx0 (by omega) K0 HK0.out).mono ?_
    rintro e w1 ⟨rfl, hb1⟩
    have hz1 := hb1.size
    try simp only [World.size_alloc] at hz1
    have qa0 : w1.heap[w.heap.size]? = some (.cells #[.slice a0 len0 cap0, .float .f32 a0S] 25) := Th.keep_block hb1 (Th.new_block _ _)
    have hbw : Below w.heap.size w w1 := Below.trans (Below.alloc (Below.refl _ _) (by first | exact Nat.le_refl _ | omega | (simp; omega) | simp) _) (hb1.mono (by first | omega | (simp; omega) | simp))
    clear hb1
    have Qa0 := Lib.hid qa0
    have la0 := Th.block_lt qa0
    have ea00 := (Th.cells_of (i := 0) qa0).trans (show _ = some (.slice a0 len0 cap0) from rfl)
    have ea01 := (Th.cells_of (i := 1) qa0).trans (show _ = some (.float .f32 a0S) from rfl)
    clear qa0
    have HBW := Lib.hid hbw
    clear hbw
    go_wp2_with fail
    refine (HT0.out _ HBW.out).mono ?_
    rintro e w2 ⟨a2, cap2, rfl, ho2, hb2⟩
    have hz2 := hb2.size
    try simp only [World.size_alloc] at hz2
    have qa0 := Th.keep_block hb2 Qa0.out
    have hbw : Below w.heap.size w w2 := Below.trans HBW.out (hb2.mono (by first | omega | (simp; omega) | simp))
    clear Qa0 la0 ea00 ea01 HBW
    clear hb2
    have Qa0 := Lib.hid qa0
    have la0 := Th.block_lt qa0
    have ea00 := (Th.cells_of (i := 0) qa0).trans (show _ = some (.slice a0 len0 cap0) from rfl)
    have ea01 := (Th.cells_of (i := 1) qa0).trans (show _ = some (.float .f32 a0S) from rfl)
    clear qa0
    have HBW := Lib.hid hbw
    clear hbw
    have RC := Lib.hid ho2
    clear ho2
    go_wp2_with fail
    refine (HS.out a2 cap2 _ RC.out.v).mono ?_
    rintro e w3 ⟨a3, cap3, b3, cbp3, rfl, ho3, hp3, hb3⟩
    have hz3 := hb3.size
    try simp only [World.size_alloc] at hz3
    have qa0 := Th.keep_block hb3 Qa0.out
    have yC := (RC.out).later hb3
    have hbw : Below w.heap.size w w3 := Below.trans HBW.out (hb3.mono (by first | omega | (simp; omega) | simp))
    clear Qa0 la0 ea00 ea01 RC HBW
    clear hb3
    have Qa0 := Lib.hid qa0
    have la0 := Th.block_lt qa0
    have ea00 := (Th.cells_of (i := 0) qa0).trans (show _ = some (.slice a0 len0 cap0) from rfl)
    have ea01 := (Th.cells_of (i := 1) qa0).trans (show _ = some (.float .f32 a0S) from rfl)
    clear qa0
    have RC := Lib.hid yC
    clear yC
    have HBW := Lib.hid hbw
    clear hbw
    clear RC
    have RS := Lib.hid ho3
    have RT := Lib.hid hp3
    clear ho3 hp3
    go_wp2_with fail
    refine (HT0.out _ ((HBW.out.alloc (by omega) _).alloc (by first | omega | (simp; omega)) _)).mono ?_
    rintro e w4 ⟨a4, cap4, rfl, ho4, hb4⟩
    have hz4 := hb4.size
    try simp only [World.size_alloc] at hz4
    have qa0 := Th.keep_block hb4 (Th.alloc_block (Th.alloc_block Qa0.out))
    have qs : w4.heap[w3.heap.size]? = some (.cells #[.slice a3 n3 cap3, .float .f32 s3] 33) := Th.keep_block hb4 (Th.alloc_block (Th.new_block _ _))
    have qt : w4.heap[w3.heap.size + 1]? = some (.cells #[.slice b3 m3 cbp3, .float .f32 s3] 33) := Th.keep_block hb4 (by simpa using Th.new_block ((w3).alloc (.cells #[.slice a3 n3 cap3, .float .f32 s3] 33)) (.cells #[.slice b3 m3 cbp3, .float .f32 s3] 33))
    have yS := (((RS.out.alloc _).alloc _)).later hb4
    have yT := (((RT.out.alloc _).alloc _)).later hb4
    have hbw : Below w.heap.size w w4 := Below.trans (Below.alloc (Below.alloc HBW.out (by first | exact Nat.le_refl _ | omega | (simp; omega) | simp) _) (by first | exact Nat.le_refl _ | omega | (simp; omega) | simp) _) (hb4.mono (by first | omega | (simp; omega) | simp))
    clear Qa0 la0 ea00 ea01 RS RT HBW
    clear hb4
    have Qa0 := Lib.hid qa0
    have la0 := Th.block_lt qa0
    have ea00 := (Th.cells_of (i := 0) qa0).trans (show _ = some (.slice a0 len0 cap0) from rfl)
    have ea01 := (Th.cells_of (i := 1) qa0).trans (show _ = some (.float .f32 a0S) from rfl)
    have Qs := Lib.hid qs
    have ls := Th.block_lt qs
    have es0 := (Th.cells_of (i := 0) qs).trans (show _ = some (.slice a3 n3 cap3) from rfl)
    have es1 := (Th.cells_of (i := 1) qs).trans (show _ = some (.float .f32 s3) from rfl)
    have Qt := Lib.hid qt
    have lt := Th.block_lt qt
    have et0 := (Th.cells_of (i := 0) qt).trans (show _ = some (.slice b3 m3 cbp3) from rfl)
    have et1 := (Th.cells_of (i := 1) qt).trans (show _ = some (.float .f32 s3) from rfl)
    clear qa0 qs qt
    have RS := Lib.hid yS
    have RT := Lib.hid yT
    clear yS yT
    have HBW := Lib.hid hbw
    clear hbw
    have RX0 := Lib.hid (ho4.wider (show w3.heap.size + 1 + 1 ≤ _ by simp) (Nat.le_refl _))
    clear ho4
    go_wp2_with fail
    refine (HI.out a4 cap4 _ ((RX0.out.alloc _)).v).mono ?_
    rintro e w5 ⟨a5, cap5, b5, cbp5, B5, L5, C5, M5, rfl, ho5, hp5, ha5, hd5, he5, hf5, hg5, hh5, hi5, hb5⟩
    have hz5 := hb5.size
    try simp only [World.size_alloc] at hz5
    have qa0 := Th.keep_block hb5 (Th.alloc_block Qa0.out)
    have qs := Th.keep_block hb5 (Th.alloc_block Qs.out)
    have qt := Th.keep_block hb5 (Th.alloc_block Qt.out)
    have qx0 : w5.heap[w4.heap.size]? = some (.cells #[.slice a4 len0 cap4, .float .f32 a0S] 33) := Th.keep_block hb5 (Th.new_block _ _)
    have yS := ((RS.out.alloc _)).later hb5
    have yT := ((RT.out.alloc _)).later hb5
    have yX0 := ((RX0.out.alloc _)).later hb5
    have hbw : Below w.heap.size w w5 := Below.trans (Below.alloc HBW.out (by first | exact Nat.le_refl _ | omega | (simp; omega) | simp) _) (hb5.mono (by first | omega | (simp; omega) | simp))
    clear Qa0 Qs Qt la0 ls lt ea00 ea01 es0 es1 et0 et1 RS RT RX0 HBW
    clear hb5
    have Qa0 := Lib.hid qa0
    have la0 := Th.block_lt qa0
    have ea00 := (Th.cells_of (i := 0) qa0).trans (show _ = some (.slice a0 len0 cap0) from rfl)
    have ea01 := (Th.cells_of (i := 1) qa0).trans (show _ = some (.float .f32 a0S) from rfl)
    have Qs := Lib.hid qs
    have ls := Th.block_lt qs
    have es0 := (Th.cells_of (i := 0) qs).trans (show _ = some (.slice a3 n3 cap3) from rfl)
    have es1 := (Th.cells_of (i := 1) qs).trans (show _ = some (.float .f32 s3) from rfl)
    have Qt := Lib.hid qt
    have lt := Th.block_lt qt
    have et0 := (Th.cells_of (i := 0) qt).trans (show _ = some (.slice b3 m3 cbp3) from rfl)
    have et1 := (Th.cells_of (i := 1) qt).trans (show _ = some (.float .f32 s3) from rfl)
    have Qx0 := Lib.hid qx0
    have lx0 := Th.block_lt qx0
    have ex00 := (Th.cells_of (i := 0) qx0).trans (show _ = some (.slice a4 len0 cap4) from rfl)
    have ex01 := (Th.cells_of (i := 1) qx0).trans (show _ = some (.float .f32 a0S) from rfl)
    clear qa0 qs qt qx0
    have RS := Lib.hid yS
    have RT := Lib.hid yT
    have RX0 := Lib.hid yX0
    clear yS yT yX0
    have HBW := Lib.hid hbw
    clear hbw
    try simp only [World.size_alloc] at ha5
    try simp only [World.size_alloc] at hf5
    have RG := Lib.hid ho5
    have RD := Lib.hid hp5
    clear ho5 hp5
    go_wp2_with fail
    refine (Th.eq_thread a5 a3 _ cap5 cap3 _ _ _ f3 _ (((RG.out.alloc _).alloc _)).v (((RS.out.alloc _).alloc _)).v h3s h3s).mono ?_
    rintro e w6 ⟨rfl, hb6⟩
    have hz6 := hb6.size
    try simp only [World.size_alloc] at hz6
    have qa0 := Th.keep_block hb6 (Th.alloc_block (Th.alloc_block Qa0.out))
    have qs := Th.keep_block hb6 (Th.alloc_block (Th.alloc_block Qs.out))
    have qt := Th.keep_block hb6 (Th.alloc_block (Th.alloc_block Qt.out))
    have qx0 := Th.keep_block hb6 (Th.alloc_block (Th.alloc_block Qx0.out))
    have qg : w6.heap[w5.heap.size]? = some (.cells #[.slice a5 n3 cap5, .float .f32 s3] 33) := Th.keep_block hb6 (Th.alloc_block (Th.new_block _ _))
    have qd : w6.heap[w5.heap.size + 1]? = some (.cells #[.slice b5 m3 cbp5, .float .f32 s3] 33) := Th.keep_block hb6 (by simpa using Th.new_block ((w5).alloc (.cells #[.slice a5 n3 cap5, .float .f32 s3] 33)) (.cells #[.slice b5 m3 cbp5, .float .f32 s3] 33))
    have yS := (((RS.out.alloc _).alloc _)).later hb6
    have yT := (((RT.out.alloc _).alloc _)).later hb6
    have yX0 := (((RX0.out.alloc _).alloc _)).later hb6
    have yG := (((RG.out.alloc _).alloc _)).later hb6
    have yD := (((RD.out.alloc _).alloc _)).later hb6
    have hbw : Below w.heap.size w w6 := Below.trans (Below.alloc (Below.alloc HBW.out (by first | exact Nat.le_refl _ | omega | (simp; omega) | simp) _) (by first | exact Nat.le_refl _ | omega | (simp; omega) | simp) _) (hb6.mono (by first | omega | (simp; omega) | simp))
    clear Qa0 Qs Qt Qx0 la0 ls lt lx0 ea00 ea01 es0 es1 et0 et1 ex00 ex01 RS RT RX0 RG RD HBW
    clear hb6
    have Qa0 := Lib.hid qa0
    have la0 := Th.block_lt qa0
    have ea00 := (Th.cells_of (i := 0) qa0).trans (show _ = some (.slice a0 len0 cap0) from rfl)
    have ea01 := (Th.cells_of (i := 1) qa0).trans (show _ = some (.float .f32 a0S) from rfl)
    have Qs := Lib.hid qs
    have ls := Th.block_lt qs
    have es0 := (Th.cells_of (i := 0) qs).trans (show _ = some (.slice a3 n3 cap3) from rfl)
    have es1 := (Th.cells_of (i := 1) qs).trans (show _ = some (.float .f32 s3) from rfl)
    have Qt := Lib.hid qt
    have lt := Th.block_lt qt
    have et0 := (Th.cells_of (i := 0) qt).trans (show _ = some (.slice b3 m3 cbp3) from rfl)
    have et1 := (Th.cells_of (i := 1) qt).trans (show _ = some (.float .f32 s3) from rfl)
    have Qx0 := Lib.hid qx0
    have lx0 := Th.block_lt qx0
    have ex00 := (Th.cells_of (i := 0) qx0).trans (show _ = some (.slice a4 len0 cap4) from rfl)
    have ex01 := (Th.cells_of (i := 1) qx0).trans (show _ = some (.float .f32 a0S) from rfl)
    have Qg := Lib.hid qg
    have lg := Th.block_lt qg
    have eg0 := (Th.cells_of (i := 0) qg).trans (show _ = some (.slice a5 n3 cap5) from rfl)
    have eg1 := (Th.cells_of (i := 1) qg).trans (show _ = some (.float .f32 s3) from rfl)
    have Qd := Lib.hid qd
    have ld := Th.block_lt qd
    have ed0 := (Th.cells_of (i := 0) qd).trans (show _ = some (.slice b5 m3 cbp5) from rfl)
    have ed1 := (Th.cells_of (i := 1) qd).trans (show _ = some (.float .f32 s3) from rfl)
    clear qa0 qs qt qx0 qg qd
    have RS := Lib.hid yS
    have RT := Lib.hid yT
    have RX0 := Lib.hid yX0
    have RG := Lib.hid yG
    have RD := Lib.hid yD
    clear yS yT yX0 yG yD
    have HBW := Lib.hid hbw
    clear hbw
    go_wp2_with fail
    refine (Th.eq_thread b5 b3 _ cbp5 cbp3 _ _ _ g3 _ (RD.out).v (RT.out).v h3s h3s).mono ?_
    rintro e w7 ⟨rfl, hb7⟩
    have hz7 := hb7.size
    try simp only [World.size_alloc] at hz7
    have qa0 := Th.keep_block hb7 Qa0.out
    have qs := Th.keep_block hb7 Qs.out
    have qt := Th.keep_block hb7 Qt.out
    have qx0 := Th.keep_block hb7 Qx0.out
    have qg := Th.keep_block hb7 Qg.out
    have qd := Th.keep_block hb7 Qd.out
    have yS := (RS.out).later hb7
    have yT := (RT.out).later hb7
    have yX0 := (RX0.out).later hb7
    have yG := (RG.out).later hb7
    have yD := (RD.out).later hb7
    have hbw : Below w.heap.size w w7 := Below.trans HBW.out (hb7.mono (by first | omega | (simp; omega) | simp))
    clear Qa0 Qs Qt Qx0 Qg Qd la0 ls lt lx0 lg ld ea00 ea01 es0 es1 et0 et1 ex00 ex01 eg0 eg1 ed0 ed1 RS RT RX0 RG RD HBW
    clear hb7
    have Qa0 := Lib.hid qa0
    have la0 := Th.block_lt qa0
    have ea00 := (Th.cells_of (i := 0) qa0).trans (show _ = some (.slice a0 len0 cap0) from rfl)
    have ea01 := (Th.cells_of (i := 1) qa0).trans (show _ = some (.float .f32 a0S) from rfl)
    have Qs := Lib.hid qs
    have ls := Th.block_lt qs
    have es0 := (Th.cells_of (i := 0) qs).trans (show _ = some (.slice a3 n3 cap3) from rfl)
    have es1 := (Th.cells_of (i := 1) qs).trans (show _ = some (.float .f32 s3) from rfl)
    have Qt := Lib.hid qt
    have lt := Th.block_lt qt
    have et0 := (Th.cells_of (i := 0) qt).trans (show _ = some (.slice b3 m3 cbp3) from rfl)
    have et1 := (Th.cells_of (i := 1) qt).trans (show _ = some (.float .f32 s3) from rfl)
    have Qx0 := Lib.hid qx0
    have lx0 := Th.block_lt qx0
    have ex00 := (Th.cells_of (i := 0) qx0).trans (show _ = some (.slice a4 len0 cap4) from rfl)
    have ex01 := (Th.cells_of (i := 1) qx0).trans (show _ = some (.float .f32 a0S) from rfl)
    have Qg := Lib.hid qg
    have lg := Th.block_lt qg
    have eg0 := (Th.cells_of (i := 0) qg).trans (show _ = some (.slice a5 n3 cap5) from rfl)
    have eg1 := (Th.cells_of (i := 1) qg).trans (show _ = some (.float .f32 s3) from rfl)
    have Qd := Lib.hid qd
    have ld := Th.block_lt qd
    have ed0 := (Th.cells_of (i := 0) qd).trans (show _ = some (.slice b5 m3 cbp5) from rfl)
    have ed1 := (Th.cells_of (i := 1) qd).trans (show _ = some (.float .f32 s3) from rfl)
    clear qa0 qs qt qx0 qg qd
    have RS := Lib.hid yS
    have RT := Lib.hid yT
    have RX0 := Lib.hid yX0
    have RG := Lib.hid yG
    have RD := Lib.hid yD
    clear yS yT yX0 yG yD
    have HBW := Lib.hid hbw
    clear hbw
    have HX := Lib.hid RX0.out.v
    have HW := Lib.hid (HY0.out.later HBW.out)
    go_wp2_with fail
    refine LooseP.wp_region 4 [(62, Th.phi a0S len0 c0)] (by kernel_rfl) (by kernel_rfl) (by simp [undef]) ?_
    apply Exists.intro
    simp only [List.take_succ_cons, List.take_zero, List.drop_succ_cons, List.drop_zero]
    have hst : ∀ p ∈ [((62 : Nat), Th.phi a0S len0 c0)], LooseP.Stable p.2 := by intro p hp; rw [List.mem_singleton.1 hp]; exact Th.phi_stable _ _ _
    repeat (first | (apply Loose.walk_step; intro K hK; apply LooseP.turn_value (hwant := rfl) (hd := rfl); (focus (intro w' hw'; obtain ⟨hc, hf⟩ := Fl.bcell hw'; go_simp; first | done | rfl | exact ⟨rfl, rfl⟩)); go_simp; refine hK _ ?_; clear hK K) | (apply Loose.walk_step; intro K hK; refine LooseP.turn_callP (f := 15) (args := fun a => #[a.eval (.tmp 61)]) (V := fun v => ∃ a cap, v = Th.tV a len0 cap a0S) (φ := Th.phi a0S len0 c0) (d := 62) hst (Nat.le_refl _) rfl rfl (by intro p hp _; rw [List.mem_singleton.1 hp]) (by intro a' w'; go_simp; first | done | rfl | exact ⟨rfl, rfl⟩) ⟨_, none, 0, rfl⟩ ?_ ?_; (focus (intro a' w' _ hcl; go_simp; exact Th.to_phi HW.out hcl.1 hbig0)); (intro v hv; obtain ⟨av, capv, rfl⟩ := hv; go_simp; refine hK _ ?_; clear hK K)) | (apply Loose.walk_step; intro K hK; refine LooseP.turn_call (f := 18) (args := fun a => #[a.eval (.tmp 60), a.eval (.tmp 62)]) (V := fun v => v = .bool true) hst (Nat.le_refl _) rfl rfl (by intro a' w'; go_simp; first | done | rfl | exact ⟨rfl, rfl⟩) ⟨_, rfl⟩ ?_ ?_; (focus (intro a' w' ha hcl; go_simp; exact Th.eq_phi HX.out HF0.out HF0.out hcl (by simp) ha)); (intro v hv; obtain rfl := hv; go_simp; refine hK _ ?_; clear hK K)))
    refine Loose.walk_nil ?_
    intro w8 hcls8
    have hb8 := hcls8.1
    clear hcls8 hst
    clear HX HW
    have hz8 := hb8.size
    try simp only [World.size_alloc] at hz8
    have qa0 := Th.keep_block hb8 Qa0.out
    have qs := Th.keep_block hb8 Qs.out
    have qt := Th.keep_block hb8 Qt.out
    have qx0 := Th.keep_block hb8 Qx0.out
    have qg := Th.keep_block hb8 Qg.out
    have qd := Th.keep_block hb8 Qd.out
    have yS := (RS.out).later hb8
    have yT := (RT.out).later hb8
    have yX0 := (RX0.out).later hb8
    have yG := (RG.out).later hb8
    have yD := (RD.out).later hb8
    have hbw : Below w.heap.size w w8 := Below.trans HBW.out (hb8.mono (by first | omega | (simp; omega) | simp))
    clear Qa0 Qs Qt Qx0 Qg Qd la0 ls lt lx0 lg ld ea00 ea01 es0 es1 et0 et1 ex00 ex01 eg0 eg1 ed0 ed1 RS RT RX0 RG RD HBW
    clear hb8
    have Qa0 := Lib.hid qa0
    have la0 := Th.block_lt qa0
    have ea00 := (Th.cells_of (i := 0) qa0).trans (show _ = some (.slice a0 len0 cap0) from rfl)
    have ea01 := (Th.cells_of (i := 1) qa0).trans (show _ = some (.float .f32 a0S) from rfl)
    have Qs := Lib.hid qs
    have ls := Th.block_lt qs
    have es0 := (Th.cells_of (i := 0) qs).trans (show _ = some (.slice a3 n3 cap3) from rfl)
    have es1 := (Th.cells_of (i := 1) qs).trans (show _ = some (.float .f32 s3) from rfl)
    have Qt := Lib.hid qt
    have lt := Th.block_lt qt
    have et0 := (Th.cells_of (i := 0) qt).trans (show _ = some (.slice b3 m3 cbp3) from rfl)
    have et1 := (Th.cells_of (i := 1) qt).trans (show _ = some (.float .f32 s3) from rfl)
    have Qx0 := Lib.hid qx0
    have lx0 := Th.block_lt qx0
    have ex00 := (Th.cells_of (i := 0) qx0).trans (show _ = some (.slice a4 len0 cap4) from rfl)
    have ex01 := (Th.cells_of (i := 1) qx0).trans (show _ = some (.float .f32 a0S) from rfl)
    have Qg := Lib.hid qg
    have lg := Th.block_lt qg
    have eg0 := (Th.cells_of (i := 0) qg).trans (show _ = some (.slice a5 n3 cap5) from rfl)
    have eg1 := (Th.cells_of (i := 1) qg).trans (show _ = some (.float .f32 s3) from rfl)
    have Qd := Lib.hid qd
    have ld := Th.block_lt qd
    have ed0 := (Th.cells_of (i := 0) qd).trans (show _ = some (.slice b5 m3 cbp5) from rfl)
    have ed1 := (Th.cells_of (i := 1) qd).trans (show _ = some (.float .f32 s3) from rfl)
    clear qa0 qs qt qx0 qg qd
    have RS := Lib.hid yS
    have RT := Lib.hid yT
    have RX0 := Lib.hid yX0
    have RG := Lib.hid yG
    have RD := Lib.hid yD
    clear yS yT yX0 yG yD
    have HBW := Lib.hid hbw
    clear hbw
    go_wp2_with fail
    refine (Th.mark_thread (w3.heap.size + 1 + 1) (w4.heap.size) a4 _ cap4 _ c0 1 (by omega) _ RX0.out hbig0 (by omega) (by omega)).mono ?_
    rintro e w9 ⟨rfl, hm9, hb9, hk9⟩
    rw [show (1 + (len0 : Int) * 3) = p0 from HP0.out.symm]
    have hz9 := hb9.size
    try simp only [World.size_alloc] at hz9
    have qa0 := (hk9 _ (by omega) la0).trans Qa0.out
    have qs := (hk9 _ (by omega) ls).trans Qs.out
    have qt := (hk9 _ (by omega) lt).trans Qt.out
    have qx0 := (hk9 _ (by omega) lx0).trans Qx0.out
    have qg := (hk9 _ (by omega) lg).trans Qg.out
    have qd := (hk9 _ (by omega) ld).trans Qd.out
    have yS := RS.out.keep (fun g hg hgl hgs => hk9 g (by omega) hgs)
    have yT := RT.out.keep (fun g hg hgl hgs => hk9 g (by omega) hgs)
    have yG := RG.out.keep (fun g hg hgl hgs => hk9 g (by omega) hgs)
    have yD := RD.out.keep (fun g hg hgl hgs => hk9 g (by omega) hgs)
    have hbw : Below w.heap.size w w9 := HBW.out.trans (hb9.mono (by omega))
    clear Qa0 Qs Qt Qx0 Qg Qd la0 ls lt lx0 lg ld ea00 ea01 es0 es1 et0 et1 ex00 ex01 eg0 eg1 ed0 ed1 RS RT RX0 RG RD HBW
    clear hb9 hk9
    have mX0 := hm9
    clear hm9
    have Qa0 := Lib.hid qa0
    have la0 := Th.block_lt qa0
    have ea00 := (Th.cells_of (i := 0) qa0).trans (show _ = some (.slice a0 len0 cap0) from rfl)
    have ea01 := (Th.cells_of (i := 1) qa0).trans (show _ = some (.float .f32 a0S) from rfl)
    have Qs := Lib.hid qs
    have ls := Th.block_lt qs
    have es0 := (Th.cells_of (i := 0) qs).trans (show _ = some (.slice a3 n3 cap3) from rfl)
    have es1 := (Th.cells_of (i := 1) qs).trans (show _ = some (.float .f32 s3) from rfl)
    have Qt := Lib.hid qt
    have lt := Th.block_lt qt
    have et0 := (Th.cells_of (i := 0) qt).trans (show _ = some (.slice b3 m3 cbp3) from rfl)
    have et1 := (Th.cells_of (i := 1) qt).trans (show _ = some (.float .f32 s3) from rfl)
    have Qx0 := Lib.hid qx0
    have lx0 := Th.block_lt qx0
    have ex00 := (Th.cells_of (i := 0) qx0).trans (show _ = some (.slice a4 len0 cap4) from rfl)
    have ex01 := (Th.cells_of (i := 1) qx0).trans (show _ = some (.float .f32 a0S) from rfl)
    have Qg := Lib.hid qg
    have lg := Th.block_lt qg
    have eg0 := (Th.cells_of (i := 0) qg).trans (show _ = some (.slice a5 n3 cap5) from rfl)
    have eg1 := (Th.cells_of (i := 1) qg).trans (show _ = some (.float .f32 s3) from rfl)
    have Qd := Lib.hid qd
    have ld := Th.block_lt qd
    have ed0 := (Th.cells_of (i := 0) qd).trans (show _ = some (.slice b5 m3 cbp5) from rfl)
    have ed1 := (Th.cells_of (i := 1) qd).trans (show _ = some (.float .f32 s3) from rfl)
    clear qa0 qs qt qx0 qg qd
    have RS := Lib.hid yS
    have RT := Lib.hid yT
    have RG := Lib.hid yG
    have RD := Lib.hid yD
    have MX0 := Lib.hid mX0
    clear yS yT yG yD mX0
    have HBW := Lib.hid hbw
    clear hbw
    go_wp2_with fail
    refine (Th.eq_thread a5 a3 _ cap5 cap3 _ _ _ f3 _ (RG.out).v (RS.out).v h3s h3s).mono ?_
    rintro e w10 ⟨rfl, hb10⟩
    have hz10 := hb10.size
    try simp only [World.size_alloc] at hz10
    have qa0 := Th.keep_block hb10 Qa0.out
    have qs := Th.keep_block hb10 Qs.out
    have qt := Th.keep_block hb10 Qt.out
    have qx0 := Th.keep_block hb10 Qx0.out
    have qg := Th.keep_block hb10 Qg.out
    have qd := Th.keep_block hb10 Qd.out
    have yS := (RS.out).later hb10
    have yT := (RT.out).later hb10
    have yG := (RG.out).later hb10
    have yD := (RD.out).later hb10
    have mX0 := (MX0.out).on hb10
    have hbw : Below w.heap.size w w10 := Below.trans HBW.out (hb10.mono (by first | omega | (simp; omega) | simp))
    clear Qa0 Qs Qt Qx0 Qg Qd la0 ls lt lx0 lg ld ea00 ea01 es0 es1 et0 et1 ex00 ex01 eg0 eg1 ed0 ed1 RS RT RG RD MX0 HBW
    clear hb10
    have Qa0 := Lib.hid qa0
    have la0 := Th.block_lt qa0
    have ea00 := (Th.cells_of (i := 0) qa0).trans (show _ = some (.slice a0 len0 cap0) from rfl)
    have ea01 := (Th.cells_of (i := 1) qa0).trans (show _ = some (.float .f32 a0S) from rfl)
    have Qs := Lib.hid qs
    have ls := Th.block_lt qs
    have es0 := (Th.cells_of (i := 0) qs).trans (show _ = some (.slice a3 n3 cap3) from rfl)
    have es1 := (Th.cells_of (i := 1) qs).trans (show _ = some (.float .f32 s3) from rfl)
    have Qt := Lib.hid qt
    have lt := Th.block_lt qt
    have et0 := (Th.cells_of (i := 0) qt).trans (show _ = some (.slice b3 m3 cbp3) from rfl)
    have et1 := (Th.cells_of (i := 1) qt).trans (show _ = some (.float .f32 s3) from rfl)
    have Qx0 := Lib.hid qx0
    have lx0 := Th.block_lt qx0
    have ex00 := (Th.cells_of (i := 0) qx0).trans (show _ = some (.slice a4 len0 cap4) from rfl)
    have ex01 := (Th.cells_of (i := 1) qx0).trans (show _ = some (.float .f32 a0S) from rfl)
    have Qg := Lib.hid qg
    have lg := Th.block_lt qg
    have eg0 := (Th.cells_of (i := 0) qg).trans (show _ = some (.slice a5 n3 cap5) from rfl)
    have eg1 := (Th.cells_of (i := 1) qg).trans (show _ = some (.float .f32 s3) from rfl)
    have Qd := Lib.hid qd
    have ld := Th.block_lt qd
    have ed0 := (Th.cells_of (i := 0) qd).trans (show _ = some (.slice b5 m3 cbp5) from rfl)
    have ed1 := (Th.cells_of (i := 1) qd).trans (show _ = some (.float .f32 s3) from rfl)
    clear qa0 qs qt qx0 qg qd
    have RS := Lib.hid yS
    have RT := Lib.hid yT
    have RG := Lib.hid yG
    have RD := Lib.hid yD
    have MX0 := Lib.hid mX0
    clear yS yT yG yD mX0
    have HBW := Lib.hid hbw
    clear hbw
    go_wp2_with fail
    refine (Th.eq_thread b5 b3 _ cbp5 cbp3 _ _ _ g3 _ (RD.out).v (RT.out).v h3s h3s).mono ?_
    rintro e w11 ⟨rfl, hb11⟩
    have hz11 := hb11.size
    try simp only [World.size_alloc] at hz11
    have qa0 := Th.keep_block hb11 Qa0.out
    have qs := Th.keep_block hb11 Qs.out
    have qt := Th.keep_block hb11 Qt.out
    have qx0 := Th.keep_block hb11 Qx0.out
    have qg := Th.keep_block hb11 Qg.out
    have qd := Th.keep_block hb11 Qd.out
    have yS := (RS.out).later hb11
    have yT := (RT.out).later hb11
    have yG := (RG.out).later hb11
    have yD := (RD.out).later hb11
    have mX0 := (MX0.out).on hb11
    have hbw : Below w.heap.size w w11 := Below.trans HBW.out (hb11.mono (by first | omega | (simp; omega) | simp))
    clear Qa0 Qs Qt Qx0 Qg Qd la0 ls lt lx0 lg ld ea00 ea01 es0 es1 et0 et1 ex00 ex01 eg0 eg1 ed0 ed1 RS RT RG RD MX0 HBW
    clear hb11
    have Qa0 := Lib.hid qa0
    have la0 := Th.block_lt qa0
    have ea00 := (Th.cells_of (i := 0) qa0).trans (show _ = some (.slice a0 len0 cap0) from rfl)
    have ea01 := (Th.cells_of (i := 1) qa0).trans (show _ = some (.float .f32 a0S) from rfl)
    have Qs := Lib.hid qs
    have ls := Th.block_lt qs
    have es0 := (Th.cells_of (i := 0) qs).trans (show _ = some (.slice a3 n3 cap3) from rfl)
    have es1 := (Th.cells_of (i := 1) qs).trans (show _ = some (.float .f32 s3) from rfl)
    have Qt := Lib.hid qt
    have lt := Th.block_lt qt
    have et0 := (Th.cells_of (i := 0) qt).trans (show _ = some (.slice b3 m3 cbp3) from rfl)
    have et1 := (Th.cells_of (i := 1) qt).trans (show _ = some (.float .f32 s3) from rfl)
    have Qx0 := Lib.hid qx0
    have lx0 := Th.block_lt qx0
    have ex00 := (Th.cells_of (i := 0) qx0).trans (show _ = some (.slice a4 len0 cap4) from rfl)
    have ex01 := (Th.cells_of (i := 1) qx0).trans (show _ = some (.float .f32 a0S) from rfl)
    have Qg := Lib.hid qg
    have lg := Th.block_lt qg
    have eg0 := (Th.cells_of (i := 0) qg).trans (show _ = some (.slice a5 n3 cap5) from rfl)
    have eg1 := (Th.cells_of (i := 1) qg).trans (show _ = some (.float .f32 s3) from rfl)
    have Qd := Lib.hid qd
    have ld := Th.block_lt qd
    have ed0 := (Th.cells_of (i := 0) qd).trans (show _ = some (.slice b5 m3 cbp5) from rfl)
    have ed1 := (Th.cells_of (i := 1) qd).trans (show _ = some (.float .f32 s3) from rfl)
    clear qa0 qs qt qx0 qg qd
    have RS := Lib.hid yS
    have RT := Lib.hid yT
    have RG := Lib.hid yG
    have RD := Lib.hid yD
    have MX0 := Lib.hid mX0
    clear yS yT yG yD mX0
    have HBW := Lib.hid hbw
    clear hbw
    go_wp2_with fail
    refine (Th.mark_thread (B5) (L5) a5 _ cap5 _ f3 1 (by omega) _ RG.out (by omega) (by omega) (by omega)).mono ?_
    rintro e w12 ⟨rfl, hm12, hb12, hk12⟩
    rw [show (1 + (n3 : Int) * 3) = q from HQ.out.symm]
    have hz12 := hb12.size
    try simp only [World.size_alloc] at hz12
    have qa0 := (hk12 _ (by omega) la0).trans Qa0.out
    have qs := (hk12 _ (by omega) ls).trans Qs.out
    have qt := (hk12 _ (by omega) lt).trans Qt.out
    have qx0 := (hk12 _ (by omega) lx0).trans Qx0.out
    have qg := (hk12 _ (by omega) lg).trans Qg.out
    have qd := (hk12 _ (by omega) ld).trans Qd.out
    have yS := RS.out.keep (fun g hg hgl hgs => hk12 g (by omega) hgs)
    have yT := RT.out.keep (fun g hg hgl hgs => hk12 g (by omega) hgs)
    have yD := RD.out.keep (fun g hg hgl hgs => hk12 g (by omega) hgs)
    have mX0 := MX0.out.keep (fun g hg hgl hgs => hk12 g (by omega) hgs)
    have hbw : Below w.heap.size w w12 := HBW.out.trans (hb12.mono (by omega))
    clear Qa0 Qs Qt Qx0 Qg Qd la0 ls lt lx0 lg ld ea00 ea01 es0 es1 et0 et1 ex00 ex01 eg0 eg1 ed0 ed1 RS RT RG RD MX0 HBW
    clear hb12 hk12
    have mG := hm12
    clear hm12
    have Qa0 := Lib.hid qa0
    have la0 := Th.block_lt qa0
    have ea00 := (Th.cells_of (i := 0) qa0).trans (show _ = some (.slice a0 len0 cap0) from rfl)
    have ea01 := (Th.cells_of (i := 1) qa0).trans (show _ = some (.float .f32 a0S) from rfl)
    have Qs := Lib.hid qs
    have ls := Th.block_lt qs
    have es0 := (Th.cells_of (i := 0) qs).trans (show _ = some (.slice a3 n3 cap3) from rfl)
    have es1 := (Th.cells_of (i := 1) qs).trans (show _ = some (.float .f32 s3) from rfl)
    have Qt := Lib.hid qt
    have lt := Th.block_lt qt
    have et0 := (Th.cells_of (i := 0) qt).trans (show _ = some (.slice b3 m3 cbp3) from rfl)
    have et1 := (Th.cells_of (i := 1) qt).trans (show _ = some (.float .f32 s3) from rfl)
    have Qx0 := Lib.hid qx0
    have lx0 := Th.block_lt qx0
    have ex00 := (Th.cells_of (i := 0) qx0).trans (show _ = some (.slice a4 len0 cap4) from rfl)
    have ex01 := (Th.cells_of (i := 1) qx0).trans (show _ = some (.float .f32 a0S) from rfl)
    have Qg := Lib.hid qg
    have lg := Th.block_lt qg
    have eg0 := (Th.cells_of (i := 0) qg).trans (show _ = some (.slice a5 n3 cap5) from rfl)
    have eg1 := (Th.cells_of (i := 1) qg).trans (show _ = some (.float .f32 s3) from rfl)
    have Qd := Lib.hid qd
    have ld := Th.block_lt qd
    have ed0 := (Th.cells_of (i := 0) qd).trans (show _ = some (.slice b5 m3 cbp5) from rfl)
    have ed1 := (Th.cells_of (i := 1) qd).trans (show _ = some (.float .f32 s3) from rfl)
    clear qa0 qs qt qx0 qg qd
    have RS := Lib.hid yS
    have RT := Lib.hid yT
    have RD := Lib.hid yD
    have MX0 := Lib.hid mX0
    have MG := Lib.hid mG
    clear yS yT yD mX0 mG
    have HBW := Lib.hid hbw
    clear hbw
    go_wp2_with fail
    refine (Th.mark_thread (C5) (M5) b5 _ cbp5 _ g3 q (by omega) _ RD.out (by omega) (by omega) (by omega)).mono ?_
    rintro e w13 ⟨rfl, hm13, hb13, hk13⟩
    rw [show (q + (m3 : Int) * 3) = q1 from HQ1.out.symm]
    have hz13 := hb13.size
    try simp only [World.size_alloc] at hz13
    have qa0 := (hk13 _ (by omega) la0).trans Qa0.out
    have qs := (hk13 _ (by omega) ls).trans Qs.out
    have qt := (hk13 _ (by omega) lt).trans Qt.out
    have qx0 := (hk13 _ (by omega) lx0).trans Qx0.out
    have qg := (hk13 _ (by omega) lg).trans Qg.out
    have qd := (hk13 _ (by omega) ld).trans Qd.out
    have yS := RS.out.keep (fun g hg hgl hgs => hk13 g (by omega) hgs)
    have yT := RT.out.keep (fun g hg hgl hgs => hk13 g (by omega) hgs)
    have mX0 := MX0.out.keep (fun g hg hgl hgs => hk13 g (by omega) hgs)
    have mG := MG.out.keep (fun g hg hgl hgs => hk13 g (by omega) hgs)
    have hbw : Below w.heap.size w w13 := HBW.out.trans (hb13.mono (by omega))
    clear Qa0 Qs Qt Qx0 Qg Qd la0 ls lt lx0 lg ld ea00 ea01 es0 es1 et0 et1 ex00 ex01 eg0 eg1 ed0 ed1 RS RT RD MX0 MG HBW
    clear hb13 hk13
    have mD := hm13
    clear hm13
    have Qa0 := Lib.hid qa0
    have la0 := Th.block_lt qa0
    have ea00 := (Th.cells_of (i := 0) qa0).trans (show _ = some (.slice a0 len0 cap0) from rfl)
    have ea01 := (Th.cells_of (i := 1) qa0).trans (show _ = some (.float .f32 a0S) from rfl)
    have Qs := Lib.hid qs
    have ls := Th.block_lt qs
    have es0 := (Th.cells_of (i := 0) qs).trans (show _ = some (.slice a3 n3 cap3) from rfl)
    have es1 := (Th.cells_of (i := 1) qs).trans (show _ = some (.float .f32 s3) from rfl)
    have Qt := Lib.hid qt
    have lt := Th.block_lt qt
    have et0 := (Th.cells_of (i := 0) qt).trans (show _ = some (.slice b3 m3 cbp3) from rfl)
    have et1 := (Th.cells_of (i := 1) qt).trans (show _ = some (.float .f32 s3) from rfl)
    have Qx0 := Lib.hid qx0
    have lx0 := Th.block_lt qx0
    have ex00 := (Th.cells_of (i := 0) qx0).trans (show _ = some (.slice a4 len0 cap4) from rfl)
    have ex01 := (Th.cells_of (i := 1) qx0).trans (show _ = some (.float .f32 a0S) from rfl)
    have Qg := Lib.hid qg
    have lg := Th.block_lt qg
    have eg0 := (Th.cells_of (i := 0) qg).trans (show _ = some (.slice a5 n3 cap5) from rfl)
    have eg1 := (Th.cells_of (i := 1) qg).trans (show _ = some (.float .f32 s3) from rfl)
    have Qd := Lib.hid qd
    have ld := Th.block_lt qd
    have ed0 := (Th.cells_of (i := 0) qd).trans (show _ = some (.slice b5 m3 cbp5) from rfl)
    have ed1 := (Th.cells_of (i := 1) qd).trans (show _ = some (.float .f32 s3) from rfl)
    clear qa0 qs qt qx0 qg qd
    have RS := Lib.hid yS
    have RT := Lib.hid yT
    have MX0 := Lib.hid mX0
    have MG := Lib.hid mG
    have MD := Lib.hid mD
    clear yS yT mX0 mG mD
    have HBW := Lib.hid hbw
    clear hbw
    go_wp2_with fail
    refine (Th.held_thread _ _ a5 _ cap5 _ 1 (by omega) _ MG.out).mono ?_
    rintro e w14 ⟨rfl, hb14⟩
    rw [show (1 + (n3 : Int) * 3) = q from HQ.out.symm]
    have hz14 := hb14.size
    try simp only [World.size_alloc] at hz14
    have qa0 := Th.keep_block hb14 Qa0.out
    have qs := Th.keep_block hb14 Qs.out
    have qt := Th.keep_block hb14 Qt.out
    have qx0 := Th.keep_block hb14 Qx0.out
    have qg := Th.keep_block hb14 Qg.out
    have qd := Th.keep_block hb14 Qd.out
    have yS := (RS.out).later hb14
    have yT := (RT.out).later hb14
    have mX0 := (MX0.out).on hb14
    have mG := (MG.out).on hb14
    have mD := (MD.out).on hb14
    have hbw : Below w.heap.size w w14 := Below.trans HBW.out (hb14.mono (by first | omega | (simp; omega) | simp))
    clear Qa0 Qs Qt Qx0 Qg Qd la0 ls lt lx0 lg ld ea00 ea01 es0 es1 et0 et1 ex00 ex01 eg0 eg1 ed0 ed1 RS RT MX0 MG MD HBW
    clear hb14
    have Qa0 := Lib.hid qa0
    have la0 := Th.block_lt qa0
    have ea00 := (Th.cells_of (i := 0) qa0).trans (show _ = some (.slice a0 len0 cap0) from rfl)
    have ea01 := (Th.cells_of (i := 1) qa0).trans (show _ = some (.float .f32 a0S) from rfl)
    have Qs := Lib.hid qs
    have ls := Th.block_lt qs
    have es0 := (Th.cells_of (i := 0) qs).trans (show _ = some (.slice a3 n3 cap3) from rfl)
    have es1 := (Th.cells_of (i := 1) qs).trans (show _ = some (.float .f32 s3) from rfl)
    have Qt := Lib.hid qt
    have lt := Th.block_lt qt
    have et0 := (Th.cells_of (i := 0) qt).trans (show _ = some (.slice b3 m3 cbp3) from rfl)
    have et1 := (Th.cells_of (i := 1) qt).trans (show _ = some (.float .f32 s3) from rfl)
    have Qx0 := Lib.hid qx0
    have lx0 := Th.block_lt qx0
    have ex00 := (Th.cells_of (i := 0) qx0).trans (show _ = some (.slice a4 len0 cap4) from rfl)
    have ex01 := (Th.cells_of (i := 1) qx0).trans (show _ = some (.float .f32 a0S) from rfl)
    have Qg := Lib.hid qg
    have lg := Th.block_lt qg
    have eg0 := (Th.cells_of (i := 0) qg).trans (show _ = some (.slice a5 n3 cap5) from rfl)
    have eg1 := (Th.cells_of (i := 1) qg).trans (show _ = some (.float .f32 s3) from rfl)
    have Qd := Lib.hid qd
    have ld := Th.block_lt qd
    have ed0 := (Th.cells_of (i := 0) qd).trans (show _ = some (.slice b5 m3 cbp5) from rfl)
    have ed1 := (Th.cells_of (i := 1) qd).trans (show _ = some (.float .f32 s3) from rfl)
    clear qa0 qs qt qx0 qg qd
    have RS := Lib.hid yS
    have RT := Lib.hid yT
    have MX0 := Lib.hid mX0
    have MG := Lib.hid mG
    have MD := Lib.hid mD
    clear yS yT mX0 mG mD
    have HBW := Lib.hid hbw
    clear hbw
    go_wp2_with fail
    refine (Th.held_thread _ _ b5 _ cbp5 _ q (by omega) _ MD.out).mono ?_
    rintro e w15 ⟨rfl, hb15⟩
    rw [show (q + (m3 : Int) * 3) = q1 from HQ1.out.symm]
    have hz15 := hb15.size
    try simp only [World.size_alloc] at hz15
    have qa0 := Th.keep_block hb15 Qa0.out
    have qs := Th.keep_block hb15 Qs.out
    have qt := Th.keep_block hb15 Qt.out
    have qx0 := Th.keep_block hb15 Qx0.out
    have qg := Th.keep_block hb15 Qg.out
    have qd := Th.keep_block hb15 Qd.out
    have yS := (RS.out).later hb15
    have yT := (RT.out).later hb15
    have mX0 := (MX0.out).on hb15
    have mG := (MG.out).on hb15
    have mD := (MD.out).on hb15
    have hbw : Below w.heap.size w w15 := Below.trans HBW.out (hb15.mono (by first | omega | (simp; omega) | simp))
    clear Qa0 Qs Qt Qx0 Qg Qd la0 ls lt lx0 lg ld ea00 ea01 es0 es1 et0 et1 ex00 ex01 eg0 eg1 ed0 ed1 RS RT MX0 MG MD HBW
    clear hb15
    have Qa0 := Lib.hid qa0
    have la0 := Th.block_lt qa0
    have ea00 := (Th.cells_of (i := 0) qa0).trans (show _ = some (.slice a0 len0 cap0) from rfl)
    have ea01 := (Th.cells_of (i := 1) qa0).trans (show _ = some (.float .f32 a0S) from rfl)
    have Qs := Lib.hid qs
    have ls := Th.block_lt qs
    have es0 := (Th.cells_of (i := 0) qs).trans (show _ = some (.slice a3 n3 cap3) from rfl)
    have es1 := (Th.cells_of (i := 1) qs).trans (show _ = some (.float .f32 s3) from rfl)
    have Qt := Lib.hid qt
    have lt := Th.block_lt qt
    have et0 := (Th.cells_of (i := 0) qt).trans (show _ = some (.slice b3 m3 cbp3) from rfl)
    have et1 := (Th.cells_of (i := 1) qt).trans (show _ = some (.float .f32 s3) from rfl)
    have Qx0 := Lib.hid qx0
    have lx0 := Th.block_lt qx0
    have ex00 := (Th.cells_of (i := 0) qx0).trans (show _ = some (.slice a4 len0 cap4) from rfl)
    have ex01 := (Th.cells_of (i := 1) qx0).trans (show _ = some (.float .f32 a0S) from rfl)
    have Qg := Lib.hid qg
    have lg := Th.block_lt qg
    have eg0 := (Th.cells_of (i := 0) qg).trans (show _ = some (.slice a5 n3 cap5) from rfl)
    have eg1 := (Th.cells_of (i := 1) qg).trans (show _ = some (.float .f32 s3) from rfl)
    have Qd := Lib.hid qd
    have ld := Th.block_lt qd
    have ed0 := (Th.cells_of (i := 0) qd).trans (show _ = some (.slice b5 m3 cbp5) from rfl)
    have ed1 := (Th.cells_of (i := 1) qd).trans (show _ = some (.float .f32 s3) from rfl)
    clear qa0 qs qt qx0 qg qd
    have RS := Lib.hid yS
    have RT := Lib.hid yT
    have MX0 := Lib.hid mX0
    have MG := Lib.hid mG
    have MD := Lib.hid mD
    clear yS yT mX0 mG mD
    have HBW := Lib.hid hbw
    clear hbw
    go_wp2_with fail
    refine (HT0.out _ HBW.out).mono ?_
    rintro e w16 ⟨a16, cap16, rfl, ho16, hb16⟩
    have hz16 := hb16.size
    try simp only [World.size_alloc] at hz16
    have qa0 := Th.keep_block hb16 Qa0.out
    have qs := Th.keep_block hb16 Qs.out
    have qt := Th.keep_block hb16 Qt.out
    have qx0 := Th.keep_block hb16 Qx0.out
    have qg := Th.keep_block hb16 Qg.out
    have qd := Th.keep_block hb16 Qd.out
    have yS := (RS.out).later hb16
    have yT := (RT.out).later hb16
    have mX0 := (MX0.out).on hb16
    have mG := (MG.out).on hb16
    have mD := (MD.out).on hb16
    have hbw : Below w.heap.size w w16 := Below.trans HBW.out (hb16.mono (by first | omega | (simp; omega) | simp))
    clear Qa0 Qs Qt Qx0 Qg Qd la0 ls lt lx0 lg ld ea00 ea01 es0 es1 et0 et1 ex00 ex01 eg0 eg1 ed0 ed1 RS RT MX0 MG MD HBW
    clear hb16
    have Qa0 := Lib.hid qa0
    have la0 := Th.block_lt qa0
    have ea00 := (Th.cells_of (i := 0) qa0).trans (show _ = some (.slice a0 len0 cap0) from rfl)
    have ea01 := (Th.cells_of (i := 1) qa0).trans (show _ = some (.float .f32 a0S) from rfl)
    have Qs := Lib.hid qs
    have ls := Th.block_lt qs
    have es0 := (Th.cells_of (i := 0) qs).trans (show _ = some (.slice a3 n3 cap3) from rfl)
    have es1 := (Th.cells_of (i := 1) qs).trans (show _ = some (.float .f32 s3) from rfl)
    have Qt := Lib.hid qt
    have lt := Th.block_lt qt
    have et0 := (Th.cells_of (i := 0) qt).trans (show _ = some (.slice b3 m3 cbp3) from rfl)
    have et1 := (Th.cells_of (i := 1) qt).trans (show _ = some (.float .f32 s3) from rfl)
    have Qx0 := Lib.hid qx0
    have lx0 := Th.block_lt qx0
    have ex00 := (Th.cells_of (i := 0) qx0).trans (show _ = some (.slice a4 len0 cap4) from rfl)
    have ex01 := (Th.cells_of (i := 1) qx0).trans (show _ = some (.float .f32 a0S) from rfl)
    have Qg := Lib.hid qg
    have lg := Th.block_lt qg
    have eg0 := (Th.cells_of (i := 0) qg).trans (show _ = some (.slice a5 n3 cap5) from rfl)
    have eg1 := (Th.cells_of (i := 1) qg).trans (show _ = some (.float .f32 s3) from rfl)
    have Qd := Lib.hid qd
    have ld := Th.block_lt qd
    have ed0 := (Th.cells_of (i := 0) qd).trans (show _ = some (.slice b5 m3 cbp5) from rfl)
    have ed1 := (Th.cells_of (i := 1) qd).trans (show _ = some (.float .f32 s3) from rfl)
    clear qa0 qs qt qx0 qg qd
    have RS := Lib.hid yS
    have RT := Lib.hid yT
    have MX0 := Lib.hid mX0
    have MG := Lib.hid mG
    have MD := Lib.hid mD
    clear yS yT mX0 mG mD
    have HBW := Lib.hid hbw
    clear hbw
    have RC := Lib.hid ho16
    clear ho16
    go_wp2_with fail
    refine (HI.out a16 cap16 _ RC.out.v).mono ?_
    rintro e w17 ⟨a17, cap17, b17, cbp17, B17, L17, C17, M17, rfl, ho17, hp17, ha17, hd17, he17, hf17, hg17, hh17, hi17, hb17⟩
    have hz17 := hb17.size
    try simp only [World.size_alloc] at hz17
    have qa0 := Th.keep_block hb17 Qa0.out
    have qs := Th.keep_block hb17 Qs.out
    have qt := Th.keep_block hb17 Qt.out
    have qx0 := Th.keep_block hb17 Qx0.out
    have qg := Th.keep_block hb17 Qg.out
    have qd := Th.keep_block hb17 Qd.out
    have yS := (RS.out).later hb17
    have yT := (RT.out).later hb17
    have yC := (RC.out).later hb17
    have mX0 := (MX0.out).on hb17
    have mG := (MG.out).on hb17
    have mD := (MD.out).on hb17
    have hbw : Below w.heap.size w w17 := Below.trans HBW.out (hb17.mono (by first | omega | (simp; omega) | simp))
    clear Qa0 Qs Qt Qx0 Qg Qd la0 ls lt lx0 lg ld ea00 ea01 es0 es1 et0 et1 ex00 ex01 eg0 eg1 ed0 ed1 RS RT RC MX0 MG MD HBW
    clear hb17
    have Qa0 := Lib.hid qa0
    have la0 := Th.block_lt qa0
    have ea00 := (Th.cells_of (i := 0) qa0).trans (show _ = some (.slice a0 len0 cap0) from rfl)
    have ea01 := (Th.cells_of (i := 1) qa0).trans (show _ = some (.float .f32 a0S) from rfl)
    have Qs := Lib.hid qs
    have ls := Th.block_lt qs
    have es0 := (Th.cells_of (i := 0) qs).trans (show _ = some (.slice a3 n3 cap3) from rfl)
    have es1 := (Th.cells_of (i := 1) qs).trans (show _ = some (.float .f32 s3) from rfl)
    have Qt := Lib.hid qt
    have lt := Th.block_lt qt
    have et0 := (Th.cells_of (i := 0) qt).trans (show _ = some (.slice b3 m3 cbp3) from rfl)
    have et1 := (Th.cells_of (i := 1) qt).trans (show _ = some (.float .f32 s3) from rfl)
    have Qx0 := Lib.hid qx0
    have lx0 := Th.block_lt qx0
    have ex00 := (Th.cells_of (i := 0) qx0).trans (show _ = some (.slice a4 len0 cap4) from rfl)
    have ex01 := (Th.cells_of (i := 1) qx0).trans (show _ = some (.float .f32 a0S) from rfl)
    have Qg := Lib.hid qg
    have lg := Th.block_lt qg
    have eg0 := (Th.cells_of (i := 0) qg).trans (show _ = some (.slice a5 n3 cap5) from rfl)
    have eg1 := (Th.cells_of (i := 1) qg).trans (show _ = some (.float .f32 s3) from rfl)
    have Qd := Lib.hid qd
    have ld := Th.block_lt qd
    have ed0 := (Th.cells_of (i := 0) qd).trans (show _ = some (.slice b5 m3 cbp5) from rfl)
    have ed1 := (Th.cells_of (i := 1) qd).trans (show _ = some (.float .f32 s3) from rfl)
    clear qa0 qs qt qx0 qg qd
    have RS := Lib.hid yS
    have RT := Lib.hid yT
    have RC := Lib.hid yC
    have MX0 := Lib.hid mX0
    have MG := Lib.hid mG
    have MD := Lib.hid mD
    clear yS yT yC mX0 mG mD
    have HBW := Lib.hid hbw
    clear hbw
    try simp only [World.size_alloc] at ha17
    try simp only [World.size_alloc] at hf17
    have RH := Lib.hid ho17
    have RE := Lib.hid hp17
    clear ho17 hp17
    clear RC
    go_wp2_with fail
    refine (Th.eq_thread a17 a3 _ cap17 cap3 _ _ _ f3 _ (((RH.out.alloc _).alloc _)).v (((RS.out.alloc _).alloc _)).v h3s h3s).mono ?_
    rintro e w18 ⟨rfl, hb18⟩
    have hz18 := hb18.size
    try simp only [World.size_alloc] at hz18
    have qa0 := Th.keep_block hb18 (Th.alloc_block (Th.alloc_block Qa0.out))
    have qs := Th.keep_block hb18 (Th.alloc_block (Th.alloc_block Qs.out))
    have qt := Th.keep_block hb18 (Th.alloc_block (Th.alloc_block Qt.out))
    have qx0 := Th.keep_block hb18 (Th.alloc_block (Th.alloc_block Qx0.out))
    have qg := Th.keep_block hb18 (Th.alloc_block (Th.alloc_block Qg.out))
    have qd := Th.keep_block hb18 (Th.alloc_block (Th.alloc_block Qd.out))
    have qh : w18.heap[w17.heap.size]? = some (.cells #[.slice a17 n3 cap17, .float .f32 s3] 33) := Th.keep_block hb18 (Th.alloc_block (Th.new_block _ _))
    have qe : w18.heap[w17.heap.size + 1]? = some (.cells #[.slice b17 m3 cbp17, .float .f32 s3] 33) := Th.keep_block hb18 (by simpa using Th.new_block ((w17).alloc (.cells #[.slice a17 n3 cap17, .float .f32 s3] 33)) (.cells #[.slice b17 m3 cbp17, .float .f32 s3] 33))
    have yS := (((RS.out.alloc _).alloc _)).later hb18
    have yT := (((RT.out.alloc _).alloc _)).later hb18
    have yH := (((RH.out.alloc _).alloc _)).later hb18
    have yE := (((RE.out.alloc _).alloc _)).later hb18
    have mX0 := (((MX0.out.alloc _).alloc _)).on hb18
    have mG := (((MG.out.alloc _).alloc _)).on hb18
    have mD := (((MD.out.alloc _).alloc _)).on hb18
    have hbw : Below w.heap.size w w18 := Below.trans (Below.alloc (Below.alloc HBW.out (by first | exact Nat.le_refl _ | omega | (simp; omega) | simp) _) (by first | exact Nat.le_refl _ | omega | (simp; omega) | simp) _) (hb18.mono (by first | omega | (simp; omega) | simp))
    clear Qa0 Qs Qt Qx0 Qg Qd la0 ls lt lx0 lg ld ea00 ea01 es0 es1 et0 et1 ex00 ex01 eg0 eg1 ed0 ed1 RS RT RH RE MX0 MG MD HBW
    clear hb18
    have Qa0 := Lib.hid qa0
    have la0 := Th.block_lt qa0
    have ea00 := (Th.cells_of (i := 0) qa0).trans (show _ = some (.slice a0 len0 cap0) from rfl)
    have ea01 := (Th.cells_of (i := 1) qa0).trans (show _ = some (.float .f32 a0S) from rfl)
    have Qs := Lib.hid qs
    have ls := Th.block_lt qs
    have es0 := (Th.cells_of (i := 0) qs).trans (show _ = some (.slice a3 n3 cap3) from rfl)
    have es1 := (Th.cells_of (i := 1) qs).trans (show _ = some (.float .f32 s3) from rfl)
    have Qt := Lib.hid qt
    have lt := Th.block_lt qt
    have et0 := (Th.cells_of (i := 0) qt).trans (show _ = some (.slice b3 m3 cbp3) from rfl)
    have et1 := (Th.cells_of (i := 1) qt).trans (show _ = some (.float .f32 s3) from rfl)
    have Qx0 := Lib.hid qx0
    have lx0 := Th.block_lt qx0
    have ex00 := (Th.cells_of (i := 0) qx0).trans (show _ = some (.slice a4 len0 cap4) from rfl)
    have ex01 := (Th.cells_of (i := 1) qx0).trans (show _ = some (.float .f32 a0S) from rfl)
    have Qg := Lib.hid qg
    have lg := Th.block_lt qg
    have eg0 := (Th.cells_of (i := 0) qg).trans (show _ = some (.slice a5 n3 cap5) from rfl)
    have eg1 := (Th.cells_of (i := 1) qg).trans (show _ = some (.float .f32 s3) from rfl)
    have Qd := Lib.hid qd
    have ld := Th.block_lt qd
    have ed0 := (Th.cells_of (i := 0) qd).trans (show _ = some (.slice b5 m3 cbp5) from rfl)
    have ed1 := (Th.cells_of (i := 1) qd).trans (show _ = some (.float .f32 s3) from rfl)
    have Qh := Lib.hid qh
    have lh := Th.block_lt qh
    have eh0 := (Th.cells_of (i := 0) qh).trans (show _ = some (.slice a17 n3 cap17) from rfl)
    have eh1 := (Th.cells_of (i := 1) qh).trans (show _ = some (.float .f32 s3) from rfl)
    have Qe := Lib.hid qe
    have le := Th.block_lt qe
    have ee0 := (Th.cells_of (i := 0) qe).trans (show _ = some (.slice b17 m3 cbp17) from rfl)
    have ee1 := (Th.cells_of (i := 1) qe).trans (show _ = some (.float .f32 s3) from rfl)
    clear qa0 qs qt qx0 qg qd qh qe
    have RS := Lib.hid yS
    have RT := Lib.hid yT
    have RH := Lib.hid yH
    have RE := Lib.hid yE
    have MX0 := Lib.hid mX0
    have MG := Lib.hid mG
    have MD := Lib.hid mD
    clear yS yT yH yE mX0 mG mD
    have HBW := Lib.hid hbw
    clear hbw
    go_wp2_with fail
    refine (Th.eq_thread b17 b3 _ cbp17 cbp3 _ _ _ g3 _ (RE.out).v (RT.out).v h3s h3s).mono ?_
    rintro e w19 ⟨rfl, hb19⟩
    have hz19 := hb19.size
    try simp only [World.size_alloc] at hz19
    have qa0 := Th.keep_block hb19 Qa0.out
    have qs := Th.keep_block hb19 Qs.out
    have qt := Th.keep_block hb19 Qt.out
    have qx0 := Th.keep_block hb19 Qx0.out
    have qg := Th.keep_block hb19 Qg.out
    have qd := Th.keep_block hb19 Qd.out
    have qh := Th.keep_block hb19 Qh.out
    have qe := Th.keep_block hb19 Qe.out
    have yS := (RS.out).later hb19
    have yT := (RT.out).later hb19
    have yH := (RH.out).later hb19
    have yE := (RE.out).later hb19
    have mX0 := (MX0.out).on hb19
    have mG := (MG.out).on hb19
    have mD := (MD.out).on hb19
    have hbw : Below w.heap.size w w19 := Below.trans HBW.out (hb19.mono (by first | omega | (simp; omega) | simp))
    clear Qa0 Qs Qt Qx0 Qg Qd Qh Qe la0 ls lt lx0 lg ld lh le ea00 ea01 es0 es1 et0 et1 ex00 ex01 eg0 eg1 ed0 ed1 eh0 eh1 ee0 ee1 RS RT RH RE MX0 MG MD HBW
    clear hb19
    have Qa0 := Lib.hid qa0
    have la0 := Th.block_lt qa0
    have ea00 := (Th.cells_of (i := 0) qa0).trans (show _ = some (.slice a0 len0 cap0) from rfl)
    have ea01 := (Th.cells_of (i := 1) qa0).trans (show _ = some (.float .f32 a0S) from rfl)
    have Qs := Lib.hid qs
    have ls := Th.block_lt qs
    have es0 := (Th.cells_of (i := 0) qs).trans (show _ = some (.slice a3 n3 cap3) from rfl)
    have es1 := (Th.cells_of (i := 1) qs).trans (show _ = some (.float .f32 s3) from rfl)
    have Qt := Lib.hid qt
    have lt := Th.block_lt qt
    have et0 := (Th.cells_of (i := 0) qt).trans (show _ = some (.slice b3 m3 cbp3) from rfl)
    have et1 := (Th.cells_of (i := 1) qt).trans (show _ = some (.float .f32 s3) from rfl)
    have Qx0 := Lib.hid qx0
    have lx0 := Th.block_lt qx0
    have ex00 := (Th.cells_of (i := 0) qx0).trans (show _ = some (.slice a4 len0 cap4) from rfl)
    have ex01 := (Th.cells_of (i := 1) qx0).trans (show _ = some (.float .f32 a0S) from rfl)
    have Qg := Lib.hid qg
    have lg := Th.block_lt qg
    have eg0 := (Th.cells_of (i := 0) qg).trans (show _ = some (.slice a5 n3 cap5) from rfl)
    have eg1 := (Th.cells_of (i := 1) qg).trans (show _ = some (.float .f32 s3) from rfl)
    have Qd := Lib.hid qd
    have ld := Th.block_lt qd
    have ed0 := (Th.cells_of (i := 0) qd).trans (show _ = some (.slice b5 m3 cbp5) from rfl)
    have ed1 := (Th.cells_of (i := 1) qd).trans (show _ = some (.float .f32 s3) from rfl)
    have Qh := Lib.hid qh
    have lh := Th.block_lt qh
    have eh0 := (Th.cells_of (i := 0) qh).trans (show _ = some (.slice a17 n3 cap17) from rfl)
    have eh1 := (Th.cells_of (i := 1) qh).trans (show _ = some (.float .f32 s3) from rfl)
    have Qe := Lib.hid qe
    have le := Th.block_lt qe
    have ee0 := (Th.cells_of (i := 0) qe).trans (show _ = some (.slice b17 m3 cbp17) from rfl)
    have ee1 := (Th.cells_of (i := 1) qe).trans (show _ = some (.float .f32 s3) from rfl)
    clear qa0 qs qt qx0 qg qd qh qe
    have RS := Lib.hid yS
    have RT := Lib.hid yT
    have RH := Lib.hid yH
    have RE := Lib.hid yE
    have MX0 := Lib.hid mX0
    have MG := Lib.hid mG
    have MD := Lib.hid mD
    clear yS yT yH yE mX0 mG mD
    have HBW := Lib.hid hbw
    clear hbw
    go_wp2_with fail
    refine (Th.held_thread _ _ a5 _ cap5 _ 1 (by omega) _ MG.out).mono ?_
    rintro e w20 ⟨rfl, hb20⟩
    rw [show (1 + (n3 : Int) * 3) = q from HQ.out.symm]
    have hz20 := hb20.size
    try simp only [World.size_alloc] at hz20
    have qa0 := Th.keep_block hb20 Qa0.out
    have qs := Th.keep_block hb20 Qs.out
    have qt := Th.keep_block hb20 Qt.out
    have qx0 := Th.keep_block hb20 Qx0.out
    have qg := Th.keep_block hb20 Qg.out
    have qd := Th.keep_block hb20 Qd.out
    have qh := Th.keep_block hb20 Qh.out
    have qe := Th.keep_block hb20 Qe.out
    have yS := (RS.out).later hb20
    have yT := (RT.out).later hb20
    have yH := (RH.out).later hb20
    have yE := (RE.out).later hb20
    have mX0 := (MX0.out).on hb20
    have mG := (MG.out).on hb20
    have mD := (MD.out).on hb20
    have hbw : Below w.heap.size w w20 := Below.trans HBW.out (hb20.mono (by first | omega | (simp; omega) | simp))
    clear Qa0 Qs Qt Qx0 Qg Qd Qh Qe la0 ls lt lx0 lg ld lh le ea00 ea01 es0 es1 et0 et1 ex00 ex01 eg0 eg1 ed0 ed1 eh0 eh1 ee0 ee1 RS RT RH RE MX0 MG MD HBW
    clear hb20
    have Qa0 := Lib.hid qa0
    have la0 := Th.block_lt qa0
    have ea00 := (Th.cells_of (i := 0) qa0).trans (show _ = some (.slice a0 len0 cap0) from rfl)
    have ea01 := (Th.cells_of (i := 1) qa0).trans (show _ = some (.float .f32 a0S) from rfl)
    have Qs := Lib.hid qs
    have ls := Th.block_lt qs
    have es0 := (Th.cells_of (i := 0) qs).trans (show _ = some (.slice a3 n3 cap3) from rfl)
    have es1 := (Th.cells_of (i := 1) qs).trans (show _ = some (.float .f32 s3) from rfl)
    have Qt := Lib.hid qt
    have lt := Th.block_lt qt
    have et0 := (Th.cells_of (i := 0) qt).trans (show _ = some (.slice b3 m3 cbp3) from rfl)
    have et1 := (Th.cells_of (i := 1) qt).trans (show _ = some (.float .f32 s3) from rfl)
    have Qx0 := Lib.hid qx0
    have lx0 := Th.block_lt qx0
    have ex00 := (Th.cells_of (i := 0) qx0).trans (show _ = some (.slice a4 len0 cap4) from rfl)
    have ex01 := (Th.cells_of (i := 1) qx0).trans (show _ = some (.float .f32 a0S) from rfl)
    have Qg := Lib.hid qg
    have lg := Th.block_lt qg
    have eg0 := (Th.cells_of (i := 0) qg).trans (show _ = some (.slice a5 n3 cap5) from rfl)
    have eg1 := (Th.cells_of (i := 1) qg).trans (show _ = some (.float .f32 s3) from rfl)
    have Qd := Lib.hid qd
    have ld := Th.block_lt qd
    have ed0 := (Th.cells_of (i := 0) qd).trans (show _ = some (.slice b5 m3 cbp5) from rfl)
    have ed1 := (Th.cells_of (i := 1) qd).trans (show _ = some (.float .f32 s3) from rfl)
    have Qh := Lib.hid qh
    have lh := Th.block_lt qh
    have eh0 := (Th.cells_of (i := 0) qh).trans (show _ = some (.slice a17 n3 cap17) from rfl)
    have eh1 := (Th.cells_of (i := 1) qh).trans (show _ = some (.float .f32 s3) from rfl)
    have Qe := Lib.hid qe
    have le := Th.block_lt qe
    have ee0 := (Th.cells_of (i := 0) qe).trans (show _ = some (.slice b17 m3 cbp17) from rfl)
    have ee1 := (Th.cells_of (i := 1) qe).trans (show _ = some (.float .f32 s3) from rfl)
    clear qa0 qs qt qx0 qg qd qh qe
    have RS := Lib.hid yS
    have RT := Lib.hid yT
    have RH := Lib.hid yH
    have RE := Lib.hid yE
    have MX0 := Lib.hid mX0
    have MG := Lib.hid mG
    have MD := Lib.hid mD
    clear yS yT yH yE mX0 mG mD
    have HBW := Lib.hid hbw
    clear hbw
    go_wp2_with fail
    refine (Th.held_thread _ _ b5 _ cbp5 _ q (by omega) _ MD.out).mono ?_
    rintro e w21 ⟨rfl, hb21⟩
    rw [show (q + (m3 : Int) * 3) = q1 from HQ1.out.symm]
    have hz21 := hb21.size
    try simp only [World.size_alloc] at hz21
    have qa0 := Th.keep_block hb21 Qa0.out
    have qs := Th.keep_block hb21 Qs.out
    have qt := Th.keep_block hb21 Qt.out
    have qx0 := Th.keep_block hb21 Qx0.out
    have qg := Th.keep_block hb21 Qg.out
    have qd := Th.keep_block hb21 Qd.out
    have qh := Th.keep_block hb21 Qh.out
    have qe := Th.keep_block hb21 Qe.out
    have yS := (RS.out).later hb21
    have yT := (RT.out).later hb21
    have yH := (RH.out).later hb21
    have yE := (RE.out).later hb21
    have mX0 := (MX0.out).on hb21
    have mG := (MG.out).on hb21
    have mD := (MD.out).on hb21
    have hbw : Below w.heap.size w w21 := Below.trans HBW.out (hb21.mono (by first | omega | (simp; omega) | simp))
    clear Qa0 Qs Qt Qx0 Qg Qd Qh Qe la0 ls lt lx0 lg ld lh le ea00 ea01 es0 es1 et0 et1 ex00 ex01 eg0 eg1 ed0 ed1 eh0 eh1 ee0 ee1 RS RT RH RE MX0 MG MD HBW
    clear hb21
    have Qa0 := Lib.hid qa0
    have la0 := Th.block_lt qa0
    have ea00 := (Th.cells_of (i := 0) qa0).trans (show _ = some (.slice a0 len0 cap0) from rfl)
    have ea01 := (Th.cells_of (i := 1) qa0).trans (show _ = some (.float .f32 a0S) from rfl)
    have Qs := Lib.hid qs
    have ls := Th.block_lt qs
    have es0 := (Th.cells_of (i := 0) qs).trans (show _ = some (.slice a3 n3 cap3) from rfl)
    have es1 := (Th.cells_of (i := 1) qs).trans (show _ = some (.float .f32 s3) from rfl)
    have Qt := Lib.hid qt
    have lt := Th.block_lt qt
    have et0 := (Th.cells_of (i := 0) qt).trans (show _ = some (.slice b3 m3 cbp3) from rfl)
    have et1 := (Th.cells_of (i := 1) qt).trans (show _ = some (.float .f32 s3) from rfl)
    have Qx0 := Lib.hid qx0
    have lx0 := Th.block_lt qx0
    have ex00 := (Th.cells_of (i := 0) qx0).trans (show _ = some (.slice a4 len0 cap4) from rfl)
    have ex01 := (Th.cells_of (i := 1) qx0).trans (show _ = some (.float .f32 a0S) from rfl)
    have Qg := Lib.hid qg
    have lg := Th.block_lt qg
    have eg0 := (Th.cells_of (i := 0) qg).trans (show _ = some (.slice a5 n3 cap5) from rfl)
    have eg1 := (Th.cells_of (i := 1) qg).trans (show _ = some (.float .f32 s3) from rfl)
    have Qd := Lib.hid qd
    have ld := Th.block_lt qd
    have ed0 := (Th.cells_of (i := 0) qd).trans (show _ = some (.slice b5 m3 cbp5) from rfl)
    have ed1 := (Th.cells_of (i := 1) qd).trans (show _ = some (.float .f32 s3) from rfl)
    have Qh := Lib.hid qh
    have lh := Th.block_lt qh
    have eh0 := (Th.cells_of (i := 0) qh).trans (show _ = some (.slice a17 n3 cap17) from rfl)
    have eh1 := (Th.cells_of (i := 1) qh).trans (show _ = some (.float .f32 s3) from rfl)
    have Qe := Lib.hid qe
    have le := Th.block_lt qe
    have ee0 := (Th.cells_of (i := 0) qe).trans (show _ = some (.slice b17 m3 cbp17) from rfl)
    have ee1 := (Th.cells_of (i := 1) qe).trans (show _ = some (.float .f32 s3) from rfl)
    clear qa0 qs qt qx0 qg qd qh qe
    have RS := Lib.hid yS
    have RT := Lib.hid yT
    have RH := Lib.hid yH
    have RE := Lib.hid yE
    have MX0 := Lib.hid mX0
    have MG := Lib.hid mG
    have MD := Lib.hid mD
    clear yS yT yH yE mX0 mG mD
    have HBW := Lib.hid hbw
    clear hbw
    go_wp2
    go_ret
    exact ⟨rfl, HBW.out⟩
  · have hk0 : Th.tV a0 len0 cap0 a0S = Th.tV a0 len0 cap0 a0S := rfl
    go_enter Try.func10, Try.ntmps10
    go_wp2_with fail
    refine (Th.sz_thread _ _ _ _ 1048576 _ hmx0 (by omega) (-1) (by rw [if_neg (by omega)])).mono ?_
    rintro e w1 ⟨rfl, hb1⟩
    go_wp2
    go_ret
    exact ⟨rfl, by (repeat' first | exact Below.refl _ _ | (refine Below.setCell ?_ (by first | omega | (simp; omega) | simp) _) | (refine below_drewN ?_ _) | (refine Below.alloc ?_ (by first | omega | (simp; omega) | simp) _) | (refine Below.trans ?_ (Below.mono (by assumption) (by first | omega | (simp; omega) | simp))))⟩

set_option maxRecDepth 100000 in
theorem lifted (os : Os) (started : os.Started) (H : Type) (enc : TypeId × Value → H) :
    ReturnsInHanded {} Try.checked os 10 .any (Rows.fnExactSplitThreadSpec.pre6 enc Try.prog Try.f10 Rows.fnExactSplitThreadRow.domain false) (Rows.fnExactSplitThreadSpec.post enc Try.prog Try.f10 false true false false) := by
  refine returnsInHanded_of_change (C := Try.checked) own started (by kernel_rfl) Try.func10
    (ChangeSpec.witness6 (enc := enc) (C := Try.checked) false ⟨#[], #[.agg #[.slice none 0 0, .float .f32 0], .int .i64 0, .int .i64 0], []⟩ 8 (by kernel_rfl) (by kernel_rfl) (by kernel_rfl) (by kernel_rfl)) ?_
  intro W base args ds gs before hval0 hW hcnd _
  have hval : ∀ (j : Nat) t v, Try.f10.params[j]? = some t → args[j]? = some v → Value.okWide Try.prog W .any base t v := hval0
  have hW' := hW
  obtain ⟨p, q, hA0, hV, rfl, hfz, hnd⟩ := hW
  have hA : DataW.TrodAll enc Try.prog W 0 (fun _ => true) true Try.f10.params.toList args.toList ds p := hA0
  rw [Try.params10] at hA hval
  obtain ⟨v0, vs0, d0, ds0, p0, q0, hargs, rfl, rfl, h0, r0⟩ := trodAll_cons hA
  obtain ⟨v1, vs1, d1, ds1, p1, q1, rfl, rfl, rfl, h1, r1⟩ := trodAll_cons r0
  obtain ⟨v2, vs2, d2, ds2, p2, q2, rfl, rfl, rfl, h2, r2⟩ := trodAll_cons r1
  obtain ⟨rfl, rfl, rfl⟩ := trodAll_nil r2
  obtain rfl : args = #[v0, v1, v2] := by cases args; simp_all
  obtain ⟨rfl, rfl⟩ := trodVars_none hV
  have k0 := h0
  have lt0 : ∀ x ∈ p0, x.block < W.heap.size := by obtain ⟨m, hm⟩ := k0; exact DataW.trod_lt m _ _ _ hm
  obtain ⟨a0S, a0, len0, cap0, c0, rfl, w0, w0S⟩ := Th.open_thread Try.underlying25 (by kernel_rfl) (by kernel_rfl) rfl rfl Try.underlying23 Try.underlying22 Try.underlying62 (by kernel_rfl) (by kernel_rfl) rfl rfl rfl (hval 0 25 v0 rfl rfl) h0
  have k1 := h1
  have lt1 : ∀ x ∈ p1, x.block < W.heap.size := by obtain ⟨m, hm⟩ := k1; exact DataW.trod_lt m _ _ _ hm
  obtain ⟨a1, rfl, e1, _, w1⟩ := open_int Try.underlying2 (hval 1 2 v1 rfl rfl) h1
  have k2 := h2
  have lt2 : ∀ x ∈ p2, x.block < W.heap.size := by obtain ⟨m, hm⟩ := k2; exact DataW.trod_lt m _ _ _ hm
  obtain ⟨a2, rfl, e2, _, w2⟩ := open_int Try.underlying2 (hval 2 2 v2 rfl rfl) h2
  clear hA0 hval0
  refine (walk a0S a0 len0 cap0 c0 a1 a2 W w0 w0S w1 w2).mono fun e W' ⟨he, bel⟩ => ?_
  subst he
  exact ⟨_, rfl, _, _, _, [], _, [], hW', trodAll_mk1 (shut_bool Try.underlying4 _), (trodAll_cons_mk (Below.trod laidOut (by kernel_rfl) (of_decide_eq_true (by kernel_rfl)) k0 bel lt0) (trodAll_cons_mk (Below.trod laidOut (by kernel_rfl) (of_decide_eq_true (by kernel_rfl)) k1 bel lt1) (trodAll_cons_mk (Below.trod laidOut (by kernel_rfl) (of_decide_eq_true (by kernel_rfl)) k2 bel lt2) trodAll_mk0))), rfl, bel.frame _, fun h => by cases h⟩

theorem over : Rows.fnExactSplitThreadRow.holds Try.pinned (OpenSpec.ofChange Rows.fnExactSplitThreadSpec) :=
  OpenClaim.holds_of_wide 10 Try.f10 rfl rfl rfl rfl rfl rfl rfl ⟨rfl, rfl, rfl, rfl, rfl⟩ rfl rfl rfl rfl rfl (by kernel_rfl) Try.func10 (by kernel_rfl)
    (of_decide_eq_true (by kernel_rfl)) (by unfold Func.isWrapper; first | (rw [if_pos (by decide +kernel)]; kernel_rfl) | (rw [if_neg (by decide +kernel)]; exact ⟨rfl, rfl⟩))
    (fun os started H enc _ => lifted os started H enc)

/-- The statement. -/
theorem proved : Rows.FnExactSplitThreadSaid := over
#print axioms proved
end Go.Proofs.Ytjkkefbfhapblaa.fnExactSplitThread
