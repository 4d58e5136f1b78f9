/- 'FnExactFlowsInBasin' returns true at every input, and every argument reads afterwards as before. No conditions. -/
import Derived.Test.YtjkkefbfhapblabRows
import Derived.WalkKit
import Derived.WalkLawsBesides
import Derived.ProofKit
import Derived.OpenShut
import Derived.ShutString
import Derived.ChangeOld
import Derived.Below
import Derived.Test.YtjkkefbfhapblabFrame
import Derived.Test.YtjkkefbfhapblabBaL
import Derived.Test.YtjkkefbfhapblabBaUp
import Derived.Test.YtjkkefbfhapblabBaUt
namespace Go.Proofs.Ytjkkefbfhapblab.fnExactFlowsInBasin
open Go.ChangeShapes Go.WideShapes Go.ChangeAt Go.RowKit
open Go.ChangeMaps (open_string shut_string)
set_option linter.unusedVariables false
set_option linter.unusedSimpArgs false

theorem own : ownKnob Try.prog.godebug = none := by kernel_rfl
theorem laidOut : laidOutB Try.prog = true := by kernel_rfl

set_option maxHeartbeats 25600000 in
theorem walk (a0W a0H : Int) (a0 : Option Addr) (len0 cap0 : Nat) (z0 : List Nat) (w : World) (w0 : Frame.IsNums .f32 w a0 len0 cap0 z0) :
    Calls Try.prog 4 #[.agg #[.int .i64 a0W, .int .i64 a0H, .slice a0 len0 cap0]] w fun e w' => e = .returned (.bool true) ∧ Below w.heap.size w w' := by
  have hY0 := Ba.isY_nums w0
  generalize Nums.numC z0 = c0 at hY0
  have HY0 := Lib.hid hY0
  have hmx0 : len0 ≤ maxLen := by have h1 := w0.2.1; have h2 := w0.2.2.1; omega
  have hmi0 : len0 ≤ 9223372036854775807 := by unfold maxLen at hmx0; omega
  clear hY0 w0
  by_cases hbig0 : len0 ≤ 1048576
  · obtain ⟨K0, hK0⟩ : ∃ K : Int, K = if (len0 : Int) ≤ 1048576 then 1048576 - (len0 : Int) else -1 := ⟨_, rfl⟩
    have hk0 : ¬ K0 < 0 := by rw [hK0, if_pos (by omega)]; omega
    have HK0 := Lib.hid hK0; clear hK0
    have HT0 := Lib.hid (fun w' (hb : Below w.heap.size w w') => Ba.to_basin a0W a0H a0 len0 cap0 c0 w' (HY0.out.later hb) hbig0)
    obtain ⟨T3, hT3⟩ : ∃ T, ((Ba.okB a0W a0H len0 c0 && Ba.allF (Ba.uF a0W a0H c0) len0) && Ba.allF (Ba.vF a0W a0H c0) len0) = T := ⟨_, rfl⟩
    have HS := Lib.hid (fun a cap w (h : Ba.IsY w a len0 cap c0) => Ba.spec_FlowsB a0W a0H a len0 cap c0 w h _ rfl T3 hT3)
    have HI := Lib.hid (fun a cap w (h : Ba.IsY w a len0 cap c0) => Ba.impl_FlowsB a0W a0H a len0 cap c0 w h _ rfl T3 hT3)
    unfold Ba.RetHW at HS
    unfold Ba.RetH at HI
    have hn3 : (if T3 then len0 else 0) ≤ 256 := by
      cases T3
      · simp
      · simp only [Bool.and_eq_true] at hT3
        simp only [if_true]
        exact (Ba.okB_n hT3.1.1).2
    generalize (if T3 then a0W else 0) = W3 at *
    generalize (if T3 then a0H else 0) = H3 at *
    generalize (if T3 then len0 else 0) = n3 at *
    generalize Ba.uF a0W a0H c0 = f3 at *
    generalize Ba.vF a0W a0H c0 = g3 at *
    clear hT3
    obtain ⟨p0, hp0⟩ : ∃ p : Int, p = 1 + (len0 : Int) := ⟨_, rfl⟩
    have hp00 : 0 ≤ p0 := by omega
    have hp0b : p0 ≤ 8388608 := by omega
    have HP0 := Lib.hid hp0
    clear hp0
    obtain ⟨q, hq⟩ : ∃ q : Int, q = 1 + (n3 : Int) := ⟨_, rfl⟩
    have hq0 : 0 ≤ q := by omega
    have hqb : q ≤ 1024 := by omega
    have HQ := Lib.hid hq
    obtain ⟨q1, hq1⟩ : ∃ q1 : Int, q1 = q + (n3 : Int) := ⟨_, rfl⟩
    have hq10 : 0 ≤ q1 := by omega
    have HQ1 := Lib.hid hq1
    clear hq hq1
    go_enter Try.func4, Try.ntmps4
    go_wp2_with fail
    refine (Ba.sz_basin _ _ _ _ _ 1048576 _ hmx0 (by omega) K0 HK0.out).mono ?_
    rintro e w1 ⟨rfl, hb1⟩
    have hz1 := hb1.size
    try simp only [World.size_alloc] at hz1
    have qa0 : w1.heap[w.heap.size]? = some (.cells #[.int .i64 a0W, .int .i64 a0H, .slice a0 len0 cap0] 31) := Ba.keep_block hb1 (Ba.new_block _ _)
    have hbw : Below w.heap.size w w1 := Below.trans (Below.alloc (Below.refl _ _) (by first | exact Nat.le_refl _ | omega | (simp; omega) | simp) _) (hb1.mono (by first | omega | (simp; omega) | simp))
    clear hb1
    have Qa0 := Lib.hid qa0
    have la0 := Ba.block_lt qa0
    have ea00 := (Ba.cells_of (i := 0) qa0).trans (show _ = some (.int .i64 a0W) from rfl)
    have ea01 := (Ba.cells_of (i := 1) qa0).trans (show _ = some (.int .i64 a0H) from rfl)
    have ea02 := (Ba.cells_of (i := 2) qa0).trans (show _ = some (.slice a0 len0 cap0) from rfl)
    clear qa0
    have HBW := Lib.hid hbw
    clear hbw
    go_wp2_with fail
    refine (HT0.out _ HBW.out).mono ?_
    rintro e w2 ⟨a2, cap2, rfl, ho2, hb2⟩
    have hz2 := hb2.size
    try simp only [World.size_alloc] at hz2
    have qa0 := Ba.keep_block hb2 Qa0.out
    have hbw : Below w.heap.size w w2 := Below.trans HBW.out (hb2.mono (by first | omega | (simp; omega) | simp))
    clear Qa0 la0 ea00 ea01 ea02 HBW
    clear hb2
    have Qa0 := Lib.hid qa0
    have la0 := Ba.block_lt qa0
    have ea00 := (Ba.cells_of (i := 0) qa0).trans (show _ = some (.int .i64 a0W) from rfl)
    have ea01 := (Ba.cells_of (i := 1) qa0).trans (show _ = some (.int .i64 a0H) from rfl)
    have ea02 := (Ba.cells_of (i := 2) qa0).trans (show _ = some (.slice a0 len0 cap0) from rfl)
    clear qa0
    have HBW := Lib.hid hbw
    clear hbw
    have RC := Lib.hid ho2
    clear ho2
    go_wp2_with fail
    refine (HS.out a2 cap2 _ RC.out.y).mono ?_
    rintro e w3 ⟨a3, cap3, b3, cbp3, rfl, ho3, hp3, hb3⟩
    have hz3 := hb3.size
    try simp only [World.size_alloc] at hz3
    have qa0 := Ba.keep_block hb3 Qa0.out
    have yC := (RC.out).later hb3
    have hbw : Below w.heap.size w w3 := Below.trans HBW.out (hb3.mono (by first | omega | (simp; omega) | simp))
    clear Qa0 la0 ea00 ea01 ea02 RC HBW
    clear hb3
    have Qa0 := Lib.hid qa0
    have la0 := Ba.block_lt qa0
    have ea00 := (Ba.cells_of (i := 0) qa0).trans (show _ = some (.int .i64 a0W) from rfl)
    have ea01 := (Ba.cells_of (i := 1) qa0).trans (show _ = some (.int .i64 a0H) from rfl)
    have ea02 := (Ba.cells_of (i := 2) qa0).trans (show _ = some (.slice a0 len0 cap0) from rfl)
    clear qa0
    have RC := Lib.hid yC
    clear yC
    have HBW := Lib.hid hbw
    clear hbw
    clear RC
    have RS := Lib.hid ho3
    have RT := Lib.hid hp3
    clear ho3 hp3
    go_wp2_with fail
    refine (HT0.out _ ((HBW.out.alloc (by omega) _).alloc (by first | omega | (simp; omega)) _)).mono ?_
    rintro e w4 ⟨a4, cap4, rfl, ho4, hb4⟩
    have hz4 := hb4.size
    try simp only [World.size_alloc] at hz4
    have qa0 := Ba.keep_block hb4 (Ba.alloc_block (Ba.alloc_block Qa0.out))
    have qs : w4.heap[w3.heap.size]? = some (.cells #[.int .i64 W3, .int .i64 H3, .slice a3 n3 cap3] 33) := Ba.keep_block hb4 (Ba.alloc_block (Ba.new_block _ _))
    have qt : w4.heap[w3.heap.size + 1]? = some (.cells #[.int .i64 W3, .int .i64 H3, .slice b3 n3 cbp3] 33) := Ba.keep_block hb4 (by simpa using Ba.new_block ((w3).alloc (.cells #[.int .i64 W3, .int .i64 H3, .slice a3 n3 cap3] 33)) (.cells #[.int .i64 W3, .int .i64 H3, .slice b3 n3 cbp3] 33))
    have yS := (((RS.out.alloc _).alloc _)).later hb4
    have yT := (((RT.out.alloc _).alloc _)).later hb4
    have hbw : Below w.heap.size w w4 := Below.trans (Below.alloc (Below.alloc HBW.out (by first | exact Nat.le_refl _ | omega | (simp; omega) | simp) _) (by first | exact Nat.le_refl _ | omega | (simp; omega) | simp) _) (hb4.mono (by first | omega | (simp; omega) | simp))
    clear Qa0 la0 ea00 ea01 ea02 RS RT HBW
    clear hb4
    have Qa0 := Lib.hid qa0
    have la0 := Ba.block_lt qa0
    have ea00 := (Ba.cells_of (i := 0) qa0).trans (show _ = some (.int .i64 a0W) from rfl)
    have ea01 := (Ba.cells_of (i := 1) qa0).trans (show _ = some (.int .i64 a0H) from rfl)
    have ea02 := (Ba.cells_of (i := 2) qa0).trans (show _ = some (.slice a0 len0 cap0) from rfl)
    have Qs := Lib.hid qs
    have ls := Ba.block_lt qs
    have es0 := (Ba.cells_of (i := 0) qs).trans (show _ = some (.int .i64 W3) from rfl)
    have es1 := (Ba.cells_of (i := 1) qs).trans (show _ = some (.int .i64 H3) from rfl)
    have es2 := (Ba.cells_of (i := 2) qs).trans (show _ = some (.slice a3 n3 cap3) from rfl)
    have Qt := Lib.hid qt
    have lt := Ba.block_lt qt
    have et0 := (Ba.cells_of (i := 0) qt).trans (show _ = some (.int .i64 W3) from rfl)
    have et1 := (Ba.cells_of (i := 1) qt).trans (show _ = some (.int .i64 H3) from rfl)
    have et2 := (Ba.cells_of (i := 2) qt).trans (show _ = some (.slice b3 n3 cbp3) from rfl)
    clear qa0 qs qt
    have RS := Lib.hid yS
    have RT := Lib.hid yT
    clear yS yT
    have HBW := Lib.hid hbw
    clear hbw
    have RX0 := Lib.hid (ho4.wider (show w3.heap.size + 1 + 1 ≤ _ by simp) (Nat.le_refl _))
    clear ho4
    go_wp2_with fail
    refine (HI.out a4 cap4 _ ((RX0.out.alloc _)).y).mono ?_
    rintro e w5 ⟨a5, cap5, b5, cbp5, L5, rfl, ho5, hp5, hl5, hm5, hb5⟩
    have hz5 := hb5.size
    try simp only [World.size_alloc] at hz5
    have qa0 := Ba.keep_block hb5 (Ba.alloc_block Qa0.out)
    have qs := Ba.keep_block hb5 (Ba.alloc_block Qs.out)
    have qt := Ba.keep_block hb5 (Ba.alloc_block Qt.out)
    have qx0 : w5.heap[w4.heap.size]? = some (.cells #[.int .i64 a0W, .int .i64 a0H, .slice a4 len0 cap4] 33) := Ba.keep_block hb5 (Ba.new_block _ _)
    have yS := ((RS.out.alloc _)).later hb5
    have yT := ((RT.out.alloc _)).later hb5
    have yX0 := ((RX0.out.alloc _)).later hb5
    have hbw : Below w.heap.size w w5 := Below.trans (Below.alloc HBW.out (by first | exact Nat.le_refl _ | omega | (simp; omega) | simp) _) (hb5.mono (by first | omega | (simp; omega) | simp))
    clear Qa0 Qs Qt la0 ls lt ea00 ea01 ea02 es0 es1 es2 et0 et1 et2 RS RT RX0 HBW
    clear hb5
    have Qa0 := Lib.hid qa0
    have la0 := Ba.block_lt qa0
    have ea00 := (Ba.cells_of (i := 0) qa0).trans (show _ = some (.int .i64 a0W) from rfl)
    have ea01 := (Ba.cells_of (i := 1) qa0).trans (show _ = some (.int .i64 a0H) from rfl)
    have ea02 := (Ba.cells_of (i := 2) qa0).trans (show _ = some (.slice a0 len0 cap0) from rfl)
    have Qs := Lib.hid qs
    have ls := Ba.block_lt qs
    have es0 := (Ba.cells_of (i := 0) qs).trans (show _ = some (.int .i64 W3) from rfl)
    have es1 := (Ba.cells_of (i := 1) qs).trans (show _ = some (.int .i64 H3) from rfl)
    have es2 := (Ba.cells_of (i := 2) qs).trans (show _ = some (.slice a3 n3 cap3) from rfl)
    have Qt := Lib.hid qt
    have lt := Ba.block_lt qt
    have et0 := (Ba.cells_of (i := 0) qt).trans (show _ = some (.int .i64 W3) from rfl)
    have et1 := (Ba.cells_of (i := 1) qt).trans (show _ = some (.int .i64 H3) from rfl)
    have et2 := (Ba.cells_of (i := 2) qt).trans (show _ = some (.slice b3 n3 cbp3) from rfl)
    have Qx0 := Lib.hid qx0
    have lx0 := Ba.block_lt qx0
    have ex00 := (Ba.cells_of (i := 0) qx0).trans (show _ = some (.int .i64 a0W) from rfl)
    have ex01 := (Ba.cells_of (i := 1) qx0).trans (show _ = some (.int .i64 a0H) from rfl)
    have ex02 := (Ba.cells_of (i := 2) qx0).trans (show _ = some (.slice a4 len0 cap4) from rfl)
    clear qa0 qs qt qx0
    have RS := Lib.hid yS
    have RT := Lib.hid yT
    have RX0 := Lib.hid yX0
    clear yS yT yX0
    have HBW := Lib.hid hbw
    clear hbw
    try simp only [World.size_alloc] at hl5
    have RG := Lib.hid (ho5.wider (show w4.heap.size + 1 ≤ _ by simp) (Nat.le_refl _))
    have RD := Lib.hid hp5
    clear ho5 hp5
    go_wp2_with fail
    refine (Ba.eq_basin _ _ a5 a3 _ cap5 cap3 f3 _ (((RG.out.alloc _).alloc _)).y (((RS.out.alloc _).alloc _)).y).mono ?_
    rintro e w6 ⟨rfl, hb6⟩
    have hz6 := hb6.size
    try simp only [World.size_alloc] at hz6
    have qa0 := Ba.keep_block hb6 (Ba.alloc_block (Ba.alloc_block Qa0.out))
    have qs := Ba.keep_block hb6 (Ba.alloc_block (Ba.alloc_block Qs.out))
    have qt := Ba.keep_block hb6 (Ba.alloc_block (Ba.alloc_block Qt.out))
    have qx0 := Ba.keep_block hb6 (Ba.alloc_block (Ba.alloc_block Qx0.out))
    have qg : w6.heap[w5.heap.size]? = some (.cells #[.int .i64 W3, .int .i64 H3, .slice a5 n3 cap5] 33) := Ba.keep_block hb6 (Ba.alloc_block (Ba.new_block _ _))
    have qd : w6.heap[w5.heap.size + 1]? = some (.cells #[.int .i64 W3, .int .i64 H3, .slice b5 n3 cbp5] 33) := Ba.keep_block hb6 (by simpa using Ba.new_block ((w5).alloc (.cells #[.int .i64 W3, .int .i64 H3, .slice a5 n3 cap5] 33)) (.cells #[.int .i64 W3, .int .i64 H3, .slice b5 n3 cbp5] 33))
    have yS := (((RS.out.alloc _).alloc _)).later hb6
    have yT := (((RT.out.alloc _).alloc _)).later hb6
    have yX0 := (((RX0.out.alloc _).alloc _)).later hb6
    have yG := (((RG.out.alloc _).alloc _)).later hb6
    have yD := (((RD.out.alloc _).alloc _)).later hb6
    have hbw : Below w.heap.size w w6 := Below.trans (Below.alloc (Below.alloc HBW.out (by first | exact Nat.le_refl _ | omega | (simp; omega) | simp) _) (by first | exact Nat.le_refl _ | omega | (simp; omega) | simp) _) (hb6.mono (by first | omega | (simp; omega) | simp))
    clear Qa0 Qs Qt Qx0 la0 ls lt lx0 ea00 ea01 ea02 es0 es1 es2 et0 et1 et2 ex00 ex01 ex02 RS RT RX0 RG RD HBW
    clear hb6
    have Qa0 := Lib.hid qa0
    have la0 := Ba.block_lt qa0
    have ea00 := (Ba.cells_of (i := 0) qa0).trans (show _ = some (.int .i64 a0W) from rfl)
    have ea01 := (Ba.cells_of (i := 1) qa0).trans (show _ = some (.int .i64 a0H) from rfl)
    have ea02 := (Ba.cells_of (i := 2) qa0).trans (show _ = some (.slice a0 len0 cap0) from rfl)
    have Qs := Lib.hid qs
    have ls := Ba.block_lt qs
    have es0 := (Ba.cells_of (i := 0) qs).trans (show _ = some (.int .i64 W3) from rfl)
    have es1 := (Ba.cells_of (i := 1) qs).trans (show _ = some (.int .i64 H3) from rfl)
    have es2 := (Ba.cells_of (i := 2) qs).trans (show _ = some (.slice a3 n3 cap3) from rfl)
    have Qt := Lib.hid qt
    have lt := Ba.block_lt qt
    have et0 := (Ba.cells_of (i := 0) qt).trans (show _ = some (.int .i64 W3) from rfl)
    have et1 := (Ba.cells_of (i := 1) qt).trans (show _ = some (.int .i64 H3) from rfl)
    have et2 := (Ba.cells_of (i := 2) qt).trans (show _ = some (.slice b3 n3 cbp3) from rfl)
    have Qx0 := Lib.hid qx0
    have lx0 := Ba.block_lt qx0
    have ex00 := (Ba.cells_of (i := 0) qx0).trans (show _ = some (.int .i64 a0W) from rfl)
    have ex01 := (Ba.cells_of (i := 1) qx0).trans (show _ = some (.int .i64 a0H) from rfl)
    have ex02 := (Ba.cells_of (i := 2) qx0).trans (show _ = some (.slice a4 len0 cap4) from rfl)
    have Qg := Lib.hid qg
    have lg := Ba.block_lt qg
    have eg0 := (Ba.cells_of (i := 0) qg).trans (show _ = some (.int .i64 W3) from rfl)
    have eg1 := (Ba.cells_of (i := 1) qg).trans (show _ = some (.int .i64 H3) from rfl)
    have eg2 := (Ba.cells_of (i := 2) qg).trans (show _ = some (.slice a5 n3 cap5) from rfl)
    have Qd := Lib.hid qd
    have ld := Ba.block_lt qd
    have ed0 := (Ba.cells_of (i := 0) qd).trans (show _ = some (.int .i64 W3) from rfl)
    have ed1 := (Ba.cells_of (i := 1) qd).trans (show _ = some (.int .i64 H3) from rfl)
    have ed2 := (Ba.cells_of (i := 2) qd).trans (show _ = some (.slice b5 n3 cbp5) from rfl)
    clear qa0 qs qt qx0 qg qd
    have RS := Lib.hid yS
    have RT := Lib.hid yT
    have RX0 := Lib.hid yX0
    have RG := Lib.hid yG
    have RD := Lib.hid yD
    clear yS yT yX0 yG yD
    have HBW := Lib.hid hbw
    clear hbw
    go_wp2_with fail
    refine (Ba.eq_basin _ _ b5 b3 _ cbp5 cbp3 g3 _ (RD.out).y (RT.out).y).mono ?_
    rintro e w7 ⟨rfl, hb7⟩
    have hz7 := hb7.size
    try simp only [World.size_alloc] at hz7
    have qa0 := Ba.keep_block hb7 Qa0.out
    have qs := Ba.keep_block hb7 Qs.out
    have qt := Ba.keep_block hb7 Qt.out
    have qx0 := Ba.keep_block hb7 Qx0.out
    have qg := Ba.keep_block hb7 Qg.out
    have qd := Ba.keep_block hb7 Qd.out
    have yS := (RS.out).later hb7
    have yT := (RT.out).later hb7
    have yX0 := (RX0.out).later hb7
    have yG := (RG.out).later hb7
    have yD := (RD.out).later hb7
    have hbw : Below w.heap.size w w7 := Below.trans HBW.out (hb7.mono (by first | omega | (simp; omega) | simp))
    clear Qa0 Qs Qt Qx0 Qg Qd la0 ls lt lx0 lg ld ea00 ea01 ea02 es0 es1 es2 et0 et1 et2 ex00 ex01 ex02 eg0 eg1 eg2 ed0 ed1 ed2 RS RT RX0 RG RD HBW
    clear hb7
    have Qa0 := Lib.hid qa0
    have la0 := Ba.block_lt qa0
    have ea00 := (Ba.cells_of (i := 0) qa0).trans (show _ = some (.int .i64 a0W) from rfl)
    have ea01 := (Ba.cells_of (i := 1) qa0).trans (show _ = some (.int .i64 a0H) from rfl)
    have ea02 := (Ba.cells_of (i := 2) qa0).trans (show _ = some (.slice a0 len0 cap0) from rfl)
    have Qs := Lib.hid qs
    have ls := Ba.block_lt qs
    have es0 := (Ba.cells_of (i := 0) qs).trans (show _ = some (.int .i64 W3) from rfl)
    have es1 := (Ba.cells_of (i := 1) qs).trans (show _ = some (.int .i64 H3) from rfl)
    have es2 := (Ba.cells_of (i := 2) qs).trans (show _ = some (.slice a3 n3 cap3) from rfl)
    have Qt := Lib.hid qt
    have lt := Ba.block_lt qt
    have et0 := (Ba.cells_of (i := 0) qt).trans (show _ = some (.int .i64 W3) from rfl)
    have et1 := (Ba.cells_of (i := 1) qt).trans (show _ = some (.int .i64 H3) from rfl)
    have et2 := (Ba.cells_of (i := 2) qt).trans (show _ = some (.slice b3 n3 cbp3) from rfl)
    have Qx0 := Lib.hid qx0
    have lx0 := Ba.block_lt qx0
    have ex00 := (Ba.cells_of (i := 0) qx0).trans (show _ = some (.int .i64 a0W) from rfl)
    have ex01 := (Ba.cells_of (i := 1) qx0).trans (show _ = some (.int .i64 a0H) from rfl)
    have ex02 := (Ba.cells_of (i := 2) qx0).trans (show _ = some (.slice a4 len0 cap4) from rfl)
    have Qg := Lib.hid qg
    have lg := Ba.block_lt qg
    have eg0 := (Ba.cells_of (i := 0) qg).trans (show _ = some (.int .i64 W3) from rfl)
    have eg1 := (Ba.cells_of (i := 1) qg).trans (show _ = some (.int .i64 H3) from rfl)
    have eg2 := (Ba.cells_of (i := 2) qg).trans (show _ = some (.slice a5 n3 cap5) from rfl)
    have Qd := Lib.hid qd
    have ld := Ba.block_lt qd
    have ed0 := (Ba.cells_of (i := 0) qd).trans (show _ = some (.int .i64 W3) from rfl)
    have ed1 := (Ba.cells_of (i := 1) qd).trans (show _ = some (.int .i64 H3) from rfl)
    have ed2 := (Ba.cells_of (i := 2) qd).trans (show _ = some (.slice b5 n3 cbp5) from rfl)
    clear qa0 qs qt qx0 qg qd
    have RS := Lib.hid yS
    have RT := Lib.hid yT
    have RX0 := Lib.hid yX0
    have RG := Lib.hid yG
    have RD := Lib.hid yD
    clear yS yT yX0 yG yD
    have HBW := Lib.hid hbw
    clear hbw
    have HX := Lib.hid RX0.out.y
    have HW := Lib.hid (HY0.out.later HBW.out)
    go_wp2_with fail
    refine LooseP.wp_region 4 [(54, Ba.phi a0W a0H len0 c0)] (by kernel_rfl) (by kernel_rfl) (by simp [undef]) ?_
    apply Exists.intro
    simp only [List.take_succ_cons, List.take_zero, List.drop_succ_cons, List.drop_zero]
    have hst : ∀ p ∈ [((54 : Nat), Ba.phi a0W a0H len0 c0)], LooseP.Stable p.2 := by intro p hp; rw [List.mem_singleton.1 hp]; exact Ba.phi_stable _ _ _ _
    repeat (first | (apply Loose.walk_step; intro K hK; apply LooseP.turn_value (hwant := rfl) (hd := rfl); (focus (intro w' hw'; obtain ⟨hc, hf⟩ := Fl.bcell hw'; go_simp; first | done | rfl | exact ⟨rfl, rfl⟩)); go_simp; refine hK _ ?_; clear hK K) | (apply Loose.walk_step; intro K hK; refine LooseP.turn_callP (f := 17) (args := fun a => #[a.eval (.tmp 53)]) (V := fun v => ∃ a cap, v = Ba.bV a0W a0H a len0 cap) (φ := Ba.phi a0W a0H len0 c0) (d := 54) hst (Nat.le_refl _) rfl rfl (by intro p hp _; rw [List.mem_singleton.1 hp]) (by intro a' w'; go_simp; first | done | rfl | exact ⟨rfl, rfl⟩) ⟨_, none, 0, rfl⟩ ?_ ?_; (focus (intro a' w' _ hcl; go_simp; exact Ba.to_phi HW.out hcl.1 hbig0)); (intro v hv; obtain ⟨av, capv, rfl⟩ := hv; go_simp; refine hK _ ?_; clear hK K)) | (apply Loose.walk_step; intro K hK; refine LooseP.turn_call (f := 19) (args := fun a => #[a.eval (.tmp 52), a.eval (.tmp 54)]) (V := fun v => v = .bool true) hst (Nat.le_refl _) rfl rfl (by intro a' w'; go_simp; first | done | rfl | exact ⟨rfl, rfl⟩) ⟨_, rfl⟩ ?_ ?_; (focus (intro a' w' ha hcl; go_simp; exact Ba.eq_phi HX.out hcl (by simp) ha)); (intro v hv; obtain rfl := hv; go_simp; refine hK _ ?_; clear hK K)))
    refine Loose.walk_nil ?_
    intro w8 hcls8
    have hb8 := hcls8.1
    clear hcls8 hst
    clear HX HW
    have hz8 := hb8.size
    try simp only [World.size_alloc] at hz8
    have qa0 := Ba.keep_block hb8 Qa0.out
    have qs := Ba.keep_block hb8 Qs.out
    have qt := Ba.keep_block hb8 Qt.out
    have qx0 := Ba.keep_block hb8 Qx0.out
    have qg := Ba.keep_block hb8 Qg.out
    have qd := Ba.keep_block hb8 Qd.out
    have yS := (RS.out).later hb8
    have yT := (RT.out).later hb8
    have yX0 := (RX0.out).later hb8
    have yG := (RG.out).later hb8
    have yD := (RD.out).later hb8
    have hbw : Below w.heap.size w w8 := Below.trans HBW.out (hb8.mono (by first | omega | (simp; omega) | simp))
    clear Qa0 Qs Qt Qx0 Qg Qd la0 ls lt lx0 lg ld ea00 ea01 ea02 es0 es1 es2 et0 et1 et2 ex00 ex01 ex02 eg0 eg1 eg2 ed0 ed1 ed2 RS RT RX0 RG RD HBW
    clear hb8
    have Qa0 := Lib.hid qa0
    have la0 := Ba.block_lt qa0
    have ea00 := (Ba.cells_of (i := 0) qa0).trans (show _ = some (.int .i64 a0W) from rfl)
    have ea01 := (Ba.cells_of (i := 1) qa0).trans (show _ = some (.int .i64 a0H) from rfl)
    have ea02 := (Ba.cells_of (i := 2) qa0).trans (show _ = some (.slice a0 len0 cap0) from rfl)
    have Qs := Lib.hid qs
    have ls := Ba.block_lt qs
    have es0 := (Ba.cells_of (i := 0) qs).trans (show _ = some (.int .i64 W3) from rfl)
    have es1 := (Ba.cells_of (i := 1) qs).trans (show _ = some (.int .i64 H3) from rfl)
    have es2 := (Ba.cells_of (i := 2) qs).trans (show _ = some (.slice a3 n3 cap3) from rfl)
    have Qt := Lib.hid qt
    have lt := Ba.block_lt qt
    have et0 := (Ba.cells_of (i := 0) qt).trans (show _ = some (.int .i64 W3) from rfl)
    have et1 := (Ba.cells_of (i := 1) qt).trans (show _ = some (.int .i64 H3) from rfl)
    have et2 := (Ba.cells_of (i := 2) qt).trans (show _ = some (.slice b3 n3 cbp3) from rfl)
    have Qx0 := Lib.hid qx0
    have lx0 := Ba.block_lt qx0
    have ex00 := (Ba.cells_of (i := 0) qx0).trans (show _ = some (.int .i64 a0W) from rfl)
    have ex01 := (Ba.cells_of (i := 1) qx0).trans (show _ = some (.int .i64 a0H) from rfl)
    have ex02 := (Ba.cells_of (i := 2) qx0).trans (show _ = some (.slice a4 len0 cap4) from rfl)
    have Qg := Lib.hid qg
    have lg := Ba.block_lt qg
    have eg0 := (Ba.cells_of (i := 0) qg).trans (show _ = some (.int .i64 W3) from rfl)
    have eg1 := (Ba.cells_of (i := 1) qg).trans (show _ = some (.int .i64 H3) from rfl)
    have eg2 := (Ba.cells_of (i := 2) qg).trans (show _ = some (.slice a5 n3 cap5) from rfl)
    have Qd := Lib.hid qd
    have ld := Ba.block_lt qd
    have ed0 := (Ba.cells_of (i := 0) qd).trans (show _ = some (.int .i64 W3) from rfl)
    have ed1 := (Ba.cells_of (i := 1) qd).trans (show _ = some (.int .i64 H3) from rfl)
    have ed2 := (Ba.cells_of (i := 2) qd).trans (show _ = some (.slice b5 n3 cbp5) from rfl)
    clear qa0 qs qt qx0 qg qd
    have RS := Lib.hid yS
    have RT := Lib.hid yT
    have RX0 := Lib.hid yX0
    have RG := Lib.hid yG
    have RD := Lib.hid yD
    clear yS yT yX0 yG yD
    have HBW := Lib.hid hbw
    clear hbw
    go_wp2_with fail
    refine (Ba.mark_basin (w3.heap.size + 1 + 1) (w4.heap.size) _ _ a4 _ cap4 c0 1 (by omega) _ RX0.out hbig0 (by omega) (by omega)).mono ?_
    rintro e w9 ⟨rfl, hm9, hb9, hk9⟩
    rw [show (1 + (len0 : Int)) = p0 from HP0.out.symm]
    have hz9 := hb9.size
    try simp only [World.size_alloc] at hz9
    have qa0 := (hk9 _ (by omega) la0).trans Qa0.out
    have qs := (hk9 _ (by omega) ls).trans Qs.out
    have qt := (hk9 _ (by omega) lt).trans Qt.out
    have qx0 := (hk9 _ (by omega) lx0).trans Qx0.out
    have qg := (hk9 _ (by omega) lg).trans Qg.out
    have qd := (hk9 _ (by omega) ld).trans Qd.out
    have yS := RS.out.keep (fun g hg hgl hgs => hk9 g (by omega) hgs)
    have yT := RT.out.keep (fun g hg hgl hgs => hk9 g (by omega) hgs)
    have yG := RG.out.keep (fun g hg hgl hgs => hk9 g (by omega) hgs)
    have yD := RD.out.keep (fun g hg hgl hgs => hk9 g (by omega) hgs)
    have hbw : Below w.heap.size w w9 := HBW.out.trans (hb9.mono (by omega))
    clear Qa0 Qs Qt Qx0 Qg Qd la0 ls lt lx0 lg ld ea00 ea01 ea02 es0 es1 es2 et0 et1 et2 ex00 ex01 ex02 eg0 eg1 eg2 ed0 ed1 ed2 RS RT RX0 RG RD HBW
    clear hb9 hk9
    have mX0 := hm9
    clear hm9
    have Qa0 := Lib.hid qa0
    have la0 := Ba.block_lt qa0
    have ea00 := (Ba.cells_of (i := 0) qa0).trans (show _ = some (.int .i64 a0W) from rfl)
    have ea01 := (Ba.cells_of (i := 1) qa0).trans (show _ = some (.int .i64 a0H) from rfl)
    have ea02 := (Ba.cells_of (i := 2) qa0).trans (show _ = some (.slice a0 len0 cap0) from rfl)
    have Qs := Lib.hid qs
    have ls := Ba.block_lt qs
    have es0 := (Ba.cells_of (i := 0) qs).trans (show _ = some (.int .i64 W3) from rfl)
    have es1 := (Ba.cells_of (i := 1) qs).trans (show _ = some (.int .i64 H3) from rfl)
    have es2 := (Ba.cells_of (i := 2) qs).trans (show _ = some (.slice a3 n3 cap3) from rfl)
    have Qt := Lib.hid qt
    have lt := Ba.block_lt qt
    have et0 := (Ba.cells_of (i := 0) qt).trans (show _ = some (.int .i64 W3) from rfl)
    have et1 := (Ba.cells_of (i := 1) qt).trans (show _ = some (.int .i64 H3) from rfl)
    have et2 := (Ba.cells_of (i := 2) qt).trans (show _ = some (.slice b3 n3 cbp3) from rfl)
    have Qx0 := Lib.hid qx0
    have lx0 := Ba.block_lt qx0
    have ex00 := (Ba.cells_of (i := 0) qx0).trans (show _ = some (.int .i64 a0W) from rfl)
    have ex01 := (Ba.cells_of (i := 1) qx0).trans (show _ = some (.int .i64 a0H) from rfl)
    have ex02 := (Ba.cells_of (i := 2) qx0).trans (show _ = some (.slice a4 len0 cap4) from rfl)
    have Qg := Lib.hid qg
    have lg := Ba.block_lt qg
    have eg0 := (Ba.cells_of (i := 0) qg).trans (show _ = some (.int .i64 W3) from rfl)
    have eg1 := (Ba.cells_of (i := 1) qg).trans (show _ = some (.int .i64 H3) from rfl)
    have eg2 := (Ba.cells_of (i := 2) qg).trans (show _ = some (.slice a5 n3 cap5) from rfl)
    have Qd := Lib.hid qd
    have ld := Ba.block_lt qd
    have ed0 := (Ba.cells_of (i := 0) qd).trans (show _ = some (.int .i64 W3) from rfl)
    have ed1 := (Ba.cells_of (i := 1) qd).trans (show _ = some (.int .i64 H3) from rfl)
    have ed2 := (Ba.cells_of (i := 2) qd).trans (show _ = some (.slice b5 n3 cbp5) from rfl)
    clear qa0 qs qt qx0 qg qd
    have RS := Lib.hid yS
    have RT := Lib.hid yT
    have RG := Lib.hid yG
    have RD := Lib.hid yD
    have MX0 := Lib.hid mX0
    clear yS yT yG yD mX0
    have HBW := Lib.hid hbw
    clear hbw
    go_wp2_with fail
    refine (Ba.eq_basin _ _ a5 a3 _ cap5 cap3 f3 _ (RG.out).y (RS.out).y).mono ?_
    rintro e w10 ⟨rfl, hb10⟩
    have hz10 := hb10.size
    try simp only [World.size_alloc] at hz10
    have qa0 := Ba.keep_block hb10 Qa0.out
    have qs := Ba.keep_block hb10 Qs.out
    have qt := Ba.keep_block hb10 Qt.out
    have qx0 := Ba.keep_block hb10 Qx0.out
    have qg := Ba.keep_block hb10 Qg.out
    have qd := Ba.keep_block hb10 Qd.out
    have yS := (RS.out).later hb10
    have yT := (RT.out).later hb10
    have yG := (RG.out).later hb10
    have yD := (RD.out).later hb10
    have mX0 := (MX0.out).on hb10
    have hbw : Below w.heap.size w w10 := Below.trans HBW.out (hb10.mono (by first | omega | (simp; omega) | simp))
    clear Qa0 Qs Qt Qx0 Qg Qd la0 ls lt lx0 lg ld ea00 ea01 ea02 es0 es1 es2 et0 et1 et2 ex00 ex01 ex02 eg0 eg1 eg2 ed0 ed1 ed2 RS RT RG RD MX0 HBW
    clear hb10
    have Qa0 := Lib.hid qa0
    have la0 := Ba.block_lt qa0
    have ea00 := (Ba.cells_of (i := 0) qa0).trans (show _ = some (.int .i64 a0W) from rfl)
    have ea01 := (Ba.cells_of (i := 1) qa0).trans (show _ = some (.int .i64 a0H) from rfl)
    have ea02 := (Ba.cells_of (i := 2) qa0).trans (show _ = some (.slice a0 len0 cap0) from rfl)
    have Qs := Lib.hid qs
    have ls := Ba.block_lt qs
    have es0 := (Ba.cells_of (i := 0) qs).trans (show _ = some (.int .i64 W3) from rfl)
    have es1 := (Ba.cells_of (i := 1) qs).trans (show _ = some (.int .i64 H3) from rfl)
    have es2 := (Ba.cells_of (i := 2) qs).trans (show _ = some (.slice a3 n3 cap3) from rfl)
    have Qt := Lib.hid qt
    have lt := Ba.block_lt qt
    have et0 := (Ba.cells_of (i := 0) qt).trans (show _ = some (.int .i64 W3) from rfl)
    have et1 := (Ba.cells_of (i := 1) qt).trans (show _ = some (.int .i64 H3) from rfl)
    have et2 := (Ba.cells_of (i := 2) qt).trans (show _ = some (.slice b3 n3 cbp3) from rfl)
    have Qx0 := Lib.hid qx0
    have lx0 := Ba.block_lt qx0
    have ex00 := (Ba.cells_of (i := 0) qx0).trans (show _ = some (.int .i64 a0W) from rfl)
    have ex01 := (Ba.cells_of (i := 1) qx0).trans (show _ = some (.int .i64 a0H) from rfl)
    have ex02 := (Ba.cells_of (i := 2) qx0).trans (show _ = some (.slice a4 len0 cap4) from rfl)
    have Qg := Lib.hid qg
    have lg := Ba.block_lt qg
    have eg0 := (Ba.cells_of (i := 0) qg).trans (show _ = some (.int .i64 W3) from rfl)
    have eg1 := (Ba.cells_of (i := 1) qg).trans (show _ = some (.int .i64 H3) from rfl)
    have eg2 := (Ba.cells_of (i := 2) qg).trans (show _ = some (.slice a5 n3 cap5) from rfl)
    have Qd := Lib.hid qd
    have ld := Ba.block_lt qd
    have ed0 := (Ba.cells_of (i := 0) qd).trans (show _ = some (.int .i64 W3) from rfl)
    have ed1 := (Ba.cells_of (i := 1) qd).trans (show _ = some (.int .i64 H3) from rfl)
    have ed2 := (Ba.cells_of (i := 2) qd).trans (show _ = some (.slice b5 n3 cbp5) from rfl)
    clear qa0 qs qt qx0 qg qd
    have RS := Lib.hid yS
    have RT := Lib.hid yT
    have RG := Lib.hid yG
    have RD := Lib.hid yD
    have MX0 := Lib.hid mX0
    clear yS yT yG yD mX0
    have HBW := Lib.hid hbw
    clear hbw
    go_wp2_with fail
    refine (Ba.eq_basin _ _ b5 b3 _ cbp5 cbp3 g3 _ (RD.out).y (RT.out).y).mono ?_
    rintro e w11 ⟨rfl, hb11⟩
    have hz11 := hb11.size
    try simp only [World.size_alloc] at hz11
    have qa0 := Ba.keep_block hb11 Qa0.out
    have qs := Ba.keep_block hb11 Qs.out
    have qt := Ba.keep_block hb11 Qt.out
    have qx0 := Ba.keep_block hb11 Qx0.out
    have qg := Ba.keep_block hb11 Qg.out
    have qd := Ba.keep_block hb11 Qd.out
    have yS := (RS.out).later hb11
    have yT := (RT.out).later hb11
    have yG := (RG.out).later hb11
    have yD := (RD.out).later hb11
    have mX0 := (MX0.out).on hb11
    have hbw : Below w.heap.size w w11 := Below.trans HBW.out (hb11.mono (by first | omega | (simp; omega) | simp))
    clear Qa0 Qs Qt Qx0 Qg Qd la0 ls lt lx0 lg ld ea00 ea01 ea02 es0 es1 es2 et0 et1 et2 ex00 ex01 ex02 eg0 eg1 eg2 ed0 ed1 ed2 RS RT RG RD MX0 HBW
    clear hb11
    have Qa0 := Lib.hid qa0
    have la0 := Ba.block_lt qa0
    have ea00 := (Ba.cells_of (i := 0) qa0).trans (show _ = some (.int .i64 a0W) from rfl)
    have ea01 := (Ba.cells_of (i := 1) qa0).trans (show _ = some (.int .i64 a0H) from rfl)
    have ea02 := (Ba.cells_of (i := 2) qa0).trans (show _ = some (.slice a0 len0 cap0) from rfl)
    have Qs := Lib.hid qs
    have ls := Ba.block_lt qs
    have es0 := (Ba.cells_of (i := 0) qs).trans (show _ = some (.int .i64 W3) from rfl)
    have es1 := (Ba.cells_of (i := 1) qs).trans (show _ = some (.int .i64 H3) from rfl)
    have es2 := (Ba.cells_of (i := 2) qs).trans (show _ = some (.slice a3 n3 cap3) from rfl)
    have Qt := Lib.hid qt
    have lt := Ba.block_lt qt
    have et0 := (Ba.cells_of (i := 0) qt).trans (show _ = some (.int .i64 W3) from rfl)
    have et1 := (Ba.cells_of (i := 1) qt).trans (show _ = some (.int .i64 H3) from rfl)
    have et2 := (Ba.cells_of (i := 2) qt).trans (show _ = some (.slice b3 n3 cbp3) from rfl)
    have Qx0 := Lib.hid qx0
    have lx0 := Ba.block_lt qx0
    have ex00 := (Ba.cells_of (i := 0) qx0).trans (show _ = some (.int .i64 a0W) from rfl)
    have ex01 := (Ba.cells_of (i := 1) qx0).trans (show _ = some (.int .i64 a0H) from rfl)
    have ex02 := (Ba.cells_of (i := 2) qx0).trans (show _ = some (.slice a4 len0 cap4) from rfl)
    have Qg := Lib.hid qg
    have lg := Ba.block_lt qg
    have eg0 := (Ba.cells_of (i := 0) qg).trans (show _ = some (.int .i64 W3) from rfl)
    have eg1 := (Ba.cells_of (i := 1) qg).trans (show _ = some (.int .i64 H3) from rfl)
    have eg2 := (Ba.cells_of (i := 2) qg).trans (show _ = some (.slice a5 n3 cap5) from rfl)
    have Qd := Lib.hid qd
    have ld := Ba.block_lt qd
    have ed0 := (Ba.cells_of (i := 0) qd).trans (show _ = some (.int .i64 W3) from rfl)
    have ed1 := (Ba.cells_of (i := 1) qd).trans (show _ = some (.int .i64 H3) from rfl)
    have ed2 := (Ba.cells_of (i := 2) qd).trans (show _ = some (.slice b5 n3 cbp5) from rfl)
    clear qa0 qs qt qx0 qg qd
    have RS := Lib.hid yS
    have RT := Lib.hid yT
    have RG := Lib.hid yG
    have RD := Lib.hid yD
    have MX0 := Lib.hid mX0
    clear yS yT yG yD mX0
    have HBW := Lib.hid hbw
    clear hbw
    go_wp2_with fail
    refine (Ba.mark_basin (w4.heap.size + 1) (L5) _ _ a5 _ cap5 f3 1 (by omega) _ RG.out (by omega) (by omega) (by omega)).mono ?_
    rintro e w12 ⟨rfl, hm12, hb12, hk12⟩
    rw [show (1 + (n3 : Int)) = q from HQ.out.symm]
    have hz12 := hb12.size
    try simp only [World.size_alloc] at hz12
    have qa0 := (hk12 _ (by omega) la0).trans Qa0.out
    have qs := (hk12 _ (by omega) ls).trans Qs.out
    have qt := (hk12 _ (by omega) lt).trans Qt.out
    have qx0 := (hk12 _ (by omega) lx0).trans Qx0.out
    have qg := (hk12 _ (by omega) lg).trans Qg.out
    have qd := (hk12 _ (by omega) ld).trans Qd.out
    have yS := RS.out.keep (fun g hg hgl hgs => hk12 g (by omega) hgs)
    have yT := RT.out.keep (fun g hg hgl hgs => hk12 g (by omega) hgs)
    have yD := RD.out.keep (fun g hg hgl hgs => hk12 g (by omega) hgs)
    have mX0 := MX0.out.keep (fun g hg hgl hgs => hk12 g (by omega) hgs)
    have hbw : Below w.heap.size w w12 := HBW.out.trans (hb12.mono (by omega))
    clear Qa0 Qs Qt Qx0 Qg Qd la0 ls lt lx0 lg ld ea00 ea01 ea02 es0 es1 es2 et0 et1 et2 ex00 ex01 ex02 eg0 eg1 eg2 ed0 ed1 ed2 RS RT RG RD MX0 HBW
    clear hb12 hk12
    have mG := hm12
    clear hm12
    have Qa0 := Lib.hid qa0
    have la0 := Ba.block_lt qa0
    have ea00 := (Ba.cells_of (i := 0) qa0).trans (show _ = some (.int .i64 a0W) from rfl)
    have ea01 := (Ba.cells_of (i := 1) qa0).trans (show _ = some (.int .i64 a0H) from rfl)
    have ea02 := (Ba.cells_of (i := 2) qa0).trans (show _ = some (.slice a0 len0 cap0) from rfl)
    have Qs := Lib.hid qs
    have ls := Ba.block_lt qs
    have es0 := (Ba.cells_of (i := 0) qs).trans (show _ = some (.int .i64 W3) from rfl)
    have es1 := (Ba.cells_of (i := 1) qs).trans (show _ = some (.int .i64 H3) from rfl)
    have es2 := (Ba.cells_of (i := 2) qs).trans (show _ = some (.slice a3 n3 cap3) from rfl)
    have Qt := Lib.hid qt
    have lt := Ba.block_lt qt
    have et0 := (Ba.cells_of (i := 0) qt).trans (show _ = some (.int .i64 W3) from rfl)
    have et1 := (Ba.cells_of (i := 1) qt).trans (show _ = some (.int .i64 H3) from rfl)
    have et2 := (Ba.cells_of (i := 2) qt).trans (show _ = some (.slice b3 n3 cbp3) from rfl)
    have Qx0 := Lib.hid qx0
    have lx0 := Ba.block_lt qx0
    have ex00 := (Ba.cells_of (i := 0) qx0).trans (show _ = some (.int .i64 a0W) from rfl)
    have ex01 := (Ba.cells_of (i := 1) qx0).trans (show _ = some (.int .i64 a0H) from rfl)
    have ex02 := (Ba.cells_of (i := 2) qx0).trans (show _ = some (.slice a4 len0 cap4) from rfl)
    have Qg := Lib.hid qg
    have lg := Ba.block_lt qg
    have eg0 := (Ba.cells_of (i := 0) qg).trans (show _ = some (.int .i64 W3) from rfl)
    have eg1 := (Ba.cells_of (i := 1) qg).trans (show _ = some (.int .i64 H3) from rfl)
    have eg2 := (Ba.cells_of (i := 2) qg).trans (show _ = some (.slice a5 n3 cap5) from rfl)
    have Qd := Lib.hid qd
    have ld := Ba.block_lt qd
    have ed0 := (Ba.cells_of (i := 0) qd).trans (show _ = some (.int .i64 W3) from rfl)
    have ed1 := (Ba.cells_of (i := 1) qd).trans (show _ = some (.int .i64 H3) from rfl)
    have ed2 := (Ba.cells_of (i := 2) qd).trans (show _ = some (.slice b5 n3 cbp5) from rfl)
    clear qa0 qs qt qx0 qg qd
    have RS := Lib.hid yS
    have RT := Lib.hid yT
    have RD := Lib.hid yD
    have MX0 := Lib.hid mX0
    have MG := Lib.hid mG
    clear yS yT yD mX0 mG
    have HBW := Lib.hid hbw
    clear hbw
    go_wp2_with fail
    refine (Ba.mark_basin (L5) (w5.heap.size) _ _ b5 _ cbp5 g3 q (by omega) _ RD.out (by omega) (by omega) (by omega)).mono ?_
    rintro e w13 ⟨rfl, hm13, hb13, hk13⟩
    rw [show (q + (n3 : Int)) = q1 from HQ1.out.symm]
    have hz13 := hb13.size
    try simp only [World.size_alloc] at hz13
    have qa0 := (hk13 _ (by omega) la0).trans Qa0.out
    have qs := (hk13 _ (by omega) ls).trans Qs.out
    have qt := (hk13 _ (by omega) lt).trans Qt.out
    have qx0 := (hk13 _ (by omega) lx0).trans Qx0.out
    have qg := (hk13 _ (by omega) lg).trans Qg.out
    have qd := (hk13 _ (by omega) ld).trans Qd.out
    have yS := RS.out.keep (fun g hg hgl hgs => hk13 g (by omega) hgs)
    have yT := RT.out.keep (fun g hg hgl hgs => hk13 g (by omega) hgs)
    have mX0 := MX0.out.keep (fun g hg hgl hgs => hk13 g (by omega) hgs)
    have mG := MG.out.keep (fun g hg hgl hgs => hk13 g (by omega) hgs)
    have hbw : Below w.heap.size w w13 := HBW.out.trans (hb13.mono (by omega))
    clear Qa0 Qs Qt Qx0 Qg Qd la0 ls lt lx0 lg ld ea00 ea01 ea02 es0 es1 es2 et0 et1 et2 ex00 ex01 ex02 eg0 eg1 eg2 ed0 ed1 ed2 RS RT RD MX0 MG HBW
    clear hb13 hk13
    have mD := hm13
    clear hm13
    have Qa0 := Lib.hid qa0
    have la0 := Ba.block_lt qa0
    have ea00 := (Ba.cells_of (i := 0) qa0).trans (show _ = some (.int .i64 a0W) from rfl)
    have ea01 := (Ba.cells_of (i := 1) qa0).trans (show _ = some (.int .i64 a0H) from rfl)
    have ea02 := (Ba.cells_of (i := 2) qa0).trans (show _ = some (.slice a0 len0 cap0) from rfl)
    have Qs := Lib.hid qs
    have ls := Ba.block_lt qs
    have es0 := (Ba.cells_of (i := 0) qs).trans (show _ = some (.int .i64 W3) from rfl)
    have es1 := (Ba.cells_of (i := 1) qs).trans (show _ = some (.int .i64 H3) from rfl)
    have es2 := (Ba.cells_of (i := 2) qs).trans (show _ = some (.slice a3 n3 cap3) from rfl)
    have Qt := Lib.hid qt
    have lt := Ba.block_lt qt
    have et0 := (Ba.cells_of (i := 0) qt).trans (show _ = some (.int .i64 W3) from rfl)
    have et1 := (Ba.cells_of (i := 1) qt).trans (show _ = some (.int .i64 H3) from rfl)
    have et2 := (Ba.cells_of (i := 2) qt).trans (show _ = some (.slice b3 n3 cbp3) from rfl)
    have Qx0 := Lib.hid qx0
    have lx0 := Ba.block_lt qx0
    have ex00 := (Ba.cells_of (i := 0) qx0).trans (show _ = some (.int .i64 a0W) from rfl)
    have ex01 := (Ba.cells_of (i := 1) qx0).trans (show _ = some (.int .i64 a0H) from rfl)
    have ex02 := (Ba.cells_of (i := 2) qx0).trans (show _ = some (.slice a4 len0 cap4) from rfl)
    have Qg := Lib.hid qg
    have lg := Ba.block_lt qg
    have eg0 := (Ba.cells_of (i := 0) qg).trans (show _ = some (.int .i64 W3) from rfl)
    have eg1 := (Ba.cells_of (i := 1) qg).trans (show _ = some (.int .i64 H3) from rfl)
    have eg2 := (Ba.cells_of (i := 2) qg).trans (show _ = some (.slice a5 n3 cap5) from rfl)
    have Qd := Lib.hid qd
    have ld := Ba.block_lt qd
    have ed0 := (Ba.cells_of (i := 0) qd).trans (show _ = some (.int .i64 W3) from rfl)
    have ed1 := (Ba.cells_of (i := 1) qd).trans (show _ = some (.int .i64 H3) from rfl)
    have ed2 := (Ba.cells_of (i := 2) qd).trans (show _ = some (.slice b5 n3 cbp5) from rfl)
    clear qa0 qs qt qx0 qg qd
    have RS := Lib.hid yS
    have RT := Lib.hid yT
    have MX0 := Lib.hid mX0
    have MG := Lib.hid mG
    have MD := Lib.hid mD
    clear yS yT mX0 mG mD
    have HBW := Lib.hid hbw
    clear hbw
    go_wp2_with fail
    refine (Ba.held_basin _ _ _ _ a5 _ cap5 1 (by omega) _ MG.out).mono ?_
    rintro e w14 ⟨rfl, hb14⟩
    rw [show (1 + (n3 : Int)) = q from HQ.out.symm]
    have hz14 := hb14.size
    try simp only [World.size_alloc] at hz14
    have qa0 := Ba.keep_block hb14 Qa0.out
    have qs := Ba.keep_block hb14 Qs.out
    have qt := Ba.keep_block hb14 Qt.out
    have qx0 := Ba.keep_block hb14 Qx0.out
    have qg := Ba.keep_block hb14 Qg.out
    have qd := Ba.keep_block hb14 Qd.out
    have yS := (RS.out).later hb14
    have yT := (RT.out).later hb14
    have mX0 := (MX0.out).on hb14
    have mG := (MG.out).on hb14
    have mD := (MD.out).on hb14
    have hbw : Below w.heap.size w w14 := Below.trans HBW.out (hb14.mono (by first | omega | (simp; omega) | simp))
    clear Qa0 Qs Qt Qx0 Qg Qd la0 ls lt lx0 lg ld ea00 ea01 ea02 es0 es1 es2 et0 et1 et2 ex00 ex01 ex02 eg0 eg1 eg2 ed0 ed1 ed2 RS RT MX0 MG MD HBW
    clear hb14
    have Qa0 := Lib.hid qa0
    have la0 := Ba.block_lt qa0
    have ea00 := (Ba.cells_of (i := 0) qa0).trans (show _ = some (.int .i64 a0W) from rfl)
    have ea01 := (Ba.cells_of (i := 1) qa0).trans (show _ = some (.int .i64 a0H) from rfl)
    have ea02 := (Ba.cells_of (i := 2) qa0).trans (show _ = some (.slice a0 len0 cap0) from rfl)
    have Qs := Lib.hid qs
    have ls := Ba.block_lt qs
    have es0 := (Ba.cells_of (i := 0) qs).trans (show _ = some (.int .i64 W3) from rfl)
    have es1 := (Ba.cells_of (i := 1) qs).trans (show _ = some (.int .i64 H3) from rfl)
    have es2 := (Ba.cells_of (i := 2) qs).trans (show _ = some (.slice a3 n3 cap3) from rfl)
    have Qt := Lib.hid qt
    have lt := Ba.block_lt qt
    have et0 := (Ba.cells_of (i := 0) qt).trans (show _ = some (.int .i64 W3) from rfl)
    have et1 := (Ba.cells_of (i := 1) qt).trans (show _ = some (.int .i64 H3) from rfl)
    have et2 := (Ba.cells_of (i := 2) qt).trans (show _ = some (.slice b3 n3 cbp3) from rfl)
    have Qx0 := Lib.hid qx0
    have lx0 := Ba.block_lt qx0
    have ex00 := (Ba.cells_of (i := 0) qx0).trans (show _ = some (.int .i64 a0W) from rfl)
    have ex01 := (Ba.cells_of (i := 1) qx0).trans (show _ = some (.int .i64 a0H) from rfl)
    have ex02 := (Ba.cells_of (i := 2) qx0).trans (show _ = some (.slice a4 len0 cap4) from rfl)
    have Qg := Lib.hid qg
    have lg := Ba.block_lt qg
    have eg0 := (Ba.cells_of (i := 0) qg).trans (show _ = some (.int .i64 W3) from rfl)
    have eg1 := (Ba.cells_of (i := 1) qg).trans (show _ = some (.int .i64 H3) from rfl)
    have eg2 := (Ba.cells_of (i := 2) qg).trans (show _ = some (.slice a5 n3 cap5) from rfl)
    have Qd := Lib.hid qd
    have ld := Ba.block_lt qd
    have ed0 := (Ba.cells_of (i := 0) qd).trans (show _ = some (.int .i64 W3) from rfl)
    have ed1 := (Ba.cells_of (i := 1) qd).trans (show _ = some (.int .i64 H3) from rfl)
    have ed2 := (Ba.cells_of (i := 2) qd).trans (show _ = some (.slice b5 n3 cbp5) from rfl)
    clear qa0 qs qt qx0 qg qd
    have RS := Lib.hid yS
    have RT := Lib.hid yT
    have MX0 := Lib.hid mX0
    have MG := Lib.hid mG
    have MD := Lib.hid mD
    clear yS yT mX0 mG mD
    have HBW := Lib.hid hbw
    clear hbw
    go_wp2_with fail
    refine (Ba.held_basin _ _ _ _ b5 _ cbp5 q (by omega) _ MD.out).mono ?_
    rintro e w15 ⟨rfl, hb15⟩
    rw [show (q + (n3 : Int)) = q1 from HQ1.out.symm]
    have hz15 := hb15.size
    try simp only [World.size_alloc] at hz15
    have qa0 := Ba.keep_block hb15 Qa0.out
    have qs := Ba.keep_block hb15 Qs.out
    have qt := Ba.keep_block hb15 Qt.out
    have qx0 := Ba.keep_block hb15 Qx0.out
    have qg := Ba.keep_block hb15 Qg.out
    have qd := Ba.keep_block hb15 Qd.out
    have yS := (RS.out).later hb15
    have yT := (RT.out).later hb15
    have mX0 := (MX0.out).on hb15
    have mG := (MG.out).on hb15
    have mD := (MD.out).on hb15
    have hbw : Below w.heap.size w w15 := Below.trans HBW.out (hb15.mono (by first | omega | (simp; omega) | simp))
    clear Qa0 Qs Qt Qx0 Qg Qd la0 ls lt lx0 lg ld ea00 ea01 ea02 es0 es1 es2 et0 et1 et2 ex00 ex01 ex02 eg0 eg1 eg2 ed0 ed1 ed2 RS RT MX0 MG MD HBW
    clear hb15
    have Qa0 := Lib.hid qa0
    have la0 := Ba.block_lt qa0
    have ea00 := (Ba.cells_of (i := 0) qa0).trans (show _ = some (.int .i64 a0W) from rfl)
    have ea01 := (Ba.cells_of (i := 1) qa0).trans (show _ = some (.int .i64 a0H) from rfl)
    have ea02 := (Ba.cells_of (i := 2) qa0).trans (show _ = some (.slice a0 len0 cap0) from rfl)
    have Qs := Lib.hid qs
    have ls := Ba.block_lt qs
    have es0 := (Ba.cells_of (i := 0) qs).trans (show _ = some (.int .i64 W3) from rfl)
    have es1 := (Ba.cells_of (i := 1) qs).trans (show _ = some (.int .i64 H3) from rfl)
    have es2 := (Ba.cells_of (i := 2) qs).trans (show _ = some (.slice a3 n3 cap3) from rfl)
    have Qt := Lib.hid qt
    have lt := Ba.block_lt qt
    have et0 := (Ba.cells_of (i := 0) qt).trans (show _ = some (.int .i64 W3) from rfl)
    have et1 := (Ba.cells_of (i := 1) qt).trans (show _ = some (.int .i64 H3) from rfl)
    have et2 := (Ba.cells_of (i := 2) qt).trans (show _ = some (.slice b3 n3 cbp3) from rfl)
    have Qx0 := Lib.hid qx0
    have lx0 := Ba.block_lt qx0
    have ex00 := (Ba.cells_of (i := 0) qx0).trans (show _ = some (.int .i64 a0W) from rfl)
    have ex01 := (Ba.cells_of (i := 1) qx0).trans (show _ = some (.int .i64 a0H) from rfl)
    have ex02 := (Ba.cells_of (i := 2) qx0).trans (show _ = some (.slice a4 len0 cap4) from rfl)
    have Qg := Lib.hid qg
    have lg := Ba.block_lt qg
    have eg0 := (Ba.cells_of (i := 0) qg).trans (show _ = some (.int .i64 W3) from rfl)
    have eg1 := (Ba.cells_of (i := 1) qg).trans (show _ = some (.int .i64 H3) from rfl)
    have eg2 := (Ba.cells_of (i := 2) qg).trans (show _ = some (.slice a5 n3 cap5) from rfl)
    have Qd := Lib.hid qd
    have ld := Ba.block_lt qd
    have ed0 := (Ba.cells_of (i := 0) qd).trans (show _ = some (.int .i64 W3) from rfl)
    have ed1 := (Ba.cells_of (i := 1) qd).trans (show _ = some (.int .i64 H3) from rfl)
    have ed2 := (Ba.cells_of (i := 2) qd).trans (show _ = some (.slice b5 n3 cbp5) from rfl)
    clear qa0 qs qt qx0 qg qd
    have RS := Lib.hid yS
    have RT := Lib.hid yT
    have MX0 := Lib.hid mX0
    have MG := Lib.hid mG
    have MD := Lib.hid mD
    clear yS yT mX0 mG mD
    have HBW := Lib.hid hbw
    clear hbw
    go_wp2_with fail
    refine (HT0.out _ HBW.out).mono ?_
    rintro e w16 ⟨a16, cap16, rfl, ho16, hb16⟩
    have hz16 := hb16.size
    try simp only [World.size_alloc] at hz16
    have qa0 := Ba.keep_block hb16 Qa0.out
    have qs := Ba.keep_block hb16 Qs.out
    have qt := Ba.keep_block hb16 Qt.out
    have qx0 := Ba.keep_block hb16 Qx0.out
    have qg := Ba.keep_block hb16 Qg.out
    have qd := Ba.keep_block hb16 Qd.out
    have yS := (RS.out).later hb16
    have yT := (RT.out).later hb16
    have mX0 := (MX0.out).on hb16
    have mG := (MG.out).on hb16
    have mD := (MD.out).on hb16
    have hbw : Below w.heap.size w w16 := Below.trans HBW.out (hb16.mono (by first | omega | (simp; omega) | simp))
    clear Qa0 Qs Qt Qx0 Qg Qd la0 ls lt lx0 lg ld ea00 ea01 ea02 es0 es1 es2 et0 et1 et2 ex00 ex01 ex02 eg0 eg1 eg2 ed0 ed1 ed2 RS RT MX0 MG MD HBW
    clear hb16
    have Qa0 := Lib.hid qa0
    have la0 := Ba.block_lt qa0
    have ea00 := (Ba.cells_of (i := 0) qa0).trans (show _ = some (.int .i64 a0W) from rfl)
    have ea01 := (Ba.cells_of (i := 1) qa0).trans (show _ = some (.int .i64 a0H) from rfl)
    have ea02 := (Ba.cells_of (i := 2) qa0).trans (show _ = some (.slice a0 len0 cap0) from rfl)
    have Qs := Lib.hid qs
    have ls := Ba.block_lt qs
    have es0 := (Ba.cells_of (i := 0) qs).trans (show _ = some (.int .i64 W3) from rfl)
    have es1 := (Ba.cells_of (i := 1) qs).trans (show _ = some (.int .i64 H3) from rfl)
    have es2 := (Ba.cells_of (i := 2) qs).trans (show _ = some (.slice a3 n3 cap3) from rfl)
    have Qt := Lib.hid qt
    have lt := Ba.block_lt qt
    have et0 := (Ba.cells_of (i := 0) qt).trans (show _ = some (.int .i64 W3) from rfl)
    have et1 := (Ba.cells_of (i := 1) qt).trans (show _ = some (.int .i64 H3) from rfl)
    have et2 := (Ba.cells_of (i := 2) qt).trans (show _ = some (.slice b3 n3 cbp3) from rfl)
    have Qx0 := Lib.hid qx0
    have lx0 := Ba.block_lt qx0
    have ex00 := (Ba.cells_of (i := 0) qx0).trans (show _ = some (.int .i64 a0W) from rfl)
    have ex01 := (Ba.cells_of (i := 1) qx0).trans (show _ = some (.int .i64 a0H) from rfl)
    have ex02 := (Ba.cells_of (i := 2) qx0).trans (show _ = some (.slice a4 len0 cap4) from rfl)
    have Qg := Lib.hid qg
    have lg := Ba.block_lt qg
    have eg0 := (Ba.cells_of (i := 0) qg).trans (show _ = some (.int .i64 W3) from rfl)
    have eg1 := (Ba.cells_of (i := 1) qg).trans (show _ = some (.int .i64 H3) from rfl)
    have eg2 := (Ba.cells_of (i := 2) qg).trans (show _ = some (.slice a5 n3 cap5) from rfl)
    have Qd := Lib.hid qd
    have ld := Ba.block_lt qd
    have ed0 := (Ba.cells_of (i := 0) qd).trans (show _ = some (.int .i64 W3) from rfl)
    have ed1 := (Ba.cells_of (i := 1) qd).trans (show _ = some (.int .i64 H3) from rfl)
    have ed2 := (Ba.cells_of (i := 2) qd).trans (show _ = some (.slice b5 n3 cbp5) from rfl)
    clear qa0 qs qt qx0 qg qd
    have RS := Lib.hid yS
    have RT := Lib.hid yT
    have MX0 := Lib.hid mX0
    have MG := Lib.hid mG
    have MD := Lib.hid mD
    clear yS yT mX0 mG mD
    have HBW := Lib.hid hbw
    clear hbw
    have RC := Lib.hid ho16
    clear ho16
    go_wp2_with fail
    refine (HI.out a16 cap16 _ RC.out.y).mono ?_
    rintro e w17 ⟨a17, cap17, b17, cbp17, L17, rfl, ho17, hp17, hl17, hm17, hb17⟩
    have hz17 := hb17.size
    try simp only [World.size_alloc] at hz17
    have qa0 := Ba.keep_block hb17 Qa0.out
    have qs := Ba.keep_block hb17 Qs.out
    have qt := Ba.keep_block hb17 Qt.out
    have qx0 := Ba.keep_block hb17 Qx0.out
    have qg := Ba.keep_block hb17 Qg.out
    have qd := Ba.keep_block hb17 Qd.out
    have yS := (RS.out).later hb17
    have yT := (RT.out).later hb17
    have yC := (RC.out).later hb17
    have mX0 := (MX0.out).on hb17
    have mG := (MG.out).on hb17
    have mD := (MD.out).on hb17
    have hbw : Below w.heap.size w w17 := Below.trans HBW.out (hb17.mono (by first | omega | (simp; omega) | simp))
    clear Qa0 Qs Qt Qx0 Qg Qd la0 ls lt lx0 lg ld ea00 ea01 ea02 es0 es1 es2 et0 et1 et2 ex00 ex01 ex02 eg0 eg1 eg2 ed0 ed1 ed2 RS RT RC MX0 MG MD HBW
    clear hb17
    have Qa0 := Lib.hid qa0
    have la0 := Ba.block_lt qa0
    have ea00 := (Ba.cells_of (i := 0) qa0).trans (show _ = some (.int .i64 a0W) from rfl)
    have ea01 := (Ba.cells_of (i := 1) qa0).trans (show _ = some (.int .i64 a0H) from rfl)
    have ea02 := (Ba.cells_of (i := 2) qa0).trans (show _ = some (.slice a0 len0 cap0) from rfl)
    have Qs := Lib.hid qs
    have ls := Ba.block_lt qs
    have es0 := (Ba.cells_of (i := 0) qs).trans (show _ = some (.int .i64 W3) from rfl)
    have es1 := (Ba.cells_of (i := 1) qs).trans (show _ = some (.int .i64 H3) from rfl)
    have es2 := (Ba.cells_of (i := 2) qs).trans (show _ = some (.slice a3 n3 cap3) from rfl)
    have Qt := Lib.hid qt
    have lt := Ba.block_lt qt
    have et0 := (Ba.cells_of (i := 0) qt).trans (show _ = some (.int .i64 W3) from rfl)
    have et1 := (Ba.cells_of (i := 1) qt).trans (show _ = some (.int .i64 H3) from rfl)
    have et2 := (Ba.cells_of (i := 2) qt).trans (show _ = some (.slice b3 n3 cbp3) from rfl)
    have Qx0 := Lib.hid qx0
    have lx0 := Ba.block_lt qx0
    have ex00 := (Ba.cells_of (i := 0) qx0).trans (show _ = some (.int .i64 a0W) from rfl)
    have ex01 := (Ba.cells_of (i := 1) qx0).trans (show _ = some (.int .i64 a0H) from rfl)
    have ex02 := (Ba.cells_of (i := 2) qx0).trans (show _ = some (.slice a4 len0 cap4) from rfl)
    have Qg := Lib.hid qg
    have lg := Ba.block_lt qg
    have eg0 := (Ba.cells_of (i := 0) qg).trans (show _ = some (.int .i64 W3) from rfl)
    have eg1 := (Ba.cells_of (i := 1) qg).trans (show _ = some (.int .i64 H3) from rfl)
    have eg2 := (Ba.cells_of (i := 2) qg).trans (show _ = some (.slice a5 n3 cap5) from rfl)
    have Qd := Lib.hid qd
    have ld := Ba.block_lt qd
    have ed0 := (Ba.cells_of (i := 0) qd).trans (show _ = some (.int .i64 W3) from rfl)
    have ed1 := (Ba.cells_of (i := 1) qd).trans (show _ = some (.int .i64 H3) from rfl)
    have ed2 := (Ba.cells_of (i := 2) qd).trans (show _ = some (.slice b5 n3 cbp5) from rfl)
    clear qa0 qs qt qx0 qg qd
    have RS := Lib.hid yS
    have RT := Lib.hid yT
    have RC := Lib.hid yC
    have MX0 := Lib.hid mX0
    have MG := Lib.hid mG
    have MD := Lib.hid mD
    clear yS yT yC mX0 mG mD
    have HBW := Lib.hid hbw
    clear hbw
    try simp only [World.size_alloc] at hl17
    have RH := Lib.hid (ho17.wider (show w16.heap.size ≤ _ by simp) (Nat.le_refl _))
    have RE := Lib.hid hp17
    clear ho17 hp17
    clear RC
    go_wp2_with fail
    refine (Ba.eq_basin _ _ a17 a3 _ cap17 cap3 f3 _ (((RH.out.alloc _).alloc _)).y (((RS.out.alloc _).alloc _)).y).mono ?_
    rintro e w18 ⟨rfl, hb18⟩
    have hz18 := hb18.size
    try simp only [World.size_alloc] at hz18
    have qa0 := Ba.keep_block hb18 (Ba.alloc_block (Ba.alloc_block Qa0.out))
    have qs := Ba.keep_block hb18 (Ba.alloc_block (Ba.alloc_block Qs.out))
    have qt := Ba.keep_block hb18 (Ba.alloc_block (Ba.alloc_block Qt.out))
    have qx0 := Ba.keep_block hb18 (Ba.alloc_block (Ba.alloc_block Qx0.out))
    have qg := Ba.keep_block hb18 (Ba.alloc_block (Ba.alloc_block Qg.out))
    have qd := Ba.keep_block hb18 (Ba.alloc_block (Ba.alloc_block Qd.out))
    have qh : w18.heap[w17.heap.size]? = some (.cells #[.int .i64 W3, .int .i64 H3, .slice a17 n3 cap17] 33) := Ba.keep_block hb18 (Ba.alloc_block (Ba.new_block _ _))
    have qe : w18.heap[w17.heap.size + 1]? = some (.cells #[.int .i64 W3, .int .i64 H3, .slice b17 n3 cbp17] 33) := Ba.keep_block hb18 (by simpa using Ba.new_block ((w17).alloc (.cells #[.int .i64 W3, .int .i64 H3, .slice a17 n3 cap17] 33)) (.cells #[.int .i64 W3, .int .i64 H3, .slice b17 n3 cbp17] 33))
    have yS := (((RS.out.alloc _).alloc _)).later hb18
    have yT := (((RT.out.alloc _).alloc _)).later hb18
    have yH := (((RH.out.alloc _).alloc _)).later hb18
    have yE := (((RE.out.alloc _).alloc _)).later hb18
    have mX0 := (((MX0.out.alloc _).alloc _)).on hb18
    have mG := (((MG.out.alloc _).alloc _)).on hb18
    have mD := (((MD.out.alloc _).alloc _)).on hb18
    have hbw : Below w.heap.size w w18 := Below.trans (Below.alloc (Below.alloc HBW.out (by first | exact Nat.le_refl _ | omega | (simp; omega) | simp) _) (by first | exact Nat.le_refl _ | omega | (simp; omega) | simp) _) (hb18.mono (by first | omega | (simp; omega) | simp))
    clear Qa0 Qs Qt Qx0 Qg Qd la0 ls lt lx0 lg ld ea00 ea01 ea02 es0 es1 es2 et0 et1 et2 ex00 ex01 ex02 eg0 eg1 eg2 ed0 ed1 ed2 RS RT RH RE MX0 MG MD HBW
    clear hb18
    have Qa0 := Lib.hid qa0
    have la0 := Ba.block_lt qa0
    have ea00 := (Ba.cells_of (i := 0) qa0).trans (show _ = some (.int .i64 a0W) from rfl)
    have ea01 := (Ba.cells_of (i := 1) qa0).trans (show _ = some (.int .i64 a0H) from rfl)
    have ea02 := (Ba.cells_of (i := 2) qa0).trans (show _ = some (.slice a0 len0 cap0) from rfl)
    have Qs := Lib.hid qs
    have ls := Ba.block_lt qs
    have es0 := (Ba.cells_of (i := 0) qs).trans (show _ = some (.int .i64 W3) from rfl)
    have es1 := (Ba.cells_of (i := 1) qs).trans (show _ = some (.int .i64 H3) from rfl)
    have es2 := (Ba.cells_of (i := 2) qs).trans (show _ = some (.slice a3 n3 cap3) from rfl)
    have Qt := Lib.hid qt
    have lt := Ba.block_lt qt
    have et0 := (Ba.cells_of (i := 0) qt).trans (show _ = some (.int .i64 W3) from rfl)
    have et1 := (Ba.cells_of (i := 1) qt).trans (show _ = some (.int .i64 H3) from rfl)
    have et2 := (Ba.cells_of (i := 2) qt).trans (show _ = some (.slice b3 n3 cbp3) from rfl)
    have Qx0 := Lib.hid qx0
    have lx0 := Ba.block_lt qx0
    have ex00 := (Ba.cells_of (i := 0) qx0).trans (show _ = some (.int .i64 a0W) from rfl)
    have ex01 := (Ba.cells_of (i := 1) qx0).trans (show _ = some (.int .i64 a0H) from rfl)
    have ex02 := (Ba.cells_of (i := 2) qx0).trans (show _ = some (.slice a4 len0 cap4) from rfl)
    have Qg := Lib.hid qg
    have lg := Ba.block_lt qg
    have eg0 := (Ba.cells_of (i := 0) qg).trans (show _ = some (.int .i64 W3) from rfl)
    have eg1 := (Ba.cells_of (i := 1) qg).trans (show _ = some (.int .i64 H3) from rfl)
    have eg2 := (Ba.cells_of (i := 2) qg).trans (show _ = some (.slice a5 n3 cap5) from rfl)
    have Qd := Lib.hid qd
    have ld := Ba.block_lt qd
    have ed0 := (Ba.cells_of (i := 0) qd).trans (show _ = some (.int .i64 W3) from rfl)
    have ed1 := (Ba.cells_of (i := 1) qd).trans (show _ = some (.int .i64 H3) from rfl)
    have ed2 := (Ba.cells_of (i := 2) qd).trans (show _ = some (.slice b5 n3 cbp5) from rfl)
    have Qh := Lib.hid qh
    have lh := Ba.block_lt qh
    have eh0 := (Ba.cells_of (i := 0) qh).trans (show _ = some (.int .i64 W3) from rfl)
    have eh1 := (Ba.cells_of (i := 1) qh).trans (show _ = some (.int .i64 H3) from rfl)
    have eh2 := (Ba.cells_of (i := 2) qh).trans (show _ = some (.slice a17 n3 cap17) from rfl)
    have Qe := Lib.hid qe
    have le := Ba.block_lt qe
    have ee0 := (Ba.cells_of (i := 0) qe).trans (show _ = some (.int .i64 W3) from rfl)
    have ee1 := (Ba.cells_of (i := 1) qe).trans (show _ = some (.int .i64 H3) from rfl)
    have ee2 := (Ba.cells_of (i := 2) qe).trans (show _ = some (.slice b17 n3 cbp17) from rfl)
    clear qa0 qs qt qx0 qg qd qh qe
    have RS := Lib.hid yS
    have RT := Lib.hid yT
    have RH := Lib.hid yH
    have RE := Lib.hid yE
    have MX0 := Lib.hid mX0
    have MG := Lib.hid mG
    have MD := Lib.hid mD
    clear yS yT yH yE mX0 mG mD
    have HBW := Lib.hid hbw
    clear hbw
    go_wp2_with fail
    refine (Ba.eq_basin _ _ b17 b3 _ cbp17 cbp3 g3 _ (RE.out).y (RT.out).y).mono ?_
    rintro e w19 ⟨rfl, hb19⟩
    have hz19 := hb19.size
    try simp only [World.size_alloc] at hz19
    have qa0 := Ba.keep_block hb19 Qa0.out
    have qs := Ba.keep_block hb19 Qs.out
    have qt := Ba.keep_block hb19 Qt.out
    have qx0 := Ba.keep_block hb19 Qx0.out
    have qg := Ba.keep_block hb19 Qg.out
    have qd := Ba.keep_block hb19 Qd.out
    have qh := Ba.keep_block hb19 Qh.out
    have qe := Ba.keep_block hb19 Qe.out
    have yS := (RS.out).later hb19
    have yT := (RT.out).later hb19
    have yH := (RH.out).later hb19
    have yE := (RE.out).later hb19
    have mX0 := (MX0.out).on hb19
    have mG := (MG.out).on hb19
    have mD := (MD.out).on hb19
    have hbw : Below w.heap.size w w19 := Below.trans HBW.out (hb19.mono (by first | omega | (simp; omega) | simp))
    clear Qa0 Qs Qt Qx0 Qg Qd Qh Qe la0 ls lt lx0 lg ld lh le ea00 ea01 ea02 es0 es1 es2 et0 et1 et2 ex00 ex01 ex02 eg0 eg1 eg2 ed0 ed1 ed2 eh0 eh1 eh2 ee0 ee1 ee2 RS RT RH RE MX0 MG MD HBW
    clear hb19
    have Qa0 := Lib.hid qa0
    have la0 := Ba.block_lt qa0
    have ea00 := (Ba.cells_of (i := 0) qa0).trans (show _ = some (.int .i64 a0W) from rfl)
    have ea01 := (Ba.cells_of (i := 1) qa0).trans (show _ = some (.int .i64 a0H) from rfl)
    have ea02 := (Ba.cells_of (i := 2) qa0).trans (show _ = some (.slice a0 len0 cap0) from rfl)
    have Qs := Lib.hid qs
    have ls := Ba.block_lt qs
    have es0 := (Ba.cells_of (i := 0) qs).trans (show _ = some (.int .i64 W3) from rfl)
    have es1 := (Ba.cells_of (i := 1) qs).trans (show _ = some (.int .i64 H3) from rfl)
    have es2 := (Ba.cells_of (i := 2) qs).trans (show _ = some (.slice a3 n3 cap3) from rfl)
    have Qt := Lib.hid qt
    have lt := Ba.block_lt qt
    have et0 := (Ba.cells_of (i := 0) qt).trans (show _ = some (.int .i64 W3) from rfl)
    have et1 := (Ba.cells_of (i := 1) qt).trans (show _ = some (.int .i64 H3) from rfl)
    have et2 := (Ba.cells_of (i := 2) qt).trans (show _ = some (.slice b3 n3 cbp3) from rfl)
    have Qx0 := Lib.hid qx0
    have lx0 := Ba.block_lt qx0
    have ex00 := (Ba.cells_of (i := 0) qx0).trans (show _ = some (.int .i64 a0W) from rfl)
    have ex01 := (Ba.cells_of (i := 1) qx0).trans (show _ = some (.int .i64 a0H) from rfl)
    have ex02 := (Ba.cells_of (i := 2) qx0).trans (show _ = some (.slice a4 len0 cap4) from rfl)
    have Qg := Lib.hid qg
    have lg := Ba.block_lt qg
    have eg0 := (Ba.cells_of (i := 0) qg).trans (show _ = some (.int .i64 W3) from rfl)
    have eg1 := (Ba.cells_of (i := 1) qg).trans (show _ = some (.int .i64 H3) from rfl)
    have eg2 := (Ba.cells_of (i := 2) qg).trans (show _ = some (.slice a5 n3 cap5) from rfl)
    have Qd := Lib.hid qd
    have ld := Ba.block_lt qd
    have ed0 := (Ba.cells_of (i := 0) qd).trans (show _ = some (.int .i64 W3) from rfl)
    have ed1 := (Ba.cells_of (i := 1) qd).trans (show _ = some (.int .i64 H3) from rfl)
    have ed2 := (Ba.cells_of (i := 2) qd).trans (show _ = some (.slice b5 n3 cbp5) from rfl)
    have Qh := Lib.hid qh
    have lh := Ba.block_lt qh
    have eh0 := (Ba.cells_of (i := 0) qh).trans (show _ = some (.int .i64 W3) from rfl)
    have eh1 := (Ba.cells_of (i := 1) qh).trans (show _ = some (.int .i64 H3) from rfl)
    have eh2 := (Ba.cells_of (i := 2) qh).trans (show _ = some (.slice a17 n3 cap17) from rfl)
    have Qe := Lib.hid qe
    have le := Ba.block_lt qe
    have ee0 := (Ba.cells_of (i := 0) qe).trans (show _ = some (.int .i64 W3) from rfl)
    have ee1 := (Ba.cells_of (i := 1) qe).trans (show _ = some (.int .i64 H3) from rfl)
    have ee2 := (Ba.cells_of (i := 2) qe).trans (show _ = some (.slice b17 n3 cbp17) from rfl)
    clear qa0 qs qt qx0 qg qd qh qe
    have RS := Lib.hid yS
    have RT := Lib.hid yT
    have RH := Lib.hid yH
    have RE := Lib.hid yE
    have MX0 := Lib.hid mX0
    have MG := Lib.hid mG
    have MD := Lib.hid mD
    clear yS yT yH yE mX0 mG mD
    have HBW := Lib.hid hbw
    clear hbw
    go_wp2_with fail
    refine (Ba.held_basin _ _ _ _ a5 _ cap5 1 (by omega) _ MG.out).mono ?_
    rintro e w20 ⟨rfl, hb20⟩
    rw [show (1 + (n3 : Int)) = q from HQ.out.symm]
    have hz20 := hb20.size
    try simp only [World.size_alloc] at hz20
    have qa0 := Ba.keep_block hb20 Qa0.out
    have qs := Ba.keep_block hb20 Qs.out
    have qt := Ba.keep_block hb20 Qt.out
    have qx0 := Ba.keep_block hb20 Qx0.out
    have qg := Ba.keep_block hb20 Qg.out
    have qd := Ba.keep_block hb20 Qd.out
    have qh := Ba.keep_block hb20 Qh.out
    have qe := Ba.keep_block hb20 Qe.out
    have yS := (RS.out).later hb20
    have yT := (RT.out).later hb20
    have yH := (RH.out).later hb20
    have yE := (RE.out).later hb20
    have mX0 := (MX0.out).on hb20
    have mG := (MG.out).on hb20
    have mD := (MD.out).on hb20
    have hbw : Below w.heap.size w w20 := Below.trans HBW.out (hb20.mono (by first | omega | (simp; omega) | simp))
    clear Qa0 Qs Qt Qx0 Qg Qd Qh Qe la0 ls lt lx0 lg ld lh le ea00 ea01 ea02 es0 es1 es2 et0 et1 et2 ex00 ex01 ex02 eg0 eg1 eg2 ed0 ed1 ed2 eh0 eh1 eh2 ee0 ee1 ee2 RS RT RH RE MX0 MG MD HBW
    clear hb20
    have Qa0 := Lib.hid qa0
    have la0 := Ba.block_lt qa0
    have ea00 := (Ba.cells_of (i := 0) qa0).trans (show _ = some (.int .i64 a0W) from rfl)
    have ea01 := (Ba.cells_of (i := 1) qa0).trans (show _ = some (.int .i64 a0H) from rfl)
    have ea02 := (Ba.cells_of (i := 2) qa0).trans (show _ = some (.slice a0 len0 cap0) from rfl)
    have Qs := Lib.hid qs
    have ls := Ba.block_lt qs
    have es0 := (Ba.cells_of (i := 0) qs).trans (show _ = some (.int .i64 W3) from rfl)
    have es1 := (Ba.cells_of (i := 1) qs).trans (show _ = some (.int .i64 H3) from rfl)
    have es2 := (Ba.cells_of (i := 2) qs).trans (show _ = some (.slice a3 n3 cap3) from rfl)
    have Qt := Lib.hid qt
    have lt := Ba.block_lt qt
    have et0 := (Ba.cells_of (i := 0) qt).trans (show _ = some (.int .i64 W3) from rfl)
    have et1 := (Ba.cells_of (i := 1) qt).trans (show _ = some (.int .i64 H3) from rfl)
    have et2 := (Ba.cells_of (i := 2) qt).trans (show _ = some (.slice b3 n3 cbp3) from rfl)
    have Qx0 := Lib.hid qx0
    have lx0 := Ba.block_lt qx0
    have ex00 := (Ba.cells_of (i := 0) qx0).trans (show _ = some (.int .i64 a0W) from rfl)
    have ex01 := (Ba.cells_of (i := 1) qx0).trans (show _ = some (.int .i64 a0H) from rfl)
    have ex02 := (Ba.cells_of (i := 2) qx0).trans (show _ = some (.slice a4 len0 cap4) from rfl)
    have Qg := Lib.hid qg
    have lg := Ba.block_lt qg
    have eg0 := (Ba.cells_of (i := 0) qg).trans (show _ = some (.int .i64 W3) from rfl)
    have eg1 := (Ba.cells_of (i := 1) qg).trans (show _ = some (.int .i64 H3) from rfl)
    have eg2 := (Ba.cells_of (i := 2) qg).trans (show _ = some (.slice a5 n3 cap5) from rfl)
    have Qd := Lib.hid qd
    have ld := Ba.block_lt qd
    have ed0 := (Ba.cells_of (i := 0) qd).trans (show _ = some (.int .i64 W3) from rfl)
    have ed1 := (Ba.cells_of (i := 1) qd).trans (show _ = some (.int .i64 H3) from rfl)
    have ed2 := (Ba.cells_of (i := 2) qd).trans (show _ = some (.slice b5 n3 cbp5) from rfl)
    have Qh := Lib.hid qh
    have lh := Ba.block_lt qh
    have eh0 := (Ba.cells_of (i := 0) qh).trans (show _ = some (.int .i64 W3) from rfl)
    have eh1 := (Ba.cells_of (i := 1) qh).trans (show _ = some (.int .i64 H3) from rfl)
    have eh2 := (Ba.cells_of (i := 2) qh).trans (show _ = some (.slice a17 n3 cap17) from rfl)
    have Qe := Lib.hid qe
    have le := Ba.block_lt qe
    have ee0 := (Ba.cells_of (i := 0) qe).trans (show _ = some (.int .i64 W3) from rfl)
    have ee1 := (Ba.cells_of (i := 1) qe).trans (show _ = some (.int .i64 H3) from rfl)
    have ee2 := (Ba.cells_of (i := 2) qe).trans (show _ = some (.slice b17 n3 cbp17) from rfl)
    clear qa0 qs qt qx0 qg qd qh qe
    have RS := Lib.hid yS
    have RT := Lib.hid yT
    have RH := Lib.hid yH
    have RE := Lib.hid yE
    have MX0 := Lib.hid mX0
    have MG := Lib.hid mG
    have MD := Lib.hid mD
    clear yS yT yH yE mX0 mG mD
    have HBW := Lib.hid hbw
    clear hbw
    go_wp2_with fail
    refine (Ba.held_basin _ _ _ _ b5 _ cbp5 q (by omega) _ MD.out).mono ?_
    rintro e w21 ⟨rfl, hb21⟩
    rw [show (q + (n3 : Int)) = q1 from HQ1.out.symm]
    have hz21 := hb21.size
    try simp only [World.size_alloc] at hz21
    have qa0 := Ba.keep_block hb21 Qa0.out
    have qs := Ba.keep_block hb21 Qs.out
    have qt := Ba.keep_block hb21 Qt.out
    have qx0 := Ba.keep_block hb21 Qx0.out
    have qg := Ba.keep_block hb21 Qg.out
    have qd := Ba.keep_block hb21 Qd.out
    have qh := Ba.keep_block hb21 Qh.out
    have qe := Ba.keep_block hb21 Qe.out
    have yS := (RS.out).later hb21
    have yT := (RT.out).later hb21
    have yH := (RH.out).later hb21
    have yE := (RE.out).later hb21
    have mX0 := (MX0.out).on hb21
    have mG := (MG.out).on hb21
    have mD := (MD.out).on hb21
    have hbw : Below w.heap.size w w21 := Below.trans HBW.out (hb21.mono (by first | omega | (simp; omega) | simp))
    clear Qa0 Qs Qt Qx0 Qg Qd Qh Qe la0 ls lt lx0 lg ld lh le ea00 ea01 ea02 es0 es1 es2 et0 et1 et2 ex00 ex01 ex02 eg0 eg1 eg2 ed0 ed1 ed2 eh0 eh1 eh2 ee0 ee1 ee2 RS RT RH RE MX0 MG MD HBW
    clear hb21
    have Qa0 := Lib.hid qa0
    have la0 := Ba.block_lt qa0
    have ea00 := (Ba.cells_of (i := 0) qa0).trans (show _ = some (.int .i64 a0W) from rfl)
    have ea01 := (Ba.cells_of (i := 1) qa0).trans (show _ = some (.int .i64 a0H) from rfl)
    have ea02 := (Ba.cells_of (i := 2) qa0).trans (show _ = some (.slice a0 len0 cap0) from rfl)
    have Qs := Lib.hid qs
    have ls := Ba.block_lt qs
    have es0 := (Ba.cells_of (i := 0) qs).trans (show _ = some (.int .i64 W3) from rfl)
    have es1 := (Ba.cells_of (i := 1) qs).trans (show _ = some (.int .i64 H3) from rfl)
    have es2 := (Ba.cells_of (i := 2) qs).trans (show _ = some (.slice a3 n3 cap3) from rfl)
    have Qt := Lib.hid qt
    have lt := Ba.block_lt qt
    have et0 := (Ba.cells_of (i := 0) qt).trans (show _ = some (.int .i64 W3) from rfl)
    have et1 := (Ba.cells_of (i := 1) qt).trans (show _ = some (.int .i64 H3) from rfl)
    have et2 := (Ba.cells_of (i := 2) qt).trans (show _ = some (.slice b3 n3 cbp3) from rfl)
    have Qx0 := Lib.hid qx0
    have lx0 := Ba.block_lt qx0
    have ex00 := (Ba.cells_of (i := 0) qx0).trans (show _ = some (.int .i64 a0W) from rfl)
    have ex01 := (Ba.cells_of (i := 1) qx0).trans (show _ = some (.int .i64 a0H) from rfl)
    have ex02 := (Ba.cells_of (i := 2) qx0).trans (show _ = some (.slice a4 len0 cap4) from rfl)
    have Qg := Lib.hid qg
    have lg := Ba.block_lt qg
    have eg0 := (Ba.cells_of (i := 0) qg).trans (show _ = some (.int .i64 W3) from rfl)
    have eg1 := (Ba.cells_of (i := 1) qg).trans (show _ = some (.int .i64 H3) from rfl)
    have eg2 := (Ba.cells_of (i := 2) qg).trans (show _ = some (.slice a5 n3 cap5) from rfl)
    have Qd := Lib.hid qd
    have ld := Ba.block_lt qd
    have ed0 := (Ba.cells_of (i := 0) qd).trans (show _ = some (.int .i64 W3) from rfl)
    have ed1 := (Ba.cells_of (i := 1) qd).trans (show _ = some (.int .i64 H3) from rfl)
    have ed2 := (Ba.cells_of (i := 2) qd).trans (show _ = some (.slice b5 n3 cbp5) from rfl)
    have Qh := Lib.hid qh
    have lh := Ba.block_lt qh
    have eh0 := (Ba.cells_of (i := 0) qh).trans (show _ = some (.int .i64 W3) from rfl)
    have eh1 := (Ba.cells_of (i := 1) qh).trans (show _ = some (.int .i64 H3) from rfl)
    have eh2 := (Ba.cells_of (i := 2) qh).trans (show _ = some (.slice a17 n3 cap17) from rfl)
    have Qe := Lib.hid qe
    have le := Ba.block_lt qe
    have ee0 := (Ba.cells_of (i := 0) qe).trans (show _ = some (.int .i64 W3) from rfl)
    have ee1 := (Ba.cells_of (i := 1) qe).trans (show _ = some (.int .i64 H3) from rfl)
    have ee2 := (Ba.cells_of (i := 2) qe).trans (show _ = some (.slice b17 n3 cbp17) from rfl)
    clear qa0 qs qt qx0 qg qd qh qe
    have RS := Lib.hid yS
    have RT := Lib.hid yT
    have RH := Lib.hid yH
    have RE := Lib.hid yE
    have MX0 := Lib.hid mX0
    have MG := Lib.hid mG
    have MD := Lib.hid mD
    clear yS yT yH yE mX0 mG mD
    have HBW := Lib.hid hbw
    clear hbw
    go_wp2
    go_ret
    exact ⟨rfl, HBW.out⟩
  · go_enter Try.func4, Try.ntmps4
    go_wp2_with fail
    refine (Ba.sz_basin _ _ _ _ _ 1048576 _ hmx0 (by omega) (-1) (by rw [if_neg (by omega)])).mono ?_
    rintro e w1 ⟨rfl, hb1⟩
    go_wp2
    go_ret
    exact ⟨rfl, by (repeat' first | exact Below.refl _ _ | (refine Below.setCell ?_ (by first | omega | (simp; omega) | simp) _) | (refine below_drewN ?_ _) | (refine Below.alloc ?_ (by first | omega | (simp; omega) | simp) _) | (refine Below.trans ?_ (Below.mono (by assumption) (by first | omega | (simp; omega) | simp))))⟩

set_option maxRecDepth 100000 in
theorem lifted (os : Os) (started : os.Started) (H : Type) (enc : TypeId × Value → H) :
    ReturnsInHanded {} Try.checked os 4 .any (Rows.fnExactFlowsInBasinSpec.pre6 enc Try.prog Try.f4 Rows.fnExactFlowsInBasinRow.domain false) (Rows.fnExactFlowsInBasinSpec.post enc Try.prog Try.f4 false true false false) := by
  refine returnsInHanded_of_change (C := Try.checked) own started (by kernel_rfl) Try.func4
    (ChangeSpec.witness6 (enc := enc) (C := Try.checked) false ⟨#[], #[.agg #[.int .i64 0, .int .i64 0, .slice none 0 0]], []⟩ 8 (by kernel_rfl) (by kernel_rfl) (by kernel_rfl) (by kernel_rfl)) ?_
  intro W base args ds gs before hval0 hW hcnd _
  have hval : ∀ (j : Nat) t v, Try.f4.params[j]? = some t → args[j]? = some v → Value.okWide Try.prog W .any base t v := hval0
  have hW' := hW
  obtain ⟨p, q, hA0, hV, rfl, hfz, hnd⟩ := hW
  have hA : DataW.TrodAll enc Try.prog W 0 (fun _ => true) true Try.f4.params.toList args.toList ds p := hA0
  rw [Try.params4] at hA hval
  obtain ⟨v0, vs0, d0, ds0, p0, q0, hargs, rfl, rfl, h0, r0⟩ := trodAll_cons hA
  obtain ⟨rfl, rfl, rfl⟩ := trodAll_nil r0
  obtain rfl : args = #[v0] := by cases args; simp_all
  obtain ⟨rfl, rfl⟩ := trodVars_none hV
  have k0 := h0
  have lt0 : ∀ x ∈ p0, x.block < W.heap.size := by obtain ⟨m, hm⟩ := k0; exact DataW.trod_lt m _ _ _ hm
  obtain ⟨a0W, a0H, a0, len0, cap0, z0, rfl, w0⟩ := Ba.open_basin Try.underlying31 (by kernel_rfl) (by kernel_rfl) rfl rfl rfl Try.underlying2 Try.underlying29 Try.underlying22 (by kernel_rfl) (hval 0 31 v0 rfl rfl) h0
  clear hA0 hval0
  refine (walk a0W a0H a0 len0 cap0 z0 W w0).mono fun e W' ⟨he, bel⟩ => ?_
  subst he
  exact ⟨_, rfl, _, _, _, [], _, [], hW', trodAll_mk1 (shut_bool Try.underlying4 _), (trodAll_cons_mk (Below.trod laidOut (by kernel_rfl) (of_decide_eq_true (by kernel_rfl)) k0 bel lt0) trodAll_mk0), rfl, bel.frame _, fun h => by cases h⟩

theorem over : Rows.fnExactFlowsInBasinRow.holds Try.pinned (OpenSpec.ofChange Rows.fnExactFlowsInBasinSpec) :=
  OpenClaim.holds_of_wide 4 Try.f4 rfl rfl rfl rfl rfl rfl rfl ⟨rfl, rfl, rfl, rfl, rfl⟩ rfl rfl rfl rfl rfl (by kernel_rfl) Try.func4 (by kernel_rfl)
    (of_decide_eq_true (by kernel_rfl)) (by unfold Func.isWrapper; first | (rw [if_pos (by decide +kernel)]; kernel_rfl) | (rw [if_neg (by decide +kernel)]; exact ⟨rfl, rfl⟩))
    (fun os started H enc _ => lifted os started H enc)

/-- The statement. -/
theorem proved : Rows.FnExactFlowsInBasinSaid := over
#print axioms proved
end Go.Proofs.Ytjkkefbfhapblab.fnExactFlowsInBasin
