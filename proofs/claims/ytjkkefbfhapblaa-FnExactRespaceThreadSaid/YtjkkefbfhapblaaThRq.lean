/- Even points along a thread: the model's function. -/
import Derived.Test.YtjkkefbfhapblaaThRp
import Derived.Test.YtjkkefbfhapblaaThGr
namespace Go.Proofs.Ytjkkefbfhapblaa
set_option linter.unusedSimpArgs false
set_option linter.unusedVariables false
open Go.RowKit
set_option maxRecDepth 20000
namespace Th
open Fl Rate

theorem pos_len {L : Option Nat} (h : Pos.PosC .f32 L) : cmpC .gtr (ord .f32 L (some 0)) = cmpC .neq (ord .f32 L (some 0)) := by
  obtain ⟨b, rfl, hb, ⟨m, p, hn⟩ | hi⟩ := h
  · have e : ord .f32 (some b) (some 0) = (FloatKind.f32.decode b).order (FloatKind.f32.decode 0) := rfl
    rw [e, hn, show FloatKind.f32.decode 0 = .number false 0 (-149) from by decide +kernel]
    show cmpC .gtr (some (compare (Ieee.signed false m _) (Ieee.signed false 0 _))) = cmpC .neq (some (compare (Ieee.signed false m _) (Ieee.signed false 0 _)))
    unfold Ieee.signed
    simp only [Bool.false_eq_true, if_false, Nat.zero_shiftLeft]
    generalize m <<< _ = q
    by_cases hq : q = 0
    · subst hq; rfl
    · have : compare ((q : Nat) : Int) ((0 : Nat) : Int) = .gt := by
        rw [Int.compare_eq_gt]; omega
      rw [this]; rfl
  · rw [Pos.inf_word hb hi]; decide +kernel

theorem allV_at {f : Nat → Option Nat} {n : Nat} (h : allV f n = true) : ∀ j, j < n * 3 → finC (f j) = true := by
  induction n with
  | zero => intro j hj; omega
  | succ n ih =>
    have h' : (allV f n && (finC (f (n * 3)) && finC (f (n * 3 + 1)) && finC (f (n * 3 + 2)))) = true := h
    simp only [Bool.and_eq_true] at h'
    intro j hj
    by_cases h1 : j < n * 3
    · exact ih h'.1 j h1
    · have : j = n * 3 ∨ j = n * 3 + 1 ∨ j = n * 3 + 2 := by omega
      rcases this with rfl | rfl | rfl
      · exact h'.2.1.1
      · exact h'.2.1.2
      · exact h'.2.2

theorem long_pos {c : Nat → Option Nat} {n k : Nat} (h : allV c n = true) (hk : k < n) : Pos.PosC .f32 (longC c n k) := by
  have hf : ∀ j, j < n * 3 → finC (c j) = true := allV_at h
  have h1 := nx_lt hk
  exact Pos.siz_pos (Pos.num_sub (hf _ (by omega)) (hf _ (by omega))) (Pos.num_sub (hf _ (by omega)) (hf _ (by omega))) (Pos.num_sub (hf _ (by omega)) (hf _ (by omega)))

set_option maxHeartbeats 12800000 in
theorem spec_RespT (a : Option Addr) (n cap s : Nat) (cs : Option Nat) (c : Nat → Option Nat) (w : World) (h : IsV w a n cap c) (fs : Fr .f32 s cs) (m : Int) (A : Bool) (hA : okT n cs c = A) (R : Bool) (hR : (((A && finC (lenC c n n)) && cnB m) && allV (evenC c n m.toNat) m.toNat) = R) :
    Calls Try.prog 39 #[tV a n cap s, .int .i64 m] w (RetG R s m.toNat (evenC c n m.toNat) w) := by
  have HI2 := Lib.hid (fun G w' (hb : Below w.heap.size w w') e0 e1 => spec_is G a n cap s cs c w' e0 e1 (h.later hb) fs A hA)
  have HCN := Lib.hid (fun w => spec_in m 3 32 w)
  change Hid (∀ w, Calls Try.prog 85 #[.int .i64 m, .int .i64 3, .int .i64 32] w fun e w' => e = .returned (.bool (cnB m)) ∧ w = w') at HCN
  cases A
  · obtain rfl : R = false := by rw [← hR]; rfl
    clear hR hA h
    go_enter Try.func39, Try.ntmps39
    go_wp2_with fail
    refine (HI2.out _ _ (by (repeat' first | exact Below.refl _ _ | (refine Below.setCell ?_ (by first | omega | (simp; omega) | simp) _) | (refine below_drewN ?_ _) | (refine Below.alloc ?_ (by first | omega | (simp; omega) | simp) _) | (refine Below.trans ?_ (Below.mono (by assumption) (by first | omega | (simp; omega) | simp))))) (by simp) (by simp)).mono ?_
    rintro e w1 ⟨rfl, hb1⟩
    have hz1 := hb1.size
    try simp only [World.size_alloc, World.size_setCell, World.heap_drewN, World.size_drew] at hz1
    obtain ⟨hc1, hf1⟩ := Fl.bcell hb1
    try simp only [World.heap_drewN, World.cell?_drewN, World.frozen?_drewN] at hc1 hf1
    have g1_0 : w.heap.size < w1.heap.size := by omega
    have g1' : w.heap.size + 1 < w1.heap.size := by omega
    go_wp2
    refine bodyPost_ret ?ohr rfl (retG_no ?obel)
    case ohr => simp [results, Try.results39, go_sem, *]
    case obel => (repeat' first | exact Below.refl _ _ | (refine Below.setCell ?_ (by first | omega | (simp; omega) | simp) _) | (refine below_drewN ?_ _) | (refine Below.alloc ?_ (by first | omega | (simp; omega) | simp) _) | (refine Below.trans ?_ (Below.mono (by assumption) (by first | omega | (simp; omega) | simp))))
  cases hC : cnB m
  · rw [hC, Bool.and_false] at hR
    rw [hC] at HCN
    obtain rfl : R = false := by rw [← hR]; rfl
    clear hR hA h
    go_enter Try.func39, Try.ntmps39
    go_wp2_with fail
    refine (HI2.out _ _ (by (repeat' first | exact Below.refl _ _ | (refine Below.setCell ?_ (by first | omega | (simp; omega) | simp) _) | (refine below_drewN ?_ _) | (refine Below.alloc ?_ (by first | omega | (simp; omega) | simp) _) | (refine Below.trans ?_ (Below.mono (by assumption) (by first | omega | (simp; omega) | simp))))) (by simp) (by simp)).mono ?_
    rintro e w1 ⟨rfl, hb1⟩
    have hz1 := hb1.size
    try simp only [World.size_alloc, World.size_setCell, World.heap_drewN, World.size_drew] at hz1
    obtain ⟨hc1, hf1⟩ := Fl.bcell hb1
    try simp only [World.heap_drewN, World.cell?_drewN, World.frozen?_drewN] at hc1 hf1
    have g1_0 : w.heap.size < w1.heap.size := by omega
    have g1' : w.heap.size + 1 < w1.heap.size := by omega
    go_wp2_with (go_at_call 85; refine (HCN.out _).mono ?_; rintro e w2 ⟨rfl, rfl⟩)
    refine bodyPost_ret ?ohr rfl (retG_no ?obel)
    case ohr => simp [results, Try.results39, go_sem, *]
    case obel => (repeat' first | exact Below.refl _ _ | (refine Below.setCell ?_ (by first | omega | (simp; omega) | simp) _) | (refine below_drewN ?_ _) | (refine Below.alloc ?_ (by first | omega | (simp; omega) | simp) _) | (refine Below.trans ?_ (Below.mono (by assumption) (by first | omega | (simp; omega) | simp))))
  rw [hC] at hR HCN
  obtain ⟨hn3, hn32, hsf, hall⟩ := okT_of hA
  have HLE2 := Lib.hid (fun G w' (hb : Below w.heap.size w w') e0 => spec_len G a n cap c w' e0 (h.later hb) hn32)
  cases hG : finC (lenC c n n)
  · rw [hG] at hR
    obtain rfl : R = false := by rw [← hR]; rfl
    clear hR hA h
    go_enter Try.func39, Try.ntmps39
    go_wp2_with fail
    refine (HI2.out _ _ (by (repeat' first | exact Below.refl _ _ | (refine Below.setCell ?_ (by first | omega | (simp; omega) | simp) _) | (refine below_drewN ?_ _) | (refine Below.alloc ?_ (by first | omega | (simp; omega) | simp) _) | (refine Below.trans ?_ (Below.mono (by assumption) (by first | omega | (simp; omega) | simp))))) (by simp) (by simp)).mono ?_
    rintro e w1 ⟨rfl, hb1⟩
    have hz1 := hb1.size
    simp only [World.size_alloc] at hz1
    have qp := keep_block hb1 (alloc_block (o' := .cells #[.slice none 0 0, .float .f32 0] 33) (new_block w (.cells #[.slice a n cap, .float .f32 s] 33)))
    have q4 : w1.heap[w.heap.size + 1]? = some (.cells #[.slice none 0 0, .float .f32 0] 33) := keep_block hb1 (by simpa using new_block (w.alloc (.cells #[.slice a n cap, .float .f32 s] 33)) (.cells #[.slice none 0 0, .float .f32 0] 33))
    have e20 := (cells_of (i := 0) qp).trans (show _ = some (.slice a n cap) from rfl)
    have e21 := (cells_of (i := 1) qp).trans (show _ = some (.float .f32 s) from rfl)
    have hbw : Below w.heap.size w w1 := by (repeat' first | exact Below.refl _ _ | (refine Below.setCell ?_ (by first | omega | (simp; omega) | simp) _) | (refine below_drewN ?_ _) | (refine Below.alloc ?_ (by first | omega | (simp; omega) | simp) _) | (refine Below.trans ?_ (Below.mono (by assumption) (by first | omega | (simp; omega) | simp))))
    have HBW := Lib.hid hbw
    have lP := block_lt qp
    have l4 := block_lt q4
    have c40 := (cells_of (i := 0) q4).trans (show _ = some (.slice none 0 0) from rfl)
    have c41 := (cells_of (i := 1) q4).trans (show _ = some (.float .f32 0) from rfl)
    have f40 := free_of q4 0
    have f41 := free_of q4 1
    have Q4 := Lib.hid q4
    clear qp q4 hbw hb1
    clear c40 c41 f40 f41
    go_wp2_with (first | (go_at_call 85; refine (HCN.out _).mono ?_; rintro e w2 ⟨rfl, rfl⟩))
    refine (HLE2.out _ _ HBW.out e20).mono ?_
    rintro e w2 ⟨r1, rfl, fr1, hb2⟩
    have hz2 := hb2.size
    go_wp2_with fail
    refine (spec_fin r1 _ _ fr1).mono ?_
    rintro e w3 ⟨rfl, hb3⟩
    rw [hG]
    have hz3 := hb3.size
    have q4 := keep_block hb3 (keep_block hb2 Q4.out)
    have c40 := (cells_of (i := 0) q4).trans (show _ = some (.slice none 0 0) from rfl)
    have c41 := (cells_of (i := 1) q4).trans (show _ = some (.float .f32 0) from rfl)
    have f40 := free_of q4 0
    have f41 := free_of q4 1
    have l43 := block_lt q4
    have HB3 := Lib.hid (HBW.out.trans ((hb2.mono (by omega)).trans (hb3.mono (by omega))))
    clear q4 hb2 hb3 e20 e21
    go_wp2
    refine bodyPost_ret ?ohr rfl (retG_no ?obel)
    case ohr => simp [results, Try.results39, go_sem, *]
    case obel => exact Below.setCell (Below.setCell HB3.out (by simp) _) (by simp) _
  rw [hG] at hR
  have hNN : 3 ≤ m ∧ m ≤ 32 := by
    unfold cnB at hC
    simpa using hC
  obtain ⟨N, rfl⟩ : ∃ N : Nat, m = (N : Int) := ⟨m.toNat, by omega⟩
  rw [show (N : Int).toNat = N by simp] at hR ⊢
  have hR' : allV (evenC c n N) N = R := hR
  have hok : okT N cs (evenC c n N) = R := by
    unfold okT
    rw [hsf, hR', decide_eq_true (show (3 : Int) ≤ N by omega), decide_eq_true (show (N : Int) ≤ 32 by omega)]; rfl
  have HCH := Lib.hid (fun a cap w (h : IsV w a N cap (evenC c n N)) => spec_give a N cap s cs _ w h fs R hok)
  have HY := Lib.hid h
  have HPO := Lib.hid (fun k (hk : k < n) => long_pos hall hk)
  obtain ⟨s', hs'⟩ : ∃ s', (if R then s else 0) = s' := ⟨_, rfl⟩
  obtain ⟨N', hN'⟩ : ∃ N', (if R then N else 0) = N' := ⟨_, rfl⟩
  show Calls _ _ _ w (RetB R _ _ _ w)
  rw [hs', hN']
  have HR := Lib.hid (And.intro hs' hN')
  have HEV := Lib.hid (fun k r hr => evenC_at c n N k r hr)
  have HLE := Lib.hid (fun k => show leftC c n N k = op2 .mul .f32 (cl .f32 (floatOfInt .f32 (k : Int))) (op2 .quo .f32 (lenC c n n) (cl .f32 (floatOfInt .f32 (N : Int)))) from rfl)
  generalize evenC c n N = F at *
  generalize leftC c n N = LF at *
  generalize lenC c n n = L0 at *
  have fN := fl_int (N : Int)
  have z0 := z32
  have hN3 : 3 ≤ N := by omega
  have hN32 : N ≤ 32 := by omega
  have hn9 : (n : Int) ≤ 9223372036854775807 := by omega
  obtain ⟨i0, hI, hI0, hI1, hI2⟩ := info_v
  clear hC hA hR hR' hok hs' hN' h hNN hall
  go_enter Try.func39, Try.ntmps39
  go_wp2_with fail
  refine (HI2.out _ _ (by (repeat' first | exact Below.refl _ _ | (refine Below.setCell ?_ (by first | omega | (simp; omega) | simp) _) | (refine below_drewN ?_ _) | (refine Below.alloc ?_ (by first | omega | (simp; omega) | simp) _) | (refine Below.trans ?_ (Below.mono (by assumption) (by first | omega | (simp; omega) | simp))))) (by simp) (by simp)).mono ?_
  rintro e wa ⟨rfl, hba⟩
  have hza := hba.size
  simp only [World.size_alloc] at hza
  have qpa := keep_block hba (alloc_block (o' := .cells #[.slice none 0 0, .float .f32 0] 33) (new_block w (.cells #[.slice a n cap, .float .f32 s] 33)))
  have q4a : wa.heap[w.heap.size + 1]? = some (.cells #[.slice none 0 0, .float .f32 0] 33) := keep_block hba (by simpa using new_block (w.alloc (.cells #[.slice a n cap, .float .f32 s] 33)) (.cells #[.slice none 0 0, .float .f32 0] 33))
  have ea := (cells_of (i := 0) qpa).trans (show _ = some (.slice a n cap) from rfl)
  have hbwa : Below w.heap.size w wa := by (repeat' first | exact Below.refl _ _ | (refine Below.setCell ?_ (by first | omega | (simp; omega) | simp) _) | (refine below_drewN ?_ _) | (refine Below.alloc ?_ (by first | omega | (simp; omega) | simp) _) | (refine Below.trans ?_ (Below.mono (by assumption) (by first | omega | (simp; omega) | simp))))
  have HBWA := Lib.hid hbwa
  have QPA := Lib.hid (And.intro qpa q4a)
  clear qpa q4a hbwa hba
  go_wp2_with (first | (go_at_call 85; refine (HCN.out _).mono ?_; rintro e w2 ⟨rfl, rfl⟩))
  refine (HLE2.out _ _ HBWA.out ea).mono ?_
  rintro e wb ⟨r1, rfl, fr1, hbb⟩
  have hzb := hbb.size
  go_wp2_with fail
  refine (spec_fin r1 _ _ fr1).mono ?_
  rintro e w1 ⟨rfl, hbc⟩
  rw [hG]
  have hzc := hbc.size
  have qp1 := keep_block hbc (keep_block hbb QPA.out.1)
  have q41 := keep_block hbc (keep_block hbb QPA.out.2)
  have e20 := (cells_of (i := 0) qp1).trans (show _ = some (.slice a n cap) from rfl)
  have e21 := (cells_of (i := 1) qp1).trans (show _ = some (.float .f32 s) from rfl)
  have HBW := Lib.hid (HBWA.out.trans ((hbb.mono (by omega)).trans (hbc.mono (by omega))))
  have HE20 := Lib.hid e20
  have Q4 := Lib.hid q41
  have lP := block_lt qp1
  clear qp1 q41 hbb hbc ea
  go_wp2
  clear e20 e21
  go_loopw [8, 90] (fun i sl wr => ∃ (k : Nat) (v : Value) (xs : List Value), (∀ b, sl = .slice (some ⟨b, 0, none⟩) 1 1 → b < wr.heap.size) ∧ k ≤ N ∧ i = .int .i64 (k : Int) ∧ wr.heap[w1.heap.size + 1]? = some (.cells #[v, .float .f32 s] 33) ∧ wr.ownsRow w1.heap.size 28 3 v k xs ∧ FP (k * 3) F xs ∧ Below w1.heap.size w1 wr)
    (fun i _ _ => N - (intOf i).toNat)
  case atStart => exact ⟨0, _, [], by intro b hb; simp [undef] at hb, Nat.zero_le _, rfl, by simpa using new_block (w1.alloc (.cells #[] 28)) (.cells #[.slice (some ⟨w1.heap.size, 0, none⟩) 0 0, .float .f32 s] 33), own_below (World.ownsRow_made w1 #[] 0 (Nat.le_refl _) (Nat.zero_le _) rfl) ((Below.refl _ _).alloc (Nat.le_refl _) _), FP.nil _, ((Below.refl _ _).alloc (Nat.le_refl _) _).alloc (by simp) _⟩
  case round =>
    obtain ⟨k, v, xs, hsl, hk, rfl, hblk, hown, hpts, hbel⟩ := hrel
    have HSL0 := Lib.hid hsl
    have HBK := Lib.hid hblk
    have HO := Lib.hid hown
    have HP := Lib.hid hpts
    have HB := Lib.hid hbel
    have hbs := hbel.size
    clear hsl hblk hown hpts hbel
    by_cases hlt : k < N
    · have fk := fl_int (k : Int)
      go_wp2_with (first | (refine Fl.wpList_fl rfl rfl rfl rfl rfl fr1 fN ?_; intro rA nA fA) | (refine Fl.wpList_fl rfl rfl rfl rfl rfl fk fA ?_; intro rB nB fB))
      generalize hwf : World.drewN _ _ = wf
      have hbf : Below wr.heap.size wr wf := by rw [← hwf]; exact below_drewN (Below.refl _ _) _
      have hzf : wf.heap.size = wr.heap.size := by rw [← hwf]; rfl
      have fB' : Fr .f32 rB (LF k) := by rw [HLE.out]; exact fB
      have HSLF := Lib.hid (show ∀ b, u90 = .slice (some ⟨b, 0, none⟩) 1 1 → b < wf.heap.size by rw [hzf]; exact HSL0.out)
      have QBK := Lib.hid (keep_block hbf HBK.out)
      have OWK := Lib.hid (own_below HO.out hbf)
      have HBF0 := Lib.hid (HB.out.trans (hbf.mono hbs))
      clear hwf hbf fA fB fk
      go_loopw [10, 9, 11] (fun i f l wr => ∃ (i' q' : Nat) (G : Option Nat), i' < n ∧ i = .int .i64 (i' : Int) ∧ f = .float .f32 q' ∧ Fr .f32 q' G ∧ scanC c n (n - i') i' G = scanC c n n 0 (LF k) ∧ Below wf.heap.size wf wr)
        (fun i _ _ _ => n - (intOf i).toNat)
      case atStart => exact ⟨0, rB, LF k, by omega, rfl, rfl, fB', rfl, Below.refl _ _⟩
      case round =>
        obtain ⟨i, q', G, hi, rfl, rfl, fG, hsc, hb⟩ := hrel
        have HBI := Lib.hid hb
        have hbi := hb.size
        have er : wr.cell? ⟨w.heap.size, 0, none⟩ = some (.slice a n cap) := by rw [hb.cell (p := ⟨w.heap.size, 0, none⟩) (show w.heap.size < wf.heap.size by omega), HBF0.out.cell (p := ⟨w.heap.size, 0, none⟩) lP]; exact HE20.out
        have lPr : w.heap.size < wr.heap.size := by omega
        have HBR := Lib.hid (HBF0.out.trans (hb.mono HBF0.out.size))
        have hbr2 := HBR.out.size
        clear hb
        go_wp2_with fail
        refine (spec_ends w.heap.size a n cap i c _ er (HY.out.later (HBW.out.trans (HBR.out.mono (by omega)))) hi hn32).mono ?_
        rintro e w2 ⟨x, y, z, x', y', z', rfl, fx, fy, fz, fx', fy', fz', hb2⟩
        have hz2 := hb2.size
        go_wp2_with fail
        refine (Vec.spec_less _ _ _ _ _ _ _ _ _ _ _ _ _ fx' fy' fz' fx fy fz).mono ?_
        rintro e w3 ⟨x3, y3, z3, rfl, fx3, fy3, fz3, hb3⟩
        have hz3 := hb3.size
        simp only [World.size_alloc] at hz3
        go_wp2_with fail
        refine (Size.spec_size _ _ _ _ _ _ _ fx3 fy3 fz3).mono ?_
        rintro e w4 ⟨r4, rfl, hr4, hb4⟩
        have hz4 := hb4.size
        have hb24 : Below wr.heap.size wr w4 := Below.trans (Below.alloc (Below.alloc hb2 (by omega) _) (by simp; omega) _) ((hb3.mono (by simp; omega)).trans (hb4.mono (by omega)))
        obtain ⟨L, hL⟩ : ∃ L, longC c n i = L := ⟨_, rfl⟩
        have fL : Fr .f32 r4 L := by rw [← hL]; exact hr4
        have HPL := Lib.hid (show Pos.PosC .f32 L by rw [← hL]; exact HPO.out i hi)
        have e4 : w4.cell? ⟨w.heap.size, 0, none⟩ = some (.slice a n cap) := by rw [hb24.cell (p := ⟨w.heap.size, 0, none⟩) lPr]; exact er
        have HBF := Lib.hid (HBR.out.trans (hb24.mono (by omega)))
        have HBI4 := Lib.hid (HBI.out.trans (hb24.mono hbi))
        have lP4 : w.heap.size < w4.heap.size := by omega
        clear hb2 hb3 hb4 hb24 hr4 fx fy fz fx' fy' fz' fx3 fy3 fz3 er
        cases hB : cmpC .geq (ord .f32 L G)
        · by_cases hlast : i + 1 < n
          · have hne : ¬ (i : Int) = (n : Int) - 1 := by omega
            have HSC := Lib.hid (show scanC c n (n - (i + 1)) (i + 1) (op2 .sub .f32 G L) = scanC c n n 0 (LF k) by rw [← hsc, ← hL]; exact (scan_next (by rw [hL]; exact hB) hlast).symm)
            go_wp2_with (first | (refine Fl.wpList_cmp rfl rfl rfl rfl rfl fL fG ?_; try simp only [hB]) | (refine Fl.wpList_fl rfl rfl rfl rfl rfl fG fL ?_; intro rs nd fs))
            go_roundw
            case rel => exact ⟨i + 1, _, _, hlast, by go_num, rfl, fs, HSC.out, by first | exact HBI4.out | exact below_drewN HBI4.out _⟩
            case measure => simp [intOf]; omega
          · have heq : (n : Int) - 1 = (i : Int) := by omega
            have hRk : scanC c n n 0 (LF k) = (i, G) := by rw [← hsc]; exact scan_last hlast
            have HSL := Lib.hid (show ∀ b, u90 = .slice (some ⟨b, 0, none⟩) 1 1 → b < w4.heap.size from fun b hb => by have := HSLF.out b hb; omega)
            have QBF := Lib.hid (keep_block HBI4.out QBK.out)
            have OWF := Lib.hid (own_below OWK.out HBI4.out)
            go_wp2_with (first | (refine Fl.wpList_cmp rfl rfl rfl rfl rfl fL fG ?_; try simp only [hB]))
            have lWf : w.heap.size < w4.heap.size := by omega
            refine (spec_ends w.heap.size a n cap i c _ e4 (HY.out.later (HBW.out.trans (HBF.out.mono (by omega)))) hi hn32).mono ?_
            rintro e w5 ⟨x, y, z, x', y', z', rfl, fx, fy, fz, fx', fy', fz', hb5⟩
            have hz5 := hb5.size
            have HS5 := Lib.hid (keep_block hb5 QBF.out)
            have HO5 := Lib.hid (own_below OWF.out hb5)
            have HB5 := Lib.hid (HBF.out.trans (hb5.mono HBF.out.size))
            have E0 : F (k * 3) = op2 .add .f32 (c (i * 3)) (op2 .mul .f32 (op2 .sub .f32 (c (nx n i * 3)) (c (i * 3))) (shareC L G)) := by rw [show F (k * 3) = F (k * 3 + 0) from rfl, HEV.out k 0 (by omega)]; unfold pointC; rw [hRk]; unfold segC; rw [hL]; rfl
            have E1 : F (k * 3 + 1) = op2 .add .f32 (c (i * 3 + 1)) (op2 .mul .f32 (op2 .sub .f32 (c (nx n i * 3 + 1)) (c (i * 3 + 1))) (shareC L G)) := by rw [HEV.out k 1 (by omega)]; unfold pointC; rw [hRk]; unfold segC; rw [hL]
            have E2 : F (k * 3 + 2) = op2 .add .f32 (c (i * 3 + 2)) (op2 .mul .f32 (op2 .sub .f32 (c (nx n i * 3 + 2)) (c (i * 3 + 2))) (shareC L G)) := by rw [HEV.out k 2 (by omega)]; unfold pointC; rw [hRk]; unfold segC; rw [hL]
            clear hb5
            obtain ⟨wq, hwq⟩ : ∃ u, u = (w5.alloc (.cells #[.float .f32 x, .float .f32 y, .float .f32 z] 28)).alloc (.cells #[.float .f32 x', .float .f32 y', .float .f32 z'] 28) := ⟨_, rfl⟩
            have hbq : Below w5.heap.size w5 wq := by rw [hwq]; exact ((Below.refl _ _).alloc (Nat.le_refl _) _).alloc (by simp) _
            have r1 : wq.heap[w5.heap.size]? = some (.cells #[.float .f32 x, .float .f32 y, .float .f32 z] 28) := by rw [hwq]; exact alloc_block (new_block _ _)
            have r2 : wq.heap[w5.heap.size + 1]? = some (.cells #[.float .f32 x', .float .f32 y', .float .f32 z'] 28) := by rw [hwq]; simpa using new_block (w5.alloc (.cells #[.float .f32 x, .float .f32 y, .float .f32 z] 28)) (.cells #[.float .f32 x', .float .f32 y', .float .f32 z'] 28)
            have hzq : wq.heap.size = w5.heap.size + 2 := by rw [hwq]; simp
            have HQ12 := Lib.hid (And.intro r1 r2)
            have HBQ := Lib.hid hbq
            have HWQ := Lib.hid hwq
            clear hbq r1 r2 hwq
            have hpl := pos_len HPL.out
            cases hN : cmpC .neq (ord .f32 L (some 0))
            all_goals
              rw [hN] at hpl
              unfold shareC at E0 E1 E2
              rw [hN] at E0 E1 E2
              simp only [Bool.false_eq_true, if_false, if_true] at E0 E1 E2
            · go_wp2_with (first | (refine Fl.wpList_cmp rfl rfl rfl rfl rfl fL z0 ?_; try simp only [hpl]))
              rw [← HWQ.out]
              obtain ⟨wz, hwz⟩ : ∃ u, wq = u := ⟨_, rfl⟩
              have hbz : Below wq.heap.size wq wz := by rw [← hwz]; exact Below.refl _ _
              have fs : Fr .f32 0 (some 0) := z0
              rw [hwz]
              have hzz := hbz.size
              have r1 := keep_block hbz HQ12.out.1
              have r2 := keep_block hbz HQ12.out.2
              have a0 := (cells_of (i := 0) r1).trans (show _ = some (.float .f32 x) from rfl)
              have a1 := (cells_of (i := 1) r1).trans (show _ = some (.float .f32 y) from rfl)
              have a2 := (cells_of (i := 2) r1).trans (show _ = some (.float .f32 z) from rfl)
              have b0 := (cells_of (i := 0) r2).trans (show _ = some (.float .f32 x') from rfl)
              have b1 := (cells_of (i := 1) r2).trans (show _ = some (.float .f32 y') from rfl)
              have b2 := (cells_of (i := 2) r2).trans (show _ = some (.float .f32 z') from rfl)
              have lr1 := block_lt r1
              have lr2 := block_lt r2
              have HQZ := Lib.hid (keep_block hbz (keep_block HBQ.out HS5.out))
              have HOZ := Lib.hid (own_below (own_below HO5.out HBQ.out) hbz)
              have HBZ := Lib.hid (HB5.out.trans ((HBQ.out.trans (hbz.mono HBQ.out.size)).mono HB5.out.size))
              have s0 := (cells_of (i := 0) HQZ.out).trans (show _ = some v from rfl)
              have s1 := (cells_of (i := 1) HQZ.out).trans (show _ = some (.float .f32 s) from rfl)
              have fS := free_of HQZ.out 0
              have hSl := block_lt HQZ.out
              have HSL2 := Lib.hid (show ∀ b, u90 = .slice (some ⟨b, 0, none⟩) 1 1 → b < wz.heap.size from fun b hb => by have := HSL.out b hb; omega)
              clear hwz r1 r2 hbz
              refine LooseS.wp_region 10 90 (fun ob => ∃ x y z, ob = .cells #[.float .f32 x, .float .f32 y, .float .f32 z] 28 ∧ Fr .f32 x (F (k * 3)) ∧ Fr .f32 y (F (k * 3 + 1)) ∧ Fr .f32 z (F (k * 3 + 2))) (by kernel_rfl) (by kernel_rfl) (by intro b hb; exact HSL2.out b (by first | (simpa using hb) | exact Option.some.inj hb)) ?_
              apply Exists.intro
              simp only [List.take_succ_cons, List.take_zero, List.drop_succ_cons, List.drop_zero]
              repeat (first | (apply Loose.walk_step; intro K hK; apply LooseS.turn_value (hwant := rfl) (hd := rfl); (focus (intro w' hw'; obtain ⟨hc, hf⟩ := Fl.bcell hw'; go_simp; first | done | rfl | exact ⟨rfl, rfl⟩)); go_simp; refine hK _ ?_; clear hK K) | (apply Loose.walk_step; intro K hK; apply LooseS.turn_callV (Nat.le_refl _) (hwant := rfl) (hd := rfl); (focus (intro w'; go_simp; first | done | rfl | exact ⟨rfl, rfl⟩)); (focus (intro w' hw'; go_at_call 63; exact Vec.spec_less _ _ _ _ _ _ _ _ _ _ _ _ _ fx' fy' fz' fx fy fz)); intro x3 y3 z3 fx3 fy3 fz3; go_simp; refine hK _ ?_; clear hK K) | (apply Loose.walk_step; intro K hK; apply LooseS.turn_callV (Nat.le_refl _) (hwant := rfl) (hd := rfl); (focus (intro w'; go_simp; first | done | rfl | exact ⟨rfl, rfl⟩)); (focus (intro w' hw'; go_at_call 47; exact Vec.spec_scale _ _ _ _ _ _ _ _ _ fx3 fy3 fz3 fs)); intro x5 y5 z5 fx5 fy5 fz5; go_simp; refine hK _ ?_; clear hK K) | (apply Loose.walk_step; intro K hK; apply LooseS.turn_callV (Nat.le_refl _) (hwant := rfl) (hd := rfl); (focus (intro w'; go_simp; first | done | rfl | exact ⟨rfl, rfl⟩)); (focus (intro w' hw'; go_at_call 88; exact Vec.spec_add _ _ _ _ _ _ _ _ _ _ _ _ _ fx fy fz fx5 fy5 fz5)); intro x4 y4 z4 fx4 fy4 fz4; go_simp; refine hK _ ?_; clear hK K) | (apply Loose.walk_step; intro K hK; refine LooseS.turn_row (ob := .cells #[.float .f32 x4, .float .f32 y4, .float .f32 z4] 28) (Nat.le_refl _) rfl rfl ⟨x4, y4, z4, rfl, by rw [E0]; exact fx4, by rw [E1]; exact fy4, by rw [E2]; exact fz4⟩ (by intro w'; go_simp; first | done | rfl | exact ⟨rfl, rfl⟩) ?_; intro b4 hb4B; go_simp; refine hK _ ?_; clear hK K))
              refine Loose.walk_nil ?_
              intro w7 hcls7
              obtain ⟨hb7, hrow7⟩ := hcls7
              obtain ⟨ob7, hob7, x9, y9, z9, rfl, gx, gy, gz⟩ := hrow7 _ hb4B rfl
              have hz7 := hb7.size
              have hS7 := keep_block hb7 HQZ.out
              have HS7 := Lib.hid hS7
              have HO7 := Lib.hid (own_below HOZ.out hb7)
              have HB7 := Lib.hid (HBZ.out.trans (hb7.mono HBZ.out.size))
              have hzb7 := HB7.out.size
              have HOB7 := Lib.hid hob7
              have lob7 := block_lt hob7
              have l7 := block_lt hS7
              have HG7 := Lib.hid (And.intro gx (And.intro gy gz))
              clear hS7 hb7 hrow7 hob7 s0 s1 fS gx gy gz a0 a1 a2 b0 b1 b2
              go_wp2_with (first
                | (
                  at_builtin
                  refine wpList_append_own _ rfl (.tmp 82) (.tmp 90) 31 rfl w1.heap.size 28 i0 (.agg #[.float .f32 0, .float .f32 0, .float .f32 0]) 3 12 Try.underlying31 hI hI0 hI1 hI2 rfl (by decide) v k xs rfl HO7.out ⟨b4, 0, none⟩ 1 1 [.float .f32 x9, .float .f32 y9, .float .f32 z9] rfl rfl (row_cell3 HOB7.out) (by intro u hu; simp at hu; rcases hu with rfl | rfl | rfl <;> rfl) (by unfold maxLen; omega) (by omega) (by omega) ?_
                  intro v8 w8 hown8 hgrow8 hnil8
                  obtain ⟨g8, cap8, rfl⟩ := Joins.ownsRow_form hown8 (by omega)
                  have hz78 := hgrow8.size
                  obtain ⟨hS8, hb8⟩ := appended HS7.out HO7.out HB7.out (by omega) hgrow8 (by decide)
                  have d80 := (cells_of (i := 0) hS8).trans (show _ = some v from rfl)
                  have f80 := free_of hS8 0
                  have l8 := block_lt hS8
                  have HS8 := Lib.hid hS8
                  have HO8 := Lib.hid hown8
                  have HB8 := Lib.hid hb8
                  clear hS8 hown8 hgrow8 hnil8 hb8
                  skip))
              go_roundw
              case rel => exact ⟨k + 1, _, _, by intro b hb; simp at hb; subst hb; simp; omega, by omega, by go_num, by simpa using setCell_block HS8.out 0 _, own_set HO8.out HS8.out (by decide), HP.out.three HG7.out.1 HG7.out.2.1 HG7.out.2.2, Below.setCell HB8.out (by show w1.heap.size ≤ w1.heap.size + 1; omega) (p := ⟨w1.heap.size + 1, 0, none⟩) _⟩
              case measure => simp [intOf]; omega
            · go_wp2_with (first | (refine Fl.wpList_cmp rfl rfl rfl rfl rfl fL z0 ?_; try simp only [hpl]) | (refine Fl.wpList_fl rfl rfl rfl rfl rfl fG fL ?_; intro rs nd fs))
              rw [← HWQ.out]
              obtain ⟨wz, hwz⟩ : ∃ u, wq.drewN nd = u := ⟨_, rfl⟩
              have hbz : Below wq.heap.size wq wz := by rw [← hwz]; exact below_drewN (Below.refl _ _) _
              rw [hwz]
              have hzz := hbz.size
              have r1 := keep_block hbz HQ12.out.1
              have r2 := keep_block hbz HQ12.out.2
              have a0 := (cells_of (i := 0) r1).trans (show _ = some (.float .f32 x) from rfl)
              have a1 := (cells_of (i := 1) r1).trans (show _ = some (.float .f32 y) from rfl)
              have a2 := (cells_of (i := 2) r1).trans (show _ = some (.float .f32 z) from rfl)
              have b0 := (cells_of (i := 0) r2).trans (show _ = some (.float .f32 x') from rfl)
              have b1 := (cells_of (i := 1) r2).trans (show _ = some (.float .f32 y') from rfl)
              have b2 := (cells_of (i := 2) r2).trans (show _ = some (.float .f32 z') from rfl)
              have lr1 := block_lt r1
              have lr2 := block_lt r2
              have HQZ := Lib.hid (keep_block hbz (keep_block HBQ.out HS5.out))
              have HOZ := Lib.hid (own_below (own_below HO5.out HBQ.out) hbz)
              have HBZ := Lib.hid (HB5.out.trans ((HBQ.out.trans (hbz.mono HBQ.out.size)).mono HB5.out.size))
              have s0 := (cells_of (i := 0) HQZ.out).trans (show _ = some v from rfl)
              have s1 := (cells_of (i := 1) HQZ.out).trans (show _ = some (.float .f32 s) from rfl)
              have fS := free_of HQZ.out 0
              have hSl := block_lt HQZ.out
              have HSL2 := Lib.hid (show ∀ b, u90 = .slice (some ⟨b, 0, none⟩) 1 1 → b < wz.heap.size from fun b hb => by have := HSL.out b hb; omega)
              clear hwz r1 r2 hbz
              refine LooseS.wp_region 10 90 (fun ob => ∃ x y z, ob = .cells #[.float .f32 x, .float .f32 y, .float .f32 z] 28 ∧ Fr .f32 x (F (k * 3)) ∧ Fr .f32 y (F (k * 3 + 1)) ∧ Fr .f32 z (F (k * 3 + 2))) (by kernel_rfl) (by kernel_rfl) (by intro b hb; exact HSL2.out b (by first | (simpa using hb) | exact Option.some.inj hb)) ?_
              apply Exists.intro
              simp only [List.take_succ_cons, List.take_zero, List.drop_succ_cons, List.drop_zero]
              repeat (first | (apply Loose.walk_step; intro K hK; apply LooseS.turn_value (hwant := rfl) (hd := rfl); (focus (intro w' hw'; obtain ⟨hc, hf⟩ := Fl.bcell hw'; go_simp; first | done | rfl | exact ⟨rfl, rfl⟩)); go_simp; refine hK _ ?_; clear hK K) | (apply Loose.walk_step; intro K hK; apply LooseS.turn_callV (Nat.le_refl _) (hwant := rfl) (hd := rfl); (focus (intro w'; go_simp; first | done | rfl | exact ⟨rfl, rfl⟩)); (focus (intro w' hw'; go_at_call 63; exact Vec.spec_less _ _ _ _ _ _ _ _ _ _ _ _ _ fx' fy' fz' fx fy fz)); intro x3 y3 z3 fx3 fy3 fz3; go_simp; refine hK _ ?_; clear hK K) | (apply Loose.walk_step; intro K hK; apply LooseS.turn_callV (Nat.le_refl _) (hwant := rfl) (hd := rfl); (focus (intro w'; go_simp; first | done | rfl | exact ⟨rfl, rfl⟩)); (focus (intro w' hw'; go_at_call 47; exact Vec.spec_scale _ _ _ _ _ _ _ _ _ fx3 fy3 fz3 fs)); intro x5 y5 z5 fx5 fy5 fz5; go_simp; refine hK _ ?_; clear hK K) | (apply Loose.walk_step; intro K hK; apply LooseS.turn_callV (Nat.le_refl _) (hwant := rfl) (hd := rfl); (focus (intro w'; go_simp; first | done | rfl | exact ⟨rfl, rfl⟩)); (focus (intro w' hw'; go_at_call 88; exact Vec.spec_add _ _ _ _ _ _ _ _ _ _ _ _ _ fx fy fz fx5 fy5 fz5)); intro x4 y4 z4 fx4 fy4 fz4; go_simp; refine hK _ ?_; clear hK K) | (apply Loose.walk_step; intro K hK; refine LooseS.turn_row (ob := .cells #[.float .f32 x4, .float .f32 y4, .float .f32 z4] 28) (Nat.le_refl _) rfl rfl ⟨x4, y4, z4, rfl, by rw [E0]; exact fx4, by rw [E1]; exact fy4, by rw [E2]; exact fz4⟩ (by intro w'; go_simp; first | done | rfl | exact ⟨rfl, rfl⟩) ?_; intro b4 hb4B; go_simp; refine hK _ ?_; clear hK K))
              refine Loose.walk_nil ?_
              intro w7 hcls7
              obtain ⟨hb7, hrow7⟩ := hcls7
              obtain ⟨ob7, hob7, x9, y9, z9, rfl, gx, gy, gz⟩ := hrow7 _ hb4B rfl
              have hz7 := hb7.size
              have hS7 := keep_block hb7 HQZ.out
              have HS7 := Lib.hid hS7
              have HO7 := Lib.hid (own_below HOZ.out hb7)
              have HB7 := Lib.hid (HBZ.out.trans (hb7.mono HBZ.out.size))
              have hzb7 := HB7.out.size
              have HOB7 := Lib.hid hob7
              have lob7 := block_lt hob7
              have l7 := block_lt hS7
              have HG7 := Lib.hid (And.intro gx (And.intro gy gz))
              clear hS7 hb7 hrow7 hob7 s0 s1 fS gx gy gz a0 a1 a2 b0 b1 b2
              go_wp2_with (first
                | (
                  at_builtin
                  refine wpList_append_own _ rfl (.tmp 82) (.tmp 90) 31 rfl w1.heap.size 28 i0 (.agg #[.float .f32 0, .float .f32 0, .float .f32 0]) 3 12 Try.underlying31 hI hI0 hI1 hI2 rfl (by decide) v k xs rfl HO7.out ⟨b4, 0, none⟩ 1 1 [.float .f32 x9, .float .f32 y9, .float .f32 z9] rfl rfl (row_cell3 HOB7.out) (by intro u hu; simp at hu; rcases hu with rfl | rfl | rfl <;> rfl) (by unfold maxLen; omega) (by omega) (by omega) ?_
                  intro v8 w8 hown8 hgrow8 hnil8
                  obtain ⟨g8, cap8, rfl⟩ := Joins.ownsRow_form hown8 (by omega)
                  have hz78 := hgrow8.size
                  obtain ⟨hS8, hb8⟩ := appended HS7.out HO7.out HB7.out (by omega) hgrow8 (by decide)
                  have d80 := (cells_of (i := 0) hS8).trans (show _ = some v from rfl)
                  have f80 := free_of hS8 0
                  have l8 := block_lt hS8
                  have HS8 := Lib.hid hS8
                  have HO8 := Lib.hid hown8
                  have HB8 := Lib.hid hb8
                  clear hS8 hown8 hgrow8 hnil8 hb8
                  skip))
              go_roundw
              case rel => exact ⟨k + 1, _, _, by intro b hb; simp at hb; subst hb; simp; omega, by omega, by go_num, by simpa using setCell_block HS8.out 0 _, own_set HO8.out HS8.out (by decide), HP.out.three HG7.out.1 HG7.out.2.1 HG7.out.2.2, Below.setCell HB8.out (by show w1.heap.size ≤ w1.heap.size + 1; omega) (p := ⟨w1.heap.size + 1, 0, none⟩) _⟩
              case measure => simp [intOf]; omega
        · have hRk : scanC c n n 0 (LF k) = (i, G) := by rw [← hsc]; exact scan_stop (by rw [hL]; exact hB)
          have HSL := Lib.hid (show ∀ b, u90 = .slice (some ⟨b, 0, none⟩) 1 1 → b < w4.heap.size from fun b hb => by have := HSLF.out b hb; omega)
          have QBF := Lib.hid (keep_block HBI4.out QBK.out)
          have OWF := Lib.hid (own_below OWK.out HBI4.out)
          go_wp2_with (first | (refine Fl.wpList_cmp rfl rfl rfl rfl rfl fL fG ?_; try simp only [hB]))
          have lWf : w.heap.size < w4.heap.size := by omega
          refine (spec_ends w.heap.size a n cap i c _ e4 (HY.out.later (HBW.out.trans (HBF.out.mono (by omega)))) hi hn32).mono ?_
          rintro e w5 ⟨x, y, z, x', y', z', rfl, fx, fy, fz, fx', fy', fz', hb5⟩
          have hz5 := hb5.size
          have HS5 := Lib.hid (keep_block hb5 QBF.out)
          have HO5 := Lib.hid (own_below OWF.out hb5)
          have HB5 := Lib.hid (HBF.out.trans (hb5.mono HBF.out.size))
          have E0 : F (k * 3) = op2 .add .f32 (c (i * 3)) (op2 .mul .f32 (op2 .sub .f32 (c (nx n i * 3)) (c (i * 3))) (shareC L G)) := by rw [show F (k * 3) = F (k * 3 + 0) from rfl, HEV.out k 0 (by omega)]; unfold pointC; rw [hRk]; unfold segC; rw [hL]; rfl
          have E1 : F (k * 3 + 1) = op2 .add .f32 (c (i * 3 + 1)) (op2 .mul .f32 (op2 .sub .f32 (c (nx n i * 3 + 1)) (c (i * 3 + 1))) (shareC L G)) := by rw [HEV.out k 1 (by omega)]; unfold pointC; rw [hRk]; unfold segC; rw [hL]
          have E2 : F (k * 3 + 2) = op2 .add .f32 (c (i * 3 + 2)) (op2 .mul .f32 (op2 .sub .f32 (c (nx n i * 3 + 2)) (c (i * 3 + 2))) (shareC L G)) := by rw [HEV.out k 2 (by omega)]; unfold pointC; rw [hRk]; unfold segC; rw [hL]
          clear hb5
          obtain ⟨wq, hwq⟩ : ∃ u, u = (w5.alloc (.cells #[.float .f32 x, .float .f32 y, .float .f32 z] 28)).alloc (.cells #[.float .f32 x', .float .f32 y', .float .f32 z'] 28) := ⟨_, rfl⟩
          have hbq : Below w5.heap.size w5 wq := by rw [hwq]; exact ((Below.refl _ _).alloc (Nat.le_refl _) _).alloc (by simp) _
          have r1 : wq.heap[w5.heap.size]? = some (.cells #[.float .f32 x, .float .f32 y, .float .f32 z] 28) := by rw [hwq]; exact alloc_block (new_block _ _)
          have r2 : wq.heap[w5.heap.size + 1]? = some (.cells #[.float .f32 x', .float .f32 y', .float .f32 z'] 28) := by rw [hwq]; simpa using new_block (w5.alloc (.cells #[.float .f32 x, .float .f32 y, .float .f32 z] 28)) (.cells #[.float .f32 x', .float .f32 y', .float .f32 z'] 28)
          have hzq : wq.heap.size = w5.heap.size + 2 := by rw [hwq]; simp
          have HQ12 := Lib.hid (And.intro r1 r2)
          have HBQ := Lib.hid hbq
          have HWQ := Lib.hid hwq
          clear hbq r1 r2 hwq
          have hpl := pos_len HPL.out
          cases hN : cmpC .neq (ord .f32 L (some 0))
          all_goals
            rw [hN] at hpl
            unfold shareC at E0 E1 E2
            rw [hN] at E0 E1 E2
            simp only [Bool.false_eq_true, if_false, if_true] at E0 E1 E2
          · go_wp2_with (first | (refine Fl.wpList_cmp rfl rfl rfl rfl rfl fL z0 ?_; try simp only [hpl]))
            rw [← HWQ.out]
            obtain ⟨wz, hwz⟩ : ∃ u, wq = u := ⟨_, rfl⟩
            have hbz : Below wq.heap.size wq wz := by rw [← hwz]; exact Below.refl _ _
            have fs : Fr .f32 0 (some 0) := z0
            rw [hwz]
            have hzz := hbz.size
            have r1 := keep_block hbz HQ12.out.1
            have r2 := keep_block hbz HQ12.out.2
            have a0 := (cells_of (i := 0) r1).trans (show _ = some (.float .f32 x) from rfl)
            have a1 := (cells_of (i := 1) r1).trans (show _ = some (.float .f32 y) from rfl)
            have a2 := (cells_of (i := 2) r1).trans (show _ = some (.float .f32 z) from rfl)
            have b0 := (cells_of (i := 0) r2).trans (show _ = some (.float .f32 x') from rfl)
            have b1 := (cells_of (i := 1) r2).trans (show _ = some (.float .f32 y') from rfl)
            have b2 := (cells_of (i := 2) r2).trans (show _ = some (.float .f32 z') from rfl)
            have lr1 := block_lt r1
            have lr2 := block_lt r2
            have HQZ := Lib.hid (keep_block hbz (keep_block HBQ.out HS5.out))
            have HOZ := Lib.hid (own_below (own_below HO5.out HBQ.out) hbz)
            have HBZ := Lib.hid (HB5.out.trans ((HBQ.out.trans (hbz.mono HBQ.out.size)).mono HB5.out.size))
            have s0 := (cells_of (i := 0) HQZ.out).trans (show _ = some v from rfl)
            have s1 := (cells_of (i := 1) HQZ.out).trans (show _ = some (.float .f32 s) from rfl)
            have fS := free_of HQZ.out 0
            have hSl := block_lt HQZ.out
            have HSL2 := Lib.hid (show ∀ b, u90 = .slice (some ⟨b, 0, none⟩) 1 1 → b < wz.heap.size from fun b hb => by have := HSL.out b hb; omega)
            clear hwz r1 r2 hbz
            refine LooseS.wp_region 10 90 (fun ob => ∃ x y z, ob = .cells #[.float .f32 x, .float .f32 y, .float .f32 z] 28 ∧ Fr .f32 x (F (k * 3)) ∧ Fr .f32 y (F (k * 3 + 1)) ∧ Fr .f32 z (F (k * 3 + 2))) (by kernel_rfl) (by kernel_rfl) (by intro b hb; exact HSL2.out b (by first | (simpa using hb) | exact Option.some.inj hb)) ?_
            apply Exists.intro
            simp only [List.take_succ_cons, List.take_zero, List.drop_succ_cons, List.drop_zero]
            repeat (first | (apply Loose.walk_step; intro K hK; apply LooseS.turn_value (hwant := rfl) (hd := rfl); (focus (intro w' hw'; obtain ⟨hc, hf⟩ := Fl.bcell hw'; go_simp; first | done | rfl | exact ⟨rfl, rfl⟩)); go_simp; refine hK _ ?_; clear hK K) | (apply Loose.walk_step; intro K hK; apply LooseS.turn_callV (Nat.le_refl _) (hwant := rfl) (hd := rfl); (focus (intro w'; go_simp; first | done | rfl | exact ⟨rfl, rfl⟩)); (focus (intro w' hw'; go_at_call 63; exact Vec.spec_less _ _ _ _ _ _ _ _ _ _ _ _ _ fx' fy' fz' fx fy fz)); intro x3 y3 z3 fx3 fy3 fz3; go_simp; refine hK _ ?_; clear hK K) | (apply Loose.walk_step; intro K hK; apply LooseS.turn_callV (Nat.le_refl _) (hwant := rfl) (hd := rfl); (focus (intro w'; go_simp; first | done | rfl | exact ⟨rfl, rfl⟩)); (focus (intro w' hw'; go_at_call 47; exact Vec.spec_scale _ _ _ _ _ _ _ _ _ fx3 fy3 fz3 fs)); intro x5 y5 z5 fx5 fy5 fz5; go_simp; refine hK _ ?_; clear hK K) | (apply Loose.walk_step; intro K hK; apply LooseS.turn_callV (Nat.le_refl _) (hwant := rfl) (hd := rfl); (focus (intro w'; go_simp; first | done | rfl | exact ⟨rfl, rfl⟩)); (focus (intro w' hw'; go_at_call 88; exact Vec.spec_add _ _ _ _ _ _ _ _ _ _ _ _ _ fx fy fz fx5 fy5 fz5)); intro x4 y4 z4 fx4 fy4 fz4; go_simp; refine hK _ ?_; clear hK K) | (apply Loose.walk_step; intro K hK; refine LooseS.turn_row (ob := .cells #[.float .f32 x4, .float .f32 y4, .float .f32 z4] 28) (Nat.le_refl _) rfl rfl ⟨x4, y4, z4, rfl, by rw [E0]; exact fx4, by rw [E1]; exact fy4, by rw [E2]; exact fz4⟩ (by intro w'; go_simp; first | done | rfl | exact ⟨rfl, rfl⟩) ?_; intro b4 hb4B; go_simp; refine hK _ ?_; clear hK K))
            refine Loose.walk_nil ?_
            intro w7 hcls7
            obtain ⟨hb7, hrow7⟩ := hcls7
            obtain ⟨ob7, hob7, x9, y9, z9, rfl, gx, gy, gz⟩ := hrow7 _ hb4B rfl
            have hz7 := hb7.size
            have hS7 := keep_block hb7 HQZ.out
            have HS7 := Lib.hid hS7
            have HO7 := Lib.hid (own_below HOZ.out hb7)
            have HB7 := Lib.hid (HBZ.out.trans (hb7.mono HBZ.out.size))
            have hzb7 := HB7.out.size
            have HOB7 := Lib.hid hob7
            have lob7 := block_lt hob7
            have l7 := block_lt hS7
            have HG7 := Lib.hid (And.intro gx (And.intro gy gz))
            clear hS7 hb7 hrow7 hob7 s0 s1 fS gx gy gz a0 a1 a2 b0 b1 b2
            go_wp2_with (first
              | (
                at_builtin
                refine wpList_append_own _ rfl (.tmp 82) (.tmp 90) 31 rfl w1.heap.size 28 i0 (.agg #[.float .f32 0, .float .f32 0, .float .f32 0]) 3 12 Try.underlying31 hI hI0 hI1 hI2 rfl (by decide) v k xs rfl HO7.out ⟨b4, 0, none⟩ 1 1 [.float .f32 x9, .float .f32 y9, .float .f32 z9] rfl rfl (row_cell3 HOB7.out) (by intro u hu; simp at hu; rcases hu with rfl | rfl | rfl <;> rfl) (by unfold maxLen; omega) (by omega) (by omega) ?_
                intro v8 w8 hown8 hgrow8 hnil8
                obtain ⟨g8, cap8, rfl⟩ := Joins.ownsRow_form hown8 (by omega)
                have hz78 := hgrow8.size
                obtain ⟨hS8, hb8⟩ := appended HS7.out HO7.out HB7.out (by omega) hgrow8 (by decide)
                have d80 := (cells_of (i := 0) hS8).trans (show _ = some v from rfl)
                have f80 := free_of hS8 0
                have l8 := block_lt hS8
                have HS8 := Lib.hid hS8
                have HO8 := Lib.hid hown8
                have HB8 := Lib.hid hb8
                clear hS8 hown8 hgrow8 hnil8 hb8
                skip))
            go_roundw
            case rel => exact ⟨k + 1, _, _, by intro b hb; simp at hb; subst hb; simp; omega, by omega, by go_num, by simpa using setCell_block HS8.out 0 _, own_set HO8.out HS8.out (by decide), HP.out.three HG7.out.1 HG7.out.2.1 HG7.out.2.2, Below.setCell HB8.out (by show w1.heap.size ≤ w1.heap.size + 1; omega) (p := ⟨w1.heap.size + 1, 0, none⟩) _⟩
            case measure => simp [intOf]; omega
          · go_wp2_with (first | (refine Fl.wpList_cmp rfl rfl rfl rfl rfl fL z0 ?_; try simp only [hpl]) | (refine Fl.wpList_fl rfl rfl rfl rfl rfl fG fL ?_; intro rs nd fs))
            rw [← HWQ.out]
            obtain ⟨wz, hwz⟩ : ∃ u, wq.drewN nd = u := ⟨_, rfl⟩
            have hbz : Below wq.heap.size wq wz := by rw [← hwz]; exact below_drewN (Below.refl _ _) _
            rw [hwz]
            have hzz := hbz.size
            have r1 := keep_block hbz HQ12.out.1
            have r2 := keep_block hbz HQ12.out.2
            have a0 := (cells_of (i := 0) r1).trans (show _ = some (.float .f32 x) from rfl)
            have a1 := (cells_of (i := 1) r1).trans (show _ = some (.float .f32 y) from rfl)
            have a2 := (cells_of (i := 2) r1).trans (show _ = some (.float .f32 z) from rfl)
            have b0 := (cells_of (i := 0) r2).trans (show _ = some (.float .f32 x') from rfl)
            have b1 := (cells_of (i := 1) r2).trans (show _ = some (.float .f32 y') from rfl)
            have b2 := (cells_of (i := 2) r2).trans (show _ = some (.float .f32 z') from rfl)
            have lr1 := block_lt r1
            have lr2 := block_lt r2
            have HQZ := Lib.hid (keep_block hbz (keep_block HBQ.out HS5.out))
            have HOZ := Lib.hid (own_below (own_below HO5.out HBQ.out) hbz)
            have HBZ := Lib.hid (HB5.out.trans ((HBQ.out.trans (hbz.mono HBQ.out.size)).mono HB5.out.size))
            have s0 := (cells_of (i := 0) HQZ.out).trans (show _ = some v from rfl)
            have s1 := (cells_of (i := 1) HQZ.out).trans (show _ = some (.float .f32 s) from rfl)
            have fS := free_of HQZ.out 0
            have hSl := block_lt HQZ.out
            have HSL2 := Lib.hid (show ∀ b, u90 = .slice (some ⟨b, 0, none⟩) 1 1 → b < wz.heap.size from fun b hb => by have := HSL.out b hb; omega)
            clear hwz r1 r2 hbz
            refine LooseS.wp_region 10 90 (fun ob => ∃ x y z, ob = .cells #[.float .f32 x, .float .f32 y, .float .f32 z] 28 ∧ Fr .f32 x (F (k * 3)) ∧ Fr .f32 y (F (k * 3 + 1)) ∧ Fr .f32 z (F (k * 3 + 2))) (by kernel_rfl) (by kernel_rfl) (by intro b hb; exact HSL2.out b (by first | (simpa using hb) | exact Option.some.inj hb)) ?_
            apply Exists.intro
            simp only [List.take_succ_cons, List.take_zero, List.drop_succ_cons, List.drop_zero]
            repeat (first | (apply Loose.walk_step; intro K hK; apply LooseS.turn_value (hwant := rfl) (hd := rfl); (focus (intro w' hw'; obtain ⟨hc, hf⟩ := Fl.bcell hw'; go_simp; first | done | rfl | exact ⟨rfl, rfl⟩)); go_simp; refine hK _ ?_; clear hK K) | (apply Loose.walk_step; intro K hK; apply LooseS.turn_callV (Nat.le_refl _) (hwant := rfl) (hd := rfl); (focus (intro w'; go_simp; first | done | rfl | exact ⟨rfl, rfl⟩)); (focus (intro w' hw'; go_at_call 63; exact Vec.spec_less _ _ _ _ _ _ _ _ _ _ _ _ _ fx' fy' fz' fx fy fz)); intro x3 y3 z3 fx3 fy3 fz3; go_simp; refine hK _ ?_; clear hK K) | (apply Loose.walk_step; intro K hK; apply LooseS.turn_callV (Nat.le_refl _) (hwant := rfl) (hd := rfl); (focus (intro w'; go_simp; first | done | rfl | exact ⟨rfl, rfl⟩)); (focus (intro w' hw'; go_at_call 47; exact Vec.spec_scale _ _ _ _ _ _ _ _ _ fx3 fy3 fz3 fs)); intro x5 y5 z5 fx5 fy5 fz5; go_simp; refine hK _ ?_; clear hK K) | (apply Loose.walk_step; intro K hK; apply LooseS.turn_callV (Nat.le_refl _) (hwant := rfl) (hd := rfl); (focus (intro w'; go_simp; first | done | rfl | exact ⟨rfl, rfl⟩)); (focus (intro w' hw'; go_at_call 88; exact Vec.spec_add _ _ _ _ _ _ _ _ _ _ _ _ _ fx fy fz fx5 fy5 fz5)); intro x4 y4 z4 fx4 fy4 fz4; go_simp; refine hK _ ?_; clear hK K) | (apply Loose.walk_step; intro K hK; refine LooseS.turn_row (ob := .cells #[.float .f32 x4, .float .f32 y4, .float .f32 z4] 28) (Nat.le_refl _) rfl rfl ⟨x4, y4, z4, rfl, by rw [E0]; exact fx4, by rw [E1]; exact fy4, by rw [E2]; exact fz4⟩ (by intro w'; go_simp; first | done | rfl | exact ⟨rfl, rfl⟩) ?_; intro b4 hb4B; go_simp; refine hK _ ?_; clear hK K))
            refine Loose.walk_nil ?_
            intro w7 hcls7
            obtain ⟨hb7, hrow7⟩ := hcls7
            obtain ⟨ob7, hob7, x9, y9, z9, rfl, gx, gy, gz⟩ := hrow7 _ hb4B rfl
            have hz7 := hb7.size
            have hS7 := keep_block hb7 HQZ.out
            have HS7 := Lib.hid hS7
            have HO7 := Lib.hid (own_below HOZ.out hb7)
            have HB7 := Lib.hid (HBZ.out.trans (hb7.mono HBZ.out.size))
            have hzb7 := HB7.out.size
            have HOB7 := Lib.hid hob7
            have lob7 := block_lt hob7
            have l7 := block_lt hS7
            have HG7 := Lib.hid (And.intro gx (And.intro gy gz))
            clear hS7 hb7 hrow7 hob7 s0 s1 fS gx gy gz a0 a1 a2 b0 b1 b2
            go_wp2_with (first
              | (
                at_builtin
                refine wpList_append_own _ rfl (.tmp 82) (.tmp 90) 31 rfl w1.heap.size 28 i0 (.agg #[.float .f32 0, .float .f32 0, .float .f32 0]) 3 12 Try.underlying31 hI hI0 hI1 hI2 rfl (by decide) v k xs rfl HO7.out ⟨b4, 0, none⟩ 1 1 [.float .f32 x9, .float .f32 y9, .float .f32 z9] rfl rfl (row_cell3 HOB7.out) (by intro u hu; simp at hu; rcases hu with rfl | rfl | rfl <;> rfl) (by unfold maxLen; omega) (by omega) (by omega) ?_
                intro v8 w8 hown8 hgrow8 hnil8
                obtain ⟨g8, cap8, rfl⟩ := Joins.ownsRow_form hown8 (by omega)
                have hz78 := hgrow8.size
                obtain ⟨hS8, hb8⟩ := appended HS7.out HO7.out HB7.out (by omega) hgrow8 (by decide)
                have d80 := (cells_of (i := 0) hS8).trans (show _ = some v from rfl)
                have f80 := free_of hS8 0
                have l8 := block_lt hS8
                have HS8 := Lib.hid hS8
                have HO8 := Lib.hid hown8
                have HB8 := Lib.hid hb8
                clear hS8 hown8 hgrow8 hnil8 hb8
                skip))
            go_roundw
            case rel => exact ⟨k + 1, _, _, by intro b hb; simp at hb; subst hb; simp; omega, by omega, by go_num, by simpa using setCell_block HS8.out 0 _, own_set HO8.out HS8.out (by decide), HP.out.three HG7.out.1 HG7.out.2.1 HG7.out.2.2, Below.setCell HB8.out (by show w1.heap.size ≤ w1.heap.size + 1; omega) (p := ⟨w1.heap.size + 1, 0, none⟩) _⟩
            case measure => simp [intOf]; omega
    · obtain rfl : N = k := by omega
      obtain ⟨av, capv, rfl, hio⟩ := isR_own HO.out HP.out (by omega)
      have HIO := Lib.hid hio
      have s0 := (cells_of (i := 0) HBK.out).trans (show _ = some (.slice av N capv) from rfl)
      have s1 := (cells_of (i := 1) HBK.out).trans (show _ = some (.float .f32 s) from rfl)
      have lS := block_lt HBK.out
      have q4 := keep_block HB.out Q4.out
      have Q44 := Lib.hid q4
      clear hio q4
      go_wp2_with fail
      refine (HCH.out _ _ _ HIO.out.v).mono ?_
      rintro e w9 ⟨rfl, hb9⟩
      have hz9 := hb9.size
      have q49 := keep_block hb9 Q44.out
      have e40 := (cells_of (i := 0) q49).trans (show _ = some (Value.slice none 0 0) from rfl)
      have e41 := (cells_of (i := 1) q49).trans (show _ = some (Value.float .f32 0) from rfl)
      have f40 := free_of q49 0
      have f41 := free_of q49 1
      have HB9 := Lib.hid ((HBW.out.trans (HB.out.mono (by omega))).trans (hb9.mono (by omega)))
      have HIO9 := Lib.hid (HIO.out.later hb9)
      have l9 := block_lt q49
      clear q49 hb9 s0 s1
      cases R
      all_goals
        go_wp2
        have hR := HR.out
        simp only [Bool.false_eq_true, if_false, if_true] at hR
        obtain ⟨rfl, rfl⟩ := hR
      · refine bodyPost_ret ?ohr rfl ⟨none, 0, rfl, isR_nil _ _ _ _, ?obel⟩
        case ohr => simp [results, Try.results39, go_sem, *]
        case obel => exact Below.setCell (Below.setCell HB9.out (by simp) _) (by simp) _
      · refine bodyPost_ret ?ohr rfl ⟨av, capv, rfl, ?oio, ?obel⟩
        case ohr => simp [results, Try.results39, go_sem, *]
        case oio =>
          refine (HIO9.out.keep fun g hg _ _ => ?_).wider (by omega) (by simp; omega)
          rw [set_keep _ _ _ (by omega), set_keep _ _ _ (by omega)]
        case obel => exact Below.setCell (Below.setCell HB9.out (by simp) _) (by simp) _

end Th
end Go.Proofs.Ytjkkefbfhapblaa
