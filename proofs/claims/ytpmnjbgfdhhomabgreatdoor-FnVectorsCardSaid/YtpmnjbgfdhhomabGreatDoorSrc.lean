/- The source of choices that draws read. -/
import Derived.Test.YtpmnjbgfdhhomabGreatDoorRet
import Derived.Test.YtpmnjbgfdhhomabGreatDoorBits
import Derived.LoopTactic
import Derived.Deep.QuietTactic
import Derived.BigQuiet
import Derived.Laws.Bits64b
namespace Go.Proofs.YtpmnjbgfdhhomabGreatDoor
set_option linter.unusedSimpArgs false
set_option linter.unusedVariables false
open Go.RowKit
namespace Src
open Fl

/-- Bytes that lie in a block below G. -/
def IsB (G : Nat) (w : World) (a : Option Addr) (len cap : Nat) : Prop :=
  len ≤ 1048576 ∧ ∃ b off, (0 < len → b < G ∧ a = some ⟨b, off, none⟩) ∧ ∀ i, i < len → ∃ v : Nat, w.cell? ⟨b, off + i, none⟩ = some (.int .u8 (v : Int)) ∧ v < 256

/-- Only block G has turned, and nothing below it. -/
def Keeps (G : Nat) (w w' : World) : Prop := Below G w w' ∧ ∀ b, b ≠ G → b < w.heap.size → w'.heap[b]? = w.heap[b]?

theorem Keeps.refl (G : Nat) (w : World) : Keeps G w w := ⟨Below.refl _ _, fun _ _ _ => rfl⟩

theorem Keeps.trans {G : Nat} {a b c : World} (h : Keeps G a b) (k : Keeps G b c) : Keeps G a c :=
  ⟨h.1.trans k.1, fun x hx hl => (k.2 x hx (Nat.lt_of_lt_of_le hl h.1.size)).trans (h.2 x hx hl)⟩

theorem Keeps.later {G : Nat} {a b c : World} (h : Keeps G a b) (hG : G ≤ b.heap.size) (k : Below b.heap.size b c) : Keeps G a c :=
  h.trans ⟨k.mono hG, fun x _ hl => k.block x hl⟩

theorem set_keep (w : World) {g b : Nat} (i : Nat) (v : Value) (h : b ≠ g) : (w.setCell ⟨g, i, none⟩ v).heap[b]? = w.heap[b]? := by
  simp [World.setCell, Array.getElem?_modify]
  intro e; exact absurd e.symm h

theorem set_block {w : World} {g : Nat} {c : Array Value} {t : TypeId} (h : w.heap[g]? = some (.cells c t)) (i : Nat) (v : Value) : (w.setCell ⟨g, i, none⟩ v).heap[g]? = some (.cells (c.setIfInBounds i v) t) := by
  simp [World.setCell, Array.getElem?_modify, h]

theorem Keeps.set {G : Nat} {a b : World} (h : Keeps G a b) (i : Nat) (v : Value) : Keeps G a (b.setCell ⟨G, i, none⟩ v) :=
  ⟨h.1.setCell (Nat.le_refl _) v, fun x hx hl => (set_keep b i v hx).trans (h.2 x hx hl)⟩

theorem Keeps.draw {G : Nat} {a b : World} (h : Keeps G a b) (n : Nat) : Keeps G a (b.drewN n) :=
  ⟨below_drewN h.1 n, fun x hx hl => by rw [World.heap_drewN]; exact h.2 x hx hl⟩

/-- A source in block G, from which at most K bytes have been taken. -/
def IsSrc (G K : Nat) (w : World) : Prop :=
  ∃ (a : Option Addr) (len cap n seed : Nat), w.heap[G]? = some (.cells #[.slice a len cap, .int .i64 (n : Int), .int .u64 (seed : Int)] 55) ∧ n ≤ K ∧ seed < 18446744073709551616 ∧ IsB G w a len cap

theorem IsSrc.lt {G K : Nat} {w : World} (h : IsSrc G K w) : G < w.heap.size := by
  obtain ⟨a, len, cap, n, seed, h, _⟩ := h
  exact (Array.getElem?_eq_some_iff.1 h).1

theorem IsB.keep {G : Nat} {w w' : World} {a : Option Addr} {len cap : Nat} (h : IsB G w a len cap) (hk : ∀ b, b < G → w'.heap[b]? = w.heap[b]?) : IsB G w' a len cap := by
  obtain ⟨h1, b, off, h2, h4⟩ := h
  refine ⟨h1, b, off, h2, fun i hi => ?_⟩
  obtain ⟨v, h5, h6⟩ := h4 i hi
  exact ⟨v, by rw [← h5]; simp [World.cell?, hk b (h2 (by omega)).1], h6⟩

theorem IsB.later {w w' : World} {a : Option Addr} {len cap : Nat} (h : IsB w.heap.size w a len cap) (hb : Below w.heap.size w w') : IsB w'.heap.size w' a len cap := by
  obtain ⟨h1, b, off, h2, h4⟩ := h.keep fun b hl => hb.block b hl
  exact ⟨h1, b, off, fun hl => ⟨Nat.lt_of_lt_of_le (h2 hl).1 hb.size, (h2 hl).2⟩, h4⟩

theorem IsSrc.later {G K K' : Nat} {w w' : World} (h : IsSrc G K w) (hb : Below w.heap.size w w') (hK : K ≤ K') : IsSrc G K' w' := by
  have hl := h.lt
  obtain ⟨a, len, cap, n, seed, h, hn, hs, hB⟩ := h
  exact ⟨a, len, cap, n, seed, by rw [hb.block G hl]; exact h, by omega, hs, hB.keep fun b hbG => hb.block b (by omega)⟩

theorem wrap_nat (x : Int) : ∃ m : Nat, IntKind.u64.wrap x = (m : Int) ∧ m < 18446744073709551616 := by
  rw [IntKind.wrap_u64]
  refine ⟨(x % 18446744073709551616).toNat, ?_, ?_⟩ <;> omega

theorem and255 (m : Nat) (h : m < 18446744073709551616) : ∃ r : Nat, bits .and .u64 (m : Int) 255 = (r : Int) ∧ r < 256 := by
  have h1 := bits_and_u64_nat m 255 h (by decide)
  rw [show ((255 : Nat) : Int) = 255 from rfl] at h1
  exact ⟨m &&& 255, h1, by rw [show m &&& 255 = m % 256 from Nat.and_two_pow_sub_one_eq_mod m 8]; omega⟩

theorem took {G K n len cap : Nat} {w : World} {a : Option Addr} {s s' : Nat} (hblk : w.heap[G]? = some (.cells #[.slice a len cap, .int .i64 (n : Int), .int .u64 (s : Int)] 55)) (hB : IsB G w a len cap) (hn : n ≤ K) (hs : s' < 18446744073709551616) (p q : Nat) :
    IsSrc G (K + 1) ((((w.drewN p).setCell ⟨G, 1, none⟩ (.int .i64 ((n : Int) + 1))).setCell ⟨G, 2, none⟩ (.int .u64 (s' : Int))).drewN q) ∧ Keeps G w ((((w.drewN p).setCell ⟨G, 1, none⟩ (.int .i64 ((n : Int) + 1))).setCell ⟨G, 2, none⟩ (.int .u64 (s' : Int))).drewN q) := by
  have h0 : Keeps G w (w.drewN p) := (Keeps.refl G w).draw p
  have hk : Keeps G w ((((w.drewN p).setCell ⟨G, 1, none⟩ (.int .i64 ((n : Int) + 1))).setCell ⟨G, 2, none⟩ (.int .u64 (s' : Int))).drewN q) := ((h0.set _ _).set _ _).draw q
  have hl : G < w.heap.size := (Array.getElem?_eq_some_iff.1 hblk).1
  refine ⟨⟨a, len, cap, n + 1, s', ?_, by omega, hs, hB.keep fun b hb => hk.2 b (by omega) (by omega)⟩, hk⟩
  have h1 : (w.drewN p).heap[G]? = some (.cells #[.slice a len cap, .int .i64 (n : Int), .int .u64 (s : Int)] 55) := by rw [World.heap_drewN]; exact hblk
  have h2 := set_block h1 1 (.int .i64 ((n : Int) + 1))
  have h3 := set_block h2 2 (.int .u64 (s' : Int))
  rw [World.heap_drewN, h3]
  simp

def RetN (G K : Nat) (lo hi : Nat) (w : World) (e : Ending) (w' : World) : Prop := ∃ r : Nat, e = .returned (.int .i64 (r : Int)) ∧ lo ≤ r ∧ r < hi ∧ IsSrc G K w' ∧ Keeps G w w'

set_option maxRecDepth 20000 in
set_option maxHeartbeats 3200000 in
theorem next (G K : Nat) (w : World) (h : IsSrc G K w) (hK : K ≤ 1000000) : Calls Tryz.prog 31 #[.pointer (some ⟨G, 0, none⟩)] w (RetN G (K + 1) 0 256 w) := by
  have hG := h.lt
  obtain ⟨a, len, cap, n, seed, hblk, hn, hs, hB⟩ := h
  have e0 := (Loose.cells_of (i := 0) hblk).trans (show _ = some (Value.slice a len cap) from rfl)
  have e1 := (Loose.cells_of (i := 1) hblk).trans (show _ = some (Value.int .i64 (n : Int)) from rfl)
  have e2 := (Loose.cells_of (i := 2) hblk).trans (show _ = some (Value.int .u64 (seed : Int)) from rfl)
  have hf1 := Loose.free_of hblk 1
  have hf2 := Loose.free_of hblk 2
  have hlen := hB.1
  have HK := Lib.hid hblk
  clear hblk
  by_cases hc : n < len
  · obtain ⟨b, off, ha, hcell⟩ := hB.2
    obtain ⟨v, hv, hv2⟩ := hcell n hc
    have ha2 := (ha (by omega)).2
    subst ha2
    have HB := Lib.hid hB
    clear hcell ha hB
    have i1 : (n : Int) < (len : Int) := by omega
    have i0 : (0 : Int) ≤ (n : Int) := by omega
    go_enter Tryz.func31, Tryz.ntmps31
    go_wp2
    go_quiet (fail)
    go_wp2
    go_quiet (fail)
    go_wp2
    go_quiet (fail)
    go_wp2
    obtain ⟨m, hm, hm2⟩ := wrap_nat (IntKind.u64.wrap (IntKind.u64.wrap (↑seed * 6364136223846793005) + ↑v) + 1442695040888963407)
    simp only [hm]
    refine bodyPost_ret ?ohr rfl ⟨v, rfl, by omega, by omega, took HK.out HB.out hn hm2 _ _⟩
    simp [results, Tryz.results31, go_sem]
  · have i1 : (len : Int) ≤ (n : Int) := by omega
    have HB := Lib.hid hB
    clear hB
    go_enter Tryz.func31, Tryz.ntmps31
    go_wp2
    go_quiet (fail)
    go_wp2
    go_quiet (fail)
    go_wp2
    obtain ⟨m, hm, hm2⟩ := wrap_nat (IntKind.u64.wrap (IntKind.u64.wrap (↑seed * 6364136223846793005)) + 1442695040888963407)
    obtain ⟨r, hr, hr2⟩ := and255 (m / 1099511627776) (by omega)
    simp only [hm]
    rw [show ((m : Int) / 1099511627776) = ((m / 1099511627776 : Nat) : Int) from by omega, hr, show wrap64 (r : Int) = (r : Int) from by simp [wrap64]; omega]
    refine bodyPost_ret ?ohq rfl ⟨r, rfl, by omega, by omega, took HK.out HB.out hn hm2 _ _⟩
    simp [results, Tryz.results31, go_sem]

theorem IsSrc.mono {G K K' : Nat} {w : World} (h : IsSrc G K w) (hK : K ≤ K') : IsSrc G K' w := by
  obtain ⟨a, len, cap, n, seed, h, hn, hs, hB⟩ := h
  exact ⟨a, len, cap, n, seed, h, by omega, hs, hB⟩

set_option maxRecDepth 20000 in
set_option maxHeartbeats 3200000 in
theorem pick (G K n : Nat) (w : World) (h : IsSrc G K w) (hK : K ≤ 900000) (h1 : 1 < n) (h2 : n ≤ 65536) : Calls Tryz.prog 22 #[.pointer (some ⟨G, 0, none⟩), .int .i64 (n : Int)] w (RetN G (K + 2) 0 n w) := by
  have i1 : (1 : Int) < (n : Int) := by omega
  by_cases hc : n ≤ 200
  · have i2 : (n : Int) ≤ 200 := by omega
    go_enter Tryz.func22, Tryz.ntmps22
    go_wp2_with fail
    refine (next G K w h (by omega)).mono ?_
    rintro e w1 ⟨r1, rfl, ha1, hr1, hs1, hk1⟩
    go_wp2
    rw [show ((r1 : Int) % (n : Int)) = ((r1 % n : Nat) : Int) from by norm_cast]
    refine bodyPost_ret ?o1 rfl ⟨r1 % n, rfl, by omega, Nat.mod_lt _ (by omega), hs1.mono (by omega), hk1⟩
    simp [results, Tryz.results22, go_sem]
  · have i2 : (200 : Int) < (n : Int) := by omega
    go_enter Tryz.func22, Tryz.ntmps22
    go_wp2_with fail
    refine (next G K w h (by omega)).mono ?_
    rintro e w1 ⟨r1, rfl, ha1, hr1, hs1, hk1⟩
    go_wp2_with fail
    refine (next G (K + 1) w1 hs1 (by omega)).mono ?_
    rintro e w2 ⟨r2, rfl, ha2, hr2, hs2, hk2⟩
    go_wp2
    rw [show (((r1 : Int) * 256 + (r2 : Int)) % (n : Int)) = (((r1 * 256 + r2) % n : Nat) : Int) from by norm_cast]
    refine bodyPost_ret ?o2 rfl ⟨(r1 * 256 + r2) % n, rfl, by omega, Nat.mod_lt _ (by omega), hs2, hk1.trans hk2⟩
    simp [results, Tryz.results22, go_sem]

def RetB (G K : Nat) (w : World) (e : Ending) (w' : World) : Prop := ∃ b : Bool, e = .returned (.bool b) ∧ IsSrc G K w' ∧ Keeps G w w'

set_option maxRecDepth 20000 in
theorem one (G K n : Nat) (w : World) (h : IsSrc G K w) (hK : K ≤ 900000) (h1 : 1 < n) (h2 : n ≤ 65536) : Calls Tryz.prog 36 #[.pointer (some ⟨G, 0, none⟩), .int .i64 (n : Int)] w (RetB G (K + 2) w) := by
  go_enter Tryz.func36, Tryz.ntmps36
  go_wp2_with fail
  refine (pick G K n w h hK h1 h2).mono ?_
  rintro e w1 ⟨r1, rfl, ha1, hr1, hs1, hk1⟩
  go_wp2
  refine bodyPost_ret ?o2 rfl ⟨((r1 : Int) == 0), rfl, hs1, hk1⟩
  simp [results, Tryz.results36, go_sem]

/-- Some whole numbers in a row of another block than G. -/
def IsL (G : Nat) (w : World) (a : Option Addr) (m M : Nat) : Prop :=
  ∃ b off, a = some ⟨b, off, none⟩ ∧ b ≠ G ∧ b < w.heap.size ∧ ∀ i, i < m → ∃ v : Nat, w.cell? ⟨b, off + i, none⟩ = some (.int .i64 (v : Int)) ∧ v < M

set_option maxRecDepth 20000 in
theorem among (G K m cap M : Nat) (a : Option Addr) (w : World) (h : IsSrc G K w) (hK : K ≤ 900000) (h1 : 1 < m) (h2 : m ≤ 60000) (hl : IsL G w a m M) : Calls Tryz.prog 48 #[.pointer (some ⟨G, 0, none⟩), .slice a m cap] w (RetN G (K + 2) 0 M w) := by
  obtain ⟨b, off, rfl, hbG, hb, hc⟩ := hl
  have hm : ((m : Nat) : Int) ≤ 60000 := by omega
  go_enter Tryz.func48, Tryz.ntmps48
  go_wp2_with fail
  refine (pick G K m w h hK h1 (by omega)).mono ?_
  rintro e w1 ⟨r1, rfl, ha1, hr1, hs1, hk1⟩
  obtain ⟨v, hv, hv2⟩ := hc r1 hr1
  have hv3 : w1.cell? ⟨b, off + r1, none⟩ = some (.int .i64 (v : Int)) := by
    rw [← hv]; simp [World.cell?, hk1.2 b hbG hb]
  have i1 : (r1 : Int) < (m : Int) := by omega
  go_wp2
  refine bodyPost_ret ?o2 rfl ⟨v, rfl, by omega, hv2, hs1, hk1⟩
  simp [results, Tryz.results48, go_sem]

/-- A drawn number. -/
def RetX (G K : Nat) (w : World) (e : Ending) (w' : World) : Prop := ∃ r : Nat, e = .returned (.float .f32 r) ∧ r < 4294967296 ∧ IsSrc G K w' ∧ Keeps G w w'

theorem IsSrc.draw {G K : Nat} {w : World} (h : IsSrc G K w) (n : Nat) : IsSrc G K (w.drewN n) :=
  h.later (below_drewN (Below.refl _ _) n) (Nat.le_refl _)

theorem intFr (n : Int) : Fr .f32 (floatOfInt .f32 n) (cl .f32 (floatOfInt .f32 n)) := ⟨rfl, by unfold floatOfInt FloatKind.nearest; exact FloatKind.f32.format.write_lt _⟩

set_option maxRecDepth 20000 in
theorem from_ (n : Nat) (w : World) (hn : n < 4294967296) : Calls Tryz.prog 47 #[.int .i64 (n : Int)] w (fun e w' => e = .returned (.float .f32 n) ∧ w' = w) := by
  have hf := Bits.frombits_run
  have i1 : (n : Int) < 4294967296 := by omega
  go_enter Tryz.func47, Tryz.ntmps47
  go_wp2
  refine bodyPost_ret ?o1 rfl ⟨rfl, rfl⟩
  simp [results, Tryz.results47, go_sem]

set_option maxRecDepth 20000 in
theorem drawPlain (G K : Nat) (w : World) (h : IsSrc G K w) (hK : K ≤ 800000) : Calls Tryz.prog 46 #[.pointer (some ⟨G, 0, none⟩)] w (RetX G (K + 4) w) := by
  have c1 : Fr .f32 1088421888 (some 1088421888) := Fr.const (by kernel_rfl) (by decide)
  have c2 : Fr .f32 1098907648 (some 1098907648) := Fr.const (by kernel_rfl) (by decide)
  go_enter Tryz.func46, Tryz.ntmps46
  go_wp2_with fail
  refine (pick G K 129 w h (by omega) (by omega) (by omega)).mono ?_
  rintro e w1 ⟨r1, rfl, ha1, hr1, hs1, hk1⟩
  go_wp2_with fail
  refine (one G (K + 2) 4 w1 hs1 (by omega) (by omega) (by omega)).mono ?_
  rintro e w2 ⟨b, rfl, hs2, hk2⟩
  have fi := intFr ((r1 : Int) - 64)
  cases b
  · go_wp2_with (first | (refine Fl.wpList_fl rfl rfl rfl rfl rfl (by assumption) (by assumption) ?_; intro r n hr))
    exact bodyPost_ret (by simp [results, Tryz.results46, go_sem]) rfl ⟨_, rfl, hr.2, hs2.draw _, (hk1.trans hk2).draw _⟩
  · go_wp2_with (first | (refine Fl.wpList_fl rfl rfl rfl rfl rfl (by assumption) (by assumption) ?_; intro r n hr))
    exact bodyPost_ret (by simp [results, Tryz.results46, go_sem]) rfl ⟨_, rfl, hr.2, hs2.draw _, (hk1.trans hk2).draw _⟩

theorem IsSrc.alloc {G K : Nat} {w : World} (h : IsSrc G K w) (ob : Obj) : IsSrc G K (w.alloc ob) :=
  h.later (Below.alloc (Below.refl _ _) (Nat.le_refl _) ob) (Nat.le_refl _)

theorem Keeps.alloc {G K : Nat} {a b : World} (hk : Keeps G a b) (h : IsSrc G K b) (ob : Obj) : Keeps G a (b.alloc ob) :=
  hk.later (Nat.le_of_lt h.lt) (Below.alloc (Below.refl _ _) (Nat.le_refl _) ob)

theorem isL_alloc {G K M : Nat} {w : World} (h : IsSrc G K w) (ns : List Nat) (hns : ∀ n ∈ ns, n < M) : IsL G (w.alloc (.cells (ns.map fun n : Nat => Value.int .i64 (n : Int)).toArray 2)) (some ⟨w.heap.size, 0, none⟩) ns.length M := by
  refine ⟨w.heap.size, 0, rfl, Nat.ne_of_gt h.lt, by simp, fun i hi => ⟨ns[i], ?_, hns _ (List.getElem_mem _)⟩⟩
  have hB : (w.alloc (.cells (ns.map fun n : Nat => Value.int .i64 (n : Int)).toArray 2)).heap[w.heap.size]? = some (.cells (ns.map fun n : Nat => Value.int .i64 (n : Int)).toArray 2) := by show (w.heap.push _)[w.heap.size]? = _; simp
  rw [Loose.cells_of hB]
  simp [hi]

set_option maxRecDepth 20000 in
set_option maxHeartbeats 3200000 in
theorem drawFloat (G K : Nat) (w : World) (h : IsSrc G K w) (hK : K ≤ 700000) : Calls Tryz.prog 38 #[.pointer (some ⟨G, 0, none⟩)] w (RetX G (K + 12) w) := by
  go_enter Tryz.func38, Tryz.ntmps38
  go_wp2_with fail
  refine (one G K 12 w h (by omega) (by omega) (by omega)).mono ?_
  rintro e w1 ⟨b, rfl, hs1, hk1⟩
  cases b
  · go_wp2_with fail
    refine (drawPlain G (K + 2) w1 hs1 (by omega)).mono ?_
    rintro e w2 ⟨x, rfl, hx, hs2, hk2⟩
    go_wp2
    exact bodyPost_ret (by simp [results, Tryz.results38, go_sem]) rfl ⟨_, rfl, hx, hs2.mono (by omega), hk1.trans hk2⟩
  · go_wp2_with fail
    refine (pick G (K + 2) 4 w1 hs1 (by omega) (by omega) (by omega)).mono ?_
    rintro e w2 ⟨q, rfl, _, hq, hs2, hk2⟩
    have hq4 : q = 0 ∨ q = 1 ∨ q = 2 ∨ q = 3 := by omega
    rcases hq4 with rfl | rfl | rfl | rfl
    · go_wp2_with fail
      refine (among G (K + 4) 10 10 4294967296 _ _ (hs2.alloc _) (by omega) (by omega) (by omega) (isL_alloc hs2 [0, 2147483648, 2139095040, 4286578688, 2143289344, 1, 2139095039, 8388608, 8388607, 2147483649] (by decide))).mono ?_
      rintro e w3 ⟨v, rfl, _, hv, hs3, hk3⟩
      go_wp2_with fail
      refine (from_ v w3 hv).mono ?_
      rintro e w4 ⟨rfl, rfl⟩
      go_wp2
      exact bodyPost_ret (by simp [results, Tryz.results38, go_sem]) rfl ⟨_, rfl, hv, hs3.mono (by omega), ((hk1.trans hk2).alloc hs2 _).trans hk3⟩
    · go_wp2_with fail
      refine (pick G (K + 4) 65536 w2 hs2 (by omega) (by omega) (by omega)).mono ?_
      rintro e w3 ⟨r3, rfl, _, hr3, hs3, hk3⟩
      have i3 : (r3 : Int) < 65536 := by omega
      go_wp2_with fail
      refine (pick G (K + 6) 65536 w3 hs3 (by omega) (by omega) (by omega)).mono ?_
      rintro e w4 ⟨r4, rfl, _, hr4, hs4, hk4⟩
      have i4 : (r4 : Int) < 65536 := by omega
      go_wp2_with fail
      rw [show ((r3 : Int) * 65536 + (r4 : Int)) = ((r3 * 65536 + r4 : Nat) : Int) from by omega]
      refine (from_ _ w4 (by omega)).mono ?_
      rintro e w5 ⟨rfl, rfl⟩
      go_wp2
      exact bodyPost_ret (v := .float .f32 (r3 * 65536 + r4)) (by simp [results, Tryz.results38, go_sem]) rfl ⟨r3 * 65536 + r4, rfl, by omega, hs4.mono (by omega), ((hk1.trans hk2).trans hk3).trans hk4⟩
    · go_wp2_with fail
      refine (pick G (K + 4) 65536 w2 hs2 (by omega) (by omega) (by omega)).mono ?_
      rintro e w3 ⟨r3, rfl, _, hr3, hs3, hk3⟩
      have i3 : (r3 : Int) < 65536 := by omega
      go_wp2_with fail
      rw [show ((r3 : Int) * 65536) = ((r3 * 65536 : Nat) : Int) from by omega]
      refine (from_ _ w3 (by omega)).mono ?_
      rintro e w5 ⟨rfl, rfl⟩
      go_wp2
      exact bodyPost_ret (v := .float .f32 (r3 * 65536)) (by simp [results, Tryz.results38, go_sem]) rfl ⟨r3 * 65536, rfl, by omega, hs3.mono (by omega), (hk1.trans hk2).trans hk3⟩
    · go_wp2_with fail
      refine (drawPlain G (K + 4) w2 hs2 (by omega)).mono ?_
      rintro e w3 ⟨x, rfl, hx, hs3, hk3⟩
      go_wp2_with fail
      refine (among G (K + 8) 4 4 4294967296 _ _ (hs3.alloc _) (by omega) (by omega) (by omega) (isL_alloc hs3 [8388608, 2130706432, 1610612736, 536870912] (by decide))).mono ?_
      rintro e w4 ⟨v, rfl, _, hv, hs4, hk4⟩
      go_wp2_with fail
      refine (from_ v w4 hv).mono ?_
      rintro e w5 ⟨rfl, rfl⟩
      have f1 : Fr .f32 x (cl .f32 x) := ⟨rfl, hx⟩
      have f2 : Fr .f32 v (cl .f32 v) := ⟨rfl, hv⟩
      go_wp2_with (first | (refine Fl.wpList_fl rfl rfl rfl rfl rfl (by assumption) (by assumption) ?_; intro r n hr))
      exact bodyPost_ret (by simp [results, Tryz.results38, go_sem]) rfl ⟨_, rfl, hr.2, (hs4.mono (by omega)).draw _, ((((hk1.trans hk2).trans hk3).alloc hs3 _).trans hk4).draw _⟩

end Src
end Go.Proofs.YtpmnjbgfdhhomabGreatDoor
