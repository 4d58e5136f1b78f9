/- Reading a vector: the model's and the program's function. -/
import Derived.Test.YtpmnjbgfdhhomabGreatDoorFC
import Derived.Test.YtpmnjbgfdhhomabGreatDoorVec
namespace Go.Proofs.YtpmnjbgfdhhomabGreatDoor
set_option linter.unusedSimpArgs false
set_option linter.unusedVariables false
open Go.RowKit
namespace FList
open Fl

/-- What a list that is read tells of a vector. -/
def Vof (zs : List Nat) (b : Bool) (x y z : Nat) (c : Bool) : Prop :=
  (b = true ∧ zs.length = 3 ∧ c = true ∧ zs = [x, y, z]) ∨ ((b = false ∨ zs.length ≠ 3) ∧ c = false ∧ x = 0 ∧ y = 0 ∧ z = 0)

theorem RetO.read {P : Program} {f : FuncId} {args : Array Value} {zs : List Nat} {b : Bool} {w : World} (h : Calls P f args w (RetO zs b w)) : Calls P f args w (RetL zs b w) :=
  h.mono fun e w' ⟨a, cap, he, ho, hb⟩ => ⟨a, cap, he, ho.isL, hb⟩

theorem vof (zs : List Nat) (b : Bool) : ∃ x y z c, Vof zs b x y z c := by
  cases b
  · exact ⟨0, 0, 0, false, .inr ⟨.inl rfl, rfl, rfl, rfl, rfl⟩⟩
  · by_cases h : zs.length = 3
    · match zs, h with
      | [x, y, z], _ => exact ⟨x, y, z, true, .inl ⟨rfl, rfl, rfl, rfl⟩⟩
    · exact ⟨0, 0, 0, false, .inr ⟨.inr h, rfl, rfl, rfl, rfl⟩⟩

theorem vof_ok {l : List UInt8} {zs : List Nat} {b : Bool} {x y z : Nat} {c : Bool} (hr : LR l zs b) (hv : Vof zs b x y z c) : x < 4294967296 ∧ y < 4294967296 ∧ z < 4294967296 := by
  rcases hv with ⟨_, _, _, rfl⟩ | ⟨_, _, rfl, rfl, rfl⟩
  · have h : ∀ j, j < 3 → ([x, y, z] : List Nat).getD j 0 < 4294967296 := fun j hj => by
      rcases hr with ⟨_, h, _⟩ | ⟨_, _, _, hl, h⟩ | ⟨_, _, h, _⟩
      · cases h
      · exact Hex.ReadsN.ok (h j _ (List.getElem?_eq_getElem (by rw [← hl]; exact hj)))
      · cases h
    exact ⟨h 0 (by omega), h 1 (by omega), h 2 (by omega)⟩
  · exact ⟨by decide, by decide, by decide⟩

def RetVB (x y z : Nat) (c : Bool) (w : World) (e : Ending) (w' : World) : Prop :=
  e = .returned (.tuple #[.agg #[.float .f32 x, .float .f32 y, .float .f32 z], .bool c]) ∧ Below w.heap.size w w'

set_option maxRecDepth 20000 in
set_option maxHeartbeats 1600000 in
theorem impl_vread (s : ByteArray) (zs : List Nat) (b : Bool) (w : World) (hs : s.size ≤ 1048576) (hr : LR s.data.toList zs b) (ht : Hex.Tabs w) (x y z : Nat) (c : Bool) (hv : Vof zs b x y z c) :
    Calls Tryz.prog 19 #[.string s] w (RetVB x y z c w) := by
  have HC := Lib.hid (fun w ht => RetO.read (impl_readlist s zs b w hs hr ht))
  have HT := Lib.hid ht
  clear ht
  clear hr hs
  go_enter Tryz.func19, Tryz.ntmps19
  go_wp2_with fail
  refine (HC.out _ (HT.out.on ((Below.refl _ _).alloc (Nat.le_refl _) _))).mono ?_
  rintro e w1 ⟨a, cap, rfl, hL, hb1⟩
  have hz1 := hb1.size
  simp only [World.size_alloc] at hz1
  obtain ⟨hc1, hf1⟩ := Fl.bcell hb1
  have g1 : w.heap.size < w1.heap.size := by omega
  have hbw : Below w.heap.size w w1 := ((Below.refl _ _).alloc (Nat.le_refl _) _).trans (hb1.mono (by simp))
  have HBW := Lib.hid hbw
  clear hbw
  obtain ⟨n, hn⟩ : ∃ n, n = zs.length := ⟨_, rfl⟩
  rw [← hn] at hL ⊢
  have hmx := hL.2.1
  have hmy := hL.2.2.1
  unfold maxLen at hmy
  rcases hv with ⟨rfl, h3, rfl, hx⟩ | ⟨h, rfl, rfl, rfl, rfl⟩
  · rw [h3] at hn
    subst hn
    obtain ⟨h1, h2, h3', h4, b0, off, h5, h6⟩ := hL
    obtain rfl := h5 (by omega)
    have c0 : w1.cell? ⟨b0, off, none⟩ = some (.float .f32 x) := by have := h6 0 (by omega); rw [hx] at this; exact this
    have c1 : w1.cell? ⟨b0, off + 1, none⟩ = some (.float .f32 y) := by have := h6 1 (by omega); rw [hx] at this; exact this
    have c2 : w1.cell? ⟨b0, off + 2, none⟩ = some (.float .f32 z) := by have := h6 2 (by omega); rw [hx] at this; exact this
    have hlb := block_lt_of_cell c0
    clear h1 h2 h3' h4 h5 h6
    go_wp2_with fail
    refine Loose.wp_region_below 9 [] (by kernel_rfl) (by kernel_rfl) (by simp [undef]) ?_
    apply Exists.intro
    simp only [List.take_succ_cons, List.take_zero, List.drop_succ_cons, List.drop_zero]
    repeat (apply Loose.walk_step; intro K hK; apply Loose.turn_value (hwant := rfl) (hd := rfl); (focus (intro w' hw'; obtain ⟨hc, hf⟩ := Fl.bcell hw'; go_simp; first | done | rfl | exact ⟨rfl, rfl⟩)); go_simp; refine hK _ ?_; clear hK K)
    refine Loose.walk_nil ?_
    intro w2 hcls2
    obtain ⟨hb2, _⟩ := hcls2
    obtain ⟨hc2, hf2⟩ := Fl.bcell hb2
    have hz2 := hb2.size
    try simp only [World.size_alloc, World.size_setCell, World.heap_drewN, World.size_drew] at hz2
    go_wp2
    refine bodyPost_ret ?ohr rfl ⟨rfl, ?obel⟩
    case ohr => simp [results, Tryz.results19, go_sem, *]
    case obel => have hbel := HBW.out; have hbz := hbel.size; (repeat' first | exact Below.refl _ _ | (refine Below.setCell ?_ (by first | omega | (simp; omega) | simp) _) | (refine below_drewN ?_ _) | (refine Below.alloc ?_ (by first | omega | (simp; omega) | simp) _) | (refine Below.trans ?_ (Below.mono (by assumption) (by first | omega | (simp; omega) | simp))))
  · rcases h with rfl | h
    · go_wp2
      refine bodyPost_ret ?ohr rfl ⟨rfl, ?obel⟩
      case ohr => simp [results, Tryz.results19, go_sem, *]
      case obel => have hbel := HBW.out; have hbz := hbel.size; (repeat' first | exact Below.refl _ _ | (refine Below.setCell ?_ (by first | omega | (simp; omega) | simp) _) | (refine below_drewN ?_ _) | (refine Below.alloc ?_ (by first | omega | (simp; omega) | simp) _) | (refine Below.trans ?_ (Below.mono (by assumption) (by first | omega | (simp; omega) | simp))))
    · have hn3 : ¬ (n : Int) = 3 := by omega
      cases b
      all_goals
        go_wp2
        refine bodyPost_ret ?ohr rfl ⟨rfl, ?obel⟩
        case ohr => simp [results, Tryz.results19, go_sem, *]
        case obel => have hbel := HBW.out; have hbz := hbel.size; (repeat' first | exact Below.refl _ _ | (refine Below.setCell ?_ (by first | omega | (simp; omega) | simp) _) | (refine below_drewN ?_ _) | (refine Below.alloc ?_ (by first | omega | (simp; omega) | simp) _) | (refine Below.trans ?_ (Below.mono (by assumption) (by first | omega | (simp; omega) | simp))))