/- The laws' own helpers on Pool: size, copy, equality, marks. (written by rec.py) -/
import Derived.Test.YtmpopfcnjgcncaaGreatDoorChecked
import Derived.Test.YtmpopfcnjgcncaaGreatDoorBase0
import Derived.Test.YtmpopfcnjgcncaaGreatDoorInfo
import Derived.Test.YtmpopfcnjgcncaaGreatDoorMarkI
import Derived.Test.YtmpopfcnjgcncaaGreatDoorEqInt
import Derived.Test.YtmpopfcnjgcncaaGreatDoorRowV
import Derived.Test.YtmpopfcnjgcncaaGreatDoorPoolA
import Derived.WalkKit
import Derived.WalkSpells
import Derived.WalkLawsBesides
import Derived.Lib.Hide
import Derived.Lib.QuietBelow
import Derived.IntWalk
import Derived.Deep.OwnRows
import Derived.Deep.QuietTactic
import Derived.BigQuiet
import Derived.Outline
namespace Go.Proofs.YtmpopfcnjgcncaaGreatDoor
open Go.RowKit Rec Pure1 Pure2 Pure40 Pure80

/-- what is left: where it is not negative, the lists are no longer than what there was -/
def PoolV.Left (l0 l1 : Nat) (w : World) (e : Ending) (w' : World) : Prop := ∃ R : Int, e = .returned (.int .i64 R) ∧ R ≤ 1048576 ∧ (0 ≤ R → l0 ≤ 1048576 ∧ l1 ≤ 1048576) ∧ Below w.heap.size w w'
/-- the struct whose lists have been copied -/
def PoolV.Copied (l0 : Nat) (l1 : Nat) (p : PoolV) (w : World) (e : Ending) (w' : World) : Prop :=
  ∃ b0 b1 : Nat, e = .returned (.agg #[.slice (some ⟨b0, 0, none⟩) l0 l0, .slice (some ⟨b1, 0, none⟩) l1 l1, .int .i64 p.state]) ∧ w.heap.size ≤ b0 ∧ b0 < w'.heap.size ∧ OwnI w.heap.size w' (some ⟨b0, 0, none⟩) l0 (fun i => p.nums.getD i 0) ∧ w.heap.size ≤ b1 ∧ b1 < w'.heap.size ∧ OwnI w.heap.size w' (some ⟨b1, 0, none⟩) l1 (fun i => p.drawn.getD i 0) ∧ b0 ≠ b1 ∧ PoolV.In w' (some ⟨b0, 0, none⟩) l0 (some ⟨b1, 0, none⟩) l1 p ∧ Below w.heap.size w w'
set_option maxRecDepth 100000 in
set_option maxHeartbeats 1000000 in
/-- two whose lists read the same are told to be the same -/
theorem eqPoolV_same (a0 : Option Addr) (l0 c0 : Nat) (a1 : Option Addr) (l1 c1 : Nat) (a0' : Option Addr) (c0' : Nat) (a1' : Option Addr) (c1' : Nat) (p : PoolV) (w : World) (h : PoolV.In w a0 l0 a1 l1 p) (h' : PoolV.In w a0' l0 a1' l1 p) :
    Calls Tryz.prog 14 #[.agg #[.slice a0 l0 c0, .slice a1 l1 c1, .int .i64 p.state], .agg #[.slice a0' l0 c0', .slice a1' l1 c1', .int .i64 p.state]] w (fun e w' => e = .returned (.bool true) ∧ Below w.heap.size w w') := by
  have HW := Lib.hid (boxes2 w (.cells #[.slice a0 l0 c0, .slice a1 l1 c1, .int .i64 p.state] 26) (.cells #[.slice a0' l0 c0', .slice a1' l1 c1', .int .i64 p.state] 26))
  have hA := h.below HW.out; have hA' := h'.below HW.out
  have HC0 := Lib.hid (fun n => eqInt64S_any a0 a0' l0 c0 l0 c0' p.nums p.nums (((w.alloc (.cells #[.slice a0 l0 c0, .slice a1 l1 c1, .int .i64 p.state] 26)).alloc (.cells #[.slice a0' l0 c0', .slice a1' l1 c1', .int .i64 p.state] 26)).drewN n) hA.1.1 hA'.1.1 hA.1.2.1 hA'.1.2.1 (hA.1.2.2.below (below_drewN (Below.refl _ _) _)) (hA'.1.2.2.below (below_drewN (Below.refl _ _) _)))
  have HC1 := Lib.hid (fun n => eqInt64S_any a1 a1' l1 c1 l1 c1' p.drawn p.drawn (((w.alloc (.cells #[.slice a0 l0 c0, .slice a1 l1 c1, .int .i64 p.state] 26)).alloc (.cells #[.slice a0' l0 c0', .slice a1' l1 c1', .int .i64 p.state] 26)).drewN n) hA.2.1 hA'.2.1 hA.2.2.1 hA'.2.2.1 (hA.2.2.2.below (below_drewN (Below.refl _ _) _)) (hA'.2.2.2.below (below_drewN (Below.refl _ _) _)))
  simp only [sameL_self] at HC0 HC1
  clear h h' hA hA'
  go_enter Tryz.func14, Tryz.ntmps14
  go_wp2_with fail
  have HC0' := HC0.out 0
  simp only [World.drewN_zero] at HC0'
  refine HC0'.mono ?_; rintro e w1 ⟨rfl, m0, rfl⟩
  go_wp2_with fail
  refine (HC1.out m0).mono ?_; rintro e w1 ⟨rfl, k1, rfl⟩
  obtain ⟨m1, hm1⟩ : ∃ m, m0 + k1 = m := ⟨_, rfl⟩
  rw [drewN_add, hm1]
  go_wp2_with fail
  go_ret
  exact ⟨rfl, below_drewN HW.out _⟩

/-- marks are laid in the lists, which are our own and have no row in common -/
def PoolV.Marks (B C : Nat) (a0 : Option Addr) (l0 : Nat) (a1 : Option Addr) (l1 : Nat) (k : Int) (w : World) (e : Ending) (w' : World) : Prop :=
  e = .returned (.int .i64 (k + l0 + l1)) ∧ OwnI B w' a0 l0 (fun i => k + i) ∧ OwnI B w' a1 l1 (fun i => k + l0 + i) ∧ Turn [a0, a1] B C w w'
set_option maxRecDepth 100000 in
set_option maxHeartbeats 2000000 in
theorem markPoolV_any (B : Nat) (a0 : Option Addr) (l0 c0 : Nat) (a1 : Option Addr) (l1 c1 : Nat) (p : PoolV) (g0 : Nat → Int) (g1 : Nat → Int) (k : Int) (w : World) (h0 : 0 < k) (h1 : k ≤ 1000000) (hl0 : l0 ≤ 1048576) (hl1 : l1 ≤ 1048576) (hO0 : OwnI B w a0 l0 g0) (hO1 : OwnI B w a1 l1 g1) (hA0_1 : Apart a0 a1) :
    Calls Tryz.prog 15 #[.agg #[.slice a0 l0 c0, .slice a1 l1 c1, .int .i64 p.state], .int .i64 k] w (PoolV.Marks B w.heap.size a0 l0 a1 l1 k w) := by
  have HW := Lib.hid (boxed w (.cells #[.slice a0 l0 c0, .slice a1 l1 c1, .int .i64 p.state] 26))
  have HX0 := Lib.hid (rowV_box w 26 [.slice a0 l0 c0, .slice a1 l1 c1, .int .i64 p.state])
  have HC0 := Lib.hid (fun x (hx : a0 = some x) (hz : l0 ≠ 0) => show x.block < w.heap.size from by rcases hO0 with h | ⟨b, f, N, rfl, hB, hN, hr, hf⟩; exact absurd h hz; cases hx; exact hr.lt)
  have HC1 := Lib.hid (fun x (hx : a1 = some x) (hz : l1 ≠ 0) => show x.block < w.heap.size from by rcases hO1 with h | ⟨b, f, N, rfl, hB, hN, hr, hf⟩; exact absurd h hz; cases hx; exact hr.lt)
  have HO0_0 := Lib.hid (hO0.below HW.out)
  have HO1_0 := Lib.hid (hO1.below HW.out)
  have HT0 := Lib.hid (turn_below (S := [a0, a1]) (B := B) (C := w.heap.size) HW.out)
  clear hO0 hO1
  go_enter Tryz.func15, Tryz.ntmps15
  have HM0 := Lib.hid (markInt_any B w.heap.size a0 l0 c0 g0 (k) (w.alloc (.cells #[.slice a0 l0 c0, .slice a1 l1 c1, .int .i64 p.state] 26)) (by omega) (by omega) (by omega) HO0_0.out HC0.out)
  go_wp2_with fail
  refine HM0.out.mono ?_; rintro e w1 ⟨rfl, ho, ht⟩
  have HX1 := Lib.hid (HX0.out.turn ht (.inr (Nat.le_refl _)))
  have HT1 := Lib.hid (HT0.out.trans (ht.mono (S' := [a0, a1]) (by simp) (Nat.le_refl _)))
  have HO0_1 := Lib.hid ho
  have HO1_1 := Lib.hid (ownI_turn HO1_0.out ht (fun y hy => by cases List.mem_singleton.1 hy; exact hA0_1.symm))
  clear ho ht HM0 HX0 HT0 HO0_0 HO1_0
  have HM1 := Lib.hid (markInt_any B w.heap.size a1 l1 c1 g1 (k + l0) w1 (by omega) (by omega) (by omega) HO1_1.out HC1.out)
  have x0_1 := HX1.out.cell (show _[0]? = some _ from rfl)
  have x1_1 := HX1.out.cell (show _[1]? = some _ from rfl)
  have x2_1 := HX1.out.cell (show _[2]? = some _ from rfl)
  go_wp2_with fail
  refine HM1.out.mono ?_; rintro e w1 ⟨rfl, ho, ht⟩
  clear x0_1 x1_1 x2_1
  have HX2 := Lib.hid (HX1.out.turn ht (.inr (Nat.le_refl _)))
  have HT2 := Lib.hid (HT1.out.trans (ht.mono (S' := [a0, a1]) (by simp) (Nat.le_refl _)))
  have HO0_2 := Lib.hid (ownI_turn HO0_1.out ht (fun y hy => by cases List.mem_singleton.1 hy; exact hA0_1))
  have HO1_2 := Lib.hid ho
  clear ho ht HM1 HX1 HT1 HO0_1 HO1_1
  have x0 := HX2.out.cell (show _[0]? = some _ from rfl)
  have x1 := HX2.out.cell (show _[1]? = some _ from rfl)
  have x2 := HX2.out.cell (show _[2]? = some _ from rfl)
  go_wp2_with fail
  go_ret
  exact ⟨rfl, HO0_2.out, HO1_2.out, HT2.out⟩

set_option maxRecDepth 100000 in
set_option maxHeartbeats 2000000 in
theorem heldPoolV_any (B : Nat) (a0 : Option Addr) (l0 c0 : Nat) (a1 : Option Addr) (l1 c1 : Nat) (p : PoolV) (k : Int) (w : World) (h0 : 0 < k) (h1 : k ≤ 1000000) (hl0 : l0 ≤ 1048576) (hl1 : l1 ≤ 1048576) (hO0 : OwnI B w a0 l0 (fun i => k + i)) (hO1 : OwnI B w a1 l1 (fun i => k + l0 + i)) :
    Calls Tryz.prog 16 #[.agg #[.slice a0 l0 c0, .slice a1 l1 c1, .int .i64 p.state], .int .i64 k] w (fun e w' => e = .returned (.int .i64 (k + l0 + l1)) ∧ Below w.heap.size w w') := by
  have HW := Lib.hid (boxed w (.cells #[.slice a0 l0 c0, .slice a1 l1 c1, .int .i64 p.state] 26))
  have HM0 := Lib.hid (heldInt64S_any B a0 l0 c0 (k) (w.alloc (.cells #[.slice a0 l0 c0, .slice a1 l1 c1, .int .i64 p.state] 26)) (by omega) (by omega) (by omega) (hO0.below HW.out))
  have HM1 := Lib.hid (heldInt64S_any B a1 l1 c1 (k + l0) (w.alloc (.cells #[.slice a0 l0 c0, .slice a1 l1 c1, .int .i64 p.state] 26)) (by omega) (by omega) (by omega) (hO1.below HW.out))
  clear hO0 hO1
  go_enter Tryz.func16, Tryz.ntmps16
  go_wp2_with fail
  refine HM0.out.mono ?_; rintro e w1 ⟨rfl, rfl⟩
  go_wp2_with fail
  refine HM1.out.mono ?_; rintro e w1 ⟨rfl, rfl⟩
  go_wp2_with fail
  go_ret
  exact ⟨rfl, HW.out⟩

end Go.Proofs.YtmpopfcnjgcncaaGreatDoor
