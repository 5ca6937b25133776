/- The laws' own helpers on Pool: size, copy, equality, marks. (written by rec.py) -/
import Derived.Test.YtmpopfcnjgcncaaDoorChecked
import Derived.Test.YtmpopfcnjgcncaaDoorBase
import Derived.Test.YtmpopfcnjgcncaaDoorInfo
import Derived.Test.YtmpopfcnjgcncaaDoorMarkI
import Derived.Test.YtmpopfcnjgcncaaDoorEqInt
import Derived.Test.YtmpopfcnjgcncaaDoorPure40
import Derived.Test.YtmpopfcnjgcncaaDoorRowV
import Derived.Test.YtmpopfcnjgcncaaDoorPure80
import Derived.Test.YtmpopfcnjgcncaaDoorPoolA
import Derived.WalkKit
import Derived.WalkSpells
import Derived.WalkLawsBesides
import Derived.Lib.Hide
import Derived.Lib.QuietBelow
import Derived.IntWalk
import Derived.Deep.OwnRows
import Derived.Deep.QuietTactic
import Derived.BigQuiet
import Derived.Outline
namespace Go.Proofs.YtmpopfcnjgcncaaDoor
open Go.RowKit Rec Pure1 Pure2 Pure40 Pure80

/-- what is left: where it is not negative, the lists are no longer than what there was -/
def PoolV.Left (l0 l1 : Nat) (w : World) (e : Ending) (w' : World) : Prop := ∃ R : Int, e = .returned (.int .i64 R) ∧ R ≤ 1048576 ∧ (0 ≤ R → l0 ≤ 1048576 ∧ l1 ≤ 1048576) ∧ Below w.heap.size w w'
set_option maxRecDepth 100000 in
set_option maxHeartbeats 1000000 in
theorem szPoolV_any (a0 : Option Addr) (l0 c0 : Nat) (a1 : Option Addr) (l1 c1 : Nat) (p : PoolV) (q : Int) (w : World) (h0 : 0 ≤ q) (h1 : q ≤ 1048576) (hm0 : l0 ≤ maxLen) (hm1 : l1 ≤ maxLen) :
    Calls Tryd.prog 4 #[.agg #[.slice a0 l0 c0, .slice a1 l1 c1, .int .i64 p.state], .int .i64 q] w (PoolV.Left l0 l1 w) := by
  have HW := Lib.hid (boxed w (.cells #[.slice a0 l0 c0, .slice a1 l1 c1, .int .i64 p.state] 24))
  have HC0 := Lib.hid (szInt_any a0 l0 c0 (q) (w.alloc (.cells #[.slice a0 l0 c0, .slice a1 l1 c1, .int .i64 p.state] 24)) hm0 (by omega) (by omega))
  by_cases hn0 : q - l0 < 0
  · rw [if_pos hn0] at HC0
    go_enter Tryd.func4, Tryd.ntmps4
    go_wp2_with fail
    refine HC0.out.mono ?_; rintro e w1 ⟨rfl, rfl⟩
    go_wp2_with fail
    go_ret
    exact ⟨-1, rfl, by omega, fun h => by omega, HW.out⟩
  · rw [if_neg hn0] at HC0
    have HC1 := Lib.hid (szInt_any a1 l1 c1 (q - l0) (w.alloc (.cells #[.slice a0 l0 c0, .slice a1 l1 c1, .int .i64 p.state] 24)) hm1 (by omega) (by omega))
    by_cases hn1 : q - l0 - l1 < 0
    · rw [if_pos hn1] at HC1
      go_enter Tryd.func4, Tryd.ntmps4
      go_wp2_with fail
      refine HC0.out.mono ?_; rintro e w1 ⟨rfl, rfl⟩
      go_wp2_with fail
      refine HC1.out.mono ?_; rintro e w1 ⟨rfl, rfl⟩
      go_wp2_with fail
      go_ret
      exact ⟨-1, rfl, by omega, fun h => by omega, HW.out⟩
    · rw [if_neg hn1] at HC1
      go_enter Tryd.func4, Tryd.ntmps4
      go_wp2_with fail
      refine HC0.out.mono ?_; rintro e w1 ⟨rfl, rfl⟩
      go_wp2_with fail
      refine HC1.out.mono ?_; rintro e w1 ⟨rfl, rfl⟩
      go_wp2_with fail
      go_ret
      exact ⟨q - l0 - l1, rfl, by omega, fun h => by omega, HW.out⟩

/-- the struct whose lists have been copied -/
def PoolV.Copied (l0 : Nat) (l1 : Nat) (p : PoolV) (w : World) (e : Ending) (w' : World) : Prop :=
  ∃ b0 b1 : Nat, e = .returned (.agg #[.slice (some ⟨b0, 0, none⟩) l0 l0, .slice (some ⟨b1, 0, none⟩) l1 l1, .int .i64 p.state]) ∧ w.heap.size ≤ b0 ∧ b0 < w'.heap.size ∧ OwnI w.heap.size w' (some ⟨b0, 0, none⟩) l0 (fun i => p.nums.getD i 0) ∧ w.heap.size ≤ b1 ∧ b1 < w'.heap.size ∧ OwnI w.heap.size w' (some ⟨b1, 0, none⟩) l1 (fun i => p.drawn.getD i 0) ∧ b0 ≠ b1 ∧ PoolV.In w' (some ⟨b0, 0, none⟩) l0 (some ⟨b1, 0, none⟩) l1 p ∧ Below w.heap.size w w'
set_option maxRecDepth 100000 in
set_option maxHeartbeats 4000000 in
theorem toPoolV_any (a0 : Option Addr) (l0 c0 : Nat) (a1 : Option Addr) (l1 c1 : Nat) (p : PoolV) (w : World) (hR : PoolV.In w a0 l0 a1 l1 p) (hl0 : l0 ≤ 1048576) (hl1 : l1 ≤ 1048576) :
    Calls Tryd.prog 6 #[.agg #[.slice a0 l0 c0, .slice a1 l1 c1, .int .i64 p.state]] w (PoolV.Copied l0 l1 p w) := by
  have HX0 := Lib.hid (((rowV_box w 24 [.slice a0 l0 c0, .slice a1 l1 c1, .int .i64 p.state]).below (boxed _ (.cells #[.slice none 0 0, .slice none 0 0, .int .i64 0] 28))).below (boxed _ (.cells #[.slice none 0 0, .slice none 0 0, .int .i64 0] 28)))
  have hrow1 := (rowV_box (w.alloc (.cells #[.slice a0 l0 c0, .slice a1 l1 c1, .int .i64 p.state] 24)) 28 [.slice none 0 0, .slice none 0 0, .int .i64 0]).below (boxed _ (.cells #[.slice none 0 0, .slice none 0 0, .int .i64 0] 28))
  have hrow2 := rowV_box ((w.alloc (.cells #[.slice a0 l0 c0, .slice a1 l1 c1, .int .i64 p.state] 24)).alloc (.cells #[.slice none 0 0, .slice none 0 0, .int .i64 0] 28)) 28 [.slice none 0 0, .slice none 0 0, .int .i64 0]
  have hx1 : (w.alloc (.cells #[.slice a0 l0 c0, .slice a1 l1 c1, .int .i64 p.state] 24)).heap.size = w.heap.size + 1 := by simp
  have hx2 : ((w.alloc (.cells #[.slice a0 l0 c0, .slice a1 l1 c1, .int .i64 p.state] 24)).alloc (.cells #[.slice none 0 0, .slice none 0 0, .int .i64 0] 28)).heap.size = w.heap.size + 1 + 1 := by simp
  have hsz0 : (((w.alloc (.cells #[.slice a0 l0 c0, .slice a1 l1 c1, .int .i64 p.state] 24)).alloc (.cells #[.slice none 0 0, .slice none 0 0, .int .i64 0] 28)).alloc (.cells #[.slice none 0 0, .slice none 0 0, .int .i64 0] 28)).heap.size = w.heap.size + 1 + 1 + 1 := by simp
  rw [hx1] at hrow1
  rw [hx2] at hrow2
  have HP0 := Lib.hid hrow1; have HO0 := Lib.hid hrow2
  have HW0 := Lib.hid (boxes3 w (.cells #[.slice a0 l0 c0, .slice a1 l1 c1, .int .i64 p.state] 24) (.cells #[.slice none 0 0, .slice none 0 0, .int .i64 0] 28) (.cells #[.slice none 0 0, .slice none 0 0, .int .i64 0] 28))
  have HRW := Lib.hid hR
  clear hrow1 hrow2 hx1 hx2 hR
  go_enter Tryd.func6, Tryd.ntmps6
  go_wp2_with fail
  generalize (((w.alloc (.cells #[.slice a0 l0 c0, .slice a1 l1 c1, .int .i64 p.state] 24)).alloc (.cells #[.slice none 0 0, .slice none 0 0, .int .i64 0] 28)).alloc (.cells #[.slice none 0 0, .slice none 0 0, .int .i64 0] 28)) = w0 at HX0 HP0 HO0 HW0 hsz0 ⊢
  obtain ⟨xb, hxb⟩ : ∃ xb, w.heap.size = xb := ⟨_, rfl⟩
  have HXB := Lib.hid hxb
  obtain ⟨pb, hpb⟩ : ∃ pb, xb + 1 = pb := ⟨_, rfl⟩
  obtain ⟨ob, hob⟩ : ∃ ob, pb + 1 = ob := ⟨_, rfl⟩
  rw [hxb] at HX0 HP0 HO0 HW0 hsz0 ⊢
  rw [hpb] at HP0 HO0 hsz0 ⊢
  rw [hob] at HO0 hsz0 ⊢
  have n1 : xb ≠ pb := by omega
  have n2 : xb ≠ ob := by omega
  have n3 : pb ≠ ob := by omega
  have n4 : xb ≤ ob := by omega
  have n5 : xb ≤ pb := by omega
  have HL := Lib.hid (show ob < ob + 1 ∧ pb < ob + 1 from ⟨by omega, by omega⟩)
  have hsz : ob + 1 ≤ w0.heap.size := by omega
  clear hxb hpb hob hsz0
  have hi0 : IntsIn w0 a0 l0 p.nums := (HRW.out.below (show Below w.heap.size w w0 from by rw [HXB.out]; exact HW0.out)).1
  have HZ := Lib.hid (toInt64W_any a0 l0 c0 p.nums w0 hi0.1 hl0 hi0.2.2)
  have HN0 := Lib.hid hi0.1
  clear hi0
  refine HZ.out.mono ?_; rintro e w1 ⟨b0, rfl, hb0, hc0, ho, _, hB⟩
  have HX1 := Lib.hid (HX0.out.below hB); have HP1 := Lib.hid (HP0.out.below hB); have HO1 := Lib.hid (HO0.out.below hB); have HW1 := Lib.hid (HW0.out.trans (hB.mono (by omega)))
  have HI0_1 := Lib.hid (Rec.ownI_mono ho hsz)
  have hsz : ob + 1 ≤ w1.heap.size := Nat.le_trans hsz hB.size
  clear ho hB HZ HX0 HP0 HO0 HW0
  have x0 := HX1.out.cell (show _[0]? = some _ from rfl)
  have x1 := HX1.out.cell (show _[1]? = some _ from rfl)
  have x2 := HX1.out.cell (show _[2]? = some _ from rfl)
  have o0 := HO1.out.cell (show _[0]? = some _ from rfl)
  have o1 := HO1.out.cell (show _[1]? = some _ from rfl)
  have o2 := HO1.out.cell (show _[2]? = some _ from rfl)
  have f0 := HO1.out.frozen 0
  go_wp2_with fail
  have HX2 := Lib.hid (HX1.out.other (o := 0) (fun e => n2 e.symm) (.slice (some ⟨b0, 0, none⟩) l0 l0)); have HP2 := Lib.hid (HP1.out.other (o := 0) (fun e => n3 e.symm) (.slice (some ⟨b0, 0, none⟩) l0 l0)); have HO2 := Lib.hid (HO1.out.put 0 (.slice (some ⟨b0, 0, none⟩) l0 l0)); have HW2 := Lib.hid (HW1.out.setCell (show xb ≤ (⟨ob, 0, none⟩ : Addr).block from n4) (.slice (some ⟨b0, 0, none⟩) l0 l0))
  have HI0_2 := Lib.hid (Rec.ownI_stored HI0_1.out (x := ⟨ob, 0, none⟩) (Nat.lt_succ_self ob) (.slice (some ⟨b0, 0, none⟩) l0 l0))
  have hc0 : b0 < (w1.setCell ⟨ob, 0, none⟩ (.slice (some ⟨b0, 0, none⟩) l0 l0)).heap.size := by simpa using hc0
  have hsz : ob + 1 ≤ (w1.setCell ⟨ob, 0, none⟩ (.slice (some ⟨b0, 0, none⟩) l0 l0)).heap.size := by simpa using hsz
  clear x0 x1 x2 o0 o1 o2 f0
  generalize (w1.setCell ⟨ob, 0, none⟩ (.slice (some ⟨b0, 0, none⟩) l0 l0)) = w0 at HX2 HP2 HO2 HW2 HI0_2 hc0 hsz ⊢
  have x0 := HX2.out.cell (show _[0]? = some _ from rfl)
  have x1 := HX2.out.cell (show _[1]? = some _ from rfl)
  have x2 := HX2.out.cell (show _[2]? = some _ from rfl)
  have hi1 : IntsIn w0 a1 l1 p.drawn := (HRW.out.below (show Below w.heap.size w w0 from by rw [HXB.out]; exact HW2.out)).2
  have HZ := Lib.hid (toInt64W_any a1 l1 c1 p.drawn w0 hi1.1 hl1 hi1.2.2)
  have HN1 := Lib.hid hi1.1
  clear hi1
  refine HZ.out.mono ?_; rintro e w1 ⟨b1, rfl, hb1, hc1, ho, _, hB⟩
  have HX3 := Lib.hid (HX2.out.below hB); have HP3 := Lib.hid (HP2.out.below hB); have HO3 := Lib.hid (HO2.out.below hB); have HW3 := Lib.hid (HW2.out.trans (hB.mono (by omega)))
  have HI0_3 := Lib.hid (HI0_2.out.below hB)
  have HI1_3 := Lib.hid (Rec.ownI_mono ho hsz)
  have hc0 : b0 < w1.heap.size := Nat.lt_of_lt_of_le hc0 hB.size
  have hn0_1 : b0 ≠ b1 := by omega
  have hsz : ob + 1 ≤ w1.heap.size := Nat.le_trans hsz hB.size
  clear ho hB HZ HX2 HP2 HO2 HW2
  have x0 := HX3.out.cell (show _[0]? = some _ from rfl)
  have x1 := HX3.out.cell (show _[1]? = some _ from rfl)
  have x2 := HX3.out.cell (show _[2]? = some _ from rfl)
  have o0 := HO3.out.cell (show _[0]? = some _ from rfl)
  have o1 := HO3.out.cell (show _[1]? = some _ from rfl)
  have o2 := HO3.out.cell (show _[2]? = some _ from rfl)
  have f1 := HO3.out.frozen 1
  have f2 := HO3.out.frozen 2
  have p0 := HP3.out.cell (show _[0]? = some _ from rfl); have g0 := HP3.out.frozen 0
  have p1 := HP3.out.cell (show _[1]? = some _ from rfl); have g1 := HP3.out.frozen 1
  have p2 := HP3.out.cell (show _[2]? = some _ from rfl); have g2 := HP3.out.frozen 2
  go_wp2_with fail
  (try simp only [Exit.inBlock, Exit.then])
  refine bodyPost_ret (v := .agg #[.slice (some ⟨b0, 0, none⟩) l0 l0, .slice (some ⟨b1, 0, none⟩) l1 l1, .int .i64 p.state]) ?_ rfl ?_
  · rw [results_cell1 rfl]
    go_simp
  · have hfin : ∀ W : World, W = (((((w1.setCell ⟨ob, 1, none⟩ (.slice (some ⟨b1, 0, none⟩) l1 l1)).setCell ⟨ob, 2, none⟩ (.int .i64 p.state)).setCell ⟨pb, 0, none⟩ (.slice (some ⟨b0, 0, none⟩) l0 l0)).setCell ⟨pb, 1, none⟩ (.slice (some ⟨b1, 0, none⟩) l1 l1)).setCell ⟨pb, 2, none⟩ (.int .i64 p.state)) → (b0 < W.heap.size ∧ OwnI (ob + 1) W (some ⟨b0, 0, none⟩) l0 (fun i => p.nums.getD i 0) ∧ b1 < W.heap.size ∧ OwnI (ob + 1) W (some ⟨b1, 0, none⟩) l1 (fun i => p.drawn.getD i 0) ∧ Below xb w W) := by
      rintro W rfl
      exact ⟨by simpa using hc0, (Rec.ownI_stored (Rec.ownI_stored (Rec.ownI_stored (Rec.ownI_stored (Rec.ownI_stored HI0_3.out HL.out.1 _) HL.out.1 _) HL.out.2 _) HL.out.2 _) HL.out.2 _), by simpa using hc1, (Rec.ownI_stored (Rec.ownI_stored (Rec.ownI_stored (Rec.ownI_stored (Rec.ownI_stored HI1_3.out HL.out.1 _) HL.out.1 _) HL.out.2 _) HL.out.2 _) HL.out.2 _), (((((HW3.out.setCell (p := ⟨ob, 1, none⟩) n4 _).setCell (p := ⟨ob, 2, none⟩) n4 _).setCell (p := ⟨pb, 0, none⟩) n5 _).setCell (p := ⟨pb, 1, none⟩) n5 _).setCell (p := ⟨pb, 2, none⟩) n5 _)⟩
    obtain ⟨q0, r0, q1, r1, qB⟩ := hfin _ rfl
    have hxb := HXB.out
    refine ⟨b0, b1, rfl, by omega, q0, Rec.ownI_mono r0 (by omega), by omega, q1, Rec.ownI_mono r1 (by omega), hn0_1, ⟨⟨HN0.out, by unfold maxLen; omega, ownI_reads (by rw [HN0.out]; exact r0)⟩, ⟨HN1.out, by unfold maxLen; omega, ownI_reads (by rw [HN1.out]; exact r1)⟩⟩, by rw [hxb]; exact qB⟩

set_option maxRecDepth 100000 in
set_option maxHeartbeats 1000000 in
/-- two whose lists read the same are told to be the same -/
theorem eqPoolV_same (a0 : Option Addr) (l0 c0 : Nat) (a1 : Option Addr) (l1 c1 : Nat) (a0' : Option Addr) (c0' : Nat) (a1' : Option Addr) (c1' : Nat) (p : PoolV) (w : World) (h : PoolV.In w a0 l0 a1 l1 p) (h' : PoolV.In w a0' l0 a1' l1 p) :
    Calls Tryd.prog 8 #[.agg #[.slice a0 l0 c0, .slice a1 l1 c1, .int .i64 p.state], .agg #[.slice a0' l0 c0', .slice a1' l1 c1', .int .i64 p.state]] w (fun e w' => e = .returned (.bool true) ∧ Below w.heap.size w w') := by
  have HW := Lib.hid (boxes2 w (.cells #[.slice a0 l0 c0, .slice a1 l1 c1, .int .i64 p.state] 28) (.cells #[.slice a0' l0 c0', .slice a1' l1 c1', .int .i64 p.state] 28))
  have hA := h.below HW.out; have hA' := h'.below HW.out
  have HC0 := Lib.hid (fun n => eqInt64S_any a0 a0' l0 c0 l0 c0' p.nums p.nums (((w.alloc (.cells #[.slice a0 l0 c0, .slice a1 l1 c1, .int .i64 p.state] 28)).alloc (.cells #[.slice a0' l0 c0', .slice a1' l1 c1', .int .i64 p.state] 28)).drewN n) hA.1.1 hA'.1.1 hA.1.2.1 hA'.1.2.1 (hA.1.2.2.below (below_drewN (Below.refl _ _) _)) (hA'.1.2.2.below (below_drewN (Below.refl _ _) _)))
  have HC1 := Lib.hid (fun n => eqInt64S_any a1 a1' l1 c1 l1 c1' p.drawn p.drawn (((w.alloc (.cells #[.slice a0 l0 c0, .slice a1 l1 c1, .int .i64 p.state] 28)).alloc (.cells #[.slice a0' l0 c0', .slice a1' l1 c1', .int .i64 p.state] 28)).drewN n) hA.2.1 hA'.2.1 hA.2.2.1 hA'.2.2.1 (hA.2.2.2.below (below_drewN (Below.refl _ _) _)) (hA'.2.2.2.below (below_drewN (Below.refl _ _) _)))
  simp only [sameL_self] at HC0 HC1
  clear h h' hA hA'
  go_enter Tryd.func8, Tryd.ntmps8
  go_wp2_with fail
  have HC0' := HC0.out 0
  simp only [World.drewN_zero] at HC0'
  refine HC0'.mono ?_; rintro e w1 ⟨rfl, m0, rfl⟩
  go_wp2_with fail
  refine (HC1.out m0).mono ?_; rintro e w1 ⟨rfl, k1, rfl⟩
  obtain ⟨m1, hm1⟩ : ∃ m, m0 + k1 = m := ⟨_, rfl⟩
  rw [drewN_add, hm1]
  go_wp2_with fail
  go_ret
  exact ⟨rfl, below_drewN HW.out _⟩

/-- marks are laid in the lists, which are our own and have no row in common -/
def PoolV.Marks (B C : Nat) (a0 : Option Addr) (l0 : Nat) (a1 : Option Addr) (l1 : Nat) (k : Int) (w : World) (e : Ending) (w' : World) : Prop :=
  e = .returned (.int .i64 (k + l0 + l1)) ∧ OwnI B w' a0 l0 (fun i => k + i) ∧ OwnI B w' a1 l1 (fun i => k + l0 + i) ∧ Turn [a0, a1] B C w w'
end Go.Proofs.YtmpopfcnjgcncaaDoor
