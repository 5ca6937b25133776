/- Contracts of the program's chapter 9: answers. (written by impl9.py) -/
import Derived.Test.YtchffaohmeaccaaDoorChecked
import Derived.Test.YtchffaohmeaccaaDoorBase0
import Derived.Test.YtchffaohmeaccaaDoorInfo
import Derived.Test.YtchffaohmeaccaaDoorMarkI
import Derived.Test.YtchffaohmeaccaaDoorSummonsB
import Derived.Test.YtchffaohmeaccaaDoorSummonsC
import Derived.Test.YtchffaohmeaccaaDoorSummonsD
import Derived.Test.YtchffaohmeaccaaDoorAsR
import Derived.Test.YtchffaohmeaccaaDoorAreDays
import Derived.Test.YtchffaohmeaccaaDoorImpl9a
import Derived.Test.YtchffaohmeaccaaDoorImpl9b
import Derived.Test.YtchffaohmeaccaaDoorImpl9c
import Derived.Test.YtchffaohmeaccaaDoorFind9
import Derived.Test.YtchffaohmeaccaaDoorSet9
import Derived.WalkKit
import Derived.WalkSpells
import Derived.WalkLawsBesides
import Derived.Lib.Hide
import Derived.Lib.QuietBelow
import Derived.IntWalk
import Derived.Deep.QuietTactic
import Derived.BigQuiet
import Derived.BigRegion
import Derived.OwnWalk
import Derived.RegionTactic
import Derived.Outline
namespace Go.Proofs.YtchffaohmeaccaaDoor
open Go.RowKit Go.Sort Pure1 Pure2 Pure20 Pure40

theorem results_cell_tmp9 {fn : Func} {p u : Tmp} {ty : TypeId} (h : fn.results = #[.cell p ty, .tmp u]) (tmps : Array Value) (P : Program) (w : World) :
    (results fn tmps).run P w = ((asAddr (tmps.getD p undef)).run P w).andThen fun a w₁ => ((loadVar ty a).run P w₁).andThen fun v w₂ => .ok (.tuple #[v, tmps.getD u undef]) w₂ := by
  simp only [results, h]
  simp [Sem.run_bind, Result.andThen]
set_option maxRecDepth 100000 in
set_option maxHeartbeats 2000000 in
theorem implAnswered_yes (c : Summons) (a d : Int) (w : World) (h0 : c.ans = 0) (hs : c.sent ≤ d) :
    Calls Tryd.prog 84 #[.agg #[.int .i64 c.num, .int .i64 c.sent, .int .i64 c.due, .int .i64 c.ans, .int .i64 c.done], .int .i64 a, .int .i64 d] w fun e w' => e = .returned (.tuple #[.agg #[.int .i64 c.num, .int .i64 c.sent, .int .i64 c.due, .int .i64 a, .int .i64 d], .nilIface]) ∧ Below w.heap.size w w' := by
  have HB1 := Summons.bx w (.cells #[.int .i64 c.num, .int .i64 c.sent, .int .i64 c.due, .int .i64 c.ans, .int .i64 c.done] 53)
  have hr1 := Summons.box_row w c 53
  have hsz : (w.alloc (.cells #[.int .i64 c.num, .int .i64 c.sent, .int .i64 c.due, .int .i64 c.ans, .int .i64 c.done] 53)).heap.size = w.heap.size + 1 := by simp
  have hr2 := Summons.box_row (w.alloc (.cells #[.int .i64 c.num, .int .i64 c.sent, .int .i64 c.due, .int .i64 c.ans, .int .i64 c.done] 53)) ⟨0, 0, 0, 0, 0⟩ 53
  have HB2 := Summons.bx (w.alloc (.cells #[.int .i64 c.num, .int .i64 c.sent, .int .i64 c.due, .int .i64 c.ans, .int .i64 c.done] 53)) (.cells #[.int .i64 0, .int .i64 0, .int .i64 0, .int .i64 0, .int .i64 0] 53)
  rw [hsz] at hr2
  have hr1 := hr1.of_block (HB2.block w.heap.size (by simp))
  have HR1 := Lib.hid hr1; have HR2 := Lib.hid hr2
  have HB := Lib.hid (HB1.trans (HB2.mono HB1.size))
  clear hr1 hr2 HB1 HB2 hsz
  have HS := Lib.hid (fun W => implSentBy_any c d W)
  have h0b : (c.ans != 0) = false := by rw [h0]; rfl
  rw [decide_eq_true hs] at HS
  clear h0
  go_enter Tryd.func84, Tryd.ntmps84
  go_wp2_with fail
  refine (HS.out _).mono ?_; rintro e w1 ⟨rfl, hB⟩
  have hr1 := HR1.out.of_block (hB.block _ HR1.out.lt)
  have hr2 := HR2.out.of_block (hB.block _ HR2.out.lt)
  have HB3 := Lib.hid (HB.out.trans (hB.mono HB.out.size))
  clear hB
  have x0 := hr1.cell (show 0 < 5 by omega); have x1 := hr1.cell (show 1 < 5 by omega); have x2 := hr1.cell (show 2 < 5 by omega); have x3 := hr1.cell (show 3 < 5 by omega); have x4 := hr1.cell (show 4 < 5 by omega)
  have y0 := hr2.cell (show 0 < 5 by omega); have y1 := hr2.cell (show 1 < 5 by omega); have y2 := hr2.cell (show 2 < 5 by omega); have y3 := hr2.cell (show 3 < 5 by omega); have y4 := hr2.cell (show 4 < 5 by omega)
  have fx := fun k => hr1.frozen k
  have fy := fun k => hr2.frozen k
  clear hr1 hr2
  simp only [Summons.nth, List.getD_cons_zero, List.getD_cons_succ] at x0 x1 x2 x3 x4 y0 y1 y2 y3 y4
  go_wp2_with fail
  (try simp only [Exit.inBlock, Exit.then])
  refine bodyPost_ret (v := .tuple #[.agg #[.int .i64 c.num, .int .i64 c.sent, .int .i64 c.due, .int .i64 a, .int .i64 d], .nilIface]) ?_ rfl ⟨rfl, ?_⟩
  · rw [results_cell_tmp9 rfl]
    go_simp
  · exact ((((((HB3.out.setCell (Nat.le_refl _) _).setCell (Nat.le_refl _) _).setCell (Nat.le_succ _) _).setCell (Nat.le_succ _) _).setCell (Nat.le_succ _) _).setCell (Nat.le_succ _) _).setCell (Nat.le_succ _) _
set_option maxRecDepth 100000 in
set_option maxHeartbeats 2000000 in
theorem implAnswered_no (c : Summons) (a d : Int) (w : World) (h : ¬ (c.ans = 0 ∧ c.sent ≤ d)) :
    Calls Tryd.prog 84 #[.agg #[.int .i64 c.num, .int .i64 c.sent, .int .i64 c.due, .int .i64 c.ans, .int .i64 c.done], .int .i64 a, .int .i64 d] w fun e w' => e = .returned (.tuple #[.agg #[.int .i64 0, .int .i64 0, .int .i64 0, .int .i64 0, .int .i64 0], .iface 81 (.int .i64 5)]) ∧ Below w.heap.size w w' := by
  have HB1 := Summons.bx w (.cells #[.int .i64 c.num, .int .i64 c.sent, .int .i64 c.due, .int .i64 c.ans, .int .i64 c.done] 53)
  have hr1 := Summons.box_row w c 53
  have hsz : (w.alloc (.cells #[.int .i64 c.num, .int .i64 c.sent, .int .i64 c.due, .int .i64 c.ans, .int .i64 c.done] 53)).heap.size = w.heap.size + 1 := by simp
  have hr2 := Summons.box_row (w.alloc (.cells #[.int .i64 c.num, .int .i64 c.sent, .int .i64 c.due, .int .i64 c.ans, .int .i64 c.done] 53)) ⟨0, 0, 0, 0, 0⟩ 53
  have HB2 := Summons.bx (w.alloc (.cells #[.int .i64 c.num, .int .i64 c.sent, .int .i64 c.due, .int .i64 c.ans, .int .i64 c.done] 53)) (.cells #[.int .i64 0, .int .i64 0, .int .i64 0, .int .i64 0, .int .i64 0] 53)
  rw [hsz] at hr2
  have hr1 := hr1.of_block (HB2.block w.heap.size (by simp))
  have HR1 := Lib.hid hr1; have HR2 := Lib.hid hr2
  have HB := Lib.hid (HB1.trans (HB2.mono HB1.size))
  clear hr1 hr2 HB1 HB2 hsz
  have HS := Lib.hid (fun W => implSentBy_any c d W)
  by_cases h0 : c.ans = 0
  · have h0b : (c.ans != 0) = false := by rw [h0]; rfl
    rw [decide_eq_false (fun hs => h ⟨h0, hs⟩)] at HS
    clear h0 h
    go_enter Tryd.func84, Tryd.ntmps84
    go_wp2_with fail
    refine (HS.out _).mono ?_; rintro e w1 ⟨rfl, hB⟩
    have hr1 := HR1.out.of_block (hB.block _ HR1.out.lt)
    have hr2 := HR2.out.of_block (hB.block _ HR2.out.lt)
    have HB3 := Lib.hid (HB.out.trans (hB.mono HB.out.size))
    clear hB
    have x0 := hr1.cell (show 0 < 5 by omega); have x1 := hr1.cell (show 1 < 5 by omega); have x2 := hr1.cell (show 2 < 5 by omega); have x3 := hr1.cell (show 3 < 5 by omega); have x4 := hr1.cell (show 4 < 5 by omega)
    have y0 := hr2.cell (show 0 < 5 by omega); have y1 := hr2.cell (show 1 < 5 by omega); have y2 := hr2.cell (show 2 < 5 by omega); have y3 := hr2.cell (show 3 < 5 by omega); have y4 := hr2.cell (show 4 < 5 by omega)
    have fx := fun k => hr1.frozen k
    have fy := fun k => hr2.frozen k
    clear hr1 hr2
    simp only [Summons.nth, List.getD_cons_zero, List.getD_cons_succ] at x0 x1 x2 x3 x4 y0 y1 y2 y3 y4
    go_wp2_with fail
    (try simp only [Exit.inBlock, Exit.then])
    refine bodyPost_ret (v := .tuple #[.agg #[.int .i64 0, .int .i64 0, .int .i64 0, .int .i64 0, .int .i64 0], .iface 81 (.int .i64 5)]) ?_ rfl ⟨rfl, ?_⟩
    · rw [results_cell_tmp9 rfl]
      go_simp
    · exact ((((HB3.out.setCell (Nat.le_succ _) _).setCell (Nat.le_succ _) _).setCell (Nat.le_succ _) _).setCell (Nat.le_succ _) _).setCell (Nat.le_succ _) _
  · have h0b : (c.ans != 0) = true := by simpa using h0
    clear h0 h
    have hB := Below.refl (w.heap.size + 1 + 1) ((w.alloc (.cells #[.int .i64 c.num, .int .i64 c.sent, .int .i64 c.due, .int .i64 c.ans, .int .i64 c.done] 53)).alloc (.cells #[.int .i64 0, .int .i64 0, .int .i64 0, .int .i64 0, .int .i64 0] 53))
    have hr1 := HR1.out
    have hr2 := HR2.out
    have HB3 := Lib.hid HB.out
    clear hB
    have x0 := hr1.cell (show 0 < 5 by omega); have x1 := hr1.cell (show 1 < 5 by omega); have x2 := hr1.cell (show 2 < 5 by omega); have x3 := hr1.cell (show 3 < 5 by omega); have x4 := hr1.cell (show 4 < 5 by omega)
    have y0 := hr2.cell (show 0 < 5 by omega); have y1 := hr2.cell (show 1 < 5 by omega); have y2 := hr2.cell (show 2 < 5 by omega); have y3 := hr2.cell (show 3 < 5 by omega); have y4 := hr2.cell (show 4 < 5 by omega)
    have fx := fun k => hr1.frozen k
    have fy := fun k => hr2.frozen k
    clear hr1 hr2
    simp only [Summons.nth, List.getD_cons_zero, List.getD_cons_succ] at x0 x1 x2 x3 x4 y0 y1 y2 y3 y4
    go_enter Tryd.func84, Tryd.ntmps84
    go_wp2_with fail
    (try simp only [Exit.inBlock, Exit.then])
    refine bodyPost_ret (v := .tuple #[.agg #[.int .i64 0, .int .i64 0, .int .i64 0, .int .i64 0, .int .i64 0], .iface 81 (.int .i64 5)]) ?_ rfl ⟨rfl, ?_⟩
    · rw [results_cell_tmp9 rfl]
      go_simp
    · first
        | exact ((((HB3.out.setCell (Nat.le_succ _) _).setCell (Nat.le_succ _) _).setCell (Nat.le_succ _) _).setCell (Nat.le_succ _) _).setCell (Nat.le_succ _) _
        | exact HB3.out
end Go.Proofs.YtchffaohmeaccaaDoor
