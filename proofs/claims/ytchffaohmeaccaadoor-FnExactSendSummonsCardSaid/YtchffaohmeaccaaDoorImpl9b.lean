/- Contracts of the program's chapter 9: sent, answered, open, overdue, reminded. (written by impl9.py) -/
import Derived.Test.YtchffaohmeaccaaDoorChecked
import Derived.Test.YtchffaohmeaccaaDoorBase0
import Derived.Test.YtchffaohmeaccaaDoorInfo
import Derived.Test.YtchffaohmeaccaaDoorMarkI
import Derived.Test.YtchffaohmeaccaaDoorRowG
import Derived.Test.YtchffaohmeaccaaDoorConI
import Derived.Test.YtchffaohmeaccaaDoorSummonsB
import Derived.Test.YtchffaohmeaccaaDoorImpl9a
import Derived.WalkKit
import Derived.WalkSpells
import Derived.WalkLawsBesides
import Derived.Lib.Hide
import Derived.Lib.QuietBelow
import Derived.IntWalk
import Derived.Deep.QuietTactic
import Derived.BigQuiet
import Derived.BigRegion
import Derived.OwnWalk
import Derived.RegionTactic
import Derived.Outline
namespace Go.Proofs.YtchffaohmeaccaaDoor
open Go.RowKit Go.Sort Pure1 Pure2 Pure20 Pure40


set_option maxRecDepth 100000 in
set_option maxHeartbeats 1000000 in
theorem implSentBy_any (c : Summons) (d : Int) (w : World) :
    Calls Tryd.prog 52 #[.agg #[.int .i64 c.num, .int .i64 c.sent, .int .i64 c.due, .int .i64 c.ans, .int .i64 c.done], .int .i64 d] w fun e w' => e = .returned (.bool (decide (c.sent ≤ d))) ∧ Below w.heap.size w w' := by
  have HA := Lib.hid (Summons.boxed w c 53)
  have HW := Lib.hid (Summons.bx w (.cells #[.int .i64 c.num, .int .i64 c.sent, .int .i64 c.due, .int .i64 c.ans, .int .i64 c.done] 53))
  go_enter Tryd.func52, Tryd.ntmps52
  obtain ⟨a0, a1, a2, a3, a4⟩ := HA.out
  go_wp2_with fail
  go_ret
  exact ⟨rfl, HW.out⟩

set_option maxRecDepth 100000 in
set_option maxHeartbeats 1000000 in
theorem implAnswerBy_any (c : Summons) (d : Int) (w : World) :
    Calls Tryd.prog 53 #[.agg #[.int .i64 c.num, .int .i64 c.sent, .int .i64 c.due, .int .i64 c.ans, .int .i64 c.done], .int .i64 d] w fun e w' => e = .returned (.int .i64 (byM d c)) ∧ Below w.heap.size w w' := by
  have HA := Lib.hid (Summons.boxed w c 53)
  have HW := Lib.hid (Summons.bx w (.cells #[.int .i64 c.num, .int .i64 c.sent, .int .i64 c.due, .int .i64 c.ans, .int .i64 c.done] 53))
  by_cases h : d < c.done
  · have HE := Lib.hid (show byM d c = 0 from if_pos h)
    go_enter Tryd.func53, Tryd.ntmps53
    obtain ⟨a0, a1, a2, a3, a4⟩ := HA.out
    go_wp2_with fail
    go_ret
    exact ⟨ret_i64 HE.out.symm, HW.out⟩
  · have HE := Lib.hid (show byM d c = c.ans from if_neg h)
    have hb : decide (d < c.done) = false := decide_eq_false h
    go_enter Tryd.func53, Tryd.ntmps53
    obtain ⟨a0, a1, a2, a3, a4⟩ := HA.out
    go_wp2_with fail
    go_ret
    exact ⟨ret_i64 HE.out.symm, HW.out⟩

set_option maxRecDepth 100000 in
set_option maxHeartbeats 1000000 in
theorem implOpen9_any (c : Summons) (d : Int) (w : World) :
    Calls Tryd.prog 55 #[.agg #[.int .i64 c.num, .int .i64 c.sent, .int .i64 c.due, .int .i64 c.ans, .int .i64 c.done], .int .i64 d] w fun e w' => e = .returned (.bool (openM d c)) ∧ Below w.heap.size w w' := by
  have HA := Lib.hid (Summons.boxed w c 53)
  have HW := Lib.hid (Summons.bx w (.cells #[.int .i64 c.num, .int .i64 c.sent, .int .i64 c.due, .int .i64 c.ans, .int .i64 c.done] 53))
  have H1 := Lib.hid (fun W => implSentBy_any c d W)
  have H2 := Lib.hid (fun W => implAnswerBy_any c d W)
  have HE := Lib.hid (openM_by d c)
  generalize openM d c = v at HE ⊢
  generalize decide (c.sent ≤ d) = b1 at H1 HE
  generalize byM d c = n at H2 HE
  go_enter Tryd.func55, Tryd.ntmps55
  obtain ⟨a0, a1, a2, a3, a4⟩ := HA.out
  go_wp2_with fail
  refine (H1.out _).mono ?_; rintro e w1 ⟨rfl, hB⟩
  have HA1 := Lib.hid (HA.out.below hB); have HB1 := Lib.hid (HW.out.trans (hB.mono HW.out.size)); clear hB a0 a1 a2 a3 a4
  cases b1
  · go_wp2_with fail
    go_ret
    exact ⟨ret_bool' (by rw [HE.out]; rfl), HB1.out⟩
  · obtain ⟨a0, a1, a2, a3, a4⟩ := HA1.out
    go_wp2_with fail
    refine (H2.out _).mono ?_; rintro e w2 ⟨rfl, hB⟩
    have HB2 := Lib.hid (HB1.out.trans (hB.mono HB1.out.size)); clear hB a0 a1 a2 a3 a4
    go_wp2_with fail
    go_ret
    exact ⟨ret_bool' (by rw [HE.out]; rfl), HB2.out⟩

set_option maxRecDepth 100000 in
set_option maxHeartbeats 1000000 in
theorem implOver9_any (c : Summons) (d : Int) (w : World) :
    Calls Tryd.prog 66 #[.agg #[.int .i64 c.num, .int .i64 c.sent, .int .i64 c.due, .int .i64 c.ans, .int .i64 c.done], .int .i64 d] w fun e w' => e = .returned (.bool (overM d c)) ∧ Below w.heap.size w w' := by
  have HA := Lib.hid (Summons.boxed w c 53)
  have HW := Lib.hid (Summons.bx w (.cells #[.int .i64 c.num, .int .i64 c.sent, .int .i64 c.due, .int .i64 c.ans, .int .i64 c.done] 53))
  have H1 := Lib.hid (fun W => implOpen9_any c d W)
  have HE := Lib.hid (show overM d c = (openM d c && decide (c.due < d)) from rfl)
  generalize overM d c = v at HE ⊢
  generalize openM d c = b1 at H1 HE
  go_enter Tryd.func66, Tryd.ntmps66
  obtain ⟨a0, a1, a2, a3, a4⟩ := HA.out
  go_wp2_with fail
  refine (H1.out _).mono ?_; rintro e w1 ⟨rfl, hB⟩
  have HA1 := Lib.hid (HA.out.below hB); have HB1 := Lib.hid (HW.out.trans (hB.mono HW.out.size)); clear hB a0 a1 a2 a3 a4
  cases b1
  · go_wp2_with fail
    go_ret
    exact ⟨ret_bool' (by rw [HE.out]; rfl), HB1.out⟩
  · obtain ⟨a0, a1, a2, a3, a4⟩ := HA1.out
    go_wp2_with fail
    go_ret
    exact ⟨ret_bool' (by rw [HE.out]; rfl), HB1.out⟩

/-- the days of the reminders -/
def remsL (c : Summons) : List Int := [c.due + 1, c.due + 15, c.due + 29]
theorem remsL_has (c : Summons) (d : Int) : hasI (remsL c) d = remD d c := by
  unfold hasI remsL remD
  simp [List.mem_cons]
def SaysRems (zs : List Int) (w : World) (e : Ending) (w' : World) : Prop := ∃ b, e = .returned (.slice (some ⟨b, 0, none⟩) 3 3) ∧ IntsAt w' (some ⟨b, 0, none⟩) zs ∧ Below w.heap.size w w'
theorem rems_own {c : Summons} {B b : Nat} {w0 w : World} {j : Nat} (hj : 3 ≤ j) (hB : B ≤ b) (h : RowG B b 3 3 w0 w (fun x => if x < j then c.due + 1 + (x : Int) * 14 else 0)) : IntsAt w (some ⟨b, 0, none⟩) (remsL c) := by
  have h3 := RowG.congr h (g' := fun i => (remsL c).getD i 0) (fun x hx => by
    have hc : x = 0 ∨ x = 1 ∨ x = 2 := by omega
    rcases hc with rfl | rfl | rfl
    · show (if 0 < j then c.due + 1 + ((0 : Nat) : Int) * 14 else 0) = c.due + 1
      rw [if_pos (by omega)]; omega
    · show (if 1 < j then c.due + 1 + ((1 : Nat) : Int) * 14 else 0) = c.due + 15
      rw [if_pos (by omega)]; omega
    · show (if 2 < j then c.due + 1 + ((2 : Nat) : Int) * 14 else 0) = c.due + 29
      rw [if_pos (by omega)]; omega)
  exact ownI_reads (B := B) (zs := remsL c) (h3.own (Nat.le_refl _) hB)
set_option maxRecDepth 100000 in
set_option maxHeartbeats 2000000 in
theorem implRems_any (c : Summons) (w : World) (h0 : 0 ≤ c.due) (h1 : c.due ≤ 20000) :
    Calls Tryd.prog 69 #[.agg #[.int .i64 c.num, .int .i64 c.sent, .int .i64 c.due, .int .i64 c.ans, .int .i64 c.done]] w (SaysRems (remsL c) w) := by
  have HA := Lib.hid (Summons.boxed w c 53)
  have HW := Lib.hid (Summons.bx w (.cells #[.int .i64 c.num, .int .i64 c.sent, .int .i64 c.due, .int .i64 c.ans, .int .i64 c.done] 53))
  have hmk : ∀ W : World, (Instr.makeSlice 27 (.int .i64 3) (.int .i64 3)).run Tryd.prog W = .ok (.slice (some ⟨W.heap.size, 0, none⟩) 3 3) (W.alloc (.cells (madeCells #[.int .i64 0] 3) 2)) := fun W => run_make_row' (P := Tryd.prog) 27 2 (.int .i64 0) 8 Tryd.underlying27 Tryd.info_i64 rfl .i64 .i64 3 (by omega) (by omega) W
  go_enter Tryd.func69, Tryd.ntmps69
  go_wp2_with fail
  have hsz : (w.alloc (.cells #[.int .i64 c.num, .int .i64 c.sent, .int .i64 c.due, .int .i64 c.ans, .int .i64 c.done] 53)).heap.size = w.heap.size + 1 := by simp
  generalize w.alloc (.cells #[.int .i64 c.num, .int .i64 c.sent, .int .i64 c.due, .int .i64 c.ans, .int .i64 c.done] 53) = w1 at HA HW hsz ⊢
  have hr1 := (RowG.made w1 3).congr (g' := fun x => if x < 0 then c.due + 1 + (x : Int) * 14 else 0) (fun x _ => by rw [if_neg (by omega)])
  rw [hsz] at hr1
  have HR1 := Lib.hid hr1; have HS := Lib.hid hsz
  clear hr1
  clear hmk hsz
  go_loopw [4, 8] (fun _ i wr => ∃ j : Nat, j ≤ 3 ∧ i = .int .i64 j ∧ RowG (w.heap.size + 1) (w.heap.size + 1) 3 3 w1 wr (fun x => if x < j then c.due + 1 + (x : Int) * 14 else 0)) (fun _ i _ => 3 - (intOf i).toNat)
  case atStart => exact ⟨0, by omega, rfl, HR1.out⟩
  case round =>
    obtain ⟨j, hj, rfl, hr⟩ := hrel
    have HR := Lib.hid hr; clear hr HR1
    obtain ⟨a0, a1, a2, a3, a4⟩ := HA.out.below (show Below w1.heap.size w1 wr by rw [HS.out]; exact HR.out.1)
    by_cases hlt : j < 3
    · have hc0 := HR.out.cell (Nat.le_refl _) hlt
      have hf0 := HR.out.frozen j
      have HN := Lib.hid ((HR.out.set (Nat.le_refl _) j (c.due + 1 + (j : Int) * 14)).congr (g' := fun x => if x < j + 1 then c.due + 1 + (x : Int) * 14 else 0) (fun x hx => by
        by_cases e : x = j
        · subst e; rw [if_pos rfl, if_pos (by omega)]
        · rw [if_neg e]
          by_cases e2 : x < j
          · rw [if_pos e2, if_pos (by omega)]
          · rw [if_neg e2, if_neg (by omega)]))
      go_wp2_with fail
      go_roundw
      case rel => exact ⟨j + 1, by omega, by go_num, HN.out⟩
      case measure => simp [intOf]; omega
    · have HI := Lib.hid (rems_own (c := c) (show 3 ≤ j by omega) (Nat.le_refl _) HR.out)
      have HB := Lib.hid (HW.out.trans (HR.out.1.mono (Nat.le_succ _)))
      clear a0 a1 a2 a3 a4
      go_wp2_with fail
      go_ret
      exact ⟨_, rfl, HI.out, HB.out⟩

set_option maxRecDepth 100000 in
set_option maxHeartbeats 1000000 in
theorem implRem9_any (c : Summons) (d : Int) (w : World) (h0 : 0 ≤ c.due) (h1 : c.due ≤ 20000) :
    Calls Tryd.prog 46 #[.agg #[.int .i64 c.num, .int .i64 c.sent, .int .i64 c.due, .int .i64 c.ans, .int .i64 c.done], .int .i64 d] w fun e w' => e = .returned (.bool (remM d c)) ∧ Below w.heap.size w w' := by
  have HA := Lib.hid (Summons.boxed w c 53)
  have HW := Lib.hid (Summons.bx w (.cells #[.int .i64 c.num, .int .i64 c.sent, .int .i64 c.due, .int .i64 c.ans, .int .i64 c.done] 53))
  have H1 := Lib.hid (fun W => implOpen9_any c d W)
  have H2 := Lib.hid (fun W => implRems_any c W h0 h1)
  have HE := Lib.hid (show remM d c = (openM d c && remD d c) from rfl)
  have H3 := Lib.hid (fun b (W : World) (h : IntsAt W (some ⟨b, 0, none⟩) (remsL c)) => slicesContainsI_any (some ⟨b, 0, none⟩) 3 3 (remsL c) d W rfl (by unfold maxLen; omega) h)
  rw [remsL_has] at H3
  generalize remM d c = v at HE ⊢
  generalize openM d c = b1 at H1 HE
  generalize remD d c = b2 at H3 HE
  go_enter Tryd.func46, Tryd.ntmps46
  obtain ⟨a0, a1, a2, a3, a4⟩ := HA.out
  go_wp2_with fail
  refine (H1.out _).mono ?_; rintro e w1 ⟨rfl, hB⟩
  have HA1 := Lib.hid (HA.out.below hB); have HB1 := Lib.hid (HW.out.trans (hB.mono HW.out.size)); clear hB a0 a1 a2 a3 a4
  cases b1
  · go_wp2_with fail
    go_ret
    exact ⟨ret_bool' (by rw [HE.out]; rfl), HB1.out⟩
  · obtain ⟨a0, a1, a2, a3, a4⟩ := HA1.out
    go_wp2_with fail
    refine (H2.out _).mono ?_; rintro e w2 ⟨br, rfl, hI, hB⟩
    have HI2 := Lib.hid hI; have HB2 := Lib.hid (HB1.out.trans (hB.mono HB1.out.size)); clear hB hI a0 a1 a2 a3 a4
    go_wp2_with fail
    refine (H3.out br _ HI2.out).mono ?_; rintro e w3 ⟨rfl, rfl⟩
    go_wp2_with fail
    go_ret
    exact ⟨ret_bool' (by rw [HE.out]; rfl), HB2.out⟩
end Go.Proofs.YtchffaohmeaccaaDoor
