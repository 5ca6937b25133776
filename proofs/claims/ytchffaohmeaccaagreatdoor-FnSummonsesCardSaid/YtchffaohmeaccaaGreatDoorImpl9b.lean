/- Contracts of the program's chapter 9: sent, answered, open, overdue, reminded. (written by impl9.py) -/
import Derived.Test.YtchffaohmeaccaaGreatDoorChecked
import Derived.Test.YtchffaohmeaccaaGreatDoorBase0
import Derived.Test.YtchffaohmeaccaaGreatDoorRowG
import Derived.Test.YtchffaohmeaccaaGreatDoorConI
import Derived.Test.YtchffaohmeaccaaGreatDoorImpl9a
import Derived.WalkKit
import Derived.WalkSpells
import Derived.WalkLawsBesides
import Derived.Lib.Hide
import Derived.Lib.QuietBelow
import Derived.IntWalk
import Derived.Deep.QuietTactic
import Derived.BigQuiet
import Derived.BigRegion
import Derived.OwnWalk
import Derived.RegionTactic
import Derived.Outline
namespace Go.Proofs.YtchffaohmeaccaaGreatDoor
open Go.RowKit Go.Sort Pure1 Pure2 Pure20 Pure40


set_option maxRecDepth 100000 in
set_option maxHeartbeats 1000000 in
theorem implSentBy_any (c : Summons) (d : Int) (w : World) :
    Calls Tryz.prog 59 #[.agg #[.int .i64 c.num, .int .i64 c.sent, .int .i64 c.due, .int .i64 c.ans, .int .i64 c.done], .int .i64 d] w fun e w' => e = .returned (.bool (decide (c.sent ≤ d))) ∧ Below w.heap.size w w' := by
  have HA := Lib.hid (Summons.boxed w c 58)
  have HW := Lib.hid (Summons.bx w (.cells #[.int .i64 c.num, .int .i64 c.sent, .int .i64 c.due, .int .i64 c.ans, .int .i64 c.done] 58))
  go_enter Tryz.func59, Tryz.ntmps59
  obtain ⟨a0, a1, a2, a3, a4⟩ := HA.out
  go_wp2_with fail
  go_ret
  exact ⟨rfl, HW.out⟩

set_option maxRecDepth 100000 in
set_option maxHeartbeats 1000000 in
theorem implAnswerBy_any (c : Summons) (d : Int) (w : World) :
    Calls Tryz.prog 60 #[.agg #[.int .i64 c.num, .int .i64 c.sent, .int .i64 c.due, .int .i64 c.ans, .int .i64 c.done], .int .i64 d] w fun e w' => e = .returned (.int .i64 (byM d c)) ∧ Below w.heap.size w w' := by
  have HA := Lib.hid (Summons.boxed w c 58)
  have HW := Lib.hid (Summons.bx w (.cells #[.int .i64 c.num, .int .i64 c.sent, .int .i64 c.due, .int .i64 c.ans, .int .i64 c.done] 58))
  by_cases h : d < c.done
  · have HE := Lib.hid (show byM d c = 0 from if_pos h)
    go_enter Tryz.func60, Tryz.ntmps60
    obtain ⟨a0, a1, a2, a3, a4⟩ := HA.out
    go_wp2_with fail
    go_ret
    exact ⟨ret_i64 HE.out.symm, HW.out⟩
  · have HE := Lib.hid (show byM d c = c.ans from if_neg h)
    have hb : decide (d < c.done) = false := decide_eq_false h
    go_enter Tryz.func60, Tryz.ntmps60
    obtain ⟨a0, a1, a2, a3, a4⟩ := HA.out
    go_wp2_with fail
    go_ret
    exact ⟨ret_i64 HE.out.symm, HW.out⟩

set_option maxRecDepth 100000 in
set_option maxHeartbeats 1000000 in
theorem implOpen9_any (c : Summons) (d : Int) (w : World) :
    Calls Tryz.prog 41 #[.agg #[.int .i64 c.num, .int .i64 c.sent, .int .i64 c.due, .int .i64 c.ans, .int .i64 c.done], .int .i64 d] w fun e w' => e = .returned (.bool (openM d c)) ∧ Below w.heap.size w w' := by
  have HA := Lib.hid (Summons.boxed w c 58)
  have HW := Lib.hid (Summons.bx w (.cells #[.int .i64 c.num, .int .i64 c.sent, .int .i64 c.due, .int .i64 c.ans, .int .i64 c.done] 58))
  have H1 := Lib.hid (fun W => implSentBy_any c d W)
  have H2 := Lib.hid (fun W => implAnswerBy_any c d W)
  have HE := Lib.hid (openM_by d c)
  generalize openM d c = v at HE ⊢
  generalize decide (c.sent ≤ d) = b1 at H1 HE
  generalize byM d c = n at H2 HE
  go_enter Tryz.func41, Tryz.ntmps41
  obtain ⟨a0, a1, a2, a3, a4⟩ := HA.out
  go_wp2_with fail
  refine (H1.out _).mono ?_; rintro e w1 ⟨rfl, hB⟩
  have HA1 := Lib.hid (HA.out.below hB); have HB1 := Lib.hid (HW.out.trans (hB.mono HW.out.size)); clear hB a0 a1 a2 a3 a4
  cases b1
  · go_wp2_with fail
    go_ret
    exact ⟨ret_bool' (by rw [HE.out]; rfl), HB1.out⟩
  · obtain ⟨a0, a1, a2, a3, a4⟩ := HA1.out
    go_wp2_with fail
    refine (H2.out _).mono ?_; rintro e w2 ⟨rfl, hB⟩
    have HB2 := Lib.hid (HB1.out.trans (hB.mono HB1.out.size)); clear hB a0 a1 a2 a3 a4
    go_wp2_with fail
    go_ret
    exact ⟨ret_bool' (by rw [HE.out]; rfl), HB2.out⟩

set_option maxRecDepth 100000 in
set_option maxHeartbeats 1000000 in
theorem implOver9_any (c : Summons) (d : Int) (w : World) :
    Calls Tryz.prog 38 #[.agg #[.int .i64 c.num, .int .i64 c.sent, .int .i64 c.due, .int .i64 c.ans, .int .i64 c.done], .int .i64 d] w fun e w' => e = .returned (.bool (overM d c)) ∧ Below w.heap.size w w' := by
  have HA := Lib.hid (Summons.boxed w c 58)
  have HW := Lib.hid (Summons.bx w (.cells #[.int .i64 c.num, .int .i64 c.sent, .int .i64 c.due, .int .i64 c.ans, .int .i64 c.done] 58))
  have H1 := Lib.hid (fun W => implOpen9_any c d W)
  have HE := Lib.hid (show overM d c = (openM d c && decide (c.due < d)) from rfl)
  generalize overM d c = v at HE ⊢
  generalize openM d c = b1 at H1 HE
  go_enter Tryz.func38, Tryz.ntmps38
  obtain ⟨a0, a1, a2, a3, a4⟩ := HA.out
  go_wp2_with fail
  refine (H1.out _).mono ?_; rintro e w1 ⟨rfl, hB⟩
  have HA1 := Lib.hid (HA.out.below hB); have HB1 := Lib.hid (HW.out.trans (hB.mono HW.out.size)); clear hB a0 a1 a2 a3 a4
  cases b1
  · go_wp2_with fail
    go_ret
    exact ⟨ret_bool' (by rw [HE.out]; rfl), HB1.out⟩
  · obtain ⟨a0, a1, a2, a3, a4⟩ := HA1.out
    go_wp2_with fail
    go_ret
    exact ⟨ret_bool' (by rw [HE.out]; rfl), HB1.out⟩

/-- the days of the reminders -/
def remsL (c : Summons) : List Int := [c.due + 1, c.due + 15, c.due + 29]
theorem remsL_has (c : Summons) (d : Int) : hasI (remsL c) d = remD d c := by
  unfold hasI remsL remD
  simp [List.mem_cons]
def SaysRems (zs : List Int) (w : World) (e : Ending) (w' : World) : Prop := ∃ b, e = .returned (.slice (some ⟨b, 0, none⟩) 3 3) ∧ IntsAt w' (some ⟨b, 0, none⟩) zs ∧ Below w.heap.size w w'
theorem rems_own {c : Summons} {B b : Nat} {w0 w : World} {j : Nat} (hj : 3 ≤ j) (hB : B ≤ b) (h : RowG B b 3 3 w0 w (fun x => if x < j then c.due + 1 + (x : Int) * 14 else 0)) : IntsAt w (some ⟨b, 0, none⟩) (remsL c) := by
  have h3 := RowG.congr h (g' := fun i => (remsL c).getD i 0) (fun x hx => by
    have hc : x = 0 ∨ x = 1 ∨ x = 2 := by omega
    rcases hc with rfl | rfl | rfl
    · show (if 0 < j then c.due + 1 + ((0 : Nat) : Int) * 14 else 0) = c.due + 1
      rw [if_pos (by omega)]; omega
    · show (if 1 < j then c.due + 1 + ((1 : Nat) : Int) * 14 else 0) = c.due + 15
      rw [if_pos (by omega)]; omega
    · show (if 2 < j then c.due + 1 + ((2 : Nat) : Int) * 14 else 0) = c.due + 29
      rw [if_pos (by omega)]; omega)
  exact ownI_reads (B := B) (zs := remsL c) (h3.own (Nat.le_refl _) hB)
end Go.Proofs.YtchffaohmeaccaaGreatDoor
