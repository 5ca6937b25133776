/- Contracts of chapter 9's model: the code, open, reminded. (written by impl9.py) -/
import Derived.Test.YtchffaohmeaccaaDoorChecked
import Derived.Test.YtchffaohmeaccaaDoorBase0
import Derived.Test.YtchffaohmeaccaaDoorInfo
import Derived.Test.YtchffaohmeaccaaDoorSummonsB
import Derived.Test.YtchffaohmeaccaaDoorSpec90
import Derived.WalkKit
import Derived.WalkSpells
import Derived.WalkLawsBesides
import Derived.Lib.Hide
import Derived.Lib.QuietBelow
import Derived.IntWalk
import Derived.Deep.QuietTactic
import Derived.BigQuiet
import Derived.BigRegion
import Derived.OwnWalk
import Derived.RegionTactic
import Derived.Outline
namespace Go.Proofs.YtchffaohmeaccaaDoor
open Go.RowKit Go.Sort Pure1 Pure2 Pure20 Pure40


set_option maxHeartbeats 1000000 in
theorem specDay9_any (a : Option Addr) (len cap : Nat) (ts : List Summons) (d : Int) (w : World) (hl : ts.length = len) (hm : len ≤ maxLen) (h : Summons.ListAt w a ts) :
    Calls Tryd.prog 48 #[.slice a len cap, .int .i64 d] w fun e w' => e = .returned (.int .i64 (codeM ts d)) ∧ Below w.heap.size w w' := by
  have HT := Lib.hid (specAreM_any a len cap ts w hl hm h)
  have H1 := Lib.hid (fun W => specIs9 d W)
  clear h hl
  cases hb1 : areM ts
  · have HN := Lib.hid (codeM_1 (d := d) hb1)
    rw [hb1] at HT; clear hb1
    go_enter Tryd.func48, Tryd.ntmps48
    go_wp2_with fail
    refine HT.out.mono ?_; rintro e w1 ⟨rfl, hB⟩
    have HB := Lib.hid hB; clear hB
    go_wp2_with fail
    go_ret
    exact ⟨ret_i64 HN.out.symm, HB.out⟩
  · cases hb2 : isDay d
    · have HN := Lib.hid (codeM_2 hb1 hb2)
      rw [hb1] at HT; rw [hb2] at H1; clear hb1 hb2
      go_enter Tryd.func48, Tryd.ntmps48
      go_wp2_with fail
      refine HT.out.mono ?_; rintro e w1 ⟨rfl, hB⟩
      have HB := Lib.hid hB; clear hB
      go_wp2_with fail
      refine (H1.out _).mono ?_; rintro e w2 ⟨rfl, hw⟩
      subst hw
      go_wp2_with fail
      go_ret
      exact ⟨ret_i64 HN.out.symm, HB.out⟩
    · have HN := Lib.hid (codeM_0 hb1 hb2)
      rw [hb1] at HT; rw [hb2] at H1; clear hb1 hb2
      go_enter Tryd.func48, Tryd.ntmps48
      go_wp2_with fail
      refine HT.out.mono ?_; rintro e w1 ⟨rfl, hB⟩
      have HB := Lib.hid hB; clear hB
      go_wp2_with fail
      refine (H1.out _).mono ?_; rintro e w2 ⟨rfl, hw⟩
      subst hw
      go_wp2_with fail
      go_ret
      exact ⟨ret_i64 HN.out.symm, HB.out⟩

set_option maxHeartbeats 1000000 in
theorem specOpen9_any (c : Summons) (d : Int) (w : World) :
    Calls Tryd.prog 49 #[.agg #[.int .i64 c.num, .int .i64 c.sent, .int .i64 c.due, .int .i64 c.ans, .int .i64 c.done], .int .i64 d] w fun e w' => e = .returned (.bool (openM d c)) ∧ Below w.heap.size w w' := by
  have HA := Lib.hid (Summons.boxed w c 53)
  have HW := Lib.hid (Summons.bx w (.cells #[.int .i64 c.num, .int .i64 c.sent, .int .i64 c.due, .int .i64 c.ans, .int .i64 c.done] 53))
  have HE := Lib.hid (show openM d c = (decide (c.sent ≤ d) && (decide (c.ans = 0) || decide (d < c.done))) from rfl)
  generalize openM d c = v at HE ⊢
  by_cases h1 : c.sent ≤ d
  · by_cases h2 : c.ans = 0
    · have h2b : (c.ans == 0) = true := beq_iff_eq.2 h2
      have HF := Lib.hid (show v = true by rw [HE.out, decide_eq_true h1, decide_eq_true h2]; rfl)
      clear h2
      go_enter Tryd.func49, Tryd.ntmps49
      obtain ⟨a0, a1, a2, a3, a4⟩ := HA.out
      go_wp2_with fail
      go_ret
      exact ⟨ret_bool' HF.out.symm, HW.out⟩
    · have h2b : (c.ans == 0) = false := beq_eq_false_iff_ne.2 h2
      have HF := Lib.hid (show v = decide (d < c.done) by rw [HE.out, decide_eq_true h1, decide_eq_false h2]; rfl)
      clear h2
      go_enter Tryd.func49, Tryd.ntmps49
      obtain ⟨a0, a1, a2, a3, a4⟩ := HA.out
      go_wp2_with fail
      go_ret
      exact ⟨ret_bool' HF.out.symm, HW.out⟩
  · have h1b : decide (c.sent ≤ d) = false := decide_eq_false h1
    have HF := Lib.hid (show v = false by rw [HE.out, h1b]; rfl)
    go_enter Tryd.func49, Tryd.ntmps49
    obtain ⟨a0, a1, a2, a3, a4⟩ := HA.out
    go_wp2_with fail
    go_ret
    exact ⟨ret_bool' HF.out.symm, HW.out⟩

set_option maxHeartbeats 1000000 in
theorem specRem9_any (c : Summons) (d : Int) (w : World) (h0 : 0 ≤ d) (h1 : d ≤ 20001) (h2 : 0 ≤ c.due) (h3 : c.due ≤ 20000) :
    Calls Tryd.prog 50 #[.agg #[.int .i64 c.num, .int .i64 c.sent, .int .i64 c.due, .int .i64 c.ans, .int .i64 c.done], .int .i64 d] w fun e w' => e = .returned (.bool (remD d c)) ∧ Below w.heap.size w w' := by
  have HA := Lib.hid (Summons.boxed w c 53)
  have HW := Lib.hid (Summons.bx w (.cells #[.int .i64 c.num, .int .i64 c.sent, .int .i64 c.due, .int .i64 c.ans, .int .i64 c.done] 53))
  by_cases hn : 0 ≤ d - c.due - 1
  · have HE := Lib.hid (remD_spec (d := d) (s := c) hn)
    generalize remD d c = v at HE ⊢
    have z1 : (0 : Int) ≤ d - c.due - 1 := hn
    by_cases h4 : (d - c.due - 1) % 14 = 0
    · have h4b : ((d - c.due - 1) % 14 == 0) = true := beq_iff_eq.2 h4
      have HF := Lib.hid (show v = decide ((d - c.due - 1) / 14 < 3) by rw [HE.out, decide_eq_true h4]; rfl)
      clear h4
      go_enter Tryd.func50, Tryd.ntmps50
      obtain ⟨a0, a1, a2, a3, a4⟩ := HA.out
      go_wp2_with fail
      go_ret
      exact ⟨ret_bool' HF.out.symm, HW.out⟩
    · have h4b : ((d - c.due - 1) % 14 == 0) = false := beq_eq_false_iff_ne.2 h4
      have HF := Lib.hid (show v = false by rw [HE.out, decide_eq_false h4]; rfl)
      clear h4
      go_enter Tryd.func50, Tryd.ntmps50
      obtain ⟨a0, a1, a2, a3, a4⟩ := HA.out
      go_wp2_with fail
      go_ret
      exact ⟨ret_bool' HF.out.symm, HW.out⟩
  · have HE := Lib.hid (remD_early (d := d) (s := c) hn)
    generalize remD d c = v at HE ⊢
    have z2 : d - c.due - 1 < 0 := by omega
    have z1 : decide (0 ≤ d - c.due - 1) = false := decide_eq_false hn
    have z3 : decide (d - c.due - 1 ≥ 0) = false := decide_eq_false hn
    go_enter Tryd.func50, Tryd.ntmps50
    obtain ⟨a0, a1, a2, a3, a4⟩ := HA.out
    go_wp2_with fail
    go_ret
    exact ⟨ret_bool' HE.out.symm, HW.out⟩

end Go.Proofs.YtchffaohmeaccaaDoor
